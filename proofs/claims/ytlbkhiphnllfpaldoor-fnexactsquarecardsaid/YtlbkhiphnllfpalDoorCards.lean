/-
  DERIVED. GIVEN WITH THE SEED: THE CARDS: each row of YtlbkhiphnllfpalDoorRows.lean that lists a variable, with what it lists TIED to the program's text (the seventh form; the later family's looks); each row that meets fmt, with fmt's text TOLD by the authors' own Lean function (tested against real Go, not proved from fmt's source: count such statements apart). THE CARD IS WHAT COUNTS. Prove the row's statement (the work); the ties are given (YtlbkhiphnllfpalDoorTie.lean); close each card by the builder's one call (the guide's Derived/Test/ToyasCard.lean, 'card_holds'). Laid BY PROGRAM, IN A SANDBOX (cutbox-door.mjs). By AI agents, Wed Nov 11 2026. No macro, syntax, notation, axiom, sorry.
-/
import Derived.Test.YtlbkhiphnllfpalDoorRows
import GoSem.ClaimSeven
namespace Go.Proofs.YtlbkhiphnllfpalDoor
namespace Rows

/-- THE TIED CARD OF 'laws.FnExactRows'. -/
def fnExactRowsCard : Claim7 := { stood := { row := fnExactRowsRow, standIns := [], harness := (true, "a8b72fb5622f121238731170fb52ed6fa75bb7dcc44e360e1c50484ef5e8b9c4"), looks := false }, kinds := [], alts := [], laidByText := true, laidKinds := [.data], laidTests := true, laidLooks := .later }
def FnExactRowsCardSaid : Prop := Claim7.holds Tryd.pinned (.plain (OpenSpec.ofChange fnExactRowsSpec)) fnExactRowsCard

/-- THE TIED CARD OF 'laws.FnExactColumn'. -/
def fnExactColumnCard : Claim7 := { stood := { row := fnExactColumnRow, standIns := [], harness := (true, "a8b72fb5622f121238731170fb52ed6fa75bb7dcc44e360e1c50484ef5e8b9c4"), looks := false }, kinds := [], alts := [], laidByText := true, laidKinds := [.data], laidTests := true, laidLooks := .later }
def FnExactColumnCardSaid : Prop := Claim7.holds Tryd.pinned (.plain (OpenSpec.ofChange fnExactColumnSpec)) fnExactColumnCard

/-- THE TIED CARD OF 'laws.FnExactSquare'. -/
def fnExactSquareCard : Claim7 := { stood := { row := fnExactSquareRow, standIns := [], harness := (true, "a8b72fb5622f121238731170fb52ed6fa75bb7dcc44e360e1c50484ef5e8b9c4"), looks := false }, kinds := [], alts := [], laidByText := true, laidKinds := [.data], laidTests := true, laidLooks := .later }
def FnExactSquareCardSaid : Prop := Claim7.holds Tryd.pinned (.plain (OpenSpec.ofChange fnExactSquareSpec)) fnExactSquareCard

/-- THE TIED CARD OF 'laws.FnExactPowerOf'. -/
def fnExactPowerOfCard : Claim7 := { stood := { row := fnExactPowerOfRow, standIns := [], harness := (true, "a8b72fb5622f121238731170fb52ed6fa75bb7dcc44e360e1c50484ef5e8b9c4"), looks := false }, kinds := [], alts := [], laidByText := true, laidKinds := [.data], laidTests := true, laidLooks := .later }
def FnExactPowerOfCardSaid : Prop := Claim7.holds Tryd.pinned (.plain (OpenSpec.ofChange fnExactPowerOfSpec)) fnExactPowerOfCard

/-- THE SECOND FORM's CARD OF 'laws.FnExactRows'. -/
def fnExactRowsUptoCard : Claim7 := { stood := { row := fnExactRowsUptoRow, standIns := [], harness := (true, "a8b72fb5622f121238731170fb52ed6fa75bb7dcc44e360e1c50484ef5e8b9c4"), looks := false }, kinds := [], alts := [], laidByText := true, laidKinds := [.data], laidTests := true, laidLooks := .later }
def FnExactRowsUptoCardSaid : Prop := Claim7.holds Tryd.pinned (.plain (OpenSpec.upto fnExactRowsSpec)) fnExactRowsUptoCard

/-- THE SECOND FORM's CARD OF 'laws.FnExactColumn'. -/
def fnExactColumnUptoCard : Claim7 := { stood := { row := fnExactColumnUptoRow, standIns := [], harness := (true, "a8b72fb5622f121238731170fb52ed6fa75bb7dcc44e360e1c50484ef5e8b9c4"), looks := false }, kinds := [], alts := [], laidByText := true, laidKinds := [.data], laidTests := true, laidLooks := .later }
def FnExactColumnUptoCardSaid : Prop := Claim7.holds Tryd.pinned (.plain (OpenSpec.upto fnExactColumnSpec)) fnExactColumnUptoCard

/-- THE SECOND FORM's CARD OF 'laws.FnExactSquare'. -/
def fnExactSquareUptoCard : Claim7 := { stood := { row := fnExactSquareUptoRow, standIns := [], harness := (true, "a8b72fb5622f121238731170fb52ed6fa75bb7dcc44e360e1c50484ef5e8b9c4"), looks := false }, kinds := [], alts := [], laidByText := true, laidKinds := [.data], laidTests := true, laidLooks := .later }
def FnExactSquareUptoCardSaid : Prop := Claim7.holds Tryd.pinned (.plain (OpenSpec.upto fnExactSquareSpec)) fnExactSquareUptoCard

/-- THE SECOND FORM's CARD OF 'laws.FnExactPowerOf'. -/
def fnExactPowerOfUptoCard : Claim7 := { stood := { row := fnExactPowerOfUptoRow, standIns := [], harness := (true, "a8b72fb5622f121238731170fb52ed6fa75bb7dcc44e360e1c50484ef5e8b9c4"), looks := false }, kinds := [], alts := [], laidByText := true, laidKinds := [.data], laidTests := true, laidLooks := .later }
def FnExactPowerOfUptoCardSaid : Prop := Claim7.holds Tryd.pinned (.plain (OpenSpec.upto fnExactPowerOfSpec)) fnExactPowerOfUptoCard
end Rows
end Go.Proofs.YtlbkhiphnllfpalDoor
