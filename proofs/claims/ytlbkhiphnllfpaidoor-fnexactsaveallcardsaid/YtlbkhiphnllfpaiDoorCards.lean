/-
  DERIVED. GIVEN WITH THE SEED: THE CARDS: each row of YtlbkhiphnllfpaiDoorRows.lean that lists a variable, with what it lists TIED to the program's text (the seventh form; the later family's looks); each row that meets fmt, with fmt's text TOLD by the authors' own Lean function (tested against real Go, not proved from fmt's source: count such statements apart). THE CARD IS WHAT COUNTS. Prove the row's statement (the work); the ties are given (YtlbkhiphnllfpaiDoorTie.lean); close each card by the builder's one call (the guide's Derived/Test/ToyasCard.lean, 'card_holds'). Laid BY PROGRAM, IN A SANDBOX (cutbox-door.mjs). By AI agents, Wed Nov 11 2026. No macro, syntax, notation, axiom, sorry.
-/
import Derived.Test.YtlbkhiphnllfpaiDoorRows
import GoSem.ClaimSeven
namespace Go.Proofs.YtlbkhiphnllfpaiDoor
namespace Rows

/-- THE TIED CARD OF 'laws.FnExactNines'. -/
def fnExactNinesCard : Claim7 := { stood := { row := fnExactNinesRow, standIns := [], harness := (true, "b29f726d968fa75c37d118fca5f1f874a6d9d123dabf7eb4eb216728a2da3b6c"), looks := false }, kinds := [], alts := [], laidByText := true, laidKinds := [.data], laidTests := true, laidLooks := .later }
def FnExactNinesCardSaid : Prop := Claim7.holds Tryd.pinned (.plain (OpenSpec.ofChange fnExactNinesSpec)) fnExactNinesCard

/-- THE TIED CARD OF 'laws.FnExactSave'. -/
def fnExactSaveCard : Claim7 := { stood := { row := fnExactSaveRow, standIns := [], harness := (true, "b29f726d968fa75c37d118fca5f1f874a6d9d123dabf7eb4eb216728a2da3b6c"), looks := false }, kinds := [], alts := [], laidByText := true, laidKinds := [.data], laidTests := true, laidLooks := .later }
def FnExactSaveCardSaid : Prop := Claim7.holds Tryd.pinned (.plain (OpenSpec.ofChange fnExactSaveSpec)) fnExactSaveCard

/-- THE TIED CARD OF 'laws.FnExactSaveAll'. -/
def fnExactSaveAllCard : Claim7 := { stood := { row := fnExactSaveAllRow, standIns := [], harness := (true, "b29f726d968fa75c37d118fca5f1f874a6d9d123dabf7eb4eb216728a2da3b6c"), looks := false }, kinds := [], alts := [], laidByText := true, laidKinds := [.data], laidTests := true, laidLooks := .later }
def FnExactSaveAllCardSaid : Prop := Claim7.holds Tryd.pinned (.plain (OpenSpec.ofChange fnExactSaveAllSpec)) fnExactSaveAllCard

/-- THE SECOND FORM's CARD OF 'laws.FnExactNines'. -/
def fnExactNinesUptoCard : Claim7 := { stood := { row := fnExactNinesUptoRow, standIns := [], harness := (true, "b29f726d968fa75c37d118fca5f1f874a6d9d123dabf7eb4eb216728a2da3b6c"), looks := false }, kinds := [], alts := [], laidByText := true, laidKinds := [.data], laidTests := true, laidLooks := .later }
def FnExactNinesUptoCardSaid : Prop := Claim7.holds Tryd.pinned (.plain (OpenSpec.upto fnExactNinesSpec)) fnExactNinesUptoCard

/-- THE SECOND FORM's CARD OF 'laws.FnExactSave'. -/
def fnExactSaveUptoCard : Claim7 := { stood := { row := fnExactSaveUptoRow, standIns := [], harness := (true, "b29f726d968fa75c37d118fca5f1f874a6d9d123dabf7eb4eb216728a2da3b6c"), looks := false }, kinds := [], alts := [], laidByText := true, laidKinds := [.data], laidTests := true, laidLooks := .later }
def FnExactSaveUptoCardSaid : Prop := Claim7.holds Tryd.pinned (.plain (OpenSpec.upto fnExactSaveSpec)) fnExactSaveUptoCard

/-- THE SECOND FORM's CARD OF 'laws.FnExactSaveAll'. -/
def fnExactSaveAllUptoCard : Claim7 := { stood := { row := fnExactSaveAllUptoRow, standIns := [], harness := (true, "b29f726d968fa75c37d118fca5f1f874a6d9d123dabf7eb4eb216728a2da3b6c"), looks := false }, kinds := [], alts := [], laidByText := true, laidKinds := [.data], laidTests := true, laidLooks := .later }
def FnExactSaveAllUptoCardSaid : Prop := Claim7.holds Tryd.pinned (.plain (OpenSpec.upto fnExactSaveAllSpec)) fnExactSaveAllUptoCard
end Rows
end Go.Proofs.YtlbkhiphnllfpaiDoor
