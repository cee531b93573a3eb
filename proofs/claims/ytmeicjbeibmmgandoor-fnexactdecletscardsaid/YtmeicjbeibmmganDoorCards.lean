/-
  DERIVED. GIVEN WITH THE SEED: THE CARDS: each row of YtmeicjbeibmmganDoorRows.lean that lists a variable, with what it lists TIED to the program's text (the seventh form; the later family's looks); each row that meets fmt, with fmt's text TOLD by the authors' own Lean function (tested against real Go, not proved from fmt's source: count such statements apart). THE CARD IS WHAT COUNTS. Prove the row's statement (the work); the ties are given (YtmeicjbeibmmganDoorTie.lean); close each card by the builder's one call (the guide's Derived/Test/ToyasCard.lean, 'card_holds'). Laid BY PROGRAM, IN A SANDBOX (cutbox-door.mjs). By AI agents, Wed Nov 11 2026. No macro, syntax, notation, axiom, sorry.
-/
import Derived.Test.YtmeicjbeibmmganDoorRows
import GoSem.ClaimSeven
namespace Go.Proofs.YtmeicjbeibmmganDoor
namespace Rows

/-- THE TIED CARD OF 'laws.FnExactDeclet'. -/
def fnExactDecletCard : Claim7 := { stood := { row := fnExactDecletRow, standIns := [], harness := (true, "b68651a51d304a84f4ccd50ae07b6cadb8627ebda7d5581e7bbb01c3b9ec6db6"), looks := false }, kinds := [], alts := [], laidByText := true, laidKinds := [.data, .data], laidTests := true, laidLooks := .later }
def FnExactDecletCardSaid : Prop := Claim7.holds Tryd.pinned (.plain (OpenSpec.ofChange fnExactDecletSpec)) fnExactDecletCard

/-- THE TIED CARD OF 'laws.FnExactUndeclet'. -/
def fnExactUndecletCard : Claim7 := { stood := { row := fnExactUndecletRow, standIns := [], harness := (true, "b68651a51d304a84f4ccd50ae07b6cadb8627ebda7d5581e7bbb01c3b9ec6db6"), looks := false }, kinds := [], alts := [], laidByText := true, laidKinds := [.data, .data], laidTests := true, laidLooks := .later }
def FnExactUndecletCardSaid : Prop := Claim7.holds Tryd.pinned (.plain (OpenSpec.ofChange fnExactUndecletSpec)) fnExactUndecletCard

/-- THE TIED CARD OF 'laws.FnExactDeclets'. -/
def fnExactDecletsCard : Claim7 := { stood := { row := fnExactDecletsRow, standIns := [], harness := (true, "b68651a51d304a84f4ccd50ae07b6cadb8627ebda7d5581e7bbb01c3b9ec6db6"), looks := false }, kinds := [], alts := [], laidByText := true, laidKinds := [.data, .data], laidTests := true, laidLooks := .later }
def FnExactDecletsCardSaid : Prop := Claim7.holds Tryd.pinned (.plain (OpenSpec.ofChange fnExactDecletsSpec)) fnExactDecletsCard

/-- THE SECOND FORM's CARD OF 'laws.FnExactDeclet'. -/
def fnExactDecletUptoCard : Claim7 := { stood := { row := fnExactDecletUptoRow, standIns := [], harness := (true, "b68651a51d304a84f4ccd50ae07b6cadb8627ebda7d5581e7bbb01c3b9ec6db6"), looks := false }, kinds := [], alts := [], laidByText := true, laidKinds := [.data, .data], laidTests := true, laidLooks := .later }
def FnExactDecletUptoCardSaid : Prop := Claim7.holds Tryd.pinned (.plain (OpenSpec.upto fnExactDecletSpec)) fnExactDecletUptoCard

/-- THE SECOND FORM's CARD OF 'laws.FnExactUndeclet'. -/
def fnExactUndecletUptoCard : Claim7 := { stood := { row := fnExactUndecletUptoRow, standIns := [], harness := (true, "b68651a51d304a84f4ccd50ae07b6cadb8627ebda7d5581e7bbb01c3b9ec6db6"), looks := false }, kinds := [], alts := [], laidByText := true, laidKinds := [.data, .data], laidTests := true, laidLooks := .later }
def FnExactUndecletUptoCardSaid : Prop := Claim7.holds Tryd.pinned (.plain (OpenSpec.upto fnExactUndecletSpec)) fnExactUndecletUptoCard

/-- THE SECOND FORM's CARD OF 'laws.FnExactDeclets'. -/
def fnExactDecletsUptoCard : Claim7 := { stood := { row := fnExactDecletsUptoRow, standIns := [], harness := (true, "b68651a51d304a84f4ccd50ae07b6cadb8627ebda7d5581e7bbb01c3b9ec6db6"), looks := false }, kinds := [], alts := [], laidByText := true, laidKinds := [.data, .data], laidTests := true, laidLooks := .later }
def FnExactDecletsUptoCardSaid : Prop := Claim7.holds Tryd.pinned (.plain (OpenSpec.upto fnExactDecletsSpec)) fnExactDecletsUptoCard
end Rows
end Go.Proofs.YtmeicjbeibmmganDoor
