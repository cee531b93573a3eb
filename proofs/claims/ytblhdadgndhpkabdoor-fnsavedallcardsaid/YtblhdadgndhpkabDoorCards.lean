/-
  DERIVED. GIVEN WITH THE SEED: THE CARDS: each row of YtblhdadgndhpkabDoorRows.lean that lists a variable, with what it lists TIED to the program's text (the seventh form; the later family's looks); each row that meets fmt, with fmt's text TOLD by the authors' own Lean function (tested against real Go, not proved from fmt's source: count such statements apart). THE CARD IS WHAT COUNTS. Prove the row's statement (the work); the ties are given (YtblhdadgndhpkabDoorTie.lean); close each card by the builder's one call (the guide's Derived/Test/ToyasCard.lean, 'card_holds'). Laid BY PROGRAM, IN A SANDBOX (cutbox-door.mjs). By AI agents, Wed Nov 11 2026. No macro, syntax, notation, axiom, sorry.
-/
import Derived.Test.YtblhdadgndhpkabDoorRows
import GoSem.ClaimSeven
namespace Go.Proofs.YtblhdadgndhpkabDoor
namespace Rows

/-- THE TIED CARD OF 'laws.FnSavedAll'. -/
def fnSavedAllCard : Claim7 := { stood := { row := fnSavedAllRow, standIns := [], harness := (true, "151148a800103ad7c91978db3638b53d25c2c1d83b3a0fcdbd4d011b27c861df"), looks := false }, kinds := [], alts := [], laidByText := true, laidKinds := [.data], laidTests := true, laidLooks := .later }
def FnSavedAllCardSaid : Prop := Claim7.holds Tryd.pinned (.plain (OpenSpec.ofChange fnSavedAllSpec)) fnSavedAllCard

/-- THE SECOND FORM's CARD OF 'laws.FnSavedAll'. -/
def fnSavedAllUptoCard : Claim7 := { stood := { row := fnSavedAllUptoRow, standIns := [], harness := (true, "151148a800103ad7c91978db3638b53d25c2c1d83b3a0fcdbd4d011b27c861df"), looks := false }, kinds := [], alts := [], laidByText := true, laidKinds := [.data], laidTests := true, laidLooks := .later }
def FnSavedAllUptoCardSaid : Prop := Claim7.holds Tryd.pinned (.plain (OpenSpec.upto fnSavedAllSpec)) fnSavedAllUptoCard
end Rows
end Go.Proofs.YtblhdadgndhpkabDoor
