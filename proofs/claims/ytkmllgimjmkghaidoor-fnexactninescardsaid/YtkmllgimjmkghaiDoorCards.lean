/-
  DERIVED. GIVEN WITH THE SEED: THE CARDS: each row of YtkmllgimjmkghaiDoorRows.lean that lists a variable, with what it lists TIED to the program's text (the seventh form; the later family's looks); each row that meets fmt, with fmt's text TOLD by the authors' own Lean function (tested against real Go, not proved from fmt's source: count such statements apart). THE CARD IS WHAT COUNTS. Prove the row's statement (the work); the ties are given (YtkmllgimjmkghaiDoorTie.lean); close each card by the builder's one call (the guide's Derived/Test/ToyasCard.lean, 'card_holds'). Laid BY PROGRAM, IN A SANDBOX (cutbox-door.mjs). By AI agents, Wed Nov 11 2026. No macro, syntax, notation, axiom, sorry.
-/
import Derived.Test.YtkmllgimjmkghaiDoorRows
import GoSem.ClaimSeven
namespace Go.Proofs.YtkmllgimjmkghaiDoor
namespace Rows

/-- THE TIED CARD OF 'laws.FnExactNines'. -/
def fnExactNinesCard : Claim7 := { stood := { row := fnExactNinesRow, standIns := [], harness := (true, "0996dc12988f89b69cd82f85e2488dfd0c24a24c7902bf634f6c147915b69b04"), looks := false }, kinds := [], alts := [], laidByText := true, laidKinds := [.data], laidTests := true, laidLooks := .later }
def FnExactNinesCardSaid : Prop := Claim7.holds Tryd.pinned (.plain (OpenSpec.ofChange fnExactNinesSpec)) fnExactNinesCard

/-- THE SECOND FORM's CARD OF 'laws.FnExactNines'. -/
def fnExactNinesUptoCard : Claim7 := { stood := { row := fnExactNinesUptoRow, standIns := [], harness := (true, "0996dc12988f89b69cd82f85e2488dfd0c24a24c7902bf634f6c147915b69b04"), looks := false }, kinds := [], alts := [], laidByText := true, laidKinds := [.data], laidTests := true, laidLooks := .later }
def FnExactNinesUptoCardSaid : Prop := Claim7.holds Tryd.pinned (.plain (OpenSpec.upto fnExactNinesSpec)) fnExactNinesUptoCard
end Rows
end Go.Proofs.YtkmllgimjmkghaiDoor
