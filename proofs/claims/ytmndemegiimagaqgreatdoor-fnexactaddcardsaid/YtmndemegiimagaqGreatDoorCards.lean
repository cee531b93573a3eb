/-
  DERIVED. GIVEN WITH THE SEED: THE CARDS: each row of YtmndemegiimagaqGreatDoorRows.lean that lists a variable, with what it lists TIED to the program's text (the seventh form; the later family's looks); each row that meets fmt, with fmt's text TOLD by the authors' own Lean function (tested against real Go, not proved from fmt's source: count such statements apart). THE CARD IS WHAT COUNTS. Prove the row's statement (the work); the ties are given (YtmndemegiimagaqGreatDoorTie.lean); close each card by the builder's one call (the guide's Derived/Test/ToyasCard.lean, 'card_holds'). Laid BY PROGRAM, IN A SANDBOX (cutbox-door.mjs). By AI agents, Wed Nov 11 2026. No macro, syntax, notation, axiom, sorry.
-/
import Derived.Test.YtmndemegiimagaqGreatDoorRows
import GoSem.ClaimSeven
namespace Go.Proofs.YtmndemegiimagaqGreatDoor
namespace Rows

/-- THE TIED CARD OF 'laws.FnExactFinish'. -/
def fnExactFinishCard : Claim7 := { stood := { row := fnExactFinishRow, standIns := [], harness := (true, "37cb9ed661999c72c6c5827a8a62753eff4941ede63a840af41260694f172121"), looks := true }, kinds := [], alts := [], laidByText := true, laidKinds := [.data, .pinned], laidTests := true, laidLooks := .later }
def FnExactFinishCardSaid : Prop := Claim7.holds Tryz.pinned (.plain (OpenSpec.ofChange fnExactFinishSpec)) fnExactFinishCard

/-- THE TIED CARD OF 'laws.FnExactAdd'. -/
def fnExactAddCard : Claim7 := { stood := { row := fnExactAddRow, standIns := [], harness := (true, "37cb9ed661999c72c6c5827a8a62753eff4941ede63a840af41260694f172121"), looks := true }, kinds := [], alts := [], laidByText := true, laidKinds := [.data, .pinned], laidTests := true, laidLooks := .later }
def FnExactAddCardSaid : Prop := Claim7.holds Tryz.pinned (.plain (OpenSpec.ofChange fnExactAddSpec)) fnExactAddCard

/-- THE SECOND FORM's CARD OF 'laws.FnExactFinish'. -/
def fnExactFinishUptoCard : Claim7 := { stood := { row := fnExactFinishUptoRow, standIns := [], harness := (true, "37cb9ed661999c72c6c5827a8a62753eff4941ede63a840af41260694f172121"), looks := true }, kinds := [], alts := [], laidByText := true, laidKinds := [.data, .pinned], laidTests := true, laidLooks := .later }
def FnExactFinishUptoCardSaid : Prop := Claim7.holds Tryz.pinned (.plain (OpenSpec.upto fnExactFinishSpec)) fnExactFinishUptoCard

/-- THE SECOND FORM's CARD OF 'laws.FnExactAdd'. -/
def fnExactAddUptoCard : Claim7 := { stood := { row := fnExactAddUptoRow, standIns := [], harness := (true, "37cb9ed661999c72c6c5827a8a62753eff4941ede63a840af41260694f172121"), looks := true }, kinds := [], alts := [], laidByText := true, laidKinds := [.data, .pinned], laidTests := true, laidLooks := .later }
def FnExactAddUptoCardSaid : Prop := Claim7.holds Tryz.pinned (.plain (OpenSpec.upto fnExactAddSpec)) fnExactAddUptoCard
end Rows
end Go.Proofs.YtmndemegiimagaqGreatDoor
