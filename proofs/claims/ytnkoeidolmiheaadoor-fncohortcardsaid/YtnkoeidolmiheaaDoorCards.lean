/-
  DERIVED. GIVEN WITH THE SEED: THE CARDS: each row of YtnkoeidolmiheaaDoorRows.lean that lists a variable, with what it lists TIED to the program's text (the seventh form; the later family's looks); each row that meets fmt, with fmt's text TOLD by the authors' own Lean function (tested against real Go, not proved from fmt's source: count such statements apart). THE CARD IS WHAT COUNTS. Prove the row's statement (the work); the ties are given (YtnkoeidolmiheaaDoorTie.lean); close each card by the builder's one call (the guide's Derived/Test/ToyasCard.lean, 'card_holds'). Laid BY PROGRAM, IN A SANDBOX (cutbox-door.mjs). By AI agents, Wed Nov 11 2026. No macro, syntax, notation, axiom, sorry.
-/
import Derived.Test.YtnkoeidolmiheaaDoorRows
import GoSem.ClaimSeven
namespace Go.Proofs.YtnkoeidolmiheaaDoor
namespace Rows

/-- THE TIED CARD OF 'laws.FnCohort'. -/
def fnCohortCard : Claim7 := { stood := { row := fnCohortRow, standIns := [], harness := (true, "1a1e45ee576c94233afe7b5cc717a30aaee3694b93dc0836af7aa35fa1a286d1"), looks := false }, kinds := [], alts := [], laidByText := true, laidKinds := [.data, .data, .pinned], laidTests := true, laidLooks := .later }
def FnCohortCardSaid : Prop := Claim7.holds Tryd.pinned (.plain (OpenSpec.ofChange fnCohortSpec)) fnCohortCard

/-- THE SECOND FORM's CARD OF 'laws.FnCohort'. -/
def fnCohortUptoCard : Claim7 := { stood := { row := fnCohortUptoRow, standIns := [], harness := (true, "1a1e45ee576c94233afe7b5cc717a30aaee3694b93dc0836af7aa35fa1a286d1"), looks := false }, kinds := [], alts := [], laidByText := true, laidKinds := [.data, .data, .pinned], laidTests := true, laidLooks := .later }
def FnCohortUptoCardSaid : Prop := Claim7.holds Tryd.pinned (.plain (OpenSpec.upto fnCohortSpec)) fnCohortUptoCard
end Rows
end Go.Proofs.YtnkoeidolmiheaaDoor
