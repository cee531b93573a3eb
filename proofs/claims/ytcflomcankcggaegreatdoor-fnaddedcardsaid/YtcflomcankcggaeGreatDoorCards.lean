/-
  DERIVED. GIVEN WITH THE SEED: THE CARDS: each row of YtcflomcankcggaeGreatDoorRows.lean that lists a variable, with what it lists TIED to the program's text (the seventh form; the later family's looks); each row that meets fmt, with fmt's text TOLD by the authors' own Lean function (tested against real Go, not proved from fmt's source: count such statements apart). THE CARD IS WHAT COUNTS. Prove the row's statement (the work); the ties are given (YtcflomcankcggaeGreatDoorTie.lean); close each card by the builder's one call (the guide's Derived/Test/ToyasCard.lean, 'card_holds'). Laid BY PROGRAM, IN A SANDBOX (cutbox-door.mjs). By AI agents, Wed Nov 11 2026. No macro, syntax, notation, axiom, sorry.
-/
import Derived.Test.YtcflomcankcggaeGreatDoorRows
import GoSem.ClaimSeven
namespace Go.Proofs.YtcflomcankcggaeGreatDoor
namespace Rows

/-- THE TIED CARD OF 'laws.FnAdded'. -/
def fnAddedCard : Claim7 := { stood := { row := fnAddedRow, standIns := [], harness := (true, "b614e8e99a5fc8a119ae6f671e2025bc14ee8f2b249fb69c29ed251f8e533a1f"), looks := true }, kinds := [], alts := [], laidByText := true, laidKinds := [.data, .pinned], laidTests := true, laidLooks := .later }
def FnAddedCardSaid : Prop := Claim7.holds Tryz.pinned (.plain (OpenSpec.ofChange fnAddedSpec)) fnAddedCard

/-- THE TIED CARD OF 'laws.FnSubtracted'. -/
def fnSubtractedCard : Claim7 := { stood := { row := fnSubtractedRow, standIns := [], harness := (true, "b614e8e99a5fc8a119ae6f671e2025bc14ee8f2b249fb69c29ed251f8e533a1f"), looks := true }, kinds := [], alts := [], laidByText := true, laidKinds := [.data, .pinned], laidTests := true, laidLooks := .later }
def FnSubtractedCardSaid : Prop := Claim7.holds Tryz.pinned (.plain (OpenSpec.ofChange fnSubtractedSpec)) fnSubtractedCard

/-- THE SECOND FORM's CARD OF 'laws.FnAdded'. -/
def fnAddedUptoCard : Claim7 := { stood := { row := fnAddedUptoRow, standIns := [], harness := (true, "b614e8e99a5fc8a119ae6f671e2025bc14ee8f2b249fb69c29ed251f8e533a1f"), looks := true }, kinds := [], alts := [], laidByText := true, laidKinds := [.data, .pinned], laidTests := true, laidLooks := .later }
def FnAddedUptoCardSaid : Prop := Claim7.holds Tryz.pinned (.plain (OpenSpec.upto fnAddedSpec)) fnAddedUptoCard

/-- THE SECOND FORM's CARD OF 'laws.FnSubtracted'. -/
def fnSubtractedUptoCard : Claim7 := { stood := { row := fnSubtractedUptoRow, standIns := [], harness := (true, "b614e8e99a5fc8a119ae6f671e2025bc14ee8f2b249fb69c29ed251f8e533a1f"), looks := true }, kinds := [], alts := [], laidByText := true, laidKinds := [.data, .pinned], laidTests := true, laidLooks := .later }
def FnSubtractedUptoCardSaid : Prop := Claim7.holds Tryz.pinned (.plain (OpenSpec.upto fnSubtractedSpec)) fnSubtractedUptoCard
end Rows
end Go.Proofs.YtcflomcankcggaeGreatDoor
