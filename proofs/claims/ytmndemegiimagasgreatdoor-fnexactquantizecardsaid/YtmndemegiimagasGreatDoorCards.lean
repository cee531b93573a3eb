/-
  DERIVED. GIVEN WITH THE SEED: THE CARDS: each row of YtmndemegiimagasGreatDoorRows.lean that lists a variable, with what it lists TIED to the program's text (the seventh form; the later family's looks); each row that meets fmt, with fmt's text TOLD by the authors' own Lean function (tested against real Go, not proved from fmt's source: count such statements apart). THE CARD IS WHAT COUNTS. Prove the row's statement (the work); the ties are given (YtmndemegiimagasGreatDoorTie.lean); close each card by the builder's one call (the guide's Derived/Test/ToyasCard.lean, 'card_holds'). Laid BY PROGRAM, IN A SANDBOX (cutbox-door.mjs). By AI agents, Wed Nov 11 2026. No macro, syntax, notation, axiom, sorry.
-/
import Derived.Test.YtmndemegiimagasGreatDoorRows
import GoSem.ClaimSeven
namespace Go.Proofs.YtmndemegiimagasGreatDoor
namespace Rows

/-- THE TIED CARD OF 'laws.FnExactQuantize'. -/
def fnExactQuantizeCard : Claim7 := { stood := { row := fnExactQuantizeRow, standIns := [], harness := (true, "7b8912d86c8e128b9018376d3a4d9afa68c8efc15890ae1c318b3c555482e28d"), looks := true }, kinds := [], alts := [], laidByText := true, laidKinds := [.data, .pinned], laidTests := true, laidLooks := .later }
def FnExactQuantizeCardSaid : Prop := Claim7.holds Tryz.pinned (.plain (OpenSpec.ofChange fnExactQuantizeSpec)) fnExactQuantizeCard

/-- THE TIED CARD OF 'laws.FnExactWhole'. -/
def fnExactWholeCard : Claim7 := { stood := { row := fnExactWholeRow, standIns := [], harness := (true, "7b8912d86c8e128b9018376d3a4d9afa68c8efc15890ae1c318b3c555482e28d"), looks := true }, kinds := [], alts := [], laidByText := true, laidKinds := [.data, .pinned], laidTests := true, laidLooks := .later }
def FnExactWholeCardSaid : Prop := Claim7.holds Tryz.pinned (.plain (OpenSpec.ofChange fnExactWholeSpec)) fnExactWholeCard

/-- THE TIED CARD OF 'laws.FnExactGreater'. -/
def fnExactGreaterCard : Claim7 := { stood := { row := fnExactGreaterRow, standIns := [], harness := (true, "7b8912d86c8e128b9018376d3a4d9afa68c8efc15890ae1c318b3c555482e28d"), looks := true }, kinds := [], alts := [], laidByText := true, laidKinds := [.data, .data, .pinned], laidTests := true, laidLooks := .later }
def FnExactGreaterCardSaid : Prop := Claim7.holds Tryz.pinned (.plain (OpenSpec.ofChange fnExactGreaterSpec)) fnExactGreaterCard

/-- THE SECOND FORM's CARD OF 'laws.FnExactQuantize'. -/
def fnExactQuantizeUptoCard : Claim7 := { stood := { row := fnExactQuantizeUptoRow, standIns := [], harness := (true, "7b8912d86c8e128b9018376d3a4d9afa68c8efc15890ae1c318b3c555482e28d"), looks := true }, kinds := [], alts := [], laidByText := true, laidKinds := [.data, .pinned], laidTests := true, laidLooks := .later }
def FnExactQuantizeUptoCardSaid : Prop := Claim7.holds Tryz.pinned (.plain (OpenSpec.upto fnExactQuantizeSpec)) fnExactQuantizeUptoCard

/-- THE SECOND FORM's CARD OF 'laws.FnExactWhole'. -/
def fnExactWholeUptoCard : Claim7 := { stood := { row := fnExactWholeUptoRow, standIns := [], harness := (true, "7b8912d86c8e128b9018376d3a4d9afa68c8efc15890ae1c318b3c555482e28d"), looks := true }, kinds := [], alts := [], laidByText := true, laidKinds := [.data, .pinned], laidTests := true, laidLooks := .later }
def FnExactWholeUptoCardSaid : Prop := Claim7.holds Tryz.pinned (.plain (OpenSpec.upto fnExactWholeSpec)) fnExactWholeUptoCard

/-- THE SECOND FORM's CARD OF 'laws.FnExactGreater'. -/
def fnExactGreaterUptoCard : Claim7 := { stood := { row := fnExactGreaterUptoRow, standIns := [], harness := (true, "7b8912d86c8e128b9018376d3a4d9afa68c8efc15890ae1c318b3c555482e28d"), looks := true }, kinds := [], alts := [], laidByText := true, laidKinds := [.data, .data, .pinned], laidTests := true, laidLooks := .later }
def FnExactGreaterUptoCardSaid : Prop := Claim7.holds Tryz.pinned (.plain (OpenSpec.upto fnExactGreaterSpec)) fnExactGreaterUptoCard
end Rows
end Go.Proofs.YtmndemegiimagasGreatDoor
