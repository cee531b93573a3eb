/-
  DERIVED. GIVEN WITH THE SEED: THE CARDS: each row of YtnkoeidolmiheaaGreatDoorRows.lean that lists a variable, with what it lists TIED to the program's text (the seventh form; the later family's looks); each row that meets fmt, with fmt's text TOLD by the authors' own Lean function (tested against real Go, not proved from fmt's source: count such statements apart). THE CARD IS WHAT COUNTS. Prove the row's statement (the work); the ties are given (YtnkoeidolmiheaaGreatDoorTie.lean); close each card by the builder's one call (the guide's Derived/Test/ToyasCard.lean, 'card_holds'). Laid BY PROGRAM, IN A SANDBOX (cutbox-door.mjs). By AI agents, Wed Nov 11 2026. No macro, syntax, notation, axiom, sorry.
-/
import Derived.Test.YtnkoeidolmiheaaGreatDoorRows
import GoSem.ClaimSeven
namespace Go.Proofs.YtnkoeidolmiheaaGreatDoor
namespace Rows

/-- THE TIED CARD OF 'laws.FnSquareRoot'. -/
def fnSquareRootCard : Claim7 := { stood := { row := fnSquareRootRow, standIns := [], harness := (true, "1319e6de06d848208fa46ae249158d52aaa57ddd53900f6cf01628ebb42aaf82"), looks := true }, kinds := [], alts := [], laidByText := true, laidKinds := [.data, .pinned], laidTests := true, laidLooks := .later }
def FnSquareRootCardSaid : Prop := Claim7.holds Tryz.pinned (.plain (OpenSpec.ofChange fnSquareRootSpec)) fnSquareRootCard

/-- THE TIED CARD OF 'laws.FnRemainder'. -/
def fnRemainderCard : Claim7 := { stood := { row := fnRemainderRow, standIns := [], harness := (true, "1319e6de06d848208fa46ae249158d52aaa57ddd53900f6cf01628ebb42aaf82"), looks := true }, kinds := [], alts := [], laidByText := true, laidKinds := [.data, .pinned], laidTests := true, laidLooks := .later }
def FnRemainderCardSaid : Prop := Claim7.holds Tryz.pinned (.plain (OpenSpec.ofChange fnRemainderSpec)) fnRemainderCard

/-- THE TIED CARD OF 'laws.FnWhole'. -/
def fnWholeCard : Claim7 := { stood := { row := fnWholeRow, standIns := [], harness := (true, "1319e6de06d848208fa46ae249158d52aaa57ddd53900f6cf01628ebb42aaf82"), looks := true }, kinds := [], alts := [], laidByText := true, laidKinds := [.data, .pinned], laidTests := true, laidLooks := .later }
def FnWholeCardSaid : Prop := Claim7.holds Tryz.pinned (.plain (OpenSpec.ofChange fnWholeSpec)) fnWholeCard

/-- THE TIED CARD OF 'laws.FnOrdered'. -/
def fnOrderedCard : Claim7 := { stood := { row := fnOrderedRow, standIns := [], harness := (true, "1319e6de06d848208fa46ae249158d52aaa57ddd53900f6cf01628ebb42aaf82"), looks := true }, kinds := [], alts := [], laidByText := true, laidKinds := [.data, .data, .pinned], laidTests := true, laidLooks := .later }
def FnOrderedCardSaid : Prop := Claim7.holds Tryz.pinned (.plain (OpenSpec.ofChange fnOrderedSpec)) fnOrderedCard

/-- THE TIED CARD OF 'laws.FnNext'. -/
def fnNextCard : Claim7 := { stood := { row := fnNextRow, standIns := [], harness := (true, "1319e6de06d848208fa46ae249158d52aaa57ddd53900f6cf01628ebb42aaf82"), looks := true }, kinds := [], alts := [], laidByText := true, laidKinds := [.data, .data, .pinned], laidTests := true, laidLooks := .later }
def FnNextCardSaid : Prop := Claim7.holds Tryz.pinned (.plain (OpenSpec.ofChange fnNextSpec)) fnNextCard

/-- THE SECOND FORM's CARD OF 'laws.FnSquareRoot'. -/
def fnSquareRootUptoCard : Claim7 := { stood := { row := fnSquareRootUptoRow, standIns := [], harness := (true, "1319e6de06d848208fa46ae249158d52aaa57ddd53900f6cf01628ebb42aaf82"), looks := true }, kinds := [], alts := [], laidByText := true, laidKinds := [.data, .pinned], laidTests := true, laidLooks := .later }
def FnSquareRootUptoCardSaid : Prop := Claim7.holds Tryz.pinned (.plain (OpenSpec.upto fnSquareRootSpec)) fnSquareRootUptoCard

/-- THE SECOND FORM's CARD OF 'laws.FnRemainder'. -/
def fnRemainderUptoCard : Claim7 := { stood := { row := fnRemainderUptoRow, standIns := [], harness := (true, "1319e6de06d848208fa46ae249158d52aaa57ddd53900f6cf01628ebb42aaf82"), looks := true }, kinds := [], alts := [], laidByText := true, laidKinds := [.data, .pinned], laidTests := true, laidLooks := .later }
def FnRemainderUptoCardSaid : Prop := Claim7.holds Tryz.pinned (.plain (OpenSpec.upto fnRemainderSpec)) fnRemainderUptoCard

/-- THE SECOND FORM's CARD OF 'laws.FnWhole'. -/
def fnWholeUptoCard : Claim7 := { stood := { row := fnWholeUptoRow, standIns := [], harness := (true, "1319e6de06d848208fa46ae249158d52aaa57ddd53900f6cf01628ebb42aaf82"), looks := true }, kinds := [], alts := [], laidByText := true, laidKinds := [.data, .pinned], laidTests := true, laidLooks := .later }
def FnWholeUptoCardSaid : Prop := Claim7.holds Tryz.pinned (.plain (OpenSpec.upto fnWholeSpec)) fnWholeUptoCard

/-- THE SECOND FORM's CARD OF 'laws.FnOrdered'. -/
def fnOrderedUptoCard : Claim7 := { stood := { row := fnOrderedUptoRow, standIns := [], harness := (true, "1319e6de06d848208fa46ae249158d52aaa57ddd53900f6cf01628ebb42aaf82"), looks := true }, kinds := [], alts := [], laidByText := true, laidKinds := [.data, .data, .pinned], laidTests := true, laidLooks := .later }
def FnOrderedUptoCardSaid : Prop := Claim7.holds Tryz.pinned (.plain (OpenSpec.upto fnOrderedSpec)) fnOrderedUptoCard

/-- THE SECOND FORM's CARD OF 'laws.FnNext'. -/
def fnNextUptoCard : Claim7 := { stood := { row := fnNextUptoRow, standIns := [], harness := (true, "1319e6de06d848208fa46ae249158d52aaa57ddd53900f6cf01628ebb42aaf82"), looks := true }, kinds := [], alts := [], laidByText := true, laidKinds := [.data, .data, .pinned], laidTests := true, laidLooks := .later }
def FnNextUptoCardSaid : Prop := Claim7.holds Tryz.pinned (.plain (OpenSpec.upto fnNextSpec)) fnNextUptoCard
end Rows
end Go.Proofs.YtnkoeidolmiheaaGreatDoor
