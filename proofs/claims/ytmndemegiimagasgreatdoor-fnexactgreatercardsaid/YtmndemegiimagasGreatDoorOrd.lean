/-
  Order of the program: Compare, Total; walked.
-/
import Derived.Test.YtmndemegiimagasGreatDoorOrc
import Derived.Test.YtmndemegiimagasGreatDoorOrn
import Derived.Laws.Tables
namespace Go.Proofs.YtmndemegiimagasGreatDoor
open Go.RowKit
set_option linter.unusedVariables false
set_option maxRecDepth 100000
/-- What Compare and Total tell. -/
def cpR (f : Int) (ka : Int) (na : Bool) (ea : Int) (sa : ByteArray) (kb : Int) (nb : Bool) (eb : Int) (sb : ByteArray) : Int :=
  if numB f ka na ea sa && numB f kb nb eb sb then (if ((ka == 3) || (ka == 4)) || ((kb == 3) || (kb == 4)) then 2 else if nouB ka sa && nouB kb sb then 0 else cmpR false ka na ea sa kb nb eb sb) else 3
def ttR (f : Int) (ka : Int) (na : Bool) (ea : Int) (sa : ByteArray) (kb : Int) (nb : Bool) (eb : Int) (sb : ByteArray) : Int :=
  if numB f ka na ea sa && numB f kb nb eb sb then cmpR true ka na ea sa kb nb eb sb else 3
theorem oCompare_right (x : Bool) (f : Int) (ka : Int) (na : Bool) (ea : Int) (sa : ByteArray) (kb : Int) (nb : Bool) (eb : Int) (sb : ByteArray) (w : World) (hA : numB f ka na ea sa = true) (hB : numB f kb nb eb sb = true) (hT : KTab w) :
    Calls Tryz.prog 58 #[.agg #[.bool x], numV ka na ea sa, numV kb nb eb sb] w fun r w' => r = .returned (.int .i64 (cmpR x ka na ea sa kb nb eb sb)) ∧ Below w.heap.size w w' := by
  obtain ⟨-, a1, a2, a3, -, -⟩ := numB_bd f ka na ea sa hA
  obtain ⟨-, b1, b2, b3, -, -⟩ := numB_bd f kb nb eb sb hB
  obtain ⟨ka', rfl⟩ : ∃ k : Nat, ka = (k : Int) := ⟨ka.toNat, by omega⟩
  obtain ⟨kb', rfl⟩ : ∃ k : Nat, kb = (k : Int) := ⟨kb.toNat, by omega⟩
  exact oCompare_any x ka' na ea sa kb' nb eb sb w (by omega) (by omega) (by omega) (by omega) (by omega) (by omega) hT
theorem build_ord (x : Bool) (w : World) : (Instr.build 77 #[(0, .bool x)]).run Tryz.prog w = .ok (.agg #[.bool x]) w := run_build w _ _ _ (by kernel_rfl)
theorem build_ord0 (w : World) : (Instr.build 77 #[]).run Tryz.prog w = .ok (.agg #[.bool false]) w := run_build w _ _ _ (by kernel_rfl)
end Go.Proofs.YtmndemegiimagasGreatDoor
