/-
  What Save answers, for the program and for its model alike, walked.
-/
import Derived.Test.YtlbkhiphnllfpaiDoorRecode
import Derived.Test.YtlbkhiphnllfpaiDoorTwice
namespace Go.Proofs.YtlbkhiphnllfpaiDoor
open Go.RowKit
set_option linter.unusedVariables false
/-- The bits of which an odd number is 1. -/
def xOf (a b c : Int) : Int := bits .xor .u64 (bits .xor .u64 a b) c
/-- The bits of which two or three are 1. -/
def hOf (a b c : Int) : Int := bits .or .u64 (bits .or .u64 (bits .and .u64 a b) (bits .and .u64 a c)) (bits .and .u64 b c)
theorem bits_bd (o : BinOp) (a b : Int) : 0 ≤ bits o .u64 a b ∧ bits o .u64 a b ≤ 18446744073709551615 := by
  have h : ∀ z, 0 ≤ IntKind.u64.wrap z ∧ IntKind.u64.wrap z ≤ 18446744073709551615 := fun z => by rw [IntKind.wrap_u64]; omega
  exact h _
theorem xOf_bd (a b c : Int) : 0 ≤ xOf a b c ∧ xOf a b c ≤ 18446744073709551615 := bits_bd _ _ _
theorem hOf_bd (a b c : Int) : 0 ≤ hOf a b c ∧ hOf a b c ≤ 18446744073709551615 := bits_bd _ _ _
/-- The word in fives that is doubled. -/
def fOf (a b c : Int) : Int := recV 1 2 (hOf a b c)
theorem recV_bd (m n : Nat) (x : Int) : 0 ≤ recV m n x ∧ recV m n x ≤ 18446744073709551615 := by
  unfold recV
  split
  · rename_i h
    have hl : (digits m x).length = 16 := by unfold digits; rw [if_pos h, highs_length]
    have b := Ln.pk_bd n (digits m x) 16 (by omega)
    rw [Ln.pk_all n _ 16 (by omega)] at b
    have c : (16 : Int) ^ 16 = 18446744073709551616 := by decide
    omega
  · decide
theorem irec_four (x : Int) (w : World) (ht : Tab w) (hz : 0 < w.heap.size) (h0 : 0 ≤ x) (h1 : x ≤ 18446744073709551615) :
    Calls Tryd.prog 27 #[.int .i64 2, .int .i64 3, .int .u64 x] w fun e w' => e = .returned (.tuple #[.int .u64 (recV 1 2 x), .bool (Ln.okB 1 x)]) ∧ Below w.heap.size w w' :=
  irec_any 1 2 x w ht hz (by decide) (by decide) h0 h1
theorem srec_four (x : Int) (w : World) (h0 : 0 ≤ x) (h1 : x ≤ 18446744073709551615) :
    Calls Tryd.prog 16 #[.int .i64 2, .int .i64 3, .int .u64 x] w fun e w' => e = .returned (.tuple #[.int .u64 (recV 1 2 x), .bool (Ln.okB 1 x)]) ∧ Below w.heap.size w w' :=
  srec_any 1 2 x w (by decide) (by decide) h0 h1
theorem fourToFive_any (x : Int) (w : World) (ht : Tab w) (hz : 0 < w.heap.size) (h0 : 0 ≤ x) (h1 : x ≤ 18446744073709551615) :
    Calls Tryd.prog 19 #[.int .u64 x] w fun e w' => e = .returned (.int .u64 (recV 1 2 x)) ∧ Below w.heap.size w w' := by
  go_enter Tryd.func19, Tryd.ntmps19
  go_wp2_with fail
  refine (irec_four x _ ht hz h0 h1).mono ?_
  rintro e w1 ⟨rfl, hb⟩
  go_wp2
  go_ret
  exact ⟨rfl, hb⟩
/-- The program's Save. -/
theorem isave_any (a b c : Int) (w : World) (ht : Tab w) (hz : 0 < w.heap.size) :
    Calls Tryd.prog 9 #[.int .u64 a, .int .u64 b, .int .u64 c] w fun e w' => e = .returned (.tuple #[.int .u64 (xOf a b c), .int .u64 (tw (fOf a b c)), .int .u64 (twOut (fOf a b c))]) ∧ Below w.heap.size w w' := by
  have hh := hOf_bd a b c
  have hf : 0 ≤ fOf a b c ∧ fOf a b c ≤ 18446744073709551615 := recV_bd _ _ _
  go_enter Tryd.func9, Tryd.ntmps9
  go_wp2_with fail
  refine (fourToFive_any (hOf a b c) _ ht hz hh.1 hh.2).mono ?_
  rintro e w1 ⟨rfl, hb⟩
  go_wp2_with fail
  refine (itwice_any (fOf a b c) _ hf.1 hf.2).mono ?_
  rintro e w' ⟨rfl, rfl⟩
  go_wp2
  go_ret3
  exact ⟨rfl, hb⟩
/-- The model's Save. -/
theorem ssave_any (a b c : Int) (w : World) :
    Calls Tryd.prog 8 #[.int .u64 a, .int .u64 b, .int .u64 c] w fun e w' => e = .returned (.tuple #[.int .u64 (xOf a b c), .int .u64 (tw (fOf a b c)), .int .u64 (twOut (fOf a b c))]) ∧ Below w.heap.size w w' := by
  have hh := hOf_bd a b c
  have hf : 0 ≤ fOf a b c ∧ fOf a b c ≤ 18446744073709551615 := recV_bd _ _ _
  go_enter Tryd.func8, Tryd.ntmps8
  go_wp2_with fail
  refine (srec_four (hOf a b c) _ hh.1 hh.2).mono ?_
  rintro e w1 ⟨rfl, hb⟩
  go_wp2_with fail
  refine (stwice_any (fOf a b c) _ hf.1 hf.2).mono ?_
  rintro e w' ⟨rfl, rfl⟩
  go_wp2
  go_ret3
  exact ⟨rfl, hb⟩
end Go.Proofs.YtlbkhiphnllfpaiDoor
