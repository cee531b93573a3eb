/-
  What LaneAdd answers, the model's part and the words that are not right, walked.
-/
import Derived.Test.YtlbkhiphnllfpalDoorAdd
namespace Go.Proofs.YtlbkhiphnllfpalDoor
open Go.RowKit
set_option linter.unusedVariables false

theorem iadd_no (a b : Int) (i : Bool) (w : World) (ht : Tab w) (a0 : 0 ≤ a) (a1 : a ≤ 18446744073709551615) (b0 : 0 ≤ b) (b1 : b ≤ 18446744073709551615) (k : Ln.okB 0 a = false ∨ Ln.okB 0 b = false) :
    Calls Tryd.prog 35 #[.int .u64 a, .int .u64 b, .bool i] w fun e w' => e = .returned (.tuple #[.int .u64 0, .bool false, .bool false]) ∧ w' = w := by
  cases ka : Ln.okB 0 a with
  | false =>
    have Ka : Hid (Ln.okB 0 a = false) := ka
    clear ka k
    go_enter Tryd.func35, Tryd.ntmps35
    go_wp2_with fail
    refine (iok_plain a _ ht a0 a1).mono ?_
    rintro e w1 ⟨rfl, rfl⟩
    rw [Ka.out]
    go_wp2
    go_ret3
    exact ⟨rfl, rfl⟩
  | true =>
    have kb : Ln.okB 0 b = false := by rcases k with h | h; rw [ka] at h; cases h; exact h
    have Ka : Hid (Ln.okB 0 a = true) := ka
    have Kb : Hid (Ln.okB 0 b = false) := kb
    clear ka k kb
    go_enter Tryd.func35, Tryd.ntmps35
    go_wp2_with fail
    refine (iok_plain a _ ht a0 a1).mono ?_
    rintro e w1 ⟨rfl, rfl⟩
    rw [Ka.out]
    go_wp2_with fail
    refine (iok_plain b _ ht b0 b1).mono ?_
    rintro e w1 ⟨rfl, rfl⟩
    rw [Kb.out]
    go_wp2
    go_ret3
    exact ⟨rfl, rfl⟩
theorem sdigits_plain (x : Int) (w : World) (h0 : 0 ≤ x) (h1 : x ≤ 18446744073709551615) (hk : Ln.okB 0 x = true) :
    Calls Tryd.prog 41 #[.int .i64 1, .int .u64 x] w fun e w' => ∃ v, e = .returned v ∧ Has w' w.heap.size v (highsF (Ln.ln x) 16) ∧ Below w.heap.size w w' := by
  have := sdigits_any 0 x w (by decide) h0 h1
  rw [digits_highsF 0 x hk, plain_dig] at this
  exact this
theorem l1PlainDigits_any (x : Int) (w : World) (h0 : 0 ≤ x) (h1 : x ≤ 18446744073709551615) (hk : Ln.okB 0 x = true) :
    Calls Tryd.prog 30 #[.int .u64 x] w fun e w' => ∃ v, e = .returned v ∧ Has w' w.heap.size v (highsF (Ln.ln x) 16) ∧ Below w.heap.size w w' := by
  have Hk : Hid (Ln.okB 0 x = true) := hk
  clear hk
  go_enter Tryd.func30, Tryd.ntmps30
  go_wp2_with fail
  refine (sdigits_plain x _ h0 h1 Hk.out).mono ?_
  rintro e w1 ⟨v, rfl, hv, hb⟩
  go_wp2
  go_ret
  exact ⟨v, rfl, hv, hb⟩
theorem l1Pack_plain (v : Value) (f : Nat → Int) (hf : Nine f) (base : Nat) (w : World) (h : Has w base v (highsF f 16)) :
    Calls Tryd.prog 31 #[.int .i64 1, v] w fun e w' => e = .returned (.int .u64 (Sm f 16)) ∧ Below w.heap.size w w' := by
  have := l1Pack_any 0 v _ base w (by decide) h (okDs_highsF f hf)
  rw [pack_highsF f hf] at this
  exact this
end Go.Proofs.YtlbkhiphnllfpalDoor
