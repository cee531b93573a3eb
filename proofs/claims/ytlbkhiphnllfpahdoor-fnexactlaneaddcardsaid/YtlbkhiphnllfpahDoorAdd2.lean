/-
  What LaneAdd answers, the model's part and the words that are not right, walked.
-/
import Derived.Test.YtlbkhiphnllfpahDoorAdd
namespace Go.Proofs.YtlbkhiphnllfpahDoor
open Go.RowKit
set_option linter.unusedVariables false

theorem iadd_no (a b : Int) (i : Bool) (w : World) (ht : Tab w) (a0 : 0 ≤ a) (a1 : a ≤ 18446744073709551615) (b0 : 0 ≤ b) (b1 : b ≤ 18446744073709551615) (k : Ln.okB 0 a = false ∨ Ln.okB 0 b = false) :
    Calls Tryd.prog 21 #[.int .u64 a, .int .u64 b, .bool i] w fun e w' => e = .returned (.tuple #[.int .u64 0, .bool false, .bool false]) ∧ w' = w := by
  cases ka : Ln.okB 0 a with
  | false =>
    have Ka : Hid (Ln.okB 0 a = false) := ka
    clear ka k
    go_enter Tryd.func21, Tryd.ntmps21
    go_wp2_with fail
    refine (iok_plain a _ ht a0 a1).mono ?_
    rintro e w1 ⟨rfl, rfl⟩
    rw [Ka.out]
    go_wp2
    go_ret3
    exact ⟨rfl, rfl⟩
  | true =>
    have kb : Ln.okB 0 b = false := by rcases k with h | h; rw [ka] at h; cases h; exact h
    have Ka : Hid (Ln.okB 0 a = true) := ka
    have Kb : Hid (Ln.okB 0 b = false) := kb
    clear ka k kb
    go_enter Tryd.func21, Tryd.ntmps21
    go_wp2_with fail
    refine (iok_plain a _ ht a0 a1).mono ?_
    rintro e w1 ⟨rfl, rfl⟩
    rw [Ka.out]
    go_wp2_with fail
    refine (iok_plain b _ ht b0 b1).mono ?_
    rintro e w1 ⟨rfl, rfl⟩
    rw [Kb.out]
    go_wp2
    go_ret3
    exact ⟨rfl, rfl⟩
theorem sadd_no (a b : Int) (i : Bool) (w : World) (a0 : 0 ≤ a) (a1 : a ≤ 18446744073709551615) (b0 : 0 ≤ b) (b1 : b ≤ 18446744073709551615) (k : Ln.okB 0 a = false ∨ Ln.okB 0 b = false) :
    Calls Tryd.prog 20 #[.int .u64 a, .int .u64 b, .bool i] w fun e w' => e = .returned (.tuple #[.int .u64 0, .bool false, .bool false]) ∧ Below w.heap.size w w' := by
  cases ka : Ln.okB 0 a with
  | false =>
    have Ka : Hid (Ln.okB 0 a = false) := ka
    clear ka k
    go_enter Tryd.func20, Tryd.ntmps20
    go_wp2_with fail
    refine (l1PlainOk_any a _ a0 a1).mono ?_
    rintro e w1 ⟨rfl, hb1⟩
    rw [Ka.out]
    go_wp2
    go_ret3
    exact ⟨rfl, hb1⟩
  | true =>
    have kb : Ln.okB 0 b = false := by rcases k with h | h; rw [ka] at h; cases h; exact h
    have Ka : Hid (Ln.okB 0 a = true) := ka
    have Kb : Hid (Ln.okB 0 b = false) := kb
    clear ka k kb
    go_enter Tryd.func20, Tryd.ntmps20
    go_wp2_with fail
    refine (l1PlainOk_any a _ a0 a1).mono ?_
    rintro e w1 ⟨rfl, hb1⟩
    rw [Ka.out]
    go_wp2_with fail
    refine (l1PlainOk_any b _ b0 b1).mono ?_
    rintro e w2 ⟨rfl, hb2⟩
    rw [Kb.out]
    go_wp2
    go_ret3
    exact ⟨rfl, hb1.trans (hb2.mono hb1.size)⟩
theorem sdigits_plain (x : Int) (w : World) (h0 : 0 ≤ x) (h1 : x ≤ 18446744073709551615) (hk : Ln.okB 0 x = true) :
    Calls Tryd.prog 10 #[.int .i64 1, .int .u64 x] w fun e w' => ∃ v, e = .returned v ∧ Has w' w.heap.size v (highsF (Ln.ln x) 16) ∧ Below w.heap.size w w' := by
  have := sdigits_any 0 x w (by decide) h0 h1
  rw [digits_highsF 0 x hk, plain_dig] at this
  exact this
theorem l1PlainDigits_any (x : Int) (w : World) (h0 : 0 ≤ x) (h1 : x ≤ 18446744073709551615) (hk : Ln.okB 0 x = true) :
    Calls Tryd.prog 33 #[.int .u64 x] w fun e w' => ∃ v, e = .returned v ∧ Has w' w.heap.size v (highsF (Ln.ln x) 16) ∧ Below w.heap.size w w' := by
  have Hk : Hid (Ln.okB 0 x = true) := hk
  clear hk
  go_enter Tryd.func33, Tryd.ntmps33
  go_wp2_with fail
  refine (sdigits_plain x _ h0 h1 Hk.out).mono ?_
  rintro e w1 ⟨v, rfl, hv, hb⟩
  go_wp2
  go_ret
  exact ⟨v, rfl, hv, hb⟩
theorem l1Pack_plain (v : Value) (f : Nat → Int) (hf : Nine f) (base : Nat) (w : World) (h : Has w base v (highsF f 16)) :
    Calls Tryd.prog 29 #[.int .i64 1, v] w fun e w' => e = .returned (.int .u64 (Sm f 16)) ∧ Below w.heap.size w w' := by
  have := l1Pack_any 0 v _ base w (by decide) h (okDs_highsF f hf)
  rw [pack_highsF f hf] at this
  exact this
/-- The model's LaneAdd, of two right words. -/
theorem sadd_yes (a b : Int) (i : Bool) (w : World) (a0 : 0 ≤ a) (a1 : a ≤ 18446744073709551615) (b0 : 0 ≤ b) (b1 : b ≤ 18446744073709551615) (ka : Ln.okB 0 a = true) (kb : Ln.okB 0 b = true) :
    Calls Tryd.prog 20 #[.int .u64 a, .int .u64 b, .bool i] w fun e w' => e = .returned (.tuple #[.int .u64 (addV a b i), .bool (addC a b i), .bool true]) ∧ Below w.heap.size w w' := by
  have na : Hid (Nine (Ln.ln a)) := ok_nine a ka
  have nb : Hid (Nine (Ln.ln b)) := ok_nine b kb
  have Ka : Hid (Ln.okB 0 a = true) := ka
  have Kb : Hid (Ln.okB 0 b = true) := kb
  clear ka kb
  cases i
  all_goals
    go_enter Tryd.func20, Tryd.ntmps20
    go_wp2_with fail
    refine (l1PlainOk_any a _ a0 a1).mono ?_
    rintro e w1 ⟨rfl, hb1⟩
    have hs1 := hb1.size
    rw [Ka.out]
    go_wp2_with fail
    refine (l1PlainOk_any b _ b0 b1).mono ?_
    rintro e w2 ⟨rfl, hb2⟩
    have hs2 := hb2.size
    rw [Kb.out]
    go_wp2_with fail
    refine (l1PlainDigits_any a _ a0 a1 Ka.out).mono ?_
    rintro e w3 ⟨va, rfl, hva, hb3⟩
    have hs3 := hb3.size
    go_wp2_with fail
    refine (l1PlainDigits_any b _ b0 b1 Kb.out).mono ?_
    rintro e w4 ⟨vb, rfl, hvb, hb4⟩
    have hs4 := hb4.size
    go_wp2_with fail
    refine (l1Sum_any va vb (Ln.ln a) (Ln.ln b) _ _ _ _ (hva.below hb4 (Nat.le_refl _)) hvb na.out nb.out (by decide) (by decide)).mono ?_
    rintro e w5 ⟨v, rfl, hv, hb5⟩
    have hs5 := hb5.size
    go_wp2_with fail
    refine (l1Pack_plain v _ (sdF_nine _ _ _) _ _ hv).mono ?_
    rintro e w6 ⟨rfl, hb6⟩
    go_wp2
    go_ret3
    exact ⟨rfl, ((((hb1.trans (hb2.mono hs1)).trans (hb3.mono (by omega))).trans (hb4.mono (by omega))).trans (hb5.mono (by omega))).trans (hb6.mono (by omega))⟩
end Go.Proofs.YtlbkhiphnllfpahDoor
