/-
  What Recode answers, for the program and for its model alike, walked.
-/
import Derived.Test.YtlbkhiphnllfpaiDoorPack2
import Derived.Test.YtlbkhiphnllfpaiDoorDigM
namespace Go.Proofs.YtlbkhiphnllfpaiDoor
open Go.RowKit
set_option linter.unusedVariables false

theorem okDs_digits (m : Nat) (x : Int) : Ln.okDs (digits m x) = true := by
  unfold digits
  split
  · rename_i h
    refine Ln.okDs_yes _ (by rw [highs_length]; omega) fun i hi => ?_
    have hm : (highs m x 16).getD i 0 ∈ highs m x 16 := by
      simp only [List.getD]
      rw [List.getElem?_eq_getElem hi]
      exact List.getElem_mem hi
    obtain ⟨l, hl, e⟩ := highs_mem m x 16 (Nat.le_refl _) _ hm
    rw [e]
    exact ⟨(Ln.dig_bd m _).1, (Ln.okB_iff m x).1 h l hl⟩
  · rfl
/-- What a word in the weighting m + 1 is in the weighting n + 1. -/
def recV (m n : Nat) (x : Int) : Int := if Ln.okB m x then Ln.packN n (digits m x) else 0
/-- The program's Recode. -/
theorem irec_any (m n : Nat) (x : Int) (w : World) (ht : Tab w) (hz : 0 < w.heap.size) (hm : m < 3) (hn : n < 3) (h0 : 0 ≤ x) (h1 : x ≤ 18446744073709551615) :
    Calls Tryd.prog 27 #[.int .i64 ((m : Int) + 1), .int .i64 ((n : Int) + 1), .int .u64 x] w fun e w' => e = .returned (.tuple #[.int .u64 (recV m n x), .bool (Ln.okB m x)]) ∧ Below w.heap.size w w' := by
  cases hk : Ln.okB m x with
  | false =>
    have Hk : Hid (Ln.okB m x = false) := hk
    clear hk
    go_enter Tryd.func27, Tryd.ntmps27
    go_wp2_with fail
    refine (iok_yes m x _ ht hm h0 h1).mono ?_
    rintro e w1 ⟨rfl, rfl⟩
    rw [Hk.out]
    go_wp2
    go_ret2
    exact ⟨by unfold recV; rw [Hk.out]; rfl, Below.refl _ _⟩
  | true =>
    have Hk : Hid (Ln.okB m x = true) := hk
    have HO := okDs_digits m x
    have HO' : Hid (Ln.okDs (digits m x) = true) := HO
    clear hk HO
    go_enter Tryd.func27, Tryd.ntmps27
    go_wp2_with fail
    refine (iok_yes m x _ ht hm h0 h1).mono ?_
    rintro e w1 ⟨rfl, rfl⟩
    rw [Hk.out]
    go_wp2_with fail
    refine (idigits_any m x _ ht hz hm h0 h1).mono ?_
    rintro e w2 ⟨v, rfl, hv, hb⟩
    have ht2 := ht.below hb hz
    go_wp2_with fail
    refine (ipack_any n v (digits m x) _ _ ht2 hn hv).mono ?_
    rintro e w' ⟨rfl, rfl⟩
    go_wp2
    go_ret2
    exact ⟨by unfold recV Ln.packV; rw [Hk.out, HO'.out]; rfl, hb⟩
theorem irec_from (f n x : Int) (w : World) (hf : f < 1 ∨ 3 < f) :
    Calls Tryd.prog 27 #[.int .i64 f, .int .i64 n, .int .u64 x] w fun e w' => e = .returned (.tuple #[.int .u64 0, .bool false]) ∧ Below w.heap.size w w' := by
  go_enter Tryd.func27, Tryd.ntmps27
  go_wp2_with fail
  refine (iok_no f x _ hf).mono ?_
  rintro e w1 ⟨rfl, rfl⟩
  go_wp2
  go_ret2
  exact ⟨rfl, Below.refl _ _⟩
theorem irec_to (m : Nat) (t x : Int) (w : World) (ht : Tab w) (hz : 0 < w.heap.size) (hm : m < 3) (hn : t < 1 ∨ 3 < t) (h0 : 0 ≤ x) (h1 : x ≤ 18446744073709551615) :
    Calls Tryd.prog 27 #[.int .i64 ((m : Int) + 1), .int .i64 t, .int .u64 x] w fun e w' => e = .returned (.tuple #[.int .u64 0, .bool false]) ∧ Below w.heap.size w w' := by
  cases hk : Ln.okB m x with
  | false =>
    have Hk : Hid (Ln.okB m x = false) := hk
    clear hk
    go_enter Tryd.func27, Tryd.ntmps27
    go_wp2_with fail
    refine (iok_yes m x _ ht hm h0 h1).mono ?_
    rintro e w1 ⟨rfl, rfl⟩
    rw [Hk.out]
    go_wp2
    go_ret2
    exact ⟨rfl, Below.refl _ _⟩
  | true =>
    have Hk : Hid (Ln.okB m x = true) := hk
    clear hk
    go_enter Tryd.func27, Tryd.ntmps27
    go_wp2_with fail
    refine (iok_yes m x _ ht hm h0 h1).mono ?_
    rintro e w1 ⟨rfl, rfl⟩
    rw [Hk.out]
    go_wp2_with fail
    refine (idigits_any m x _ ht hz hm h0 h1).mono ?_
    rintro e w2 ⟨v, rfl, hv, hb⟩
    go_wp2_with fail
    refine (ipack_no t v (digits m x) _ _ hn hv).mono ?_
    rintro e w' ⟨rfl, rfl⟩
    go_wp2
    go_ret2
    exact ⟨rfl, hb⟩
/-- The model's Recode. -/
theorem srec_any (m n : Nat) (x : Int) (w : World) (hm : m < 3) (hn : n < 3) (h0 : 0 ≤ x) (h1 : x ≤ 18446744073709551615) :
    Calls Tryd.prog 16 #[.int .i64 ((m : Int) + 1), .int .i64 ((n : Int) + 1), .int .u64 x] w fun e w' => e = .returned (.tuple #[.int .u64 (recV m n x), .bool (Ln.okB m x)]) ∧ Below w.heap.size w w' := by
  cases hk : Ln.okB m x with
  | false =>
    have Hk : Hid (Ln.okB m x = false) := hk
    clear hk
    go_enter Tryd.func16, Tryd.ntmps16
    go_wp2_with fail
    refine (sok_yes m x _ hm h0 h1).mono ?_
    rintro e w1 ⟨rfl, hb⟩
    rw [Hk.out]
    go_wp2
    go_ret2
    exact ⟨by unfold recV; rw [Hk.out]; rfl, hb⟩
  | true =>
    have Hk : Hid (Ln.okB m x = true) := hk
    have HO' : Hid (Ln.okDs (digits m x) = true) := okDs_digits m x
    clear hk
    go_enter Tryd.func16, Tryd.ntmps16
    go_wp2_with fail
    refine (sok_yes m x _ hm h0 h1).mono ?_
    rintro e w1 ⟨rfl, hb⟩
    have hs1 := hb.size
    rw [Hk.out]
    go_wp2_with fail
    refine (l1Weights_yes n _ hn).mono ?_
    rintro e w2 ⟨rfl, T, rfl⟩
    have hb2 : Below w1.heap.size w1 (w1.alloc (.cells #[.int .i64 (Ln.wt n 0), .int .i64 (Ln.wt n 1), .int .i64 (Ln.wt n 2), .int .i64 (Ln.wt n 3)] T)) := (Below.refl _ _).alloc (Nat.le_refl _) _
    generalize w1.alloc (.cells #[.int .i64 (Ln.wt n 0), .int .i64 (Ln.wt n 1), .int .i64 (Ln.wt n 2), .int .i64 (Ln.wt n 3)] T) = w2 at *
    have hs2 := hb2.size
    go_wp2_with fail
    refine (sdigits_any m x _ hm h0 h1).mono ?_
    rintro e w3 ⟨v, rfl, hv, hb3⟩
    have hs3 := hb3.size
    go_wp2_with fail
    refine (l1Pack_any n v (digits m x) _ _ hn hv HO'.out).mono ?_
    rintro e w4 ⟨rfl, hb4⟩
    go_wp2
    go_ret2
    exact ⟨by unfold recV; rw [Hk.out]; rfl, ((hb.trans (hb2.mono hs1)).trans (hb3.mono (by omega))).trans (hb4.mono (by omega))⟩
theorem srec_from (f n x : Int) (w : World) (hf : f < 1 ∨ 3 < f) :
    Calls Tryd.prog 16 #[.int .i64 f, .int .i64 n, .int .u64 x] w fun e w' => e = .returned (.tuple #[.int .u64 0, .bool false]) ∧ Below w.heap.size w w' := by
  go_enter Tryd.func16, Tryd.ntmps16
  go_wp2_with fail
  refine (sok_no f x _ hf).mono ?_
  rintro e w1 ⟨rfl, hb⟩
  go_wp2
  go_ret2
  exact ⟨rfl, hb⟩
theorem srec_to (m : Nat) (t x : Int) (w : World) (hm : m < 3) (hn : t < 1 ∨ 3 < t) (h0 : 0 ≤ x) (h1 : x ≤ 18446744073709551615) :
    Calls Tryd.prog 16 #[.int .i64 ((m : Int) + 1), .int .i64 t, .int .u64 x] w fun e w' => e = .returned (.tuple #[.int .u64 0, .bool false]) ∧ Below w.heap.size w w' := by
  cases hk : Ln.okB m x with
  | false =>
    have Hk : Hid (Ln.okB m x = false) := hk
    clear hk
    go_enter Tryd.func16, Tryd.ntmps16
    go_wp2_with fail
    refine (sok_yes m x _ hm h0 h1).mono ?_
    rintro e w1 ⟨rfl, hb⟩
    rw [Hk.out]
    go_wp2
    go_ret2
    exact ⟨rfl, hb⟩
  | true =>
    have Hk : Hid (Ln.okB m x = true) := hk
    clear hk
    go_enter Tryd.func16, Tryd.ntmps16
    go_wp2_with fail
    refine (sok_yes m x _ hm h0 h1).mono ?_
    rintro e w1 ⟨rfl, hb⟩
    rw [Hk.out]
    go_wp2_with fail
    refine (l1Weights_no t _ hn).mono ?_
    rintro e w2 ⟨⟨a, c, rfl⟩, hb2⟩
    go_wp2
    go_ret2
    exact ⟨rfl, hb.trans (hb2.mono hb.size)⟩
end Go.Proofs.YtlbkhiphnllfpaiDoor
