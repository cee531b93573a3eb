/-
  Plain facts on lanes that go up and down again, and on how many lanes at the high end are 0.
-/
import Derived.Test.YtlbkhiphnllfpaaLn
namespace Go.Proofs.Ytlbkhiphnllfpaa.Ln
theorem pow_split (m : Nat) (hm : m ≤ 16) : (16 : Int) ^ (16 - m) * 16 ^ m = 18446744073709551616 := by
  rw [← Int.pow_add, show 16 - m + m = 16 by omega]; decide
theorem up_room (v : Int) (m : Nat) (hm : m ≤ 16) (h0 : 0 ≤ v) (h1 : v < 16 ^ (16 - m)) : up v m = v * 16 ^ m := by
  have p := pow_pos16 m
  have s := pow_split m hm
  have a : v * 16 ^ m < 16 ^ (16 - m) * 16 ^ m := Int.mul_lt_mul_of_pos_right h1 p
  have b : 0 ≤ v * 16 ^ m := Int.mul_nonneg h0 (Int.le_of_lt p)
  unfold up
  rw [s] at a
  exact Int.emod_eq_of_lt b a
theorem down_up (v : Int) (m : Nat) (hm : m ≤ 16) (h0 : 0 ≤ v) (h1 : v < 16 ^ (16 - m)) : down (up v m) m = v := by
  rw [up_room v m hm h0 h1]
  unfold down
  exact Int.mul_ediv_cancel _ (Int.ne_of_gt (pow_pos16 m))
theorem down_room (w : Int) (m : Nat) (hm : m ≤ 16) (h1 : w ≤ 18446744073709551615) : down w m < 16 ^ (16 - m) := by
  unfold down
  rw [Int.ediv_lt_iff_lt_mul (pow_pos16 m), pow_split m hm]
  omega
theorem lead_room (w : Int) (k : Nat) (h0 : 0 ≤ w) (h1 : w ≤ 18446744073709551615) (hk : k ≤ 16) (h : ∀ j, j < k → ln w (15 - j) = 0) : w < 16 ^ (16 - k) := by
  induction k with
  | zero =>
    have : (16 : Int) ^ (16 - 0) = 18446744073709551616 := by decide
    rw [this]; omega
  | succ k ih =>
    have a := ih (by omega) (fun j hj => h j (by omega))
    have z := h k (by omega)
    rw [show 16 - k = (15 - k) + 1 by omega, Int.pow_succ] at a
    rw [show 16 - (k + 1) = 15 - k by omega]
    have p := pow_pos16 (15 - k)
    have q : w / 16 ^ (15 - k) < 16 := by
      rw [Int.ediv_lt_iff_lt_mul p, Int.mul_comm]; exact a
    have r : 0 ≤ w / 16 ^ (15 - k) := Int.ediv_nonneg h0 (Int.le_of_lt p)
    have e : w / 16 ^ (15 - k) = 0 := by
      have : w / 16 ^ (15 - k) % 16 = 0 := z
      omega
    by_cases c : w < 16 ^ (15 - k)
    · exact c
    · have : 1 ≤ w / 16 ^ (15 - k) := by
        rw [Int.le_ediv_iff_mul_le p]; omega
      omega
theorem ln_up (w : Int) (n i : Nat) : ln (w * 16 ^ n) (i + n) = ln w i := by
  unfold ln
  rw [Int.pow_add, Int.mul_ediv_mul_of_pos_left _ _ (pow_pos16 n)]
theorem lead_up (w : Int) (n k : Nat) (h0 : 0 ≤ w) (h1 : w ≤ 18446744073709551615) (hw : w ≠ 0) (hn : n ≤ k) (h : IsLead w k) : IsLead (up w n) (k - n) := by
  obtain ⟨hk, hz, hl⟩ := h
  have r := lead_room w k h0 h1 hk hz
  have hk16 : k < 16 := by
    rcases Nat.lt_or_ge k 16 with c | c
    · exact c
    · exfalso
      rw [show k = 16 by omega] at r
      have : (16 : Int) ^ (16 - 16) = 1 := by decide
      rw [this] at r; omega
  have rn : w < 16 ^ (16 - n) := by
    have a := lead_room w n h0 h1 (by omega) (fun j hj => hz j (by omega))
    exact a
  rw [up_room w n (by omega) h0 rn]
  refine ⟨by omega, fun j hj => ?_, fun _ => ?_⟩
  · rw [show 15 - j = (15 - j - n) + n by omega, ln_up, show 15 - j - n = 15 - (j + n) by omega]
    exact hz (j + n) (by omega)
  · rw [show 15 - (k - n) = (15 - k) + n by omega, ln_up]
    exact hl hk16
end Go.Proofs.Ytlbkhiphnllfpaa.Ln
