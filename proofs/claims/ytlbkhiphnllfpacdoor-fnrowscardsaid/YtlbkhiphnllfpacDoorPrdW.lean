/-
  The law on rows, walked: from the drawn words on.
-/
import Derived.Test.YtlbkhiphnllfpacDoorPrdK
import Derived.Test.YtlbkhiphnllfpacDoorTxtZ
import Derived.Test.YtlbkhiphnllfpacDoorValue
import Derived.Test.YtlbkhiphnllfpacDoorDrawP
namespace Go.Proofs.YtlbkhiphnllfpacDoor
open Go.RowKit
set_option linter.unusedVariables false
theorem p10 (n : Nat) : (0 : Int) < 10 ^ n := Int.pow_pos (by decide)
theorem mul_room16 (x y : Int) (x0 : 0 ≤ x) (x1 : x < 10000000000000000) (y0 : 0 ≤ y) (y1 : y < 10000000000000000) : 0 ≤ x * y ∧ x * y < 100000000000000000000000000000000 := by
  have h1 : x * y ≤ x * 10000000000000000 := Int.mul_le_mul_of_nonneg_left (by omega) x0
  exact ⟨Int.mul_nonneg x0 y0, by omega⟩
theorem canon_33 (R : List Int) (h : Canon R) (hv : vl R < 100000000000000000000000000000000) : R.length ≤ 33 := by
  have h2 := canon_le R h 32 (by decide) (by rw [show (10 : Int) ^ 32 = 100000000000000000000000000000000 by decide]; exact hv)
  omega
theorem pv_low (f : Nat → Int) (hf : Nine f) (i : Nat) (hi : i ≤ 16) : 0 ≤ pv f i ∧ pv f i < 10000000000000000 := by
  have h := pv_room f hf
  have hs := pv_split f i (16 - i)
  rw [show i + (16 - i) = 16 by omega] at hs
  have h0 : ∀ j, j ≤ 16 → (∀ g : Nat → Int, (∀ k, k < j → 0 ≤ g k) → 0 ≤ pv g j) := fun j => by
    induction j with
    | zero => intro _ g _; exact Int.le_refl _
    | succ j ih =>
      intro hj g hg
      have a := ih (by omega) g (fun k hk => hg k (by omega))
      have b := Int.mul_nonneg (hg j (by omega)) (Int.le_of_lt (p10 j))
      simp only [pv]; omega
  have a := h0 i hi f (fun k hk => (hf k (by omega)).1)
  have b := h0 (16 - i) (by omega) (fun k => f (i + k)) (fun k hk => (hf (i + k) (by omega)).1)
  have c := Int.mul_nonneg (Int.le_of_lt (p10 i)) b
  exact ⟨a, by omega⟩
theorem pr_comm (a b : Int) (ka : Ln.okB 0 a = true) (kb : Ln.okB 0 b = true) : prH b a = prH a b ∧ prL b a = prL a b := by
  obtain ⟨k1, k2, b1, b2, v⟩ := pr_facts b a kb ka
  exact pr_told a b _ _ ka kb k1 k2 b1.1 b1.2 b2.1 b2.2 (by rw [v, Int.mul_comm])
theorem hs_mono (fa fb : Nat → Int) (ha : Nine fa) (hb : Nine fb) (j m : Nat) : hs (fun n => colS fa fb n 16) j ≤ hs (fun n => colS fa fb n 16) (j + m) := by
  induction m with
  | zero => exact Int.le_refl _
  | succ m ih =>
    have h1 := hs_bd fa fb ha hb (j + m)
    have h2 := (colS_bd fa fb ha hb (30 - (j + m)) 16 (Nat.le_refl _)).1
    show _ ≤ hs (fun n => colS fa fb n 16) (j + m) * 10 + colS fa fb (30 - (j + m)) 16
    omega
theorem hs_room (a b : Int) (ka : Ln.okB 0 a = true) (kb : Ln.okB 0 b = true) (j : Nat) (hj : j ≤ 31) : 0 ≤ hs (fun n => colS (Ln.ln a) (Ln.ln b) n 16) j ∧ hs (fun n => colS (Ln.ln a) (Ln.ln b) n 16) j < 100000000000000000000000000000000 := by
  have h1 := hs_mono (Ln.ln a) (Ln.ln b) (ok_nine a ka) (ok_nine b kb) j (31 - j)
  rw [show j + (31 - j) = 31 by omega, hs_all a b ka kb] at h1
  have ha := vl_room a ka
  have hb := vl_room b kb
  have hm := mul_room16 _ _ ha.1 ha.2 hb.1 hb.2
  exact ⟨hs_bd _ _ (ok_nine a ka) (ok_nine b kb) j, by omega⟩
end Go.Proofs.YtlbkhiphnllfpacDoor
