/-
  Plain facts on signed digits as the program has them: the first digit that is not nought tells the sign; registers that lie in rows of their whole length.
-/
import Derived.Test.YtmeicjbeibmmganDoorSgnM
namespace Go.Proofs.YtmeicjbeibmmganDoor
set_option linter.unusedVariables false
theorem rng_cons (a b d : Int) (r : List Int) (h : rng a b (d :: r) = true) : a ≤ d ∧ d ≤ b ∧ rng a b r = true := by
  unfold rng at h ⊢
  simp only [List.all_cons, Bool.and_eq_true, decide_eq_true_eq] at h
  exact ⟨h.1.1, h.1.2, h.2⟩
theorem rng_take (a b : Int) (ds : List Int) (h : rng a b ds = true) (k : Nat) : rng a b (ds.take k) = true := by
  unfold rng at h ⊢
  rw [List.all_eq_true] at h ⊢
  exact fun d hd => h d (List.mem_of_mem_take hd)
/-- Signed digits stand for less than ten to their number, either way. -/
theorem vl_abs (ds : List Int) (h : rng (-9) 9 ds = true) : -(10 ^ ds.length) < vl ds ∧ vl ds < 10 ^ ds.length := by
  induction ds with
  | nil => exact ⟨by decide, by decide⟩
  | cons d r ih =>
    obtain ⟨a, b, c⟩ := rng_cons _ _ _ _ h
    have i := ih c
    rw [vl_cons, List.length_cons, Int.pow_succ]
    have hp : (0 : Int) ≤ 10 ^ r.length := Int.le_of_lt (Int.pow_pos (by decide))
    have u := Int.mul_le_mul_of_nonneg_left b hp
    have l := Int.mul_le_mul_of_nonneg_left a hp
    omega
/-- Whether digits stand for less than nought. -/
def ng (ds : List Int) : Bool := decide (vl ds < 0)
theorem ng_first (ds : List Int) (h : rng (-9) 9 ds = true) (i : Nat) (hi : i < ds.length) (hz : ∀ j, j < i → ds.getD j 0 = 0) (hd : ds.getD i 0 ≠ 0) : ng ds = decide (ds.getD i 0 < 0) := by
  induction ds generalizing i with
  | nil => simp at hi
  | cons d r ih =>
    obtain ⟨a, b, c⟩ := rng_cons _ _ _ _ h
    cases i with
    | zero =>
      have v := vl_abs r c
      have hp : (0 : Int) ≤ 10 ^ r.length := Int.le_of_lt (Int.pow_pos (by decide))
      have e0 : (d :: r).getD 0 0 = d := rfl
      rw [e0] at hd ⊢
      unfold ng
      rw [vl_cons]
      by_cases hn : d < 0
      · have u := Int.mul_le_mul_of_nonneg_left (show d ≤ -1 by omega) hp
        have : vl r + 10 ^ r.length * d < 0 := by omega
        simp [hn, this]
      · have u := Int.mul_le_mul_of_nonneg_left (show 1 ≤ d by omega) hp
        have : ¬ vl r + 10 ^ r.length * d < 0 := by omega
        simp [hn, this]
    | succ i =>
      have e0 : d = 0 := hz 0 (by omega)
      have e1 : ∀ j, (d :: r).getD (j + 1) 0 = r.getD j 0 := fun j => rfl
      rw [e1] at hd ⊢
      have := ih c i (by simpa using hi) (fun j hj => by rw [← e1 j]; exact hz (j + 1) (by omega)) hd
      rw [← this]
      unfold ng
      rw [vl_cons, e0, Int.mul_zero, Int.add_zero]
theorem ng_nought (ds : List Int) (hz : ∀ j, j < ds.length → ds.getD j 0 = 0) : ng ds = false := by
  have : vl ds = 0 := by
    induction ds with
    | nil => rfl
    | cons d r ih =>
      have e0 : d = 0 := hz 0 (by simp)
      rw [vl_cons, e0, Int.mul_zero, Int.add_zero]
      exact ih fun j hj => hz (j + 1) (by simpa using hj)
  unfold ng; rw [this]; rfl
theorem bw_ng (ds : List Int) (h : rng (-9) 9 ds = true) : bw ds ds.length = if ng ds then 1 else 0 := by
  have v := plain_vl ds
  have b := bw_bd ds ds.length
  have p := vl_bd _ (plain_dec ds h)
  rw [plain_length] at p
  have a := vl_abs ds h
  unfold ng
  rcases (show bw ds ds.length = 0 ∨ bw ds ds.length = 1 by omega) with e | e
  · rw [e, Int.mul_zero] at v
    have : ¬ vl ds < 0 := by omega
    simp [e, this]
  · rw [e, Int.mul_one] at v
    have : vl ds < 0 := by omega
    simp [e, this]
theorem reg_ng (ds : List Int) (h : rng (-9) 9 ds = true) (hn : ng ds = false) : (reg ds ds.length).1 = plain ds :=
  reg_plain ds h (by rw [bw_ng ds h, hn]; rfl)
/-- Numbers with noughts behind them, up to the length n. -/
def pad (A : List Int) (n : Nat) : List Int := A ++ List.replicate (n - A.length) 0
theorem pad_length (A : List Int) (n : Nat) (h : A.length ≤ n) : (pad A n).length = n := by simp [pad]; omega
theorem pad_set (A : List Int) (n k : Nat) (x : Int) (hk : A.length = k) (h : k < n) : (pad A n).set k x = pad (A ++ [x]) n := by
  subst hk
  unfold pad
  obtain ⟨m, hm⟩ : ∃ m, n - A.length = m + 1 := ⟨n - A.length - 1, by omega⟩
  have e : n - (A ++ [x]).length = m := by simp; omega
  rw [hm, e, List.set_append_right _ _ (Nat.le_refl _), Nat.sub_self, List.replicate_succ, List.set_cons_zero]
  simp
theorem pad_full (A : List Int) (n : Nat) (h : A.length = n) : pad A n = A := by simp [pad, h]
theorem pad_none (n : Nat) : pad [] n = List.replicate n 0 := by simp [pad]
theorem pad_at (A : List Int) (n i : Nat) (h : i < A.length) : (pad A n).getD i 0 = A.getD i 0 := by
  unfold pad
  simp [List.getD, List.getElem?_append_left h]
/-- The first register's next digit, and the other's. -/
theorem reg_up (ds : List Int) (k : Nat) (d : Int) (hd : d = ds.getD k 0) (h : 0 < d) : reg ds (k + 1) = ((reg ds k).1 ++ [d], (reg ds k).1 ++ [d - 1]) := by
  simp only [reg]; rw [← hd, if_pos (by omega), if_pos h]
theorem reg_same (ds : List Int) (k : Nat) (hd : 0 = ds.getD k 0) : reg ds (k + 1) = ((reg ds k).1 ++ [0], (reg ds k).2 ++ [9]) := by
  simp only [reg]; rw [← hd]; rfl
theorem reg_down (ds : List Int) (k : Nat) (d : Int) (hd : d = ds.getD k 0) (h : d < 0) : reg ds (k + 1) = ((reg ds k).2 ++ [10 + d], (reg ds k).2 ++ [9 + d]) := by
  simp only [reg]; rw [← hd, if_neg (by omega), if_neg (by omega)]
/-- Each number with its sign turned. -/
def negd (ds : List Int) : List Int := ds.map (- ·)
theorem negd_length (ds : List Int) : (negd ds).length = ds.length := by simp [negd]
theorem negd_take (ds : List Int) (k : Nat) (hk : k < ds.length) : negd (ds.take (k + 1)) = negd (ds.take k) ++ [- ds.getD k 0] := by
  unfold negd
  rw [List.take_succ_eq_append_getElem hk, List.map_append]
  simp [List.getD, hk]
theorem vl_take (ds : List Int) (k : Nat) (hk : k < ds.length) : vl (ds.take (k + 1)) = vl (ds.take k) * 10 + ds.getD k 0 := by
  rw [List.take_succ_eq_append_getElem hk, vl_snoc]
  simp [List.getD, hk]
theorem vl_take_bd (ds : List Int) (h : rng (-9) 9 ds = true) (k : Nat) (hk : k ≤ 17) : -100000000000000000 < vl (ds.take k) ∧ vl (ds.take k) < 100000000000000000 := by
  have a := vl_abs _ (rng_take _ _ ds h k)
  have b : (10 : Int) ^ (ds.take k).length ≤ 10 ^ 17 := pow_mono _ _ (by rw [List.length_take]; omega)
  have c : (10 : Int) ^ 17 = 100000000000000000 := by decide
  omega
end Go.Proofs.YtmeicjbeibmmganDoor
