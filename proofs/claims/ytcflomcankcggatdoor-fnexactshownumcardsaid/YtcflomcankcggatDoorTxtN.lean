/-
  Plain facts on decimal texts: which of two is the less, a difference digit by digit.
-/
import Derived.Test.YtcflomcankcggatDoorTxtM
namespace Go.Proofs.YtcflomcankcggatDoor
set_option linter.unusedVariables false
set_option maxRecDepth 100000
theorem vl_append (a b : List Int) : vl (a ++ b) = vl b + 10 ^ b.length * vl a := by
  unfold vl; rw [List.reverse_append, lv_append, List.length_reverse]
theorem dec_drop (a : List Int) (h : Dec a) (k : Nat) : Dec (a.drop k) := fun d hd => h d (List.mem_of_mem_drop hd)
theorem vl_at (a : List Int) (k : Nat) (hk : k < a.length) : vl a = vl (a.drop (k + 1)) + 10 ^ (a.length - (k + 1)) * a.getD k 0 + 10 ^ (a.length - k) * vl (a.take k) := by
  have e : a.drop k = a.getD k 0 :: a.drop (k + 1) := by
    rw [List.drop_eq_getElem_cons hk]; simp [List.getD, hk]
  have h : vl (a.take k ++ a.drop k) = vl a := by rw [List.take_append_drop]
  rw [vl_append, List.length_drop, e, vl_cons, List.length_drop] at h
  exact h.symm
theorem take_same (a b : List Int) (k : Nat) (hl : a.length = b.length) (hp : ∀ j, j < k → a.getD j 0 = b.getD j 0) : a.take k = b.take k := by
  apply List.ext_getElem?
  intro i
  by_cases hi : i < k
  · rw [List.getElem?_take_of_lt hi, List.getElem?_take_of_lt hi]
    by_cases ha : i < a.length
    · have := hp i hi
      rw [List.getD, List.getD, List.getElem?_eq_getElem ha, List.getElem?_eq_getElem (by omega)] at this
      rw [List.getElem?_eq_getElem ha, List.getElem?_eq_getElem (by omega)]
      simpa using this
    · rw [List.getElem?_eq_none (by omega), List.getElem?_eq_none (by omega)]
  · rw [List.getElem?_eq_none (by simp; omega), List.getElem?_eq_none (by simp; omega)]
/-- Two texts of one length, the first digit in which they differ. -/
theorem vl_less (a b : List Int) (ha : Dec a) (hb : Dec b) (hl : a.length = b.length) (k : Nat) (hk : k < a.length) (hp : ∀ j, j < k → a.getD j 0 = b.getD j 0) (hx : a.getD k 0 < b.getD k 0) : vl a < vl b := by
  have x := vl_at a k hk
  have y := vl_at b k (by omega)
  have t := take_same a b k hl hp
  have p := vl_bd _ (dec_drop a ha (k + 1))
  have q := vl_bd _ (dec_drop b hb (k + 1))
  rw [List.length_drop] at p q
  rw [← hl, ← t] at y
  rw [← hl] at q
  have m : 10 ^ (a.length - (k + 1)) * (a.getD k 0 + 1) ≤ 10 ^ (a.length - (k + 1)) * b.getD k 0 :=
    Int.mul_le_mul_of_nonneg_left (by omega) (Int.le_of_lt (Int.pow_pos (by decide)))
  rw [Int.mul_add, Int.mul_one] at m
  omega
theorem vl_short (a b : List Int) (ha : Canon a) (hb : Canon b) (hl : a.length < b.length) : vl a < vl b := by
  have p := (vl_bd a ha.1).2
  have hp := ha.2.1
  have q := canon_low b hb (by omega)
  have m := pow_mono a.length (b.length - 1) (by omega)
  omega
theorem vl_even (a b : List Int) (hl : a.length = b.length) (hp : ∀ j, j < a.length → a.getD j 0 = b.getD j 0) : a = b := by
  have := take_same a b a.length hl hp
  rwa [List.take_length, hl, List.take_length] at this
/-- -1, 0 or 1. -/
def cmpI (x y : Int) : Int := if x < y then -1 else if y < x then 1 else 0
theorem cmpI_lt (x y : Int) (h : x < y) : cmpI x y = -1 := by unfold cmpI; rw [if_pos h]
theorem cmpI_gt (x y : Int) (h : y < x) : cmpI x y = 1 := by unfold cmpI; rw [if_neg (by omega), if_pos h]
theorem cmpI_eq (x : Int) : cmpI x x = 0 := by unfold cmpI; simp
/-- The borrow into place k of a less b. -/
def sbw (a b : List Int) : Nat → Int
  | 0 => 0
  | k + 1 => if lo a k - lo b k - sbw a b k < 0 then 1 else 0
/-- The digit at place k of a less b. -/
def sdg (a b : List Int) (k : Nat) : Int := lo a k - lo b k - sbw a b k + 10 * sbw a b (k + 1)
theorem sbw_bd (a b : List Int) (k : Nat) : 0 ≤ sbw a b k ∧ sbw a b k ≤ 1 := by
  cases k with
  | zero =>
    show (0 : Int) ≤ 0 ∧ (0 : Int) ≤ 1
    decide
  | succ k => unfold sbw; split <;> decide
theorem sdg_bd (a b : List Int) (ha : Dec a) (hb : Dec b) (k : Nat) : 0 ≤ sdg a b k ∧ sdg a b k ≤ 9 := by
  have x := lo_bd a ha k
  have y := lo_bd b hb k
  have z := sbw_bd a b k
  unfold sdg
  rw [show sbw a b (k + 1) = if lo a k - lo b k - sbw a b k < 0 then 1 else 0 from rfl]
  split <;> omega
theorem sdg_pv (a b : List Int) (k : Nat) : pv (sdg a b) k = pv (lo a) k - pv (lo b) k + 10 ^ k * sbw a b k := by
  induction k with
  | zero => simp [pv, sbw]
  | succ k ih =>
    simp only [pv, Int.pow_succ]
    have key : ∀ p A B C D : Int, (A - B - C + 10 * D) * p = A * p - B * p - p * C + p * 10 * D := fun p A B C D => by
      rw [Int.add_mul, Int.sub_mul, Int.sub_mul, Int.mul_assoc p, Int.mul_comm p, Int.mul_comm p]
    have e := key (10 ^ k) (lo a k) (lo b k) (sbw a b k) (sbw a b (k + 1))
    have e2 : sdg a b k * 10 ^ k = (lo a k - lo b k - sbw a b k + 10 * sbw a b (k + 1)) * 10 ^ k := rfl
    omega
/-- The digits from the last on. -/
def ups (f : Nat → Int) : Nat → List Int
  | 0 => []
  | k + 1 => ups f k ++ [f k]
theorem ups_length (f : Nat → Int) (k : Nat) : (ups f k).length = k := by
  induction k with
  | zero => rfl
  | succ k ih => simp [ups, ih]
theorem ups_mem (f : Nat → Int) (k : Nat) (d : Int) (h : d ∈ ups f k) : ∃ i, i < k ∧ d = f i := by
  induction k with
  | zero => simp [ups] at h
  | succ k ih =>
    rcases List.mem_append.1 h with h | h
    · obtain ⟨i, hi, e⟩ := ih h; exact ⟨i, by omega, e⟩
    · exact ⟨k, by omega, by simpa using h⟩
theorem lv_ups (f : Nat → Int) (k : Nat) : lv (ups f k) = pv f k := by
  induction k with
  | zero => rfl
  | succ k ih =>
    simp only [ups, pv]
    rw [lv_append, ih, ups_length]
    simp [lv, Int.mul_comm]
/-- a less b, where a is no less. -/
theorem sub_all (a b : List Int) (ha : Dec a) (hb : Dec b) (h : vl b ≤ vl a) (hl : b.length ≤ a.length) : lv (ups (sdg a b) a.length) = vl a - vl b ∧ Dec (ups (sdg a b) a.length) := by
  have d : Dec (ups (sdg a b) a.length) := fun x hx => by
    obtain ⟨i, _, rfl⟩ := ups_mem _ _ _ hx; exact sdg_bd a b ha hb i
  refine ⟨?_, d⟩
  have e := sdg_pv a b a.length
  rw [pv_lo a _ (Nat.le_refl _), pv_lo b _ hl] at e
  have p := lv_bd _ d
  rw [lv_ups, ups_length] at p
  have z := sbw_bd a b a.length
  have q := vl_bd a ha
  have r := vl_bd b hb
  rw [lv_ups]
  rcases (show sbw a b a.length = 0 ∨ sbw a b a.length = 1 by omega) with s | s
  · rw [s, Int.mul_zero, Int.add_zero] at e; exact e
  · rw [s, Int.mul_one] at e; omega
end Go.Proofs.YtcflomcankcggatDoor
