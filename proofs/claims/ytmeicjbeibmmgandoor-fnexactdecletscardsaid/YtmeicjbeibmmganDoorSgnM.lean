/-
  Plain facts on signed digits: what they stand for, made plain, and the two registers.
-/
import Derived.Test.YtmeicjbeibmmganDoorTxtM
namespace Go.Proofs.YtmeicjbeibmmganDoor
set_option linter.unusedVariables false
/-- The list of f's first n numbers, the first of them last. -/
def fl (f : Nat → Int) : Nat → List Int
  | 0 => []
  | k + 1 => f k :: fl f k
theorem fl_length (f : Nat → Int) (n : Nat) : (fl f n).length = n := by
  induction n with
  | zero => rfl
  | succ n ih => simp [fl, ih]
theorem fl_mem (f : Nat → Int) (n : Nat) (d : Int) (h : d ∈ fl f n) : ∃ k, k < n ∧ d = f k := by
  induction n with
  | zero => simp [fl] at h
  | succ n ih =>
    simp only [fl, List.mem_cons] at h
    rcases h with h | h
    · exact ⟨n, by omega, h⟩
    · obtain ⟨k, hk, e⟩ := ih h; exact ⟨k, by omega, e⟩
theorem vl_fl (f : Nat → Int) (n : Nat) : vl (fl f n) = pv f n := by
  induction n with
  | zero => rfl
  | succ n ih =>
    simp only [fl, pv]
    rw [vl_cons, ih, fl_length, Int.mul_comm]
/-- One place more from behind. -/
theorem set_low (m : Nat) (x : Int) (L : List Int) : (List.replicate (m + 1) 0 ++ L).set m x = List.replicate m 0 ++ x :: L := by
  induction m with
  | zero => rfl
  | succ m ih =>
    rw [List.replicate_succ, List.cons_append, List.set_cons_succ, ih]
    rfl
theorem lo_eq (ds : List Int) (k : Nat) (hk : k < ds.length) : ds.getD (ds.length - 1 - k) 0 = lo ds k := (lo_in ds k hk).symm
/-- Every number of ds lies from a to b. -/
def rng (a b : Int) (ds : List Int) : Bool := ds.all fun d => decide (a ≤ d) && decide (d ≤ b)
theorem rng_yes (a b : Int) (ds : List Int) (h : ∀ i, i < ds.length → a ≤ ds.getD i 0 ∧ ds.getD i 0 ≤ b) : rng a b ds = true := by
  unfold rng
  rw [List.all_eq_true]
  intro d hd
  obtain ⟨i, hi, e⟩ := List.getElem_of_mem hd
  have := h i hi
  rw [List.getD, List.getElem?_eq_getElem hi] at this
  simp only [Option.getD_some] at this
  rw [e] at this
  simp [this.1, this.2]
theorem rng_at (a b : Int) (ds : List Int) (h : rng a b ds = true) (i : Nat) (hi : i < ds.length) : a ≤ ds.getD i 0 ∧ ds.getD i 0 ≤ b := by
  unfold rng at h
  rw [List.all_eq_true] at h
  have := h _ (List.getElem_mem hi)
  rw [List.getD, List.getElem?_eq_getElem hi]
  simpa using this
theorem rng_no (a b : Int) (ds : List Int) (i : Nat) (hi : i < ds.length) (h : ds.getD i 0 < a ∨ b < ds.getD i 0) : rng a b ds = false := by
  cases e : rng a b ds with
  | false => rfl
  | true => have := rng_at a b ds e i hi; omega
theorem rng_dec (ds : List Int) (h : rng 0 9 ds = true) : Dec ds := fun d hd => by
  unfold rng at h
  rw [List.all_eq_true] at h
  simpa using h d hd
theorem rng_lo (a b : Int) (ds : List Int) (h : rng a b ds = true) (h0 : a ≤ 0) (h1 : 0 ≤ b) (k : Nat) : a ≤ lo ds k ∧ lo ds k ≤ b := by
  by_cases hk : k < ds.length
  · rw [← lo_eq ds k hk]; exact rng_at a b ds h _ (by omega)
  · rw [lo_out ds k (by omega)]; exact ⟨h0, h1⟩
/-- The carry into place k of digits that are made signed. -/
def sc (ds : List Int) : Nat → Int
  | 0 => 0
  | k + 1 => if 6 ≤ lo ds k + sc ds k ∨ (lo ds k + sc ds k = 5 ∧ 5 ≤ lo ds (k + 1)) then 1 else 0
/-- The signed digit at place k. -/
def sv (ds : List Int) (k : Nat) : Int := lo ds k + sc ds k - 10 * sc ds (k + 1)
/-- The signed digits. -/
def sgnd (ds : List Int) : List Int := sc ds ds.length :: fl (sv ds) ds.length
theorem sgnd_length (ds : List Int) : (sgnd ds).length = ds.length + 1 := by simp [sgnd, fl_length]
theorem sc_bd (ds : List Int) (k : Nat) : 0 ≤ sc ds k ∧ sc ds k ≤ 1 := by
  cases k with
  | zero =>
    show (0 : Int) ≤ 0 ∧ (0 : Int) ≤ 1
    decide
  | succ k => unfold sc; split <;> decide
theorem sv_bd (ds : List Int) (h : rng 0 9 ds = true) (k : Nat) : -5 ≤ sv ds k ∧ sv ds k ≤ 5 := by
  have a := rng_lo 0 9 ds h (by decide) (by decide) k
  have b := sc_bd ds k
  have c := rng_lo 0 9 ds h (by decide) (by decide) (k + 1)
  unfold sv
  rw [show sc ds (k + 1) = if 6 ≤ lo ds k + sc ds k ∨ (lo ds k + sc ds k = 5 ∧ 5 ≤ lo ds (k + 1)) then 1 else 0 from rfl]
  split <;> omega
theorem sv_pv (ds : List Int) (k : Nat) : pv (sv ds) k + 10 ^ k * sc ds k = pv (lo ds) k := by
  induction k with
  | zero => simp [pv, sc]
  | succ k ih =>
    simp only [pv, Int.pow_succ]
    have key : ∀ p A c d : Int, A * p + p * 10 * d = (A + 10 * d) * p := fun p A c d => by
      rw [Int.add_mul, Int.mul_assoc p, Int.mul_comm p]
    have e := key (10 ^ k) (sv ds k) 0 (sc ds (k + 1))
    have e2 : sv ds k + 10 * sc ds (k + 1) = lo ds k + sc ds k := by unfold sv; omega
    rw [e2, Int.add_mul, Int.mul_comm (sc ds k)] at e
    omega
theorem sgnd_vl (ds : List Int) : vl (sgnd ds) = vl ds := by
  unfold sgnd
  rw [vl_cons, vl_fl, fl_length, sv_pv, pv_lo ds _ (Nat.le_refl _)]
theorem sgnd_rng (ds : List Int) (h : rng 0 9 ds = true) : rng (-5) 5 (sgnd ds) = true := by
  unfold rng
  rw [List.all_eq_true]
  intro d hd
  have : -5 ≤ d ∧ d ≤ 5 := by
    simp only [sgnd, List.mem_cons] at hd
    rcases hd with rfl | hd
    · have := sc_bd ds ds.length; omega
    · obtain ⟨k, _, rfl⟩ := fl_mem _ _ _ hd; exact sv_bd ds h k
  simp [this.1, this.2]
theorem rng_wide (a b a' b' : Int) (ds : List Int) (h : rng a b ds = true) (ha : a' ≤ a) (hb : b ≤ b') : rng a' b' ds = true :=
  rng_yes a' b' ds fun i hi => by have := rng_at a b ds h i hi; omega
/-- The borrow into place k of signed digits that are made plain. -/
def bw (ds : List Int) : Nat → Int
  | 0 => 0
  | k + 1 => if lo ds k - bw ds k < 0 then 1 else 0
/-- The plain digit at place k. -/
def pd (ds : List Int) (k : Nat) : Int := lo ds k - bw ds k + 10 * bw ds (k + 1)
/-- The plain digits. -/
def plain (ds : List Int) : List Int := fl (pd ds) ds.length
theorem plain_length (ds : List Int) : (plain ds).length = ds.length := fl_length _ _
theorem bw_bd (ds : List Int) (k : Nat) : 0 ≤ bw ds k ∧ bw ds k ≤ 1 := by
  cases k with
  | zero =>
    show (0 : Int) ≤ 0 ∧ (0 : Int) ≤ 1
    decide
  | succ k => unfold bw; split <;> decide
theorem pd_bd (ds : List Int) (h : rng (-9) 9 ds = true) (k : Nat) : 0 ≤ pd ds k ∧ pd ds k ≤ 9 := by
  have a := rng_lo (-9) 9 ds h (by decide) (by decide) k
  have b := bw_bd ds k
  unfold pd
  rw [show bw ds (k + 1) = if lo ds k - bw ds k < 0 then 1 else 0 from rfl]
  split <;> omega
theorem plain_dec (ds : List Int) (h : rng (-9) 9 ds = true) : Dec (plain ds) := fun d hd => by
  obtain ⟨k, _, rfl⟩ := fl_mem _ _ _ hd; exact pd_bd ds h k
theorem pd_pv (ds : List Int) (k : Nat) : pv (pd ds) k = pv (lo ds) k + 10 ^ k * bw ds k := by
  induction k with
  | zero => simp [pv, bw]
  | succ k ih =>
    simp only [pv, Int.pow_succ]
    have key : ∀ p A d : Int, (A + 10 * d) * p = A * p + p * 10 * d := fun p A d => by
      rw [Int.add_mul, Int.mul_assoc p, Int.mul_comm p]
    have e := key (10 ^ k) (lo ds k - bw ds k) (bw ds (k + 1))
    rw [Int.sub_mul, Int.mul_comm (bw ds k)] at e
    have e2 : pd ds k * 10 ^ k = (lo ds k - bw ds k + 10 * bw ds (k + 1)) * 10 ^ k := rfl
    omega
theorem plain_vl (ds : List Int) : vl (plain ds) = vl ds + 10 ^ ds.length * bw ds ds.length := by
  unfold plain
  rw [vl_fl, pd_pv, pv_lo ds _ (Nat.le_refl _)]
/-- Digits 0 to 9, as many, that stand for the same are the same. -/
theorem vl_unique (a b : List Int) (ha : Dec a) (hb : Dec b) (hl : a.length = b.length) (h : vl a = vl b) : a = b := by
  have e := lv_unique a.reverse b.reverse (dec_rev a ha) (dec_rev b hb) (by simpa using hl) h
  rw [← List.reverse_reverse a, e, List.reverse_reverse]
theorem plain_yes (ds : List Int) (h : rng (-9) 9 ds = true) (h0 : 0 ≤ vl ds) (p : List Int) (hp : Dec p) (hl : p.length = ds.length) (hv : vl p = vl ds) : bw ds ds.length = 0 ∧ plain ds = p := by
  have v := plain_vl ds
  have b := bw_bd ds ds.length
  have d := vl_bd _ (plain_dec ds h)
  rw [plain_length] at d
  have hb : bw ds ds.length = 0 := by
    rcases (show bw ds ds.length = 0 ∨ bw ds ds.length = 1 by omega) with e | e
    · exact e
    · rw [e, Int.mul_one] at v; omega
  refine ⟨hb, vl_unique _ _ (plain_dec ds h) hp (by rw [plain_length, hl]) ?_⟩
  rw [v, hb, Int.mul_zero, Int.add_zero, hv]
/-- Signed digits made plain are the digits, a nought ahead. -/
theorem plain_sgnd (ds : List Int) (h : rng 0 9 ds = true) : bw (sgnd ds) (sgnd ds).length = 0 ∧ plain (sgnd ds) = 0 :: ds := by
  have hd := rng_dec ds h
  have hv0 := (vl_bd ds hd).1
  refine plain_yes (sgnd ds) (rng_wide _ _ _ _ _ (sgnd_rng ds h) (by decide) (by decide)) (by rw [sgnd_vl]; exact hv0) (0 :: ds) ?_ (by simp [sgnd_length]) ?_
  · intro d hd'
    rcases List.mem_cons.1 hd' with rfl | hd'
    · exact ⟨by decide, by decide⟩
    · exact hd d hd'
  · rw [sgnd_vl, vl_cons, Int.mul_zero, Int.add_zero]
/-- The two registers when k digits have come. -/
def reg (ds : List Int) : Nat → List Int × List Int
  | 0 => ([], [])
  | k + 1 => (if 0 ≤ ds.getD k 0 then (reg ds k).1 ++ [ds.getD k 0] else (reg ds k).2 ++ [10 + ds.getD k 0], if 0 < ds.getD k 0 then (reg ds k).1 ++ [ds.getD k 0 - 1] else (reg ds k).2 ++ [9 + ds.getD k 0])
theorem reg_length (ds : List Int) (k : Nat) : (reg ds k).1.length = k ∧ (reg ds k).2.length = k := by
  induction k with
  | zero => exact ⟨rfl, rfl⟩
  | succ k ih =>
    simp only [reg]
    constructor
    · split <;> simp [ih.1, ih.2]
    · split <;> simp [ih.1, ih.2]
theorem dec_snoc (a : List Int) (d : Int) (h : Dec a) (h0 : 0 ≤ d) (h9 : d ≤ 9) : Dec (a ++ [d]) := fun x hx => by
  rcases List.mem_append.1 hx with hx | hx
  · exact h x hx
  · rw [List.mem_singleton] at hx; rw [hx]; exact ⟨h0, h9⟩
theorem reg_vl (ds : List Int) (h : rng (-9) 9 ds = true) (k : Nat) (hk : k ≤ ds.length) :
    Dec (reg ds k).1 ∧ Dec (reg ds k).2 ∧ (∃ e, vl (reg ds k).1 = vl (ds.take k) + e * 10 ^ k) ∧ (∃ e, vl (reg ds k).2 = vl (ds.take k) - 1 + e * 10 ^ k) := by
  induction k with
  | zero => exact ⟨fun d hd => by simp [reg] at hd, fun d hd => by simp [reg] at hd, ⟨0, rfl⟩, ⟨1, rfl⟩⟩
  | succ k ih =>
    obtain ⟨dq, dm, ⟨e, eq⟩, ⟨f, em⟩⟩ := ih (by omega)
    have b := rng_at _ _ ds h k (by omega)
    have t : vl (ds.take (k + 1)) = vl (ds.take k) * 10 + ds.getD k 0 := by
      rw [List.take_succ_eq_append_getElem (by omega), vl_snoc]
      simp [List.getD, show k < ds.length by omega]
    have pw : ∀ g : Int, g * 10 ^ (k + 1) = g * 10 ^ k * 10 := fun g => by rw [Int.pow_succ, Int.mul_assoc]
    simp only [reg]
    refine ⟨?_, ?_, ?_, ?_⟩
    · split
      · exact dec_snoc _ _ dq (by omega) (by omega)
      · exact dec_snoc _ _ dm (by omega) (by omega)
    · split
      · exact dec_snoc _ _ dq (by omega) (by omega)
      · exact dec_snoc _ _ dm (by omega) (by omega)
    · split
      · exact ⟨e, by rw [vl_snoc, eq, t, pw]; omega⟩
      · exact ⟨f, by rw [vl_snoc, em, t, pw]; omega⟩
    · split
      · exact ⟨e, by rw [vl_snoc, eq, t, pw]; omega⟩
      · exact ⟨f, by rw [vl_snoc, em, t, pw]; omega⟩
/-- The first register of digits that stand for no less than nought is the digits made plain. -/
theorem reg_plain (ds : List Int) (h : rng (-9) 9 ds = true) (h0 : bw ds ds.length = 0) : (reg ds ds.length).1 = plain ds := by
  obtain ⟨dq, _, ⟨e, eq⟩, _⟩ := reg_vl ds h ds.length (Nat.le_refl _)
  rw [List.take_length] at eq
  have v := plain_vl ds
  rw [h0, Int.mul_zero, Int.add_zero] at v
  have p := vl_bd _ (plain_dec ds h)
  have q := vl_bd _ dq
  rw [plain_length] at p
  rw [(reg_length ds _).1] at q
  refine vl_unique _ _ dq (plain_dec ds h) (by rw [(reg_length ds _).1, plain_length]) ?_
  have he : e = 0 := by
    rcases (show e ≤ -1 ∨ e = 0 ∨ 1 ≤ e by omega) with he | he | he
    · have := Int.mul_le_mul_of_nonneg_right he (show (0 : Int) ≤ 10 ^ ds.length from Int.le_of_lt (Int.pow_pos (by decide)))
      omega
    · exact he
    · have := Int.mul_le_mul_of_nonneg_right he (show (0 : Int) ≤ 10 ^ ds.length from Int.le_of_lt (Int.pow_pos (by decide)))
      omega
  rw [eq, he, v]; simp
end Go.Proofs.YtmeicjbeibmmganDoor
