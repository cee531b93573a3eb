/-
  What signed digits stand for, by the model and by the program, walked.
-/
import Derived.Test.YtmjkpjmccdjkjadDoorDclM
import Derived.Test.YtmjkpjmccdjkjadDoorSl
import Derived.Test.YtmjkpjmccdjkjadDoorIn
namespace Go.Proofs.YtmjkpjmccdjkjadDoor
set_option linter.unusedVariables false
set_option maxRecDepth 100000
/-- The list of f's first n numbers, the first of them last. -/
def fl (f : Nat → Int) : Nat → List Int
  | 0 => []
  | k + 1 => f k :: fl f k
theorem fl_length (f : Nat → Int) (n : Nat) : (fl f n).length = n := by
  induction n with
  | zero => rfl
  | succ n ih => simp [fl, ih]
theorem fl_mem (f : Nat → Int) (n : Nat) (d : Int) (h : d ∈ fl f n) : ∃ k, k < n ∧ d = f k := by
  induction n with
  | zero => simp [fl] at h
  | succ n ih =>
    simp only [fl, List.mem_cons] at h
    rcases h with h | h
    · exact ⟨n, by omega, h⟩
    · obtain ⟨k, hk, e⟩ := ih h; exact ⟨k, by omega, e⟩
theorem vl_fl (f : Nat → Int) (n : Nat) : vl (fl f n) = pv f n := by
  induction n with
  | zero => rfl
  | succ n ih =>
    simp only [fl, pv]
    rw [vl_cons, ih, fl_length, Int.mul_comm]
/-- One place more from behind. -/
theorem set_low (m : Nat) (x : Int) (L : List Int) : (List.replicate (m + 1) 0 ++ L).set m x = List.replicate m 0 ++ x :: L := by
  induction m with
  | zero => rfl
  | succ m ih =>
    rw [List.replicate_succ, List.cons_append, List.set_cons_succ, ih]
    rfl
theorem lo_eq (ds : List Int) (k : Nat) (hk : k < ds.length) : ds.getD (ds.length - 1 - k) 0 = lo ds k := (lo_in ds k hk).symm
/-- Every number of ds lies from a to b. -/
def rng (a b : Int) (ds : List Int) : Bool := ds.all fun d => decide (a ≤ d) && decide (d ≤ b)
theorem rng_yes (a b : Int) (ds : List Int) (h : ∀ i, i < ds.length → a ≤ ds.getD i 0 ∧ ds.getD i 0 ≤ b) : rng a b ds = true := by
  unfold rng
  rw [List.all_eq_true]
  intro d hd
  obtain ⟨i, hi, e⟩ := List.getElem_of_mem hd
  have := h i hi
  rw [List.getD, List.getElem?_eq_getElem hi] at this
  simp only [Option.getD_some] at this
  rw [e] at this
  simp [this.1, this.2]
theorem rng_at (a b : Int) (ds : List Int) (h : rng a b ds = true) (i : Nat) (hi : i < ds.length) : a ≤ ds.getD i 0 ∧ ds.getD i 0 ≤ b := by
  unfold rng at h
  rw [List.all_eq_true] at h
  have := h _ (List.getElem_mem hi)
  rw [List.getD, List.getElem?_eq_getElem hi]
  simpa using this
theorem rng_no (a b : Int) (ds : List Int) (i : Nat) (hi : i < ds.length) (h : ds.getD i 0 < a ∨ b < ds.getD i 0) : rng a b ds = false := by
  cases e : rng a b ds with
  | false => rfl
  | true => have := rng_at a b ds e i hi; omega
theorem rng_dec (ds : List Int) (h : rng 0 9 ds = true) : Dec ds := fun d hd => by
  unfold rng at h
  rw [List.all_eq_true] at h
  simpa using h d hd
theorem rng_lo (a b : Int) (ds : List Int) (h : rng a b ds = true) (h0 : a ≤ 0) (h1 : 0 ≤ b) (k : Nat) : a ≤ lo ds k ∧ lo ds k ≤ b := by
  by_cases hk : k < ds.length
  · rw [← lo_eq ds k hk]; exact rng_at a b ds h _ (by omega)
  · rw [lo_out ds k (by omega)]; exact ⟨h0, h1⟩
/-- The carry into place k of digits that are made signed. -/
def sc (ds : List Int) : Nat → Int
  | 0 => 0
  | k + 1 => if 6 ≤ lo ds k + sc ds k ∨ (lo ds k + sc ds k = 5 ∧ 5 ≤ lo ds (k + 1)) then 1 else 0
/-- The signed digit at place k. -/
def sv (ds : List Int) (k : Nat) : Int := lo ds k + sc ds k - 10 * sc ds (k + 1)
/-- The signed digits. -/
def sgnd (ds : List Int) : List Int := sc ds ds.length :: fl (sv ds) ds.length
theorem sgnd_length (ds : List Int) : (sgnd ds).length = ds.length + 1 := by simp [sgnd, fl_length]
theorem sc_bd (ds : List Int) (k : Nat) : 0 ≤ sc ds k ∧ sc ds k ≤ 1 := by
  cases k with
  | zero =>
    show (0 : Int) ≤ 0 ∧ (0 : Int) ≤ 1
    decide
  | succ k => unfold sc; split <;> decide
theorem sv_bd (ds : List Int) (h : rng 0 9 ds = true) (k : Nat) : -5 ≤ sv ds k ∧ sv ds k ≤ 5 := by
  have a := rng_lo 0 9 ds h (by decide) (by decide) k
  have b := sc_bd ds k
  have c := rng_lo 0 9 ds h (by decide) (by decide) (k + 1)
  unfold sv
  rw [show sc ds (k + 1) = if 6 ≤ lo ds k + sc ds k ∨ (lo ds k + sc ds k = 5 ∧ 5 ≤ lo ds (k + 1)) then 1 else 0 from rfl]
  split <;> omega
theorem sv_pv (ds : List Int) (k : Nat) : pv (sv ds) k + 10 ^ k * sc ds k = pv (lo ds) k := by
  induction k with
  | zero => simp [pv, sc]
  | succ k ih =>
    simp only [pv, Int.pow_succ]
    have key : ∀ p A c d : Int, A * p + p * 10 * d = (A + 10 * d) * p := fun p A c d => by
      rw [Int.add_mul, Int.mul_assoc p, Int.mul_comm p]
    have e := key (10 ^ k) (sv ds k) 0 (sc ds (k + 1))
    have e2 : sv ds k + 10 * sc ds (k + 1) = lo ds k + sc ds k := by unfold sv; omega
    rw [e2, Int.add_mul, Int.mul_comm (sc ds k)] at e
    omega
theorem sgnd_vl (ds : List Int) : vl (sgnd ds) = vl ds := by
  unfold sgnd
  rw [vl_cons, vl_fl, fl_length, sv_pv, pv_lo ds _ (Nat.le_refl _)]
theorem sgnd_rng (ds : List Int) (h : rng 0 9 ds = true) : rng (-5) 5 (sgnd ds) = true := by
  unfold rng
  rw [List.all_eq_true]
  intro d hd
  have : -5 ≤ d ∧ d ≤ 5 := by
    simp only [sgnd, List.mem_cons] at hd
    rcases hd with rfl | hd
    · have := sc_bd ds ds.length; omega
    · obtain ⟨k, _, rfl⟩ := fl_mem _ _ _ hd; exact sv_bd ds h k
  simp [this.1, this.2]
theorem rng_wide (a b a' b' : Int) (ds : List Int) (h : rng a b ds = true) (ha : a' ≤ a) (hb : b ≤ b') : rng a' b' ds = true :=
  rng_yes a' b' ds fun i hi => by have := rng_at a b ds h i hi; omega
/-- The borrow into place k of signed digits that are made plain. -/
def bw (ds : List Int) : Nat → Int
  | 0 => 0
  | k + 1 => if lo ds k - bw ds k < 0 then 1 else 0
/-- The plain digit at place k. -/
def pd (ds : List Int) (k : Nat) : Int := lo ds k - bw ds k + 10 * bw ds (k + 1)
/-- The plain digits. -/
def plain (ds : List Int) : List Int := fl (pd ds) ds.length
theorem plain_length (ds : List Int) : (plain ds).length = ds.length := fl_length _ _
theorem bw_bd (ds : List Int) (k : Nat) : 0 ≤ bw ds k ∧ bw ds k ≤ 1 := by
  cases k with
  | zero =>
    show (0 : Int) ≤ 0 ∧ (0 : Int) ≤ 1
    decide
  | succ k => unfold bw; split <;> decide
theorem pd_bd (ds : List Int) (h : rng (-9) 9 ds = true) (k : Nat) : 0 ≤ pd ds k ∧ pd ds k ≤ 9 := by
  have a := rng_lo (-9) 9 ds h (by decide) (by decide) k
  have b := bw_bd ds k
  unfold pd
  rw [show bw ds (k + 1) = if lo ds k - bw ds k < 0 then 1 else 0 from rfl]
  split <;> omega
theorem plain_dec (ds : List Int) (h : rng (-9) 9 ds = true) : Dec (plain ds) := fun d hd => by
  obtain ⟨k, _, rfl⟩ := fl_mem _ _ _ hd; exact pd_bd ds h k
theorem pd_pv (ds : List Int) (k : Nat) : pv (pd ds) k = pv (lo ds) k + 10 ^ k * bw ds k := by
  induction k with
  | zero => simp [pv, bw]
  | succ k ih =>
    simp only [pv, Int.pow_succ]
    have key : ∀ p A d : Int, (A + 10 * d) * p = A * p + p * 10 * d := fun p A d => by
      rw [Int.add_mul, Int.mul_assoc p, Int.mul_comm p]
    have e := key (10 ^ k) (lo ds k - bw ds k) (bw ds (k + 1))
    rw [Int.sub_mul, Int.mul_comm (bw ds k)] at e
    have e2 : pd ds k * 10 ^ k = (lo ds k - bw ds k + 10 * bw ds (k + 1)) * 10 ^ k := rfl
    omega
theorem plain_vl (ds : List Int) : vl (plain ds) = vl ds + 10 ^ ds.length * bw ds ds.length := by
  unfold plain
  rw [vl_fl, pd_pv, pv_lo ds _ (Nat.le_refl _)]
/-- Digits 0 to 9, as many, that stand for the same are the same. -/
theorem vl_unique (a b : List Int) (ha : Dec a) (hb : Dec b) (hl : a.length = b.length) (h : vl a = vl b) : a = b := by
  have e := lv_unique a.reverse b.reverse (dec_rev a ha) (dec_rev b hb) (by simpa using hl) h
  rw [← List.reverse_reverse a, e, List.reverse_reverse]
theorem plain_yes (ds : List Int) (h : rng (-9) 9 ds = true) (h0 : 0 ≤ vl ds) (p : List Int) (hp : Dec p) (hl : p.length = ds.length) (hv : vl p = vl ds) : bw ds ds.length = 0 ∧ plain ds = p := by
  have v := plain_vl ds
  have b := bw_bd ds ds.length
  have d := vl_bd _ (plain_dec ds h)
  rw [plain_length] at d
  have hb : bw ds ds.length = 0 := by
    rcases (show bw ds ds.length = 0 ∨ bw ds ds.length = 1 by omega) with e | e
    · exact e
    · rw [e, Int.mul_one] at v; omega
  refine ⟨hb, vl_unique _ _ (plain_dec ds h) hp (by rw [plain_length, hl]) ?_⟩
  rw [v, hb, Int.mul_zero, Int.add_zero, hv]
/-- Signed digits made plain are the digits, a nought ahead. -/
theorem plain_sgnd (ds : List Int) (h : rng 0 9 ds = true) : bw (sgnd ds) (sgnd ds).length = 0 ∧ plain (sgnd ds) = 0 :: ds := by
  have hd := rng_dec ds h
  have hv0 := (vl_bd ds hd).1
  refine plain_yes (sgnd ds) (rng_wide _ _ _ _ _ (sgnd_rng ds h) (by decide) (by decide)) (by rw [sgnd_vl]; exact hv0) (0 :: ds) ?_ (by simp [sgnd_length]) ?_
  · intro d hd'
    rcases List.mem_cons.1 hd' with rfl | hd'
    · exact ⟨by decide, by decide⟩
    · exact hd d hd'
  · rw [sgnd_vl, vl_cons, Int.mul_zero, Int.add_zero]
/-- The two registers when k digits have come. -/
def reg (ds : List Int) : Nat → List Int × List Int
  | 0 => ([], [])
  | k + 1 => (if 0 ≤ ds.getD k 0 then (reg ds k).1 ++ [ds.getD k 0] else (reg ds k).2 ++ [10 + ds.getD k 0], if 0 < ds.getD k 0 then (reg ds k).1 ++ [ds.getD k 0 - 1] else (reg ds k).2 ++ [9 + ds.getD k 0])
theorem reg_length (ds : List Int) (k : Nat) : (reg ds k).1.length = k ∧ (reg ds k).2.length = k := by
  induction k with
  | zero => exact ⟨rfl, rfl⟩
  | succ k ih =>
    simp only [reg]
    constructor
    · split <;> simp [ih.1, ih.2]
    · split <;> simp [ih.1, ih.2]
theorem dec_snoc (a : List Int) (d : Int) (h : Dec a) (h0 : 0 ≤ d) (h9 : d ≤ 9) : Dec (a ++ [d]) := fun x hx => by
  rcases List.mem_append.1 hx with hx | hx
  · exact h x hx
  · rw [List.mem_singleton] at hx; rw [hx]; exact ⟨h0, h9⟩
theorem reg_vl (ds : List Int) (h : rng (-9) 9 ds = true) (k : Nat) (hk : k ≤ ds.length) :
    Dec (reg ds k).1 ∧ Dec (reg ds k).2 ∧ (∃ e, vl (reg ds k).1 = vl (ds.take k) + e * 10 ^ k) ∧ (∃ e, vl (reg ds k).2 = vl (ds.take k) - 1 + e * 10 ^ k) := by
  induction k with
  | zero => exact ⟨fun d hd => by simp [reg] at hd, fun d hd => by simp [reg] at hd, ⟨0, rfl⟩, ⟨1, rfl⟩⟩
  | succ k ih =>
    obtain ⟨dq, dm, ⟨e, eq⟩, ⟨f, em⟩⟩ := ih (by omega)
    have b := rng_at _ _ ds h k (by omega)
    have t : vl (ds.take (k + 1)) = vl (ds.take k) * 10 + ds.getD k 0 := by
      rw [List.take_succ_eq_append_getElem (by omega), vl_snoc]
      simp [List.getD, show k < ds.length by omega]
    have pw : ∀ g : Int, g * 10 ^ (k + 1) = g * 10 ^ k * 10 := fun g => by rw [Int.pow_succ, Int.mul_assoc]
    simp only [reg]
    refine ⟨?_, ?_, ?_, ?_⟩
    · split
      · exact dec_snoc _ _ dq (by omega) (by omega)
      · exact dec_snoc _ _ dm (by omega) (by omega)
    · split
      · exact dec_snoc _ _ dq (by omega) (by omega)
      · exact dec_snoc _ _ dm (by omega) (by omega)
    · split
      · exact ⟨e, by rw [vl_snoc, eq, t, pw]; omega⟩
      · exact ⟨f, by rw [vl_snoc, em, t, pw]; omega⟩
    · split
      · exact ⟨e, by rw [vl_snoc, eq, t, pw]; omega⟩
      · exact ⟨f, by rw [vl_snoc, em, t, pw]; omega⟩
/-- The first register of digits that stand for no less than nought is the digits made plain. -/
theorem reg_plain (ds : List Int) (h : rng (-9) 9 ds = true) (h0 : bw ds ds.length = 0) : (reg ds ds.length).1 = plain ds := by
  obtain ⟨dq, _, ⟨e, eq⟩, _⟩ := reg_vl ds h ds.length (Nat.le_refl _)
  rw [List.take_length] at eq
  have v := plain_vl ds
  rw [h0, Int.mul_zero, Int.add_zero] at v
  have p := vl_bd _ (plain_dec ds h)
  have q := vl_bd _ dq
  rw [plain_length] at p
  rw [(reg_length ds _).1] at q
  refine vl_unique _ _ dq (plain_dec ds h) (by rw [(reg_length ds _).1, plain_length]) ?_
  have he : e = 0 := by
    rcases (show e ≤ -1 ∨ e = 0 ∨ 1 ≤ e by omega) with he | he | he
    · have := Int.mul_le_mul_of_nonneg_right he (show (0 : Int) ≤ 10 ^ ds.length from Int.le_of_lt (Int.pow_pos (by decide)))
      omega
    · exact he
    · have := Int.mul_le_mul_of_nonneg_right he (show (0 : Int) ≤ 10 ^ ds.length from Int.le_of_lt (Int.pow_pos (by decide)))
      omega
  rw [eq, he, v]; simp
end Go.Proofs.YtmjkpjmccdjkjadDoor
namespace Go.Proofs.YtmjkpjmccdjkjadDoor
set_option linter.unusedVariables false
set_option maxRecDepth 100000
theorem rng_cons (a b d : Int) (r : List Int) (h : rng a b (d :: r) = true) : a ≤ d ∧ d ≤ b ∧ rng a b r = true := by
  unfold rng at h ⊢
  simp only [List.all_cons, Bool.and_eq_true, decide_eq_true_eq] at h
  exact ⟨h.1.1, h.1.2, h.2⟩
theorem rng_take (a b : Int) (ds : List Int) (h : rng a b ds = true) (k : Nat) : rng a b (ds.take k) = true := by
  unfold rng at h ⊢
  rw [List.all_eq_true] at h ⊢
  exact fun d hd => h d (List.mem_of_mem_take hd)
/-- Signed digits stand for less than ten to their number, either way. -/
theorem vl_abs (ds : List Int) (h : rng (-9) 9 ds = true) : -(10 ^ ds.length) < vl ds ∧ vl ds < 10 ^ ds.length := by
  induction ds with
  | nil => exact ⟨by decide, by decide⟩
  | cons d r ih =>
    obtain ⟨a, b, c⟩ := rng_cons _ _ _ _ h
    have i := ih c
    rw [vl_cons, List.length_cons, Int.pow_succ]
    have hp : (0 : Int) ≤ 10 ^ r.length := Int.le_of_lt (Int.pow_pos (by decide))
    have u := Int.mul_le_mul_of_nonneg_left b hp
    have l := Int.mul_le_mul_of_nonneg_left a hp
    omega
/-- Whether digits stand for less than nought. -/
def ng (ds : List Int) : Bool := decide (vl ds < 0)
theorem ng_first (ds : List Int) (h : rng (-9) 9 ds = true) (i : Nat) (hi : i < ds.length) (hz : ∀ j, j < i → ds.getD j 0 = 0) (hd : ds.getD i 0 ≠ 0) : ng ds = decide (ds.getD i 0 < 0) := by
  induction ds generalizing i with
  | nil => simp at hi
  | cons d r ih =>
    obtain ⟨a, b, c⟩ := rng_cons _ _ _ _ h
    cases i with
    | zero =>
      have v := vl_abs r c
      have hp : (0 : Int) ≤ 10 ^ r.length := Int.le_of_lt (Int.pow_pos (by decide))
      have e0 : (d :: r).getD 0 0 = d := rfl
      rw [e0] at hd ⊢
      unfold ng
      rw [vl_cons]
      by_cases hn : d < 0
      · have u := Int.mul_le_mul_of_nonneg_left (show d ≤ -1 by omega) hp
        have : vl r + 10 ^ r.length * d < 0 := by omega
        simp [hn, this]
      · have u := Int.mul_le_mul_of_nonneg_left (show 1 ≤ d by omega) hp
        have : ¬ vl r + 10 ^ r.length * d < 0 := by omega
        simp [hn, this]
    | succ i =>
      have e0 : d = 0 := hz 0 (by omega)
      have e1 : ∀ j, (d :: r).getD (j + 1) 0 = r.getD j 0 := fun j => rfl
      rw [e1] at hd ⊢
      have := ih c i (by simpa using hi) (fun j hj => by rw [← e1 j]; exact hz (j + 1) (by omega)) hd
      rw [← this]
      unfold ng
      rw [vl_cons, e0, Int.mul_zero, Int.add_zero]
theorem ng_nought (ds : List Int) (hz : ∀ j, j < ds.length → ds.getD j 0 = 0) : ng ds = false := by
  have : vl ds = 0 := by
    induction ds with
    | nil => rfl
    | cons d r ih =>
      have e0 : d = 0 := hz 0 (by simp)
      rw [vl_cons, e0, Int.mul_zero, Int.add_zero]
      exact ih fun j hj => hz (j + 1) (by simpa using hj)
  unfold ng; rw [this]; rfl
theorem bw_ng (ds : List Int) (h : rng (-9) 9 ds = true) : bw ds ds.length = if ng ds then 1 else 0 := by
  have v := plain_vl ds
  have b := bw_bd ds ds.length
  have p := vl_bd _ (plain_dec ds h)
  rw [plain_length] at p
  have a := vl_abs ds h
  unfold ng
  rcases (show bw ds ds.length = 0 ∨ bw ds ds.length = 1 by omega) with e | e
  · rw [e, Int.mul_zero] at v
    have : ¬ vl ds < 0 := by omega
    simp [e, this]
  · rw [e, Int.mul_one] at v
    have : vl ds < 0 := by omega
    simp [e, this]
theorem reg_ng (ds : List Int) (h : rng (-9) 9 ds = true) (hn : ng ds = false) : (reg ds ds.length).1 = plain ds :=
  reg_plain ds h (by rw [bw_ng ds h, hn]; rfl)
/-- Numbers with noughts behind them, up to the length n. -/
def pad (A : List Int) (n : Nat) : List Int := A ++ List.replicate (n - A.length) 0
theorem pad_length (A : List Int) (n : Nat) (h : A.length ≤ n) : (pad A n).length = n := by simp [pad]; omega
theorem pad_set (A : List Int) (n k : Nat) (x : Int) (hk : A.length = k) (h : k < n) : (pad A n).set k x = pad (A ++ [x]) n := by
  subst hk
  unfold pad
  obtain ⟨m, hm⟩ : ∃ m, n - A.length = m + 1 := ⟨n - A.length - 1, by omega⟩
  have e : n - (A ++ [x]).length = m := by simp; omega
  rw [hm, e, List.set_append_right _ _ (Nat.le_refl _), Nat.sub_self, List.replicate_succ, List.set_cons_zero]
  simp
theorem pad_full (A : List Int) (n : Nat) (h : A.length = n) : pad A n = A := by simp [pad, h]
theorem pad_none (n : Nat) : pad [] n = List.replicate n 0 := by simp [pad]
theorem pad_at (A : List Int) (n i : Nat) (h : i < A.length) : (pad A n).getD i 0 = A.getD i 0 := by
  unfold pad
  simp [List.getD, List.getElem?_append_left h]
/-- The first register's next digit, and the other's. -/
theorem reg_up (ds : List Int) (k : Nat) (d : Int) (hd : d = ds.getD k 0) (h : 0 < d) : reg ds (k + 1) = ((reg ds k).1 ++ [d], (reg ds k).1 ++ [d - 1]) := by
  simp only [reg]; rw [← hd, if_pos (by omega), if_pos h]
theorem reg_same (ds : List Int) (k : Nat) (hd : 0 = ds.getD k 0) : reg ds (k + 1) = ((reg ds k).1 ++ [0], (reg ds k).2 ++ [9]) := by
  simp only [reg]; rw [← hd]; rfl
theorem reg_down (ds : List Int) (k : Nat) (d : Int) (hd : d = ds.getD k 0) (h : d < 0) : reg ds (k + 1) = ((reg ds k).2 ++ [10 + d], (reg ds k).2 ++ [9 + d]) := by
  simp only [reg]; rw [← hd, if_neg (by omega), if_neg (by omega)]
/-- Each number with its sign turned. -/
def negd (ds : List Int) : List Int := ds.map (- ·)
theorem negd_length (ds : List Int) : (negd ds).length = ds.length := by simp [negd]
theorem negd_take (ds : List Int) (k : Nat) (hk : k < ds.length) : negd (ds.take (k + 1)) = negd (ds.take k) ++ [- ds.getD k 0] := by
  unfold negd
  rw [List.take_succ_eq_append_getElem hk, List.map_append]
  simp [List.getD, hk]
theorem vl_take (ds : List Int) (k : Nat) (hk : k < ds.length) : vl (ds.take (k + 1)) = vl (ds.take k) * 10 + ds.getD k 0 := by
  rw [List.take_succ_eq_append_getElem hk, vl_snoc]
  simp [List.getD, hk]
theorem vl_take_bd (ds : List Int) (h : rng (-9) 9 ds = true) (k : Nat) (hk : k ≤ 17) : -100000000000000000 < vl (ds.take k) ∧ vl (ds.take k) < 100000000000000000 := by
  have a := vl_abs _ (rng_take _ _ ds h k)
  have b : (10 : Int) ^ (ds.take k).length ≤ 10 ^ 17 := pow_mono _ _ (by rw [List.length_take]; omega)
  have c : (10 : Int) ^ 17 = 100000000000000000 := by decide
  omega
end Go.Proofs.YtmjkpjmccdjkjadDoor
namespace Go.Proofs.YtmjkpjmccdjkjadDoor
open Go.RowKit
set_option linter.unusedVariables false
set_option maxRecDepth 100000
end Go.Proofs.YtmjkpjmccdjkjadDoor
namespace Go.Proofs.YtmjkpjmccdjkjadDoor
open Go.RowKit
set_option linter.unusedVariables false
set_option maxRecDepth 100000
/-- What the model takes for signed digits. -/
def l3 (ds : List Int) : Bool := decide (ds.length ≤ 41) && rng (-9) 9 ds
theorem l3_big (ds : List Int) (h : 41 < ds.length) : l3 ds = false := by
  unfold l3; rw [decide_eq_false (by omega)]; rfl
theorem l3_rng (ds : List Int) (h : ds.length ≤ 41) : l3 ds = rng (-9) 9 ds := by
  unfold l3; rw [decide_eq_true h]; rfl
theorem allWithin_any (v : Value) (ds : List Int) (a b : Int) (base : Nat) (w : World) (h : Has w base v ds) :
    Calls Tryd.prog 49 #[v, .int .i64 a, .int .i64 b] w fun e w' => e = .returned (.bool (rng a b ds)) ∧ w' = w := by
  rcases h.form with ⟨rfl, rfl⟩ | ⟨g, ca, rfl, hgb, hgl, hmx, hca, hfz⟩
  · clear h
    go_enter Tryd.func49, Tryd.ntmps49
    go_wp2
    go_loop [11] (fun i => i = .int .i64 0) (fun _ => 0)
    case atStart => rfl
    case round =>
      subst hrel
      go_wp2
      go_ret
      exact ⟨rfl, rfl⟩
  · have Hc : Hid (∀ i, i < ds.length → w.cell? ⟨g, i, none⟩ = some (.int .i64 (ds.getD i 0))) := hca
    have hN : Hid (∀ i, i < ds.length → (ds.getD i 0 < a ∨ b < ds.getD i 0) → rng a b ds = false) := fun i hi hx => rng_no a b ds i hi hx
    have hY : Hid ((∀ i, i < ds.length → a ≤ ds.getD i 0 ∧ ds.getD i 0 ≤ b) → rng a b ds = true) := rng_yes a b ds
    clear h hca hfz
    generalize rng a b ds = r at *
    go_enter Tryd.func49, Tryd.ntmps49
    go_wp2
    go_loop [11] (fun i => ∃ k : Nat, k ≤ ds.length ∧ i = .int .i64 k ∧ Hid (∀ j, j < k → a ≤ ds.getD j 0 ∧ ds.getD j 0 ≤ b)) (fun i => ds.length - (intOf i).toNat)
    case atStart => exact ⟨0, Nat.zero_le _, rfl, fun j hj => absurd hj (Nat.not_lt_zero j)⟩
    case round =>
      obtain ⟨k, hk, rfl, hz⟩ := hrel
      by_cases hlt : k < ds.length
      · have hc := Hc.out k hlt
        have hlt' : (k : Int) < (ds.length : Int) := by omega
        obtain ⟨d, hdd⟩ : ∃ d, d = ds.getD k 0 := ⟨_, rfl⟩
        rw [← hdd] at hc
        have Hd : Hid (d = ds.getD k 0) := hdd
        clear hdd
        by_cases h1 : d < a
        · go_wp2
          go_ret
          exact ⟨Ln.ret_bool (hN.out k hlt (by rw [← Hd.out]; exact .inl h1)).symm, rfl⟩
        · by_cases h2 : b < d
          · go_wp2
            go_ret
            exact ⟨Ln.ret_bool (hN.out k hlt (by rw [← Hd.out]; exact .inr h2)).symm, rfl⟩
          · go_wp2
            go_round
            case rel => exact ⟨k + 1, by omega, by go_num, fun j hj => by rcases Nat.lt_or_ge j k with h | h; exact hz.out j h; rw [show j = k by omega, ← Hd.out]; omega⟩
            case measure => simp [intOf]; omega
      · go_wp2
        go_ret
        exact ⟨Ln.ret_bool (hY.out (fun i hi => hz.out i (by omega))).symm, rfl⟩
theorem allSigned_any (v : Value) (ds : List Int) (base : Nat) (w : World) (h : Has w base v ds) :
    Calls Tryd.prog 57 #[v] w fun e w' => e = .returned (.bool (rng (-9) 9 ds)) ∧ w' = w := by
  have H : Hid (Has w base v ds) := h
  clear h
  go_enter Tryd.func57, Tryd.ntmps57
  go_wp2_with fail
  refine (allWithin_any v ds (-9) 9 base _ H.out).mono ?_
  rintro e w' ⟨rfl, rfl⟩
  go_wp2
  go_ret
  exact ⟨rfl, rfl⟩
end Go.Proofs.YtmjkpjmccdjkjadDoor
namespace Go.Proofs.YtmjkpjmccdjkjadDoor
open Go.RowKit
set_option linter.unusedVariables false
set_option maxRecDepth 100000
/-- What Weight takes. -/
def wok (ds : List Int) : Bool := decide (ds.length ≤ 18) && rng (-9) 9 ds
/-- What Weight gives. -/
def wgt (ds : List Int) : Int := if wok ds then vl ds else 0
theorem wok_big (ds : List Int) (h : 18 < ds.length) : wok ds = false := by
  unfold wok; rw [decide_eq_false (by omega)]; rfl
theorem wok_rng (ds : List Int) (h : ds.length ≤ 18) : wok ds = rng (-9) 9 ds := by
  unfold wok; rw [decide_eq_true h]; rfl
theorem iWeight_any (v : Value) (ds : List Int) (base : Nat) (w : World) (h : Has w base v ds) :
    Calls Tryd.prog 50 #[v] w fun e w' => e = .returned (.tuple #[.int .i64 (wgt ds), .bool (wok ds)]) ∧ w' = w := by
  obtain ⟨a, ca, rfl, hm⟩ := h.len
  have H : Hid (Has w base (.slice a ds.length ca) ds) := h
  by_cases h2 : 18 < ds.length
  · have h2' : (18 : Int) < (ds.length : Int) := by omega
    have HK : Hid (wok ds = false) := wok_big ds h2
    have He : Hid (wgt ds = 0) := by show _ = _; unfold wgt; rw [HK.out]; rfl
    clear h
    go_enter Tryd.func50, Tryd.ntmps50
    go_wp2
    go_ret2
    exact ⟨by rw [HK.out, He.out]; rfl, rfl⟩
  have h2' : ¬ (18 : Int) < (ds.length : Int) := by omega
  cases hr : rng (-9) 9 ds with
  | false =>
    have Hr : Hid (rng (-9) 9 ds = false) := hr
    have HK : Hid (wok ds = false) := by show _ = _; rw [wok_rng ds (by omega)]; exact hr
    have He : Hid (wgt ds = 0) := by show _ = _; unfold wgt; rw [HK.out]; rfl
    have HL : Hid (l3 ds = rng (-9) 9 ds) := l3_rng ds (by omega)
    clear hr h
    go_enter Tryd.func50, Tryd.ntmps50
    go_wp2_with fail
    refine (allSigned_any _ ds base _ H.out).mono ?_
    rintro e w' ⟨rfl, hw⟩
    obtain rfl := hw.symm
    rw [Hr.out]
    go_wp2
    go_ret2
    exact ⟨by rw [HK.out, He.out]; rfl, rfl⟩
  | true =>
    have Hr : Hid (rng (-9) 9 ds = true) := hr
    have HK : Hid (wok ds = true) := by show _ = _; rw [wok_rng ds (by omega)]; exact hr
    have He : Hid (wgt ds = vl ds) := by show _ = _; unfold wgt; rw [HK.out]; rfl
    have HL : Hid (l3 ds = rng (-9) 9 ds) := l3_rng ds (by omega)
    have Hds : Hid (∀ i, i < ds.length → ∃ g, a = some ⟨g, 0, none⟩ ∧ g < w.heap.size ∧ w.cell? ⟨g, i, none⟩ = some (.int .i64 (ds.getD i 0))) := fun i hi => by
      rcases h.form with ⟨-, e⟩ | ⟨g, cap, e, -, hg, -, hc, -⟩
      · rw [e] at hi; simp at hi
      · exact ⟨g, by cases e; rfl, hg, hc i hi⟩
    have Hall : Hid (vl (ds.take ds.length) = vl ds) := by show _ = _; rw [List.take_length]
    have Hnx : Hid (∀ k, k < ds.length → vl (ds.take (k + 1)) = vl (ds.take k) * 10 + ds.getD k 0) := vl_take ds
    have Hbd : Hid (∀ k, k ≤ 17 → -100000000000000000 < vl (ds.take k) ∧ vl (ds.take k) < 100000000000000000) := vl_take_bd ds hr
    clear hr h
    generalize hn : ds.length = n at *
    go_enter Tryd.func50, Tryd.ntmps50
    go_wp2_with fail
    refine (allSigned_any _ ds base _ H.out).mono ?_
    rintro e w' ⟨rfl, hw⟩
    obtain rfl := hw.symm
    rw [Hr.out]
    go_wp2
    go_loop [4, 17] (fun s i => ∃ k : Nat, k ≤ n ∧ i = .int .i64 k ∧ s = .int .i64 (vl (ds.take k))) (fun _ i => n - (intOf i).toNat)
    case atStart => exact ⟨0, Nat.zero_le _, rfl, by simp [vl, lv]⟩
    case round =>
      obtain ⟨k, hk, rfl, rfl⟩ := hrel
      by_cases hlt : k < n
      · have hlt' : (k : Int) < (n : Int) := by omega
        obtain ⟨g, rfl, hg, hc⟩ := Hds.out k hlt
        have hb := Hbd.out k (by omega)
        have hdb := rng_at _ _ ds Hr.out k (by omega)
        have Hfin : Hid (∃ q : Nat, q ≤ n ∧ Value.int .i64 ((k : Int) + 1) = .int .i64 q ∧ Value.int .i64 (vl (ds.take k) * 10 + ds.getD k 0) = .int .i64 (vl (ds.take q))) := ⟨k + 1, by omega, by go_num, by rw [Hnx.out k hlt]⟩
        generalize vl (ds.take k) = N at *
        generalize ds.getD k 0 = d at *
        go_wp2
        go_round
        case rel => exact Hfin.out
        case measure => simp [intOf]; omega
      · obtain rfl : k = n := by omega
        rw [Hall.out]
        go_wp2
        go_ret2
        exact ⟨by rw [HK.out, He.out]; rfl, rfl⟩
end Go.Proofs.YtmjkpjmccdjkjadDoor
