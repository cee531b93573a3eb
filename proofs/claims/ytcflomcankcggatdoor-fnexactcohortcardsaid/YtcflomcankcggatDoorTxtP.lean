/-
  Plain facts on the product of two decimal texts, digit by digit.
-/
import Derived.Test.YtcflomcankcggatDoorNtM
import Derived.Test.YtcflomcankcggatDoorSl
namespace Go.Proofs.YtcflomcankcggatDoor
open Go.RowKit
set_option linter.unusedVariables false
set_option maxRecDepth 100000

theorem one_new (w : World) (x : Value) (T : TypeId) : ∀ j u, ([x] : List Value)[j]? = some u → (w.alloc (.cells #[x] T)).cell? ((⟨w.heap.size, 0, none⟩ : Addr).add j) = some u := by
  intro j u hu
  match j, hu with
  | 0, hu => simp at hu; subst hu; simp [Addr.add]
theorem one_cell (k : IntKind) (n : Int) : ∀ u ∈ ([.int k n] : List Value), u.oneCell' = true := by
  intro u hu; simp at hu; subst hu; rfl
end Go.Proofs.YtcflomcankcggatDoor
namespace Go.Proofs.YtcflomcankcggatDoor
open Go.RowKit
set_option linter.unusedVariables false
set_option maxRecDepth 100000

/-- A byte of a digit, as a text. -/
theorem conv_one (d : Int) (W : World) : ∀ dst, Tryd.prog.underlying dst = some .string → (convert 49 dst (.slice (some ⟨W.heap.size, 0, none⟩) 1 1)).run Tryd.prog (W.alloc (.cells #[.int .u8 (48 + d)] 5)) = .ok (.string (tx [d])) (W.alloc (.cells #[.int .u8 (48 + d)] 5)) :=
  run_convert_bytes_arg (P := Tryd.prog) _ 49 5 Tryd.underlying49 Tryd.underlying5 W.heap.size 0 1 1 [48 + d] rfl (fun i hi => by
    match i, hi with
    | 0, _ => simp)
end Go.Proofs.YtcflomcankcggatDoor
namespace Go.Proofs.YtcflomcankcggatDoor
set_option linter.unusedVariables false
set_option maxRecDepth 100000
theorem vl_append (a b : List Int) : vl (a ++ b) = vl b + 10 ^ b.length * vl a := by
  unfold vl; rw [List.reverse_append, lv_append, List.length_reverse]
theorem dec_drop (a : List Int) (h : Dec a) (k : Nat) : Dec (a.drop k) := fun d hd => h d (List.mem_of_mem_drop hd)
theorem vl_at (a : List Int) (k : Nat) (hk : k < a.length) : vl a = vl (a.drop (k + 1)) + 10 ^ (a.length - (k + 1)) * a.getD k 0 + 10 ^ (a.length - k) * vl (a.take k) := by
  have e : a.drop k = a.getD k 0 :: a.drop (k + 1) := by
    rw [List.drop_eq_getElem_cons hk]; simp [List.getD, hk]
  have h : vl (a.take k ++ a.drop k) = vl a := by rw [List.take_append_drop]
  rw [vl_append, List.length_drop, e, vl_cons, List.length_drop] at h
  exact h.symm
theorem take_same (a b : List Int) (k : Nat) (hl : a.length = b.length) (hp : ∀ j, j < k → a.getD j 0 = b.getD j 0) : a.take k = b.take k := by
  apply List.ext_getElem?
  intro i
  by_cases hi : i < k
  · rw [List.getElem?_take_of_lt hi, List.getElem?_take_of_lt hi]
    by_cases ha : i < a.length
    · have := hp i hi
      rw [List.getD, List.getD, List.getElem?_eq_getElem ha, List.getElem?_eq_getElem (by omega)] at this
      rw [List.getElem?_eq_getElem ha, List.getElem?_eq_getElem (by omega)]
      simpa using this
    · rw [List.getElem?_eq_none (by omega), List.getElem?_eq_none (by omega)]
  · rw [List.getElem?_eq_none (by simp; omega), List.getElem?_eq_none (by simp; omega)]
/-- Two texts of one length, the first digit in which they differ. -/
theorem vl_less (a b : List Int) (ha : Dec a) (hb : Dec b) (hl : a.length = b.length) (k : Nat) (hk : k < a.length) (hp : ∀ j, j < k → a.getD j 0 = b.getD j 0) (hx : a.getD k 0 < b.getD k 0) : vl a < vl b := by
  have x := vl_at a k hk
  have y := vl_at b k (by omega)
  have t := take_same a b k hl hp
  have p := vl_bd _ (dec_drop a ha (k + 1))
  have q := vl_bd _ (dec_drop b hb (k + 1))
  rw [List.length_drop] at p q
  rw [← hl, ← t] at y
  rw [← hl] at q
  have m : 10 ^ (a.length - (k + 1)) * (a.getD k 0 + 1) ≤ 10 ^ (a.length - (k + 1)) * b.getD k 0 :=
    Int.mul_le_mul_of_nonneg_left (by omega) (Int.le_of_lt (Int.pow_pos (by decide)))
  rw [Int.mul_add, Int.mul_one] at m
  omega
theorem vl_short (a b : List Int) (ha : Canon a) (hb : Canon b) (hl : a.length < b.length) : vl a < vl b := by
  have p := (vl_bd a ha.1).2
  have hp := ha.2.1
  have q := canon_low b hb (by omega)
  have m := pow_mono a.length (b.length - 1) (by omega)
  omega
theorem vl_even (a b : List Int) (hl : a.length = b.length) (hp : ∀ j, j < a.length → a.getD j 0 = b.getD j 0) : a = b := by
  have := take_same a b a.length hl hp
  rwa [List.take_length, hl, List.take_length] at this
/-- -1, 0 or 1. -/
def cmpI (x y : Int) : Int := if x < y then -1 else if y < x then 1 else 0
theorem cmpI_lt (x y : Int) (h : x < y) : cmpI x y = -1 := by unfold cmpI; rw [if_pos h]
theorem cmpI_gt (x y : Int) (h : y < x) : cmpI x y = 1 := by unfold cmpI; rw [if_neg (by omega), if_pos h]
theorem cmpI_eq (x : Int) : cmpI x x = 0 := by unfold cmpI; simp
/-- The borrow into place k of a less b. -/
def sbw (a b : List Int) : Nat → Int
  | 0 => 0
  | k + 1 => if lo a k - lo b k - sbw a b k < 0 then 1 else 0
/-- The digit at place k of a less b. -/
def sdg (a b : List Int) (k : Nat) : Int := lo a k - lo b k - sbw a b k + 10 * sbw a b (k + 1)
theorem sbw_bd (a b : List Int) (k : Nat) : 0 ≤ sbw a b k ∧ sbw a b k ≤ 1 := by
  cases k with
  | zero =>
    show (0 : Int) ≤ 0 ∧ (0 : Int) ≤ 1
    decide
  | succ k => unfold sbw; split <;> decide
theorem sdg_bd (a b : List Int) (ha : Dec a) (hb : Dec b) (k : Nat) : 0 ≤ sdg a b k ∧ sdg a b k ≤ 9 := by
  have x := lo_bd a ha k
  have y := lo_bd b hb k
  have z := sbw_bd a b k
  unfold sdg
  rw [show sbw a b (k + 1) = if lo a k - lo b k - sbw a b k < 0 then 1 else 0 from rfl]
  split <;> omega
theorem sdg_pv (a b : List Int) (k : Nat) : pv (sdg a b) k = pv (lo a) k - pv (lo b) k + 10 ^ k * sbw a b k := by
  induction k with
  | zero => simp [pv, sbw]
  | succ k ih =>
    simp only [pv, Int.pow_succ]
    have key : ∀ p A B C D : Int, (A - B - C + 10 * D) * p = A * p - B * p - p * C + p * 10 * D := fun p A B C D => by
      rw [Int.add_mul, Int.sub_mul, Int.sub_mul, Int.mul_assoc p, Int.mul_comm p, Int.mul_comm p]
    have e := key (10 ^ k) (lo a k) (lo b k) (sbw a b k) (sbw a b (k + 1))
    have e2 : sdg a b k * 10 ^ k = (lo a k - lo b k - sbw a b k + 10 * sbw a b (k + 1)) * 10 ^ k := rfl
    omega
/-- The digits from the last on. -/
def ups (f : Nat → Int) : Nat → List Int
  | 0 => []
  | k + 1 => ups f k ++ [f k]
theorem ups_length (f : Nat → Int) (k : Nat) : (ups f k).length = k := by
  induction k with
  | zero => rfl
  | succ k ih => simp [ups, ih]
theorem ups_mem (f : Nat → Int) (k : Nat) (d : Int) (h : d ∈ ups f k) : ∃ i, i < k ∧ d = f i := by
  induction k with
  | zero => simp [ups] at h
  | succ k ih =>
    rcases List.mem_append.1 h with h | h
    · obtain ⟨i, hi, e⟩ := ih h; exact ⟨i, by omega, e⟩
    · exact ⟨k, by omega, by simpa using h⟩
theorem lv_ups (f : Nat → Int) (k : Nat) : lv (ups f k) = pv f k := by
  induction k with
  | zero => rfl
  | succ k ih =>
    simp only [ups, pv]
    rw [lv_append, ih, ups_length]
    simp [lv, Int.mul_comm]
/-- a less b, where a is no less. -/
theorem sub_all (a b : List Int) (ha : Dec a) (hb : Dec b) (h : vl b ≤ vl a) (hl : b.length ≤ a.length) : lv (ups (sdg a b) a.length) = vl a - vl b ∧ Dec (ups (sdg a b) a.length) := by
  have d : Dec (ups (sdg a b) a.length) := fun x hx => by
    obtain ⟨i, _, rfl⟩ := ups_mem _ _ _ hx; exact sdg_bd a b ha hb i
  refine ⟨?_, d⟩
  have e := sdg_pv a b a.length
  rw [pv_lo a _ (Nat.le_refl _), pv_lo b _ hl] at e
  have p := lv_bd _ d
  rw [lv_ups, ups_length] at p
  have z := sbw_bd a b a.length
  have q := vl_bd a ha
  have r := vl_bd b hb
  rw [lv_ups]
  rcases (show sbw a b a.length = 0 ∨ sbw a b a.length = 1 by omega) with s | s
  · rw [s, Int.mul_zero, Int.add_zero] at e; exact e
  · rw [s, Int.mul_one] at e; omega
end Go.Proofs.YtcflomcankcggatDoor
namespace Go.Proofs.YtcflomcankcggatDoor
set_option linter.unusedVariables false
set_option maxRecDepth 100000
theorem lv_set (D : List Int) (p : Nat) (v : Int) (hp : p < D.length) : lv (D.set p v) = lv D + (v - D.getD p 0) * 10 ^ p := by
  induction D generalizing p with
  | nil => simp at hp
  | cons d r ih =>
    cases p with
    | zero => simp [lv]; omega
    | succ p =>
      have h := ih p (by simpa using hp)
      simp only [List.set_cons_succ, lv, List.getD_cons_succ]
      rw [h, Int.pow_succ, ← Int.mul_assoc, Int.mul_add]
      omega
theorem getD_set (D : List Int) (p q : Nat) (v : Int) (hp : p < D.length) : (D.set p v).getD q 0 = if q = p then v else D.getD q 0 := by
  simp only [List.getD, List.getElem?_set]
  by_cases h : p = q
  · subst h; simp [hp]
  · rw [if_neg h, if_neg (fun e => h e.symm)]
theorem dec_set (D : List Int) (p : Nat) (v : Int) (h : Dec D) (h0 : 0 ≤ v) (h9 : v ≤ 9) : Dec (D.set p v) := fun d hd => by
  rcases List.mem_or_eq_of_mem_set hd with hd | hd
  · exact h d hd
  · rw [hd]; exact ⟨h0, h9⟩
/-- What is told of the row while a's digit i is multiplied, k digits of b done, c carried. -/
def MI (a b : List Int) (i k : Nat) (D : List Int) (c : Int) : Prop :=
  D.length = a.length + b.length ∧ Dec D ∧ (∀ p, i + b.length + 1 ≤ p → D.getD p 0 = 0) ∧ (k ≤ b.length → D.getD (i + b.length) 0 = 0) ∧
  lv D + c * 10 ^ (i + k) = pv (lo a) i * vl b + lo a i * 10 ^ i * pv (lo b) k
/-- What is told of the row when i digits of a are done. -/
def MO (a b : List Int) (i : Nat) (D : List Int) : Prop :=
  D.length = a.length + b.length ∧ Dec D ∧ (∀ p, i + b.length ≤ p → D.getD p 0 = 0) ∧ lv D = pv (lo a) i * vl b
theorem MO_start (a b : List Int) : MO a b 0 (List.replicate (a.length + b.length) 0) := by
  have e : ∀ n, lv (List.replicate n 0) = 0 := fun n => by
    induction n with
    | zero => rfl
    | succ n ih => simp [List.replicate_succ, lv, ih]
  refine ⟨by simp, fun d hd => ?_, fun p _ => ?_, ?_⟩
  · have := (List.mem_replicate.1 hd).2; omega
  · simp only [List.getD, List.getElem?_replicate]; split <;> rfl
  · rw [e]; simp [pv]
theorem MO_row {a b : List Int} {i : Nat} {D : List Int} (h : MO a b i D) : MI a b i 0 D 0 := by
  obtain ⟨h1, h2, h3, h4⟩ := h
  exact ⟨h1, h2, fun p hp => h3 p (by omega), fun _ => h3 _ (Nat.le_refl _), by rw [h4]; simp [pv]⟩
theorem MI_step {a b : List Int} {i k : Nat} {D : List Int} {c : Int} (h : MI a b i k D c) (ha : Dec a) (hb : Dec b) (hi : i < a.length) (hk : k ≤ b.length) (c0 : 0 ≤ c) (c9 : c ≤ 9) :
    MI a b i (k + 1) (D.set (i + k) ((D.getD (i + k) 0 + lo a i * lo b k + c) % 10)) ((D.getD (i + k) 0 + lo a i * lo b k + c) / 10) ∧
    (0 ≤ (D.getD (i + k) 0 + lo a i * lo b k + c) / 10 ∧ (D.getD (i + k) 0 + lo a i * lo b k + c) / 10 ≤ 9) ∧ (k = b.length → (D.getD (i + k) 0 + lo a i * lo b k + c) / 10 = 0) ∧
    (0 ≤ D.getD (i + k) 0 ∧ D.getD (i + k) 0 ≤ 9) ∧ (0 ≤ lo a i * lo b k ∧ lo a i * lo b k ≤ 81) := by
  obtain ⟨h1, h2, h3, h4, h5⟩ := h
  have x := lo_bd a ha i
  have z := lo_bd b hb k
  have y := dec_at D h2 (i + k)
  have m : 0 ≤ lo a i * lo b k ∧ lo a i * lo b k ≤ 81 := by
    have h := Int.mul_nonneg x.1 z.1
    have g := Int.mul_le_mul x.2 z.2 z.1 (by decide)
    omega
  have hp : i + k < D.length := by omega
  refine ⟨⟨by rw [List.length_set, h1], dec_set _ _ _ h2 (by omega) (by omega), fun p hp' => ?_, fun hk' => ?_, ?_⟩, by omega, fun hkb => ?_, y, m⟩
  · rw [getD_set _ _ _ _ hp, if_neg (by omega)]; exact h3 p hp'
  · rw [getD_set _ _ _ _ hp, if_neg (by omega)]; exact h4 hk
  · rw [lv_set _ _ _ hp]
    have e : ∀ n : Int, n % 10 + 10 * (n / 10) = n := fun n => by omega
    have e' := e (D.getD (i + k) 0 + lo a i * lo b k + c)
    generalize (D.getD (i + k) 0 + lo a i * lo b k + c) % 10 = u at *
    generalize (D.getD (i + k) 0 + lo a i * lo b k + c) / 10 = v at *
    simp only [pv]
    rw [Int.mul_add, ← Int.add_assoc, ← h5, ← Nat.add_assoc, Int.pow_succ]
    have p2 : (10 : Int) ^ (i + k) = 10 ^ i * 10 ^ k := Int.pow_add ..
    have k1 : lo a i * 10 ^ i * (lo b k * 10 ^ k) = lo a i * lo b k * 10 ^ (i + k) := by
      rw [p2]; simp only [Int.mul_assoc, Int.mul_left_comm]
    rw [k1]
    generalize (10 : Int) ^ (i + k) = P at *
    generalize lo a i * lo b k = q at *
    generalize D.getD (i + k) 0 = g at *
    have k2 : (u - g) * P + v * (P * 10) = (u + 10 * v - g) * P := by
      rw [Int.sub_mul, Int.sub_mul, Int.add_mul, Int.mul_comm P 10, ← Int.mul_assoc, Int.mul_comm v 10]; omega
    rw [e'] at k2
    have k3 : (g + q + c - g) * P = q * P + c * P := by
      rw [show g + q + c - g = q + c by omega, Int.add_mul]
    omega
  · have e1 : D.getD (i + k) 0 = 0 := by rw [hkb]; exact h4 (by omega)
    have e2 : lo b k = 0 := lo_out b k (by omega)
    rw [e1, e2, Int.mul_zero]; omega
theorem MI_end {a b : List Int} {i k : Nat} {D : List Int} (h : MI a b i k D 0) (hk : b.length ≤ k) : MO a b (i + 1) D := by
  obtain ⟨h1, h2, h3, h4, h5⟩ := h
  refine ⟨h1, h2, fun p hp => h3 p (by omega), ?_⟩
  rw [Int.zero_mul, Int.add_zero, pv_lo b k hk] at h5
  rw [h5]
  simp only [pv]
  rw [Int.add_mul]
theorem MO_end {a b : List Int} {D : List Int} (h : MO a b a.length D) : lv D = vl a * vl b := by
  rw [h.2.2.2, pv_lo a _ (Nat.le_refl _)]
end Go.Proofs.YtcflomcankcggatDoor
