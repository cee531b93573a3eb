/-
  Plain facts on the product of two decimal texts, digit by digit.
-/
import Derived.Test.YtcflomcankcggatDoorTxtN
namespace Go.Proofs.YtcflomcankcggatDoor
set_option linter.unusedVariables false
set_option maxRecDepth 100000
theorem lv_set (D : List Int) (p : Nat) (v : Int) (hp : p < D.length) : lv (D.set p v) = lv D + (v - D.getD p 0) * 10 ^ p := by
  induction D generalizing p with
  | nil => simp at hp
  | cons d r ih =>
    cases p with
    | zero => simp [lv]; omega
    | succ p =>
      have h := ih p (by simpa using hp)
      simp only [List.set_cons_succ, lv, List.getD_cons_succ]
      rw [h, Int.pow_succ, ← Int.mul_assoc, Int.mul_add]
      omega
theorem getD_set (D : List Int) (p q : Nat) (v : Int) (hp : p < D.length) : (D.set p v).getD q 0 = if q = p then v else D.getD q 0 := by
  simp only [List.getD, List.getElem?_set]
  by_cases h : p = q
  · subst h; simp [hp]
  · rw [if_neg h, if_neg (fun e => h e.symm)]
theorem dec_set (D : List Int) (p : Nat) (v : Int) (h : Dec D) (h0 : 0 ≤ v) (h9 : v ≤ 9) : Dec (D.set p v) := fun d hd => by
  rcases List.mem_or_eq_of_mem_set hd with hd | hd
  · exact h d hd
  · rw [hd]; exact ⟨h0, h9⟩
/-- What is told of the row while a's digit i is multiplied, k digits of b done, c carried. -/
def MI (a b : List Int) (i k : Nat) (D : List Int) (c : Int) : Prop :=
  D.length = a.length + b.length ∧ Dec D ∧ (∀ p, i + b.length + 1 ≤ p → D.getD p 0 = 0) ∧ (k ≤ b.length → D.getD (i + b.length) 0 = 0) ∧
  lv D + c * 10 ^ (i + k) = pv (lo a) i * vl b + lo a i * 10 ^ i * pv (lo b) k
/-- What is told of the row when i digits of a are done. -/
def MO (a b : List Int) (i : Nat) (D : List Int) : Prop :=
  D.length = a.length + b.length ∧ Dec D ∧ (∀ p, i + b.length ≤ p → D.getD p 0 = 0) ∧ lv D = pv (lo a) i * vl b
theorem MO_start (a b : List Int) : MO a b 0 (List.replicate (a.length + b.length) 0) := by
  have e : ∀ n, lv (List.replicate n 0) = 0 := fun n => by
    induction n with
    | zero => rfl
    | succ n ih => simp [List.replicate_succ, lv, ih]
  refine ⟨by simp, fun d hd => ?_, fun p _ => ?_, ?_⟩
  · have := (List.mem_replicate.1 hd).2; omega
  · simp only [List.getD, List.getElem?_replicate]; split <;> rfl
  · rw [e]; simp [pv]
theorem MO_row {a b : List Int} {i : Nat} {D : List Int} (h : MO a b i D) : MI a b i 0 D 0 := by
  obtain ⟨h1, h2, h3, h4⟩ := h
  exact ⟨h1, h2, fun p hp => h3 p (by omega), fun _ => h3 _ (Nat.le_refl _), by rw [h4]; simp [pv]⟩
theorem MI_step {a b : List Int} {i k : Nat} {D : List Int} {c : Int} (h : MI a b i k D c) (ha : Dec a) (hb : Dec b) (hi : i < a.length) (hk : k ≤ b.length) (c0 : 0 ≤ c) (c9 : c ≤ 9) :
    MI a b i (k + 1) (D.set (i + k) ((D.getD (i + k) 0 + lo a i * lo b k + c) % 10)) ((D.getD (i + k) 0 + lo a i * lo b k + c) / 10) ∧
    (0 ≤ (D.getD (i + k) 0 + lo a i * lo b k + c) / 10 ∧ (D.getD (i + k) 0 + lo a i * lo b k + c) / 10 ≤ 9) ∧ (k = b.length → (D.getD (i + k) 0 + lo a i * lo b k + c) / 10 = 0) ∧
    (0 ≤ D.getD (i + k) 0 ∧ D.getD (i + k) 0 ≤ 9) ∧ (0 ≤ lo a i * lo b k ∧ lo a i * lo b k ≤ 81) := by
  obtain ⟨h1, h2, h3, h4, h5⟩ := h
  have x := lo_bd a ha i
  have z := lo_bd b hb k
  have y := dec_at D h2 (i + k)
  have m : 0 ≤ lo a i * lo b k ∧ lo a i * lo b k ≤ 81 := by
    have h := Int.mul_nonneg x.1 z.1
    have g := Int.mul_le_mul x.2 z.2 z.1 (by decide)
    omega
  have hp : i + k < D.length := by omega
  refine ⟨⟨by rw [List.length_set, h1], dec_set _ _ _ h2 (by omega) (by omega), fun p hp' => ?_, fun hk' => ?_, ?_⟩, by omega, fun hkb => ?_, y, m⟩
  · rw [getD_set _ _ _ _ hp, if_neg (by omega)]; exact h3 p hp'
  · rw [getD_set _ _ _ _ hp, if_neg (by omega)]; exact h4 hk
  · rw [lv_set _ _ _ hp]
    have e : ∀ n : Int, n % 10 + 10 * (n / 10) = n := fun n => by omega
    have e' := e (D.getD (i + k) 0 + lo a i * lo b k + c)
    generalize (D.getD (i + k) 0 + lo a i * lo b k + c) % 10 = u at *
    generalize (D.getD (i + k) 0 + lo a i * lo b k + c) / 10 = v at *
    simp only [pv]
    rw [Int.mul_add, ← Int.add_assoc, ← h5, ← Nat.add_assoc, Int.pow_succ]
    have p2 : (10 : Int) ^ (i + k) = 10 ^ i * 10 ^ k := Int.pow_add ..
    have k1 : lo a i * 10 ^ i * (lo b k * 10 ^ k) = lo a i * lo b k * 10 ^ (i + k) := by
      rw [p2]; simp only [Int.mul_assoc, Int.mul_left_comm]
    rw [k1]
    generalize (10 : Int) ^ (i + k) = P at *
    generalize lo a i * lo b k = q at *
    generalize D.getD (i + k) 0 = g at *
    have k2 : (u - g) * P + v * (P * 10) = (u + 10 * v - g) * P := by
      rw [Int.sub_mul, Int.sub_mul, Int.add_mul, Int.mul_comm P 10, ← Int.mul_assoc, Int.mul_comm v 10]; omega
    rw [e'] at k2
    have k3 : (g + q + c - g) * P = q * P + c * P := by
      rw [show g + q + c - g = q + c by omega, Int.add_mul]
    omega
  · have e1 : D.getD (i + k) 0 = 0 := by rw [hkb]; exact h4 (by omega)
    have e2 : lo b k = 0 := lo_out b k (by omega)
    rw [e1, e2, Int.mul_zero]; omega
theorem MI_end {a b : List Int} {i k : Nat} {D : List Int} (h : MI a b i k D 0) (hk : b.length ≤ k) : MO a b (i + 1) D := by
  obtain ⟨h1, h2, h3, h4, h5⟩ := h
  refine ⟨h1, h2, fun p hp => h3 p (by omega), ?_⟩
  rw [Int.zero_mul, Int.add_zero, pv_lo b k hk] at h5
  rw [h5]
  simp only [pv]
  rw [Int.add_mul]
theorem MO_end {a b : List Int} {D : List Int} (h : MO a b a.length D) : lv D = vl a * vl b := by
  rw [h.2.2.2, pv_lo a _ (Nat.le_refl _)]
end Go.Proofs.YtcflomcankcggatDoor
