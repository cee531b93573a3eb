/-
  What the model's corners tell of a cell: at each of its points, and whether it is reached: plain facts.
-/
import Derived.Test.YtlbkhiphnllfpalCellM
import Derived.Test.YtlbkhiphnllfpalCel4
namespace Go.Proofs.Ytlbkhiphnllfpal
set_option linter.unusedVariables false
theorem cn_box (p q D Y d y : Int) (hd : d = D ∨ d = D + 1) (hy : y = Y ∨ y = Y + 2) (h : abI y * p ≤ q * d) : (d, y, 1) ∈ cnE p q D Y 2 := by
  have m : (d, y, (1 : Int)) ∈ c1 p q d y := by unfold c1; rw [if_pos h]; exact List.mem_singleton.2 rfl
  have b : (d, y, (1 : Int)) ∈ cnB p q Y d 2 := by
    simp only [cnB, List.nil_append, List.mem_append]
    rcases hy with rfl | rfl
    · left; simpa using m
    · right; simpa using m
  simp only [cnE, cnD, List.nil_append, List.mem_append]
  rcases hd with rfl | rfl
  · left; left; left; left; left; simpa using b
  · left; left; left; right; simpa using b
theorem cn_side (p q D Y d s : Int) (hd : d = D ∨ d = D + 1) (hs : s = -1 ∨ s = 1) (h0 : Y * p ≤ s * q * d) (h1 : s * q * d ≤ (Y + 2) * p) : (d * p, s * q * d, p) ∈ cnE p q D Y 2 := by
  have m : (d * p, s * q * d, p) ∈ c2 p q Y d s := by unfold c2; rw [if_pos ⟨h0, h1⟩]; exact List.mem_singleton.2 rfl
  have b : (d * p, s * q * d, p) ∈ cnS p q Y d 2 := by
    simp only [cnS, List.nil_append, List.mem_append]
    rcases hs with rfl | rfl
    · left; simpa using m
    · right; simpa using m
  simp only [cnE, cnD, List.nil_append, List.mem_append]
  rcases hd with rfl | rfl
  · left; left; left; left; right; simpa using b
  · left; left; right; simpa using b
theorem cn_edge (p q D Y y : Int) (hy : y = Y ∨ y = Y + 2) (h0 : D * q ≤ abI y * p) (h1 : abI y * p ≤ (D + 1) * q) : (abI y * p, y * q, q) ∈ cnE p q D Y 2 := by
  have m : (abI y * p, y * q, q) ∈ c3 p q D y := by unfold c3; rw [if_pos ⟨h0, h1⟩]; exact List.mem_singleton.2 rfl
  simp only [cnE, List.mem_append]
  rcases hy with rfl | rfl
  · left; right; simpa using m
  · right; simpa using m
theorem cn_out (p q D Y : Int) (x : Pt) (h : x ∈ cnE p q D Y 2) :
    (∃ d y, (d = D ∨ d = D + 1) ∧ (y = Y ∨ y = Y + 2) ∧ abI y * p ≤ q * d ∧ x = (d, y, 1)) ∨ (∃ d s, (d = D ∨ d = D + 1) ∧ (s = -1 ∨ s = 1) ∧ Y * p ≤ s * q * d ∧ s * q * d ≤ (Y + 2) * p ∧ x = (d * p, s * q * d, p)) ∨
      (∃ y, (y = Y ∨ y = Y + 2) ∧ D * q ≤ abI y * p ∧ abI y * p ≤ (D + 1) * q ∧ x = (abI y * p, y * q, q)) := by
  have o1 : ∀ d y, x ∈ c1 p q d y → abI y * p ≤ q * d ∧ x = (d, y, 1) := fun d y h => by
    unfold c1 at h; split at h
    · exact ⟨by assumption, List.mem_singleton.1 h⟩
    · cases h
  have o2 : ∀ d s, x ∈ c2 p q Y d s → (Y * p ≤ s * q * d ∧ s * q * d ≤ (Y + 2) * p) ∧ x = (d * p, s * q * d, p) := fun d s h => by
    unfold c2 at h; split at h
    · exact ⟨by assumption, List.mem_singleton.1 h⟩
    · cases h
  have o3 : ∀ y, x ∈ c3 p q D y → (D * q ≤ abI y * p ∧ abI y * p ≤ (D + 1) * q) ∧ x = (abI y * p, y * q, q) := fun y h => by
    unfold c3 at h; split at h
    · exact ⟨by assumption, List.mem_singleton.1 h⟩
    · cases h
  have oB : ∀ d, x ∈ cnB p q Y d 2 → ∃ y, (y = Y ∨ y = Y + 2) ∧ abI y * p ≤ q * d ∧ x = (d, y, 1) := fun d h => by
    simp only [cnB, List.nil_append, List.mem_append] at h
    rcases h with h | h
    · have := o1 d _ h; exact ⟨_, .inl (by simp), this⟩
    · have := o1 d _ h; exact ⟨_, .inr (by simp), this⟩
  have oS : ∀ d, x ∈ cnS p q Y d 2 → ∃ s, (s = -1 ∨ s = 1) ∧ Y * p ≤ s * q * d ∧ s * q * d ≤ (Y + 2) * p ∧ x = (d * p, s * q * d, p) := fun d h => by
    simp only [cnS, List.nil_append, List.mem_append] at h
    rcases h with h | h
    · have := o2 d _ h; exact ⟨_, .inl (by simp), this.1.1, this.1.2, this.2⟩
    · have := o2 d _ h; exact ⟨_, .inr (by simp), this.1.1, this.1.2, this.2⟩
  simp only [cnE, cnD, List.nil_append, List.mem_append] at h
  rcases h with (((((h | h) | h) | h) | h) | h)
  · obtain ⟨y, h1, h2, h3⟩ := oB _ h; exact .inl ⟨_, y, .inl (by simp), h1, h2, h3⟩
  · obtain ⟨s, h1, h2, h3, h4⟩ := oS _ h; exact .inr (.inl ⟨_, s, .inl (by simp), h1, h2, h3, h4⟩)
  · obtain ⟨y, h1, h2, h3⟩ := oB _ h; exact .inl ⟨_, y, .inr (by simp), h1, h2, h3⟩
  · obtain ⟨s, h1, h2, h3, h4⟩ := oS _ h; exact .inr (.inl ⟨_, s, .inr (by simp), h1, h2, h3, h4⟩)
  · have := o3 _ h; exact .inr (.inr ⟨_, .inl (by simp), this.1.1, this.1.2, this.2⟩)
  · have := o3 _ h; exact .inr (.inr ⟨_, .inr (by simp), this.1.1, this.1.2, this.2⟩)
theorem hld_iff (a U T k : Int) (x : Pt) : hld a U T k x = true ↔ ((9 * k - a) * (x.1 * T) ≤ 9 * x.2.1 * U ∧ 9 * x.2.1 * U ≤ (9 * k + a) * (x.1 * T)) := by
  unfold hld
  simp only [Bool.not_eq_true', Bool.or_eq_false_iff, decide_eq_false_iff_not]
  constructor
  · rintro ⟨h1, h2⟩; exact ⟨by omega, by omega⟩
  · rintro ⟨h1, h2⟩; exact ⟨by omega, by omega⟩
theorem abI_mul (y p m : Int) (hp : 0 ≤ p) (h0 : y * p ≤ m) (h1 : -m ≤ y * p) : abI y * p ≤ m := by
  unfold abI; split
  · rw [Int.neg_mul]; omega
  · exact h0
/-- A digit that holds at the corners: its two linear forms there. -/
theorem corn_of (a U T k D Y : Int) (hU : 0 < U) (h : hlds a U T k (cnE (9 * U) (10 * a * T) D Y 2) = true) :
    Corn (9 * U) (10 * a * T) D Y (-((9 * k - a) * T)) (9 * U) ∧ Corn (9 * U) (10 * a * T) D Y ((9 * k + a) * T) (-(9 * U)) := by
  have hp : 0 ≤ 9 * U := by omega
  have at_ : ∀ x ∈ cnE (9 * U) (10 * a * T) D Y 2, (0 ≤ -((9 * k - a) * T) * x.1 + 9 * U * x.2.1) ∧ (0 ≤ (9 * k + a) * T * x.1 + -(9 * U) * x.2.1) := fun x hx => by
    have := (hld_iff a U T k x).1 (List.all_eq_true.1 h x hx)
    have e1 : (9 * k - a) * (x.1 * T) = (9 * k - a) * T * x.1 := by rw [Int.mul_comm x.1 T, Int.mul_assoc]
    have e2 : (9 * k + a) * (x.1 * T) = (9 * k + a) * T * x.1 := by rw [Int.mul_comm x.1 T, Int.mul_assoc]
    have e3 : 9 * x.2.1 * U = 9 * U * x.2.1 := by rw [Int.mul_assoc, Int.mul_comm x.2.1 U, ← Int.mul_assoc]
    rw [e1, e2, e3] at this
    rw [Int.neg_mul, Int.neg_mul]
    omega
  have s1 : ∀ q d : Int, 1 * q * d = q * d := fun q d => by rw [Int.one_mul]
  have sm : ∀ q d : Int, -1 * q * d = -(q * d) := fun q d => by rw [Int.neg_mul, Int.one_mul, Int.neg_mul]
  have ab0 : ∀ y : Int, 0 ≤ y → abI y = y := fun y hy => by unfold abI; rw [if_neg (by omega)]
  have abn : ∀ y : Int, y ≤ 0 → abI y = -y := fun y hy => by unfold abI; split <;> omega
  constructor
  · refine ⟨fun d y hd hy h0 h1 => (at_ _ (cn_box _ _ D Y d y hd hy (abI_mul y _ _ hp h0 h1))).1, fun d hd => ⟨fun h0 h1 => ?_, fun h0 h1 => ?_⟩, fun y hy => ⟨fun hy0 h0 h1 => ?_, fun hy0 h0 h1 => ?_⟩⟩
    · have := (at_ _ (cn_side _ _ D Y d 1 hd (.inr rfl) (by rw [s1]; exact h0) (by rw [s1]; exact h1))).1
      rw [s1] at this; exact this
    · have := (at_ _ (cn_side _ _ D Y d (-1) hd (.inl rfl) (by rw [sm]; exact h0) (by rw [sm]; exact h1))).1
      rw [sm] at this; exact this
    · have := (at_ _ (cn_edge _ _ D Y y hy (by rw [ab0 y hy0]; exact h0) (by rw [ab0 y hy0]; exact h1))).1
      rw [ab0 y hy0] at this; exact this
    · have := (at_ _ (cn_edge _ _ D Y y hy (by rw [abn y hy0, Int.neg_mul]; exact h0) (by rw [abn y hy0, Int.neg_mul]; exact h1))).1
      rw [abn y hy0, show -y * (9 * U) = -(y * (9 * U)) from Int.neg_mul ..] at this; exact this
  · refine ⟨fun d y hd hy h0 h1 => (at_ _ (cn_box _ _ D Y d y hd hy (abI_mul y _ _ hp h0 h1))).2, fun d hd => ⟨fun h0 h1 => ?_, fun h0 h1 => ?_⟩, fun y hy => ⟨fun hy0 h0 h1 => ?_, fun hy0 h0 h1 => ?_⟩⟩
    · have := (at_ _ (cn_side _ _ D Y d 1 hd (.inr rfl) (by rw [s1]; exact h0) (by rw [s1]; exact h1))).2
      rw [s1] at this; exact this
    · have := (at_ _ (cn_side _ _ D Y d (-1) hd (.inl rfl) (by rw [sm]; exact h0) (by rw [sm]; exact h1))).2
      rw [sm] at this; exact this
    · have := (at_ _ (cn_edge _ _ D Y y hy (by rw [ab0 y hy0]; exact h0) (by rw [ab0 y hy0]; exact h1))).2
      rw [ab0 y hy0] at this; exact this
    · have := (at_ _ (cn_edge _ _ D Y y hy (by rw [abn y hy0, Int.neg_mul]; exact h0) (by rw [abn y hy0, Int.neg_mul]; exact h1))).2
      rw [abn y hy0, show -y * (9 * U) = -(y * (9 * U)) from Int.neg_mul ..] at this; exact this
/-- A digit that holds at the corners holds at each point in quarters that is in reach. -/
theorem quarters (a U T k D Y x z : Int) (ha : 0 < a) (hU : 0 < U) (hT : 0 < T) (hD : 0 < D) (h : hlds a U T k (cnE (9 * U) (10 * a * T) D Y 2) = true)
    (x0 : 4 * D ≤ x) (x1 : x ≤ 4 * D + 4) (z0 : 4 * Y ≤ z) (z1 : z ≤ 4 * Y + 8) (r : abI z * (9 * U) ≤ 10 * a * T * x) :
    (9 * k - a) * T * x ≤ 9 * U * z ∧ 9 * U * z ≤ (9 * k + a) * T * x := by
  obtain ⟨h1, h2⟩ := corn_of a U T k D Y hU h
  have hq : 0 < 10 * a * T := Int.mul_pos (by omega) hT
  have rr : z * (9 * U) ≤ 10 * a * T * x ∧ -(10 * a * T * x) ≤ z * (9 * U) := by
    unfold abI at r; split at r
    · rename_i hz
      rw [Int.neg_mul] at r
      have : z * (9 * U) ≤ 0 := by have := Int.mul_le_mul_of_nonneg_right (show z ≤ 0 by omega) (show 0 ≤ 9 * U by omega); rw [Int.zero_mul] at this; exact this
      omega
    · have : 0 ≤ z * (9 * U) := Int.mul_nonneg (by omega) (by omega)
      omega
  have c1 := corn_all h1 (by omega) hq hD x z x0 x1 z0 z1 rr.1 rr.2
  have c2 := corn_all h2 (by omega) hq hD x z x0 x1 z0 z1 rr.1 rr.2
  rw [Int.neg_mul] at c1 c2
  omega
/-- Which cells are reached. -/
theorem reach_iff (p q D Y : Int) (hp : 0 < p) (hq : 0 ≤ q) (hD : 0 < D) : cnE p q D Y 2 ≠ [] ↔ (Y * p ≤ q * (D + 1) ∧ -(q * (D + 1)) ≤ (Y + 2) * p) := by
  have hm : ∀ d, (d = D ∨ d = D + 1) → q * d ≤ q * (D + 1) ∧ 0 ≤ q * d := fun d hd => by
    rcases hd with rfl | rfl
    · exact ⟨Int.mul_le_mul_of_nonneg_left (by omega) hq, Int.mul_nonneg hq (by omega)⟩
    · exact ⟨Int.le_refl _, Int.mul_nonneg hq (by omega)⟩
  have e2 : (Y + 2) * p = Y * p + 2 * p := Int.add_mul ..
  have abl : ∀ y : Int, y * p ≤ abI y * p ∧ -(abI y * p) ≤ y * p := fun y => by
    unfold abI; split
    · rename_i hy
      have : y * p ≤ 0 := by have := Int.mul_le_mul_of_nonneg_right (show y ≤ 0 by omega) (show 0 ≤ p by omega); rw [Int.zero_mul] at this; exact this
      rw [Int.neg_mul]; omega
    · have : 0 ≤ y * p := Int.mul_nonneg (by omega) (by omega)
      omega
  constructor
  · intro hne
    obtain ⟨x, hx⟩ := List.exists_mem_of_ne_nil _ hne
    rcases cn_out p q D Y x hx with ⟨d, y, hd, hy, hc, _⟩ | ⟨d, s, hd, hs, h0, h1, _⟩ | ⟨y, hy, h0, h1, _⟩
    · have := hm d hd
      have ab := abl y
      rcases hy with rfl | rfl <;> omega
    · have := hm d hd
      rcases hs with rfl | rfl
      · rw [Int.neg_mul, Int.one_mul, Int.neg_mul] at h0 h1; omega
      · rw [Int.one_mul] at h0 h1; omega
    · have ab := abl y
      rw [Int.mul_comm (D + 1) q] at h1
      rcases hy with rfl | rfl <;> omega
  · rintro ⟨h0, h1⟩ hem
    have no : ∀ x, x ∈ cnE p q D Y 2 → False := fun x hx => by rw [hem] at hx; cases hx
    have n1 : ¬ abI Y * p ≤ q * (D + 1) := fun h => no _ (cn_box p q D Y (D + 1) Y (.inr rfl) (.inl rfl) h)
    have n2 : ¬ abI (Y + 2) * p ≤ q * (D + 1) := fun h => no _ (cn_box p q D Y (D + 1) (Y + 2) (.inr rfl) (.inr rfl) h)
    have hq1 := (hm (D + 1) (.inr rfl)).2
    have y0 : Y * p < -(q * (D + 1)) := by
      unfold abI at n1; split at n1
      · rw [Int.neg_mul] at n1; omega
      · omega
    have y2 : q * (D + 1) < (Y + 2) * p := by
      unfold abI at n2; split at n2
      · rw [Int.neg_mul] at n2; omega
      · omega
    exact no _ (cn_side p q D Y (D + 1) 1 (.inr rfl) (.inr rfl) (by rw [Int.one_mul]; omega) (by rw [Int.one_mul]; omega))
theorem scn_out (a U T : Int) (l : List Pt) (f k : Nat) : ((scn a U T l f k).1 = 4 ∧ (scn a U T l f k).2 = 0) ∨ ((scn a U T l f k).1 = 0 ∧ hlds a U T (scn a U T l f k).2 l = true ∧ ∃ j : Nat, k ≤ j ∧ j < k + f ∧ ((scn a U T l f k).2 = j ∨ (scn a U T l f k).2 = -(j : Int))) := by
  induction f generalizing k with
  | zero => exact .inl ⟨rfl, rfl⟩
  | succ f ih =>
    unfold scn
    split
    · rename_i h; exact .inr ⟨rfl, h, k, Nat.le_refl _, by omega, .inl rfl⟩
    · split
      · rename_i h; exact .inr ⟨rfl, h, k, Nat.le_refl _, by omega, .inr rfl⟩
      · rcases ih (k + 1) with h | ⟨h1, h2, j, h3, h4, h5⟩
        · exact .inl h
        · exact .inr ⟨h1, h2, j, by omega, by omega, h5⟩
/-- The three things that are told of a cell. -/
theorem cel_out (a U T D Y : Int) (ha : 0 ≤ a) : ((cel a U T D Y).1 = 3 ∧ (cel a U T D Y).2 = 0 ∧ ((-1000000 ≤ Y ∧ Y ≤ 1000000) → cnE (9 * U) (10 * a * T) D Y 2 = [])) ∨
    ((cel a U T D Y).1 = 4 ∧ (cel a U T D Y).2 = 0 ∧ (-1000000 ≤ Y ∧ Y ≤ 1000000) ∧ cnE (9 * U) (10 * a * T) D Y 2 ≠ []) ∨
    ((cel a U T D Y).1 = 0 ∧ (-1000000 ≤ Y ∧ Y ≤ 1000000) ∧ cnE (9 * U) (10 * a * T) D Y 2 ≠ [] ∧ hlds a U T (cel a U T D Y).2 (cnE (9 * U) (10 * a * T) D Y 2) = true ∧ -a ≤ (cel a U T D Y).2 ∧ (cel a U T D Y).2 ≤ a) := by
  by_cases hY : -1000000 ≤ Y ∧ Y ≤ 1000000
  · by_cases he : cnE (9 * U) (10 * a * T) D Y 2 = []
    · left
      unfold cel; rw [if_pos hY, if_pos he]
      exact ⟨rfl, rfl, fun _ => he⟩
    · right
      have e : cel a U T D Y = scn a U T (cnE (9 * U) (10 * a * T) D Y 2) (a.toNat + 1) 0 := by unfold cel; rw [if_pos hY, if_neg he]
      rw [e]
      rcases scn_out a U T (cnE (9 * U) (10 * a * T) D Y 2) (a.toNat + 1) 0 with h | ⟨h1, h2, j, _, h4, h5⟩
      · exact .inl ⟨h.1, h.2, hY, he⟩
      · exact .inr ⟨h1, hY, he, h2, by omega, by omega⟩
  · left
    unfold cel; rw [if_neg hY]
    exact ⟨rfl, rfl, fun h => absurd h hY⟩
end Go.Proofs.Ytlbkhiphnllfpal
