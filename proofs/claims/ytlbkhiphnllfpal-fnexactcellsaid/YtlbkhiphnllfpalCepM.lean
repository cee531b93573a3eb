/-
  The corners that the program takes and those of the model: a digit holds at the ones if it does at the others: plain facts.
-/
import Derived.Test.YtlbkhiphnllfpalCep2
import Derived.Test.YtlbkhiphnllfpalCellN
namespace Go.Proofs.Ytlbkhiphnllfpal
set_option linter.unusedVariables false
/-- The digit k holds at a point of the program. -/
def hq (a k : Int) (x : Pq) : Bool := !(decide (10 * a * x.2 < (9 * k - a) * x.1) || decide ((9 * k + a) * x.1 < 10 * a * x.2))
def hqs (a k : Int) (l : List Pq) : Bool := l.all (hq a k)
theorem hq_iff (a k : Int) (x : Pq) : hq a k x = true ↔ ((9 * k - a) * x.1 ≤ 10 * a * x.2 ∧ 10 * a * x.2 ≤ (9 * k + a) * x.1) := by
  unfold hq
  simp only [Bool.not_eq_true', Bool.or_eq_false_iff, decide_eq_false_iff_not]
  constructor
  · rintro ⟨h1, h2⟩; exact ⟨by omega, by omega⟩
  · rintro ⟨h1, h2⟩; exact ⟨by omega, by omega⟩
theorem mem_fold (L R l h : Int) (x : Pq) (xs acc : List Pq) : x ∈ xs.foldl (ins L R l h) acc ↔ x ∈ acc ∨ (x ∈ xs ∧ okP L R l h x) := by
  induction xs generalizing acc with
  | nil => simp
  | cons y r ih =>
    rw [List.foldl_cons, ih]
    unfold ins
    by_cases hk : okP L R l h y ∧ y ∉ acc
    · rw [if_pos hk]
      simp only [List.mem_append, List.mem_cons, List.not_mem_nil, or_false]
      constructor
      · rintro ((h | rfl) | ⟨h, k⟩)
        · exact .inl h
        · exact .inr ⟨.inl rfl, hk.1⟩
        · exact .inr ⟨.inr h, k⟩
      · rintro (h | ⟨rfl | h, k⟩)
        · exact .inl (.inl h)
        · exact .inl (.inr rfl)
        · exact .inr ⟨h, k⟩
    · rw [if_neg hk]
      simp only [List.mem_cons]
      constructor
      · rintro (h | ⟨h, k⟩)
        · exact .inl h
        · exact .inr ⟨.inr h, k⟩
      · rintro (h | ⟨rfl | h, k⟩)
        · exact .inl h
        · by_cases hm : x ∈ acc
          · exact .inl hm
          · exact absurd ⟨k, hm⟩ hk
        · exact .inr ⟨h, k⟩
theorem mem_crn (L R l h : Int) (x : Pq) : x ∈ crn L R l h 12 ↔ x ∈ tw L R l h ∧ okP L R l h x := by
  unfold crn
  rw [show (tw L R l h).take 12 = tw L R l h from rfl, mem_fold]
  simp
/-- A point of the model, scaled to one of the program. -/
theorem hld_scale (a U T k m : Int) (x : Pt) (z : Pq) (ha : 0 < a) (hm : 0 < m) (h1 : x.1 * (10 * a * T) = m * z.1) (h2 : x.2.1 * (9 * U) = m * z.2) : hld a U T k x = hq a k z := by
  have hb : ∀ b c : Bool, (b = true ↔ c = true) → b = c := by decide
  refine hb _ _ ?_
  rw [hld_iff, hq_iff]
  have e : ∀ c : Int, c * (x.1 * T) * (10 * a) = m * (c * z.1) := fun c => by
    have : c * (x.1 * T) * (10 * a) = c * (x.1 * (10 * a * T)) := by
      rw [Int.mul_assoc, Int.mul_assoc, Int.mul_comm T (10 * a)]
    rw [this, h1, ← Int.mul_assoc, Int.mul_comm c m, Int.mul_assoc]
  have f : 9 * x.2.1 * U * (10 * a) = m * (10 * a * z.2) := by
    have : 9 * x.2.1 * U * (10 * a) = 10 * a * (x.2.1 * (9 * U)) := by
      rw [Int.mul_comm _ (10 * a), Int.mul_comm 9 x.2.1, Int.mul_assoc x.2.1 9 U]
    rw [this, h2, ← Int.mul_assoc, Int.mul_comm (10 * a) m, Int.mul_assoc]
  have ha10 : 0 < 10 * a := by omega
  constructor
  · rintro ⟨g1, g2⟩
    have k1 := Int.mul_le_mul_of_nonneg_right g1 (show 0 ≤ 10 * a by omega)
    have k2 := Int.mul_le_mul_of_nonneg_right g2 (show 0 ≤ 10 * a by omega)
    rw [e, f] at k1
    rw [e, f] at k2
    exact ⟨Int.le_of_mul_le_mul_left k1 hm, Int.le_of_mul_le_mul_left k2 hm⟩
  · rintro ⟨g1, g2⟩
    have k1 := Int.mul_le_mul_of_nonneg_left g1 (show 0 ≤ m by omega)
    have k2 := Int.mul_le_mul_of_nonneg_left g2 (show 0 ≤ m by omega)
    rw [← e, ← f] at k1
    rw [← e, ← f] at k2
    exact ⟨Int.le_of_mul_le_mul_right k1 ha10, Int.le_of_mul_le_mul_right k2 ha10⟩
theorem hqs_same (a U T k D Y : Int) (ha : 0 < a) (hU : 0 < U) (hT : 0 < T) (hD : 0 < D) :
    hqs a k (crn (D * (10 * a * T)) ((D + 1) * (10 * a * T)) (Y * (9 * U)) ((Y + 2) * (9 * U)) 12) = hlds a U T k (cnE (9 * U) (10 * a * T) D Y 2) := by
  obtain ⟨p, hp⟩ : ∃ p, p = 9 * U := ⟨_, rfl⟩
  obtain ⟨q, hq'⟩ : ∃ q, q = 10 * a * T := ⟨_, rfl⟩
  have hp0 : 0 < p := by omega
  have hq0 : 0 < q := by rw [hq']; exact Int.mul_pos (by omega) hT
  have hsc : ∀ (m : Int) (x : Pt) (z : Pq), 0 < m → x.1 * q = m * z.1 → x.2.1 * p = m * z.2 → hld a U T k x = hq a k z := fun m x z hm h1 h2 => hld_scale a U T k m x z ha hm (by rw [← hq']; exact h1) (by rw [← hp]; exact h2)
  rw [← hp, ← hq']
  have hDq : D * q ≤ (D + 1) * q := Int.mul_le_mul_of_nonneg_right (by omega) (by omega)
  have hYp : Y * p ≤ (Y + 2) * p := Int.mul_le_mul_of_nonneg_right (by omega) (by omega)
  have ab0 : ∀ y : Int, 0 ≤ y → abI y = y := fun y hy => by unfold abI; rw [if_neg (by omega)]
  have abn : ∀ y : Int, y ≤ 0 → abI y = -y := fun y hy => by unfold abI; split <;> omega
  have sgn : ∀ y : Int, 0 ≤ y * p → 0 ≤ y := fun y h => by
    by_cases hy : 0 ≤ y
    · exact hy
    · have := Int.mul_le_mul_of_nonneg_right (show y ≤ -1 by omega) (show 0 ≤ p by omega); omega
  have sgn' : ∀ y : Int, y * p ≤ 0 → y ≤ 0 := fun y h => by
    by_cases hy : y ≤ 0
    · exact hy
    · have := Int.mul_le_mul_of_nonneg_right (show 1 ≤ y by omega) (show 0 ≤ p by omega); omega
  have hb : ∀ b c : Bool, (b = true ↔ c = true) → b = c := by decide
  refine hb _ _ ?_
  unfold hqs hlds
  rw [List.all_eq_true, List.all_eq_true]
  constructor
  · intro hall x hx
    rcases cn_out p q D Y x hx with ⟨d, y, hd, hy, hc, rfl⟩ | ⟨d, s, hd, hs, h0, h1, rfl⟩ | ⟨y, hy, h0, h1, rfl⟩
    · have hle : y * p ≤ abI y * p ∧ -(abI y * p) ≤ y * p := by
        rcases Int.le_total 0 y with hy0 | hy0
        · rw [ab0 y hy0]; have := Int.mul_nonneg hy0 (show 0 ≤ p by omega); omega
        · rw [abn y hy0, Int.neg_mul]; have := Int.mul_le_mul_of_nonneg_right hy0 (show 0 ≤ p by omega); omega
      rw [Int.mul_comm q d] at hc
      rw [hsc 1 _ (d * q, y * p) (by decide) (by rw [Int.one_mul]) (by rw [Int.one_mul])]
      refine hall _ ((mem_crn _ _ _ _ _).2 ⟨?_, ?_⟩)
      · rcases hd with rfl | rfl <;> rcases hy with rfl | rfl <;> simp [tw]
      · refine ⟨?_, ?_, ?_, ?_, ?_, ?_⟩ <;> dsimp only
        · rcases hd with rfl | rfl <;> omega
        · rcases hd with rfl | rfl <;> omega
        · rcases hy with rfl | rfl <;> omega
        · rcases hy with rfl | rfl <;> omega
        · omega
        · omega
    · rw [hsc p _ (d * q, s * q * d) hp0 (by rw [Int.mul_comm d p, Int.mul_assoc]) (by rw [Int.mul_comm])]
      have hsd : s * q * d = s * (d * q) := by rw [Int.mul_assoc, Int.mul_comm q d]
      have hdq : 0 ≤ d * q := Int.mul_nonneg (by omega) (by omega)
      refine hall _ ((mem_crn _ _ _ _ _).2 ⟨?_, ?_⟩)
      · rw [hsd]
        rcases hd with rfl | rfl <;> rcases hs with rfl | rfl <;> simp [tw]
      · rw [hsd] at h0 h1 ⊢
        refine ⟨?_, ?_, ?_, ?_, ?_, ?_⟩ <;> dsimp only
        · rcases hd with rfl | rfl <;> omega
        · rcases hd with rfl | rfl <;> omega
        · exact h0
        · exact h1
        · rcases hs with rfl | rfl <;> omega
        · rcases hs with rfl | rfl <;> omega
    · rw [hsc q _ (abI y * p, y * p) hq0 (by rw [Int.mul_comm]) (by rw [Int.mul_comm y q, Int.mul_assoc])]
      refine hall _ ((mem_crn _ _ _ _ _).2 ⟨?_, ?_⟩)
      · rcases Int.le_total 0 y with hy0 | hy0
        · rw [ab0 y hy0]; rcases hy with rfl | rfl <;> simp [tw]
        · rw [abn y hy0, Int.neg_mul]; rcases hy with rfl | rfl <;> simp [tw]
      · refine ⟨h0, h1, ?_, ?_, ?_, ?_⟩ <;> dsimp only
        · rcases hy with rfl | rfl <;> omega
        · rcases hy with rfl | rfl <;> omega
        · rcases Int.le_total 0 y with hy0 | hy0
          · rw [ab0 y hy0]; exact Int.le_refl _
          · rw [abn y hy0, Int.neg_mul]; have := Int.mul_le_mul_of_nonneg_right hy0 (show 0 ≤ p by omega); omega
        · rcases Int.le_total 0 y with hy0 | hy0
          · rw [ab0 y hy0]; have := Int.mul_nonneg hy0 (show 0 ≤ p by omega); omega
          · rw [abn y hy0, Int.neg_mul]; exact Int.le_refl _
  · intro hall z hz
    obtain ⟨hz1, g1, g2, g3, g4, g5, g6⟩ := (mem_crn _ _ _ _ _).1 hz
    have box : ∀ d y : Int, (d = D ∨ d = D + 1) → (y = Y ∨ y = Y + 2) → z = (d * q, y * p) → hq a k z = true := fun d y hd hy e => by
      rw [← hsc 1 (d, y, 1) z (by decide) (by rw [Int.one_mul, e]) (by rw [Int.one_mul, e])]
      refine hall _ (cn_box p q D Y d y hd hy ?_)
      rw [e] at g5 g6
      dsimp only at g5 g6
      rw [Int.mul_comm q d]
      exact abI_mul y p (d * q) (by omega) g5 (by omega)
    have side : ∀ d s : Int, (d = D ∨ d = D + 1) → (s = -1 ∨ s = 1) → z = (d * q, s * q * d) → hq a k z = true := fun d s hd hs e => by
      rw [← hsc p (d * p, s * q * d, p) z hp0 (by rw [e, Int.mul_comm d p, Int.mul_assoc]) (by rw [e, Int.mul_comm])]
      rw [e] at g3 g4
      exact hall _ (cn_side p q D Y d s hd hs g3 g4)
    have edge : ∀ y : Int, (y = Y ∨ y = Y + 2) → z = (abI y * p, y * p) → hq a k z = true := fun y hy e => by
      rw [← hsc q (abI y * p, y * q, q) z hq0 (by rw [e, Int.mul_comm]) (by rw [e, Int.mul_comm y q, Int.mul_assoc])]
      rw [e] at g1 g2
      exact hall _ (cn_edge p q D Y y hy g1 g2)
    have s1 : ∀ d : Int, 1 * q * d = d * q := fun d => by rw [Int.one_mul, Int.mul_comm]
    have sm : ∀ d : Int, -1 * q * d = -(d * q) := fun d => by rw [Int.neg_mul, Int.one_mul, Int.neg_mul, Int.mul_comm]
    simp only [tw, List.mem_cons, List.not_mem_nil, or_false] at hz1
    rcases hz1 with e | e | e | e | e | e | e | e | e | e | e | e
    · exact box D Y (.inl rfl) (.inl rfl) e
    · exact box D (Y + 2) (.inl rfl) (.inr rfl) e
    · exact box (D + 1) Y (.inr rfl) (.inl rfl) e
    · exact box (D + 1) (Y + 2) (.inr rfl) (.inr rfl) e
    · exact side D 1 (.inl rfl) (.inr rfl) (by rw [s1]; exact e)
    · exact side D (-1) (.inl rfl) (.inl rfl) (by rw [sm]; exact e)
    · exact side (D + 1) 1 (.inr rfl) (.inr rfl) (by rw [s1]; exact e)
    · exact side (D + 1) (-1) (.inr rfl) (.inl rfl) (by rw [sm]; exact e)
    · refine edge Y (.inl rfl) ?_
      rw [e] at g5 g6; dsimp only at g5 g6
      rw [ab0 Y (sgn Y (by omega))]; exact e
    · refine edge Y (.inl rfl) ?_
      rw [e] at g5 g6; dsimp only at g5 g6
      rw [abn Y (sgn' Y (by omega)), Int.neg_mul]; exact e
    · refine edge (Y + 2) (.inr rfl) ?_
      rw [e] at g5 g6; dsimp only at g5 g6
      rw [ab0 (Y + 2) (sgn (Y + 2) (by omega))]; exact e
    · refine edge (Y + 2) (.inr rfl) ?_
      rw [e] at g5 g6; dsimp only at g5 g6
      rw [abn (Y + 2) (sgn' (Y + 2) (by omega)), Int.neg_mul]; exact e
end Go.Proofs.Ytlbkhiphnllfpal
