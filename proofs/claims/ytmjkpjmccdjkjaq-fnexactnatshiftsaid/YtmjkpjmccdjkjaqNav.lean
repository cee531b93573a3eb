/-
  Naturals of the program: products; walked.
-/
import Derived.Test.YtmjkpjmccdjkjaqNas
namespace Go.Proofs.Ytmjkpjmccdjkjaq
open Go.RowKit
set_option linter.unusedVariables false
theorem times_in (P : List Int) (i j : Nat) (A xi yj c s V : Int) (hk : i + j < P.length) (h : lv P + 10 ^ (i + j) * c = A + 10 ^ i * xi * V) (hs : s = P.getD (i + j) 0 + xi * yj + c) :
    lv (P.set (i + j) (s % 10)) + 10 ^ (i + (j + 1)) * (s / 10) = A + 10 ^ i * xi * (V + yj * 10 ^ j) := by
  rw [nl_set P (i + j) _ hk, show i + (j + 1) = i + j + 1 by omega, Int.pow_succ]
  have hr : s = s % 10 + 10 * (s / 10) := by omega
  rw [Int.pow_add] at h ⊢
  generalize s % 10 = r at *
  generalize s / 10 = u at *
  generalize (10 : Int) ^ i = p at *
  generalize (10 : Int) ^ j = q at *
  generalize P.getD (i + j) 0 = K at *
  grind
theorem times_out (P X Y : List Int) (i : Nat) (c : Int) (hi : i < X.length) (hk : i + Y.length < P.length) (hz : P.getD (i + Y.length) 0 = 0) (h : lv P + 10 ^ (i + Y.length) * c = lv (X.take i) * lv Y + 10 ^ i * X.getD i 0 * pv (fun i => Y.getD i 0) Y.length) :
    lv (P.set (i + Y.length) c) = lv (X.take (i + 1)) * lv Y := by
  rw [nl_set P _ _ hk, hz, lv_take1 X i hi]
  rw [pv_all Y Y.length (Nat.le_refl _)] at h
  generalize (10 : Int) ^ (i + Y.length) = p at *
  grind
theorem getD_set_ne (P : List Int) (k q : Nat) (d : Int) (h : k ≠ q) : (P.set k d).getD q 0 = P.getD q 0 := by
  simp [List.getD, List.getElem?_set_ne h]
theorem replicate_at (n q : Nat) : (List.replicate n (0 : Int)).getD q 0 = 0 := by
  simp only [List.getD, List.getElem?_replicate]
  split <;> rfl
/-- What holds behind i rows and j columns of the next one. -/
def TI (w wr : World) (N : Nat) (X Y : List Int) (i j : Nat) (c : Int) : Prop :=
  ∃ P, NRow wr w.heap.size w.heap.size N P ∧ Dec P ∧ (∀ q, i + Y.length ≤ q → P.getD q 0 = 0) ∧ lv P + 10 ^ (i + j) * c = lv (X.take i) * lv Y + 10 ^ i * X.getD i 0 * pv (fun i => Y.getD i 0) j
theorem TI.first {w wr : World} {N : Nat} {X Y : List Int} {i : Nat} {P : List Int} (hR : NRow wr w.heap.size w.heap.size N P) (hD : Dec P) (hz : ∀ q, i + Y.length ≤ q → P.getD q 0 = 0) (hv : lv P = lv (X.take i) * lv Y) : TI w wr N X Y i 0 0 :=
  ⟨P, hR, hD, hz, by rw [hv]; simp [pv]⟩
theorem lv_sum_bd (xi yj k c : Int) (a0 : 0 ≤ xi) (a9 : xi ≤ 9) (b0 : 0 ≤ yj) (b9 : yj ≤ 9) : 0 ≤ xi * yj ∧ xi * yj ≤ 81 := by
  refine ⟨Int.mul_nonneg a0 b0, ?_⟩
  exact Int.le_trans (Int.mul_le_mul a9 b9 b0 (by decide)) (by decide)
end Go.Proofs.Ytmjkpjmccdjkjaq
