/-
  What the model's dividing of decimal texts answers, walked.
-/
import Derived.Test.YtjgnhlldehgieaqDoorTxt4
namespace Go.Proofs.YtjgnhlldehgieaqDoor
open Go.RowKit
set_option linter.unusedVariables false
set_option maxRecDepth 100000
theorem tx_one (a : List Int) (j : Nat) (hj : j < a.length) : (tx a).extract j (j + 1) = tx [a.getD j 0] := by
  apply ByteArray.ext
  rw [ByteArray.data_extract, tx_data, tx_data]
  simp only [List.getD, List.getElem?_eq_getElem hj, Option.getD_some]
  apply Array.ext
  · simp; omega
  · intro i h1 h2
    simp at h2
    subst h2
    simp
theorem vl_take_next (a : List Int) (j : Nat) (hj : j < a.length) : vl (a.take (j + 1)) = vl (a.take j) * 10 + a.getD j 0 := by
  rw [List.take_succ_eq_append_getElem hj, vl_snoc]
  simp [List.getD, hj]
theorem div_told (A B Q R : Int) (h : Q * B + R = A) (r0 : 0 ≤ R) (r1 : R < B) : Q = A / B ∧ R = A % B := by
  have e : A = R + B * Q := by rw [Int.mul_comm]; omega
  have hB : B ≠ 0 := by omega
  constructor
  · rw [e, Int.add_mul_ediv_left _ _ hB, Int.ediv_eq_zero_of_lt r0 r1]; omega
  · rw [e, Int.add_mul_emod_self_left, Int.emod_eq_of_lt r0 r1]
theorem len_le (a b : List Int) (ha : Canon a) (hb : Canon b) (h : vl a ≤ vl b) : a.length ≤ b.length := by
  rcases Nat.lt_or_ge b.length a.length with c | c
  · have := vl_short b a hb ha c; omega
  · exact c
theorem cmp_yes (x y : Int) (h : y ≤ x) : 0 ≤ cmpI x y := by
  unfold cmpI; rw [if_neg (by omega)]; split <;> decide
end Go.Proofs.YtjgnhlldehgieaqDoor
