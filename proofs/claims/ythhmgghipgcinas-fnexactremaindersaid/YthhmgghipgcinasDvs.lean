/-
  Div of the model, walked.
-/
import Derived.Test.YthhmgghipgcinasQzs
import Derived.Test.YthhmgghipgcinasDvp
namespace Go.Proofs.Ythhmgghipgcinas
open Go.RowKit
set_option linter.unusedVariables false
set_option maxRecDepth 100000
theorem l11Div_is (a b : List Int) (w : World) (ha : Canon a) (hb : Canon b) (la : a.length ≤ 200) (lb : b.length ≤ 200) (hpos : vl b ≠ 0) :
    Calls Try.prog 18 #[.string (tx a), .string (tx b)] w fun e w' => e = .returned (.tuple #[.string (tx (nt (vl a / vl b))), .string (tx (nt (vl a % vl b)))]) ∧ Below w.heap.size w w' := by
  have h0 := (vl_bd b hb.1).1
  refine (l11Div_any a b w ha hb (by omega) (by omega) (by omega)).mono ?_
  rintro e w' ⟨Q, R, rfl, hQ, hR, vQ, vR, lQ, lR, hbb⟩
  exact ⟨by rw [nt_of Q _ hQ vQ (by omega), nt_of R _ hR vR (by omega)], hbb⟩
theorem Rgn.z48 {f e : Int} {s : ByteArray} (h : Rgn f 1 e s) : (s.toList == [48]) = zB 1 s := by
  obtain ⟨hc, -⟩ := h.2.2.2.1 rfl
  have hs := h.2.1
  unfold zB
  rw [decide_eq_true (rfl : (1 : Int) = 1), Bool.true_and]
  by_cases c : vl (dl s) = 0
  · rw [decide_eq_true c, hs, canon_nought (dl s) hc c, tx_zero]; rfl
  · rw [decide_eq_false c, hs]
    exact tx_is0 (dl s) hc.1 (fun q => c (by rw [q]; rfl))
end Go.Proofs.Ythhmgghipgcinas
