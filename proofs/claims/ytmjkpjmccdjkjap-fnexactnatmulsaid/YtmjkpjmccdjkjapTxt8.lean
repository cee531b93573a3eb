/-
  What the model's product of two decimal texts answers, walked.
-/
import Derived.Test.YtmjkpjmccdjkjapTxt5
import Derived.Test.YtmjkpjmccdjkjapTxt3
namespace Go.Proofs.Ytmjkpjmccdjkjap
open Go.RowKit
set_option linter.unusedVariables false
theorem NatMul_any (a b : List Int) (w : World) (ha : Canon a) (hb : Canon b) (la : a.length + b.length ≤ 200) :
    Calls Try.prog 17 #[.string (tx a), .string (tx b)] w fun e w' => ∃ R, e = .returned (.string (tx R)) ∧ Canon R ∧ vl R = vl a * vl b ∧ R.length ≤ a.length + b.length ∧ Below w.heap.size w w' := by
  have Ha : Hid (Canon a) := ha
  have Hb : Hid (Canon b) := hb
  clear ha hb
  go_enter Try.func17, Try.ntmps17
  go_wp2_with fail
  refine (NatOk_any a _ Ha.out (by omega)).mono ?_
  rintro e w' ⟨rfl, rfl⟩
  go_wp2_with fail
  refine (NatOk_any b _ Hb.out (by omega)).mono ?_
  rintro e w' ⟨rfl, rfl⟩
  go_wp2_with fail
  refine (l11Mul_any a b _ Ha.out Hb.out (by omega) (by omega)).mono ?_
  rintro e w1 ⟨R, rfl, hR, hv, hl, hb1⟩
  have HR : Hid (Canon R ∧ vl R = vl a * vl b) := ⟨hR, hv⟩
  clear hR hv
  go_wp2_with fail
  refine (l11Fit_any R _ (by omega)).mono ?_
  rintro e w' ⟨rfl, rfl⟩
  go_wp2
  go_ret
  exact ⟨R, rfl, HR.out.1, HR.out.2, hl, hb1⟩
end Go.Proofs.Ytmjkpjmccdjkjap
