/-
  The model's naturals as texts: NatAdd, NatShift, and the laws' digits, value and above, walked.
-/
import Derived.Test.YtjgnhlldehgieaeDoorTxt2
import Derived.Test.YtjgnhlldehgieaeDoorIn
namespace Go.Proofs.YtjgnhlldehgieaeDoor
open Go.RowKit
set_option linter.unusedVariables false
set_option maxRecDepth 100000

theorem NatAdd_any (a b : List Int) (w : World) (ha : Canon a) (hb : Canon b) (la : a.length ≤ 199) (lb : b.length ≤ 199) :
    Calls Tryd.prog 8 #[.string (tx a), .string (tx b)] w fun e w' => ∃ R, e = .returned (.string (tx R)) ∧ Canon R ∧ vl R = vl a + vl b ∧ R.length ≤ max a.length b.length + 1 ∧ Below w.heap.size w w' := by
  have Ha : Hid (Canon a) := ha
  have Hb : Hid (Canon b) := hb
  clear ha hb
  go_enter Tryd.func8, Tryd.ntmps8
  go_wp2_with fail
  refine (NatOk_any a _ Ha.out (by omega)).mono ?_
  rintro e w' ⟨rfl, rfl⟩
  go_wp2_with fail
  refine (NatOk_any b _ Hb.out (by omega)).mono ?_
  rintro e w' ⟨rfl, rfl⟩
  go_wp2_with fail
  refine (l11Add_any a b _ Ha.out Hb.out (by omega) (by omega)).mono ?_
  rintro e w1 ⟨R, rfl, hR, hv, hl, hb1⟩
  have HR : Hid (Canon R ∧ vl R = vl a + vl b) := ⟨hR, hv⟩
  clear hR hv
  go_wp2_with fail
  refine (l11Fit_any R _ (by omega)).mono ?_
  rintro e w' ⟨rfl, rfl⟩
  go_wp2
  go_ret
  exact ⟨R, rfl, HR.out.1, HR.out.2, hl, hb1⟩
/-- A byte of a digit, as a text. -/
theorem conv_one (d : Int) (W : World) : ∀ dst, Tryd.prog.underlying dst = some .string → (convert 22 dst (.slice (some ⟨W.heap.size, 0, none⟩) 1 1)).run Tryd.prog (W.alloc (.cells #[.int .u8 (48 + d)] 5)) = .ok (.string (tx [d])) (W.alloc (.cells #[.int .u8 (48 + d)] 5)) :=
  run_convert_bytes_arg (P := Tryd.prog) _ 22 5 Tryd.underlying22 Tryd.underlying5 W.heap.size 0 1 1 [48 + d] rfl (fun i hi => by
    match i, hi with
    | 0, _ => simp)
end Go.Proofs.YtjgnhlldehgieaeDoor
