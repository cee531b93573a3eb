/-
  The model's naturals as texts: NatAdd, NatShift, and the laws' digits, value and above, walked.
-/
import Derived.Test.YtcflomcankcggatDoorTxt2
import Derived.Test.YtcflomcankcggatDoorIn
namespace Go.Proofs.YtcflomcankcggatDoor
open Go.RowKit
set_option linter.unusedVariables false
set_option maxRecDepth 100000

/-- A byte of a digit, as a text. -/
theorem conv_one (d : Int) (W : World) : ∀ dst, Tryd.prog.underlying dst = some .string → (convert 49 dst (.slice (some ⟨W.heap.size, 0, none⟩) 1 1)).run Tryd.prog (W.alloc (.cells #[.int .u8 (48 + d)] 5)) = .ok (.string (tx [d])) (W.alloc (.cells #[.int .u8 (48 + d)] 5)) :=
  run_convert_bytes_arg (P := Tryd.prog) _ 49 5 Tryd.underlying49 Tryd.underlying5 W.heap.size 0 1 1 [48 + d] rfl (fun i hi => by
    match i, hi with
    | 0, _ => simp)
end Go.Proofs.YtcflomcankcggatDoor
