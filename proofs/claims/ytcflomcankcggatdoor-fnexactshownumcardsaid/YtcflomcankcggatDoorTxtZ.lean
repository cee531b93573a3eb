/-
  Noughts that are none behind a text; how long a text is at most.
-/
import Derived.Test.YtcflomcankcggatDoorTxt3
namespace Go.Proofs.YtcflomcankcggatDoor
open Go.RowKit
set_option linter.unusedVariables false
set_option maxRecDepth 100000
theorem canon_le (R : List Int) (h : Canon R) (k : Nat) (hp : 0 < k) (hk : vl R < 10 ^ k) : R.length ≤ k := by
  rcases Nat.lt_or_ge k R.length with c | c
  · have l := canon_low R h (by omega)
    have m := pow_mono k (R.length - 1) (by omega)
    omega
  · exact c
theorem conv_none (W : World) : ∀ dst, Tryd.prog.underlying dst = some .string → (convert 49 dst (.slice (some ⟨W.heap.size, 0, none⟩) 0 0)).run Tryd.prog (W.alloc (.cells #[] 5)) = .ok (.string (tx [])) (W.alloc (.cells #[] 5)) :=
  run_convert_bytes_arg (P := Tryd.prog) _ 49 5 Tryd.underlying49 Tryd.underlying5 W.heap.size 0 0 0 [] rfl (fun i hi => by simp at hi)
end Go.Proofs.YtcflomcankcggatDoor
