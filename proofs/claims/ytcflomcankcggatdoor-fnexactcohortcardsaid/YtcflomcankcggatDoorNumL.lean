/-
  A law's own copy of a number in its box.
-/
import Derived.Test.YtcflomcankcggatDoorBx4
namespace Go.Proofs.YtcflomcankcggatDoor
open Go.RowKit
set_option linter.unusedVariables false
set_option maxRecDepth 100000
abbrev nbl (w : World) (k : Int) (b : Bool) (e : Int) (s : ByteArray) : World := w.alloc (.cells #[.int .i64 k, .bool b, .int .i64 e, .string s] 23)
theorem nbl_cells {w W : World} {k : Int} {b : Bool} {e : Int} {s : ByteArray} (h : Below (w.heap.size + 1) (nbl w k b e s) W) : W.cell? ⟨w.heap.size, 0, none⟩ = some (.int .i64 k) ∧ W.cell? ⟨w.heap.size, 1, none⟩ = some (.bool b) ∧ W.cell? ⟨w.heap.size, 2, none⟩ = some (.int .i64 e) ∧ W.cell? ⟨w.heap.size, 3, none⟩ = some (.string s) := by
  refine ⟨?_, ?_, ?_, ?_⟩
  · rw [h.cell (p := ⟨w.heap.size, 0, none⟩) (by simp)]; simp
  · rw [h.cell (p := ⟨w.heap.size, 1, none⟩) (by simp)]; simp
  · rw [h.cell (p := ⟨w.heap.size, 2, none⟩) (by simp)]; simp
  · rw [h.cell (p := ⟨w.heap.size, 3, none⟩) (by simp)]; simp
theorem nbl_out {w W : World} {k : Int} {b : Bool} {e : Int} {s : ByteArray} (h : Below (w.heap.size + 1) (nbl w k b e s) W) : Below w.heap.size w W := ((Below.refl _ _).alloc (Nat.le_refl _) _).trans (h.mono (by omega))
theorem nbl_next {w W w1 : World} {k : Int} {b : Bool} {e : Int} {s : ByteArray} (h : Below (w.heap.size + 1) (nbl w k b e s) W) (hb : Below W.heap.size W w1) : Below (w.heap.size + 1) (nbl w k b e s) w1 := h.trans (hb.mono (by have := h.size; simp at this; omega))
end Go.Proofs.YtcflomcankcggatDoor
