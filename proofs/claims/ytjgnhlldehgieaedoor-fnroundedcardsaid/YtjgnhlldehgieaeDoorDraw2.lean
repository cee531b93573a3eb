/-
  What the draws of lane words and shifts give, walked.
-/
import Derived.Test.YtjgnhlldehgieaeDoorDraw
namespace Go.Proofs.YtjgnhlldehgieaeDoor
open Go.RowKit
set_option linter.unusedVariables false
set_option maxRecDepth 100000

theorem u64_wrap_bd (x : Int) : 0 ≤ IntKind.u64.wrap x ∧ IntKind.u64.wrap x ≤ 18446744073709551615 := by
  rw [IntKind.wrap_u64]; omega
/-- A cell of a row that was laid just ahead of a draw. -/
theorem lit_at {w w2 : World} {arr : Array Value} {T : TypeId} {cb : Nat} (hg : (w.alloc (.cells arr T)).grownBy w2 (some cb)) (hcb : cb < w.heap.size) (i : Nat) (v : Value) (hv : arr[i]? = some v) : w2.cell? ⟨w.heap.size, i, none⟩ = some v := by
  refine hg.cell ?_ (fun e => by have e' : w.heap.size = cb := Option.some.inj e; omega)
  simpa using hv
theorem cur_alloc {B cb : Nat} {w : World} (h : Cur B w cb) (o : Obj) : Cur B (w.alloc o) cb := by
  obtain ⟨a, len, cap, i, h, hB, hcb, hlen, hi, hby, c0, c1, c2, f1, f2⟩ := h
  have bel : Below w.heap.size w (w.alloc o) := (Below.refl _ _).alloc (Nat.le_refl _) _
  refine ⟨a, len, cap, i, h, hB, Nat.lt_of_lt_of_le hcb bel.size, hlen, hi, hby.grown (World.grownBy_alloc w o (some cb)) hB, ?_, ?_, ?_, ?_, ?_⟩
  · exact (bel.cell (p := ⟨cb, 0, none⟩) hcb).trans c0
  · exact (bel.cell (p := ⟨cb, 1, none⟩) hcb).trans c1
  · exact (bel.cell (p := ⟨cb, 2, none⟩) hcb).trans c2
  · exact (bel.frozen (p := ⟨cb, 1, none⟩) hcb).trans f1
  · exact (bel.frozen (p := ⟨cb, 2, none⟩) hcb).trans f2
theorem Cur.lt {B cb : Nat} {w : World} (h : Cur B w cb) : B ≤ cb ∧ cb < w.heap.size := by
  obtain ⟨_, _, _, _, _, hB, hcb, _⟩ := h; exact ⟨hB, hcb⟩
end Go.Proofs.YtjgnhlldehgieaeDoor
