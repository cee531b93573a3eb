/-
  The laws' own numbers in their boxes: what a law over two numbers keeps in memory.
-/
import Derived.Test.YtmndemegiimagasDoorNumL
import Derived.Test.YtmndemegiimagasDoorCls
namespace Go.Proofs.YtmndemegiimagasDoor
open Go.RowKit
set_option linter.unusedVariables false
/-- A law's own copy of a number in a block. -/
def At4m (W : World) (b : Nat) (x y z u : Value) : Prop := W.heap[b]? = some (.cells #[x, y, z, u] 23 (0, 0))
theorem At4m.cells {w : World} {b : Nat} {x y z u : Value} (h : At4m w b x y z u) : w.cell? ⟨b, 0, none⟩ = some x ∧ w.cell? ⟨b, 1, none⟩ = some y ∧ w.cell? ⟨b, 2, none⟩ = some z ∧ w.cell? ⟨b, 3, none⟩ = some u := by
  unfold At4m at h
  exact ⟨by simp [World.cell?, h], by simp [World.cell?, h], by simp [World.cell?, h], by simp [World.cell?, h]⟩
theorem At4m.lt {w : World} {b : Nat} {x y z u : Value} (h : At4m w b x y z u) : b < w.heap.size := (Array.getElem?_eq_some_iff.1 h).1
theorem At4m.next {w w' : World} {b : Nat} {x y z u : Value} (h : At4m w b x y z u) (hb : Below w.heap.size w w') : At4m w' b x y z u := (hb.block b h.lt).trans h
/-- Two boxes. -/
def LM (w : World) (ka : Int) (na : Bool) (ea : Int) (sa : ByteArray) (kb : Int) (nb : Bool) (eb : Int) (sb : ByteArray) (W : World) : Prop :=
  At4m W w.heap.size (.int .i64 ka) (.bool na) (.int .i64 ea) (.string sa) ∧ At4m W (w.heap.size + 1) (.int .i64 kb) (.bool nb) (.int .i64 eb) (.string sb) ∧ Below w.heap.size w W
section
variable {w W W' : World} {ka : Int} {na : Bool} {ea : Int} {sa : ByteArray} {kb : Int} {nb : Bool} {eb : Int} {sb : ByteArray}
theorem LM.next (h : LM w ka na ea sa kb nb eb sb W) (hb : Below W.heap.size W W') : LM w ka na ea sa kb nb eb sb W' := ⟨h.1.next hb, h.2.1.next hb, h.2.2.trans (hb.mono h.2.2.size)⟩
theorem LM.bel (h : LM w ka na ea sa kb nb eb sb W) : Below w.heap.size w W := h.2.2
theorem LM.drew (h : LM w ka na ea sa kb nb eb sb W) : LM w ka na ea sa kb nb eb sb W.drew := ⟨h.1, h.2.1, h.2.2.drew⟩
theorem lm_new (w : World) (ka : Int) (na : Bool) (ea : Int) (sa : ByteArray) (kb : Int) (nb : Bool) (eb : Int) (sb : ByteArray) : LM w ka na ea sa kb nb eb sb ((w.alloc (.cells #[.int .i64 ka, .bool na, .int .i64 ea, .string sa] 23)).alloc (.cells #[.int .i64 kb, .bool nb, .int .i64 eb, .string sb] 23)) := by
  have h1 : At4m (w.alloc (.cells #[.int .i64 ka, .bool na, .int .i64 ea, .string sa] 23)) w.heap.size (.int .i64 ka) (.bool na) (.int .i64 ea) (.string sa) := (MapKept.heap_alloc w _).1
  have z1 : (w.alloc (.cells #[.int .i64 ka, .bool na, .int .i64 ea, .string sa] 23)).heap.size = w.heap.size + 1 := by simp
  have b1 : Below w.heap.size w (w.alloc (.cells #[.int .i64 ka, .bool na, .int .i64 ea, .string sa] 23)) := (Below.refl _ _).alloc (Nat.le_refl _) _
  generalize w.alloc (.cells #[.int .i64 ka, .bool na, .int .i64 ea, .string sa] 23) = w1 at *
  have h2 : At4m (w1.alloc (.cells #[.int .i64 kb, .bool nb, .int .i64 eb, .string sb] 23)) w1.heap.size (.int .i64 kb) (.bool nb) (.int .i64 eb) (.string sb) := (MapKept.heap_alloc w1 _).1
  have b2 : Below w1.heap.size w1 (w1.alloc (.cells #[.int .i64 kb, .bool nb, .int .i64 eb, .string sb] 23)) := (Below.refl _ _).alloc (Nat.le_refl _) _
  rw [z1] at h2
  exact ⟨h1.next b2, h2, b1.trans (b2.mono b1.size)⟩
end
end Go.Proofs.YtmndemegiimagasDoor
