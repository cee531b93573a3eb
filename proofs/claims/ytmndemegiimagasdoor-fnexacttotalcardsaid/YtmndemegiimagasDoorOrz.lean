/-
  Numbers in boxes of their own.
-/
import Derived.Test.YtmndemegiimagasDoorNum
import Derived.Test.YtmndemegiimagasDoorCls
namespace Go.Proofs.YtmndemegiimagasDoor
open Go.RowKit
set_option linter.unusedVariables false
/-- A Num's four cells in a block, which may be written. -/
def At4q (W : World) (b : Nat) (x y z u : Value) : Prop := W.heap[b]? = some (.cells #[x, y, z, u] 26 (0, 0))
theorem at4q_new (w : World) (x y z u : Value) : At4q (w.alloc (.cells #[x, y, z, u] 26)) w.heap.size x y z u := (MapKept.heap_alloc w (.cells #[x, y, z, u] 26)).1
theorem At4q.cells {w : World} {b : Nat} {x y z u : Value} (h : At4q w b x y z u) : w.cell? ⟨b, 0, none⟩ = some x ∧ w.cell? ⟨b, 1, none⟩ = some y ∧ w.cell? ⟨b, 2, none⟩ = some z ∧ w.cell? ⟨b, 3, none⟩ = some u ∧ ∀ i, w.frozen? ⟨b, i, none⟩ = false := by
  unfold At4q at h
  exact ⟨by simp [World.cell?, h], by simp [World.cell?, h], by simp [World.cell?, h], by simp [World.cell?, h], fun i => by simp [World.frozen?, h]⟩
theorem At4q.lt {w : World} {b : Nat} {x y z u : Value} (h : At4q w b x y z u) : b < w.heap.size := (Array.getElem?_eq_some_iff.1 h).1
theorem At4q.below {w w' : World} {b B : Nat} {x y z u : Value} (h : At4q w b x y z u) (hb : Below B w w') (hB : b < B) : At4q w' b x y z u := (hb.block b hB).trans h
theorem At4q.next {w w' : World} {b : Nat} {x y z u : Value} (h : At4q w b x y z u) (hb : Below w.heap.size w w') : At4q w' b x y z u := h.below hb h.lt
/-- Two numbers' boxes. -/
abbrev n2W (w : World) (kx : Int) (nx : Bool) (ex : Int) (sx : ByteArray) (ky : Int) (ny : Bool) (ey : Int) (sy : ByteArray) : World := (w.alloc (.cells #[.int .i64 kx, .bool nx, .int .i64 ex, .string sx] 26)).alloc (.cells #[.int .i64 ky, .bool ny, .int .i64 ey, .string sy] 26)
def N2 (p : Nat) (kx : Int) (nx : Bool) (ex : Int) (sx : ByteArray) (ky : Int) (ny : Bool) (ey : Int) (sy : ByteArray) (W : World) : Prop :=
  At4q W p (.int .i64 kx) (.bool nx) (.int .i64 ex) (.string sx) ∧ At4q W (p + 1) (.int .i64 ky) (.bool ny) (.int .i64 ey) (.string sy)
theorem n2_new (w : World) (kx : Int) (nx : Bool) (ex : Int) (sx : ByteArray) (ky : Int) (ny : Bool) (ey : Int) (sy : ByteArray) : N2 w.heap.size kx nx ex sx ky ny ey sy (n2W w kx nx ex sx ky ny ey sy) ∧ Below w.heap.size w (n2W w kx nx ex sx ky ny ey sy) ∧ (n2W w kx nx ex sx ky ny ey sy).heap.size = w.heap.size + 2 := by
  unfold n2W
  have h1 := at4q_new w (.int .i64 kx) (.bool nx) (.int .i64 ex) (.string sx)
  have z1 : (w.alloc (.cells #[.int .i64 kx, .bool nx, .int .i64 ex, .string sx] 26)).heap.size = w.heap.size + 1 := by simp
  have b1 : Below w.heap.size w (w.alloc (.cells #[.int .i64 kx, .bool nx, .int .i64 ex, .string sx] 26)) := (Below.refl _ _).alloc (Nat.le_refl _) _
  generalize w.alloc (.cells #[.int .i64 kx, .bool nx, .int .i64 ex, .string sx] 26) = w1 at *
  have h2 := at4q_new w1 (.int .i64 ky) (.bool ny) (.int .i64 ey) (.string sy)
  have z2 : (w1.alloc (.cells #[.int .i64 ky, .bool ny, .int .i64 ey, .string sy] 26)).heap.size = w1.heap.size + 1 := by simp
  have b2 : Below w1.heap.size w1 (w1.alloc (.cells #[.int .i64 ky, .bool ny, .int .i64 ey, .string sy] 26)) := (Below.refl _ _).alloc (Nat.le_refl _) _
  rw [z1] at h2
  exact ⟨⟨h1.next b2, h2⟩, b1.trans (b2.mono b1.size), by omega⟩
theorem N2.next {p : Nat} {W W' : World} {kx : Int} {nx : Bool} {ex : Int} {sx : ByteArray} {ky : Int} {ny : Bool} {ey : Int} {sy : ByteArray} (h : N2 p kx nx ex sx ky ny ey sy W) (hb : Below W.heap.size W W') : N2 p kx nx ex sx ky ny ey sy W' := ⟨h.1.next hb, h.2.next hb⟩
end Go.Proofs.YtmndemegiimagasDoor
