/-
  Order of the program: the method that compares, walked.
-/
import Derived.Test.YtndnoblcnjccdafGreatDoorBx5
import Derived.Test.YtndnoblcnjccdafGreatDoorShf
import Derived.Test.YtndnoblcnjccdafGreatDoorQta
import Derived.BigQuiet
namespace Go.Proofs.YtndnoblcnjccdafGreatDoor
open Go.RowKit
set_option linter.unusedVariables false
set_option maxRecDepth 100000
/-- A Num's four cells in a block, which may be written. -/
def At4q (W : World) (b : Nat) (x y z u : Value) : Prop := W.heap[b]? = some (.cells #[x, y, z, u] 25 (0, 0))
theorem at4q_new (w : World) (x y z u : Value) : At4q (w.alloc (.cells #[x, y, z, u] 25)) w.heap.size x y z u := (MapKept.heap_alloc w (.cells #[x, y, z, u] 25)).1
theorem At4q.cells {w : World} {b : Nat} {x y z u : Value} (h : At4q w b x y z u) : w.cell? ⟨b, 0, none⟩ = some x ∧ w.cell? ⟨b, 1, none⟩ = some y ∧ w.cell? ⟨b, 2, none⟩ = some z ∧ w.cell? ⟨b, 3, none⟩ = some u ∧ ∀ i, w.frozen? ⟨b, i, none⟩ = false := by
  unfold At4q at h
  exact ⟨by simp [World.cell?, h], by simp [World.cell?, h], by simp [World.cell?, h], by simp [World.cell?, h], fun i => by simp [World.frozen?, h]⟩
theorem At4q.lt {w : World} {b : Nat} {x y z u : Value} (h : At4q w b x y z u) : b < w.heap.size := (Array.getElem?_eq_some_iff.1 h).1
theorem At4q.below {w w' : World} {b B : Nat} {x y z u : Value} (h : At4q w b x y z u) (hb : Below B w w') (hB : b < B) : At4q w' b x y z u := (hb.block b hB).trans h
theorem At4q.next {w w' : World} {b : Nat} {x y z u : Value} (h : At4q w b x y z u) (hb : Below w.heap.size w w') : At4q w' b x y z u := h.below hb h.lt
/-- Two numbers' boxes. -/
abbrev n2W (w : World) (kx : Int) (nx : Bool) (ex : Int) (sx : ByteArray) (ky : Int) (ny : Bool) (ey : Int) (sy : ByteArray) : World := (w.alloc (.cells #[.int .i64 kx, .bool nx, .int .i64 ex, .string sx] 25)).alloc (.cells #[.int .i64 ky, .bool ny, .int .i64 ey, .string sy] 25)
def N2o (p : Nat) (kx : Int) (nx : Bool) (ex : Int) (sx : ByteArray) (ky : Int) (ny : Bool) (ey : Int) (sy : ByteArray) (W : World) : Prop :=
  At4q W p (.int .i64 kx) (.bool nx) (.int .i64 ex) (.string sx) ∧ At4q W (p + 1) (.int .i64 ky) (.bool ny) (.int .i64 ey) (.string sy)
theorem n2o_new (w : World) (kx : Int) (nx : Bool) (ex : Int) (sx : ByteArray) (ky : Int) (ny : Bool) (ey : Int) (sy : ByteArray) : N2o w.heap.size kx nx ex sx ky ny ey sy (n2W w kx nx ex sx ky ny ey sy) ∧ Below w.heap.size w (n2W w kx nx ex sx ky ny ey sy) ∧ (n2W w kx nx ex sx ky ny ey sy).heap.size = w.heap.size + 2 := by
  unfold n2W
  have h1 := at4q_new w (.int .i64 kx) (.bool nx) (.int .i64 ex) (.string sx)
  have z1 : (w.alloc (.cells #[.int .i64 kx, .bool nx, .int .i64 ex, .string sx] 25)).heap.size = w.heap.size + 1 := by simp
  have b1 : Below w.heap.size w (w.alloc (.cells #[.int .i64 kx, .bool nx, .int .i64 ex, .string sx] 25)) := (Below.refl _ _).alloc (Nat.le_refl _) _
  generalize w.alloc (.cells #[.int .i64 kx, .bool nx, .int .i64 ex, .string sx] 25) = w1 at *
  have h2 := at4q_new w1 (.int .i64 ky) (.bool ny) (.int .i64 ey) (.string sy)
  have z2 : (w1.alloc (.cells #[.int .i64 ky, .bool ny, .int .i64 ey, .string sy] 25)).heap.size = w1.heap.size + 1 := by simp
  have b2 : Below w1.heap.size w1 (w1.alloc (.cells #[.int .i64 ky, .bool ny, .int .i64 ey, .string sy] 25)) := (Below.refl _ _).alloc (Nat.le_refl _) _
  rw [z1] at h2
  exact ⟨⟨h1.next b2, h2⟩, b1.trans (b2.mono b1.size), by omega⟩
theorem N2o.next {p : Nat} {W W' : World} {kx : Int} {nx : Bool} {ex : Int} {sx : ByteArray} {ky : Int} {ny : Bool} {ey : Int} {sy : ByteArray} (h : N2o p kx nx ex sx ky ny ey sy W) (hb : Below W.heap.size W W') : N2o p kx nx ex sx ky ny ey sy W' := ⟨h.1.next hb, h.2.next hb⟩
end Go.Proofs.YtndnoblcnjccdafGreatDoor
namespace Go.Proofs.YtndnoblcnjccdafGreatDoor
open Go.RowKit
set_option linter.unusedVariables false
set_option maxRecDepth 100000
/-- -1, 0, 1 of two numbers. -/
def cI (x y : Int) : Int := if x < y then -1 else if y < x then 1 else 0
def orI (x y : Int) : Int := if x = 0 then y else x
/-- Is it a nought? -/
def nouB (k : Int) (s : ByteArray) : Bool := (k == 1) && (s.toList == [48])
/-- The place of the first digit. -/
def fpl (k e : Int) (s : ByteArray) : Int := if nouB k s then -9223372036854775808 else e + s.size
/-- A text without the noughts behind it. -/
def trS (s : ByteArray) : ByteArray := ⟨(Lib.trimRightB s.data.toList 48).toArray⟩
def cszI (ka ea : Int) (sa : ByteArray) (kb eb : Int) (sb : ByteArray) : Int := orI (cI (fpl ka ea sa) (fpl kb eb sb)) (Lib.compareBytes (trS sa).data.toList (trS sb).data.toList)
theorem oNought_any (k : Int) (b : Bool) (e : Int) (s : ByteArray) (w : World) : Calls Tryz.prog 82 #[numV k b e s] w fun x w' => x = .returned (.bool (nouB k s)) ∧ Below w.heap.size w w' := by
  cases h1 : (k == 1) with
  | false =>
    have E : Hid (nouB k s = false) := by show _ = _; unfold nouB; rw [h1]; rfl
    rw [E.out]
    go_enter Tryz.func82, Tryz.ntmps82
    go_wp2
    go_ret
    exact ⟨rfl, (Below.refl _ _).alloc (Nat.le_refl _) _⟩
  | true =>
    cases h2 : (s.toList == [48]) with
    | false =>
      have E : Hid (nouB k s = false) := by show _ = _; unfold nouB; rw [h1, h2]; rfl
      rw [E.out]
      go_enter Tryz.func82, Tryz.ntmps82
      go_wp2
      go_ret
      exact ⟨rfl, (Below.refl _ _).alloc (Nat.le_refl _) _⟩
    | true =>
      have E : Hid (nouB k s = true) := by show _ = _; unfold nouB; rw [h1, h2]; rfl
      rw [E.out]
      go_enter Tryz.func82, Tryz.ntmps82
      go_wp2
      go_ret
      exact ⟨rfl, (Below.refl _ _).alloc (Nat.le_refl _) _⟩
/-- A new row of two numbers. -/
theorem rowI_new (w : World) (x y : Int) (t : TypeId) : (w.alloc (.cells #[.int .i64 x, .int .i64 y] t)).cell? ⟨w.heap.size, 0, none⟩ = some (.int .i64 x) ∧ (w.alloc (.cells #[.int .i64 x, .int .i64 y] t)).cell? ⟨w.heap.size, 1, none⟩ = some (.int .i64 y) ∧ Below w.heap.size w (w.alloc (.cells #[.int .i64 x, .int .i64 y] t)) := by
  have h := (MapKept.heap_alloc w (.cells #[.int .i64 x, .int .i64 y] t)).1
  exact ⟨by unfold World.cell?; simp only [h]; rfl, by unfold World.cell?; simp only [h]; rfl, (Below.refl _ _).alloc (Nat.le_refl _) _⟩
end Go.Proofs.YtndnoblcnjccdafGreatDoor
namespace Go.Proofs.YtndnoblcnjccdafGreatDoor
open Go.RowKit
set_option linter.unusedVariables false
set_option maxRecDepth 100000
/-- The place of a kind. -/
def kpl (k : Int) : Int := if k = 1 then 0 else if k = 2 then 1 else if k = 4 then 2 else 3
/-- Two of one sign, above nought. -/
def cmpU (x : Bool) (ka ea : Int) (sa : ByteArray) (kb eb : Int) (sb : ByteArray) : Int :=
  if x then orI (orI (cI (kpl ka) (kpl kb)) (cszI ka ea sa kb eb sb)) (cI ea eb) else orI (cI (kpl ka) (kpl kb)) (cszI ka ea sa kb eb sb)
def cmpR (x : Bool) (ka : Int) (na : Bool) (ea : Int) (sa : ByteArray) (kb : Int) (nb : Bool) (eb : Int) (sb : ByteArray) : Int :=
  if na && !nb then -1 else if nb && !na then 1 else if na then cmpU x kb eb sb ka ea sa else cmpU x ka ea sa kb eb sb
end Go.Proofs.YtndnoblcnjccdafGreatDoor
namespace Go.Proofs.YtndnoblcnjccdafGreatDoor
open Go.RowKit
set_option linter.unusedVariables false
set_option maxRecDepth 100000
end Go.Proofs.YtndnoblcnjccdafGreatDoor
