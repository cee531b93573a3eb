/-
  The laws' own numbers in their boxes, beside Results: what a law over two numbers keeps in memory.
-/
import Derived.Test.YtmndemegiimagarGreatDoorBx4
import Derived.BigQuiet
import Derived.Deep.QuietTactic
import Derived.Test.YtmndemegiimagarGreatDoorQta
import Derived.Test.YtmndemegiimagarGreatDoorBx5
import Derived.Test.YtmndemegiimagarGreatDoorFinA
namespace Go.Proofs.YtmndemegiimagarGreatDoor
open Go.RowKit
set_option linter.unusedVariables false
set_option maxRecDepth 100000
theorem eqNum_same (k : Int) (b : Bool) (e : Int) (s : ByteArray) (w : World) :
    Calls Tryz.prog 29 #[numV k b e s, numV k b e s] w fun r w' => r = .returned (.bool true) ∧ Below w.heap.size w w' := by
  go_enter Tryz.func29, Tryz.ntmps29
  go_wp2
  go_ret
  exact ⟨rfl, ((Below.refl _ _).alloc (Nat.le_refl _) _).alloc (by simp) _⟩
/-- A result's value. -/
abbrev resV (k : Int) (b : Bool) (e : Int) (s : ByteArray) (f : Int) : Value := .agg #[.int .i64 k, .bool b, .int .i64 e, .string s, .int .i64 f]
theorem eqResult_same (k : Int) (b : Bool) (e : Int) (s : ByteArray) (f : Int) (w : World) :
    Calls Tryz.prog 13 #[resV k b e s f, resV k b e s f] w fun r w' => r = .returned (.bool true) ∧ Below w.heap.size w w' := by
  have HB : Hid (Below w.heap.size w ((w.alloc (.cells #[.int .i64 k, .bool b, .int .i64 e, .string s, .int .i64 f] 27)).alloc (.cells #[.int .i64 k, .bool b, .int .i64 e, .string s, .int .i64 f] 27))) := ((Below.refl _ _).alloc (Nat.le_refl _) _).alloc (by simp) _
  have c1 : ((w.alloc (.cells #[.int .i64 k, .bool b, .int .i64 e, .string s, .int .i64 f] 27)).alloc (.cells #[.int .i64 k, .bool b, .int .i64 e, .string s, .int .i64 f] 27)).cell? ⟨w.heap.size, 4, none⟩ = some (.int .i64 f) := by simp
  have c2 : ((w.alloc (.cells #[.int .i64 k, .bool b, .int .i64 e, .string s, .int .i64 f] 27)).alloc (.cells #[.int .i64 k, .bool b, .int .i64 e, .string s, .int .i64 f] 27)).cell? ⟨w.heap.size + 1, 4, none⟩ = some (.int .i64 f) := by simp
  have C1 : Hid (_ = _) := c1
  have C2 : Hid (_ = _) := c2
  clear c1 c2
  go_enter Tryz.func13, Tryz.ntmps13
  go_wp2_with fail
  refine (eqNum_same k b e s _).mono ?_
  rintro r w3 ⟨rfl, hb⟩
  have d1 := (hb.cell (p := ⟨w.heap.size, 4, none⟩) (by simp; omega)).trans C1.out
  have d2 := (hb.cell (p := ⟨w.heap.size + 1, 4, none⟩) (by simp)).trans C2.out
  have HB3 : Hid (Below w.heap.size w w3) := HB.out.trans (hb.mono (by simp; omega))
  clear hb
  go_wp2
  go_ret
  exact ⟨rfl, HB3.out⟩
end Go.Proofs.YtmndemegiimagarGreatDoor
namespace Go.Proofs.YtmndemegiimagarGreatDoor
open Go.RowKit
set_option linter.unusedVariables false
set_option maxRecDepth 100000
/-- A law's own copy of a number in a block. -/
def At4l (W : World) (b : Nat) (x y z u : Value) : Prop := W.heap[b]? = some (.cells #[x, y, z, u] 23 (0, 0))
theorem At4l.cells {w : World} {b : Nat} {x y z u : Value} (h : At4l w b x y z u) : w.cell? ⟨b, 0, none⟩ = some x ∧ w.cell? ⟨b, 1, none⟩ = some y ∧ w.cell? ⟨b, 2, none⟩ = some z ∧ w.cell? ⟨b, 3, none⟩ = some u := by
  unfold At4l at h
  exact ⟨by simp [World.cell?, h], by simp [World.cell?, h], by simp [World.cell?, h], by simp [World.cell?, h]⟩
theorem At4l.lt {w : World} {b : Nat} {x y z u : Value} (h : At4l w b x y z u) : b < w.heap.size := (Array.getElem?_eq_some_iff.1 h).1
theorem At4l.below {w w' : World} {b B : Nat} {x y z u : Value} (h : At4l w b x y z u) (hb : Below B w w') (hB : b < B) : At4l w' b x y z u := (hb.block b hB).trans h
theorem At4l.other {w : World} {b c : Nat} {x y z u : Value} (h : At4l w b x y z u) (hc : b ≠ c) (cs : Array Value) : At4l (w.setRow c cs) b x y z u := (setRow_other w c b cs hc).trans h
/-- Two boxes. -/
def LB (w : World) (ka : Int) (na : Bool) (ea : Int) (sa : ByteArray) (kb : Int) (nb : Bool) (eb : Int) (sb : ByteArray) (W : World) : Prop :=
  At4l W w.heap.size (.int .i64 ka) (.bool na) (.int .i64 ea) (.string sa) ∧ At4l W (w.heap.size + 1) (.int .i64 kb) (.bool nb) (.int .i64 eb) (.string sb) ∧ Below w.heap.size w W ∧ w.heap.size + 2 ≤ W.heap.size
section
variable {w W W' : World} {ka : Int} {na : Bool} {ea : Int} {sa : ByteArray} {kb : Int} {nb : Bool} {eb : Int} {sb : ByteArray}
theorem lb_new (w : World) (ka : Int) (na : Bool) (ea : Int) (sa : ByteArray) (kb : Int) (nb : Bool) (eb : Int) (sb : ByteArray) : LB w ka na ea sa kb nb eb sb ((w.alloc (.cells #[.int .i64 ka, .bool na, .int .i64 ea, .string sa] 23)).alloc (.cells #[.int .i64 kb, .bool nb, .int .i64 eb, .string sb] 23)) := by
  have h1 : At4l (w.alloc (.cells #[.int .i64 ka, .bool na, .int .i64 ea, .string sa] 23)) w.heap.size (.int .i64 ka) (.bool na) (.int .i64 ea) (.string sa) := (MapKept.heap_alloc w _).1
  have z1 : (w.alloc (.cells #[.int .i64 ka, .bool na, .int .i64 ea, .string sa] 23)).heap.size = w.heap.size + 1 := by simp
  have b1 : Below w.heap.size w (w.alloc (.cells #[.int .i64 ka, .bool na, .int .i64 ea, .string sa] 23)) := (Below.refl _ _).alloc (Nat.le_refl _) _
  generalize w.alloc (.cells #[.int .i64 ka, .bool na, .int .i64 ea, .string sa] 23) = w1 at *
  have h2 : At4l (w1.alloc (.cells #[.int .i64 kb, .bool nb, .int .i64 eb, .string sb] 23)) w1.heap.size (.int .i64 kb) (.bool nb) (.int .i64 eb) (.string sb) := (MapKept.heap_alloc w1 _).1
  have b2 : Below w1.heap.size w1 (w1.alloc (.cells #[.int .i64 kb, .bool nb, .int .i64 eb, .string sb] 23)) := (Below.refl _ _).alloc (Nat.le_refl _) _
  have z2 : (w1.alloc (.cells #[.int .i64 kb, .bool nb, .int .i64 eb, .string sb] 23)).heap.size = w1.heap.size + 1 := by simp
  rw [z1] at h2
  exact ⟨h1.below b2 (by omega), h2, b1.trans (b2.mono b1.size), by omega⟩
theorem LB.next (h : LB w ka na ea sa kb nb eb sb W) (hb : Below W.heap.size W W') : LB w ka na ea sa kb nb eb sb W' :=
  ⟨h.1.below hb h.1.lt, h.2.1.below hb h.2.1.lt, h.2.2.1.trans (hb.mono h.2.2.1.size), Nat.le_trans h.2.2.2 hb.size⟩
theorem LB.drew (h : LB w ka na ea sa kb nb eb sb W) : LB w ka na ea sa kb nb eb sb W.drew := ⟨h.1, h.2.1, h.2.2.1.drew, h.2.2.2⟩
theorem LB.row (h : LB w ka na ea sa kb nb eb sb W) {p : Nat} (hp : w.heap.size + 2 ≤ p) (cs : Array Value) : LB w ka na ea sa kb nb eb sb (W.setRow p cs) :=
  ⟨h.1.other (by omega) cs, h.2.1.other (by omega) cs, bel_row h.2.2.1 (by omega) cs, by rw [show (W.setRow p cs).heap.size = W.heap.size by simp [World.setRow]]; exact h.2.2.2⟩
/-- The boxes, a Result's block where it is laid, and what else is kept. -/
def LC (w : World) (ka : Int) (na : Bool) (ea : Int) (sa : ByteArray) (kb : Int) (nb : Bool) (eb : Int) (sb : ByteArray) (X : World → Prop) (b : Option Nat) (W : World) : Prop :=
  LB w ka na ea sa kb nb eb sb W ∧ (∀ p, b = some p → At5 W p (.int .i64 0) (.bool false) (.int .i64 0) (.string { data := #[] }) (.int .i64 0) ∧ w.heap.size + 2 ≤ p) ∧ X W
theorem LC.next {X : World → Prop} {b : Option Nat} (h : LC w ka na ea sa kb nb eb sb X b W) (hb : Below W.heap.size W W') (hX : X W → Below W.heap.size W W' → LB w ka na ea sa kb nb eb sb W → X W') : LC w ka na ea sa kb nb eb sb X b W' :=
  ⟨h.1.next hb, fun p hp => ⟨(h.2.1 p hp).1.below hb (h.2.1 p hp).1.lt, (h.2.1 p hp).2⟩, hX h.2.2 hb h.1⟩
theorem LC.lay {X : World → Prop} (h : LC w ka na ea sa kb nb eb sb X none W) (hX : X W → Below W.heap.size W (W.alloc (.cells #[.int .i64 0, .bool false, .int .i64 0, .string { data := #[] }, .int .i64 0] 27)) → LB w ka na ea sa kb nb eb sb W → X (W.alloc (.cells #[.int .i64 0, .bool false, .int .i64 0, .string { data := #[] }, .int .i64 0] 27))) :
    LC w ka na ea sa kb nb eb sb X (some W.heap.size) (W.alloc (.cells #[.int .i64 0, .bool false, .int .i64 0, .string { data := #[] }, .int .i64 0] 27)) := by
  have hb : Below W.heap.size W (W.alloc (.cells #[.int .i64 0, .bool false, .int .i64 0, .string { data := #[] }, .int .i64 0] 27)) := (Below.refl _ _).alloc (Nat.le_refl _) _
  refine ⟨h.1.next hb, fun p hp => ?_, hX h.2.2 hb h.1⟩
  cases hp
  exact ⟨at5_new W _ _ _ _ _, h.1.2.2.2⟩
end
end Go.Proofs.YtmndemegiimagarGreatDoor
