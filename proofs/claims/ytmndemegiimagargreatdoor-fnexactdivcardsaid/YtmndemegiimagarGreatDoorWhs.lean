/-
  Whole of the model, walked.
-/
import Derived.Test.YtmndemegiimagarGreatDoorWhj
import Derived.Test.YtmndemegiimagarGreatDoorSmO
namespace Go.Proofs.YtmndemegiimagarGreatDoor
open Go.RowKit
set_option linter.unusedVariables false
set_option maxRecDepth 100000
/-- One number's box and a result's. -/
abbrev s1W (w : World) (ka : Int) (na : Bool) (ea : Int) (sa : ByteArray) : World := (w.alloc (.cells #[.int .i64 ka, .bool na, .int .i64 ea, .string sa] 25)).alloc (.cells #[.int .i64 0, .bool false, .int .i64 0, .string { data := #[] }, .int .i64 0] 27)
/-- What lies in them. -/
def S1 (w W : World) (ka : Int) (na : Bool) (ea : Int) (sa : ByteArray) : Prop :=
  At4r W w.heap.size (.int .i64 ka) (.bool na) (.int .i64 ea) (.string sa) ∧ At5 W (w.heap.size + 1) (.int .i64 0) (.bool false) (.int .i64 0) (.string { data := #[] }) (.int .i64 0) ∧ Below w.heap.size w W ∧ w.heap.size + 1 < W.heap.size
theorem s1_new (w : World) (ka : Int) (na : Bool) (ea : Int) (sa : ByteArray) : S1 w (s1W w ka na ea sa) ka na ea sa := by
  unfold s1W
  have h1 := at4r_new w (.int .i64 ka) (.bool na) (.int .i64 ea) (.string sa)
  have z1 := new_size w (.cells #[.int .i64 ka, .bool na, .int .i64 ea, .string sa] 25)
  have b1 : Below w.heap.size w (w.alloc (.cells #[.int .i64 ka, .bool na, .int .i64 ea, .string sa] 25)) := (Below.refl _ _).alloc (Nat.le_refl _) _
  generalize w.alloc (.cells #[.int .i64 ka, .bool na, .int .i64 ea, .string sa] 25) = w1 at *
  have h2 := at5_new w1 (.int .i64 0) (.bool false) (.int .i64 0) (.string { data := #[] }) (.int .i64 0)
  have z2 := new_size w1 (.cells #[.int .i64 0, .bool false, .int .i64 0, .string { data := #[] }, .int .i64 0] 27)
  have b2 : Below w1.heap.size w1 (w1.alloc (.cells #[.int .i64 0, .bool false, .int .i64 0, .string { data := #[] }, .int .i64 0] 27)) := (Below.refl _ _).alloc (Nat.le_refl _) _
  rw [z1] at h2
  exact ⟨h1.next b2, h2, b1.trans (b2.mono b1.size), by omega⟩
theorem S1.next {w W W' : World} {ka : Int} {na : Bool} {ea : Int} {sa : ByteArray} (h : S1 w W ka na ea sa) (hb : Below W.heap.size W W') : S1 w W' ka na ea sa :=
  ⟨h.1.next hb, h.2.1.below hb h.2.1.lt, h.2.2.1.trans (hb.mono h.2.2.1.size), Nat.lt_of_lt_of_le h.2.2.2 hb.size⟩
theorem S1.alloc {w W : World} {ka : Int} {na : Bool} {ea : Int} {sa : ByteArray} (h : S1 w W ka na ea sa) (o : Obj) : S1 w (W.alloc o) ka na ea sa := h.next ((Below.refl _ _).alloc (Nat.le_refl _) _)
theorem S1.end {w W W' : World} {ka : Int} {na : Bool} {ea : Int} {sa : ByteArray} (h : S1 w W ka na ea sa) (hb : Below W.heap.size W W') : At5 W' (w.heap.size + 1) (.int .i64 0) (.bool false) (.int .i64 0) (.string { data := #[] }) (.int .i64 0) ∧ Below w.heap.size w W' := ⟨(h.next hb).2.1, (h.next hb).2.2.1⟩
theorem tx_00 : tx (nt 0) = { data := #[48] } := by
  rw [← nt_of [0] 0 canon_zero rfl (by decide)]
  apply ByteArray.ext; rw [tx_data]; rfl
end Go.Proofs.YtmndemegiimagarGreatDoor
