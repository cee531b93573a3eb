/-
  A Num's four cells in a block of memory.
-/
import Derived.Test.YtcflomcankcggatDoorRows
import Derived.WalkKit
import Derived.BigQuiet
import Derived.Deep.QuietTactic
import Derived.Test.YtcflomcankcggatDoorLn
namespace Go.Proofs.YtcflomcankcggatDoor
open Go.RowKit
set_option linter.unusedVariables false
set_option maxRecDepth 100000
theorem results_num {fn : Func} {p : Tmp} {b : Nat} {x y z u : Value} (h : fn.results = #[.cell p 26]) (tmps : Array Value) (w : World) (hp : tmps[p]?.getD undef = .pointer (some ⟨b, 0, none⟩))
    (q0 : w.cell? ⟨b, 0, none⟩ = some x) (q1 : w.cell? ⟨b, 1, none⟩ = some y) (q2 : w.cell? ⟨b, 2, none⟩ = some z) (q3 : w.cell? ⟨b, 3, none⟩ = some u) : (results fn tmps).run Tryd.prog w = .ok (.agg #[x, y, z, u]) w := by
  simp [results, h, hp, go_sem, q0, q1, q2, q3]
/-- A Num's four cells in a block. -/
def At4 (W : World) (b : Nat) (x y z u : Value) : Prop := W.cell? ⟨b, 0, none⟩ = some x ∧ W.cell? ⟨b, 1, none⟩ = some y ∧ W.cell? ⟨b, 2, none⟩ = some z ∧ W.cell? ⟨b, 3, none⟩ = some u ∧ ∀ i, W.frozen? ⟨b, i, none⟩ = false
theorem at4_new (w : World) (x y z u : Value) : At4 (w.alloc (.cells #[x, y, z, u] 26)) w.heap.size x y z u := by
  refine ⟨?_, ?_, ?_, ?_, fun i => ?_⟩ <;> simp
theorem At4.below {W w1 : World} {b B : Nat} {x y z u : Value} (h : At4 W b x y z u) (hb : Below B W w1) (hB : b < B) : At4 w1 b x y z u :=
  ⟨(hb.cell (p := ⟨b, 0, none⟩) hB).trans h.1, (hb.cell (p := ⟨b, 1, none⟩) hB).trans h.2.1, (hb.cell (p := ⟨b, 2, none⟩) hB).trans h.2.2.1, (hb.cell (p := ⟨b, 3, none⟩) hB).trans h.2.2.2.1, fun i => (hb.frozen (p := ⟨b, i, none⟩) hB).trans (h.2.2.2.2 i)⟩
theorem At4.alloc {W : World} {b : Nat} {x y z u : Value} (h : At4 W b x y z u) (hb : b < W.heap.size) (o : Obj) : At4 (W.alloc o) b x y z u := h.below ((Below.refl _ _).alloc (Nat.le_refl _) _) hb
theorem At4.put {W : World} {b : Nat} {x y z u : Value} (h : At4 W b x y z u) (x' y' z' u' : Value) : At4 ((((W.setCell ⟨b, 0, none⟩ x').setCell ⟨b, 1, none⟩ y').setCell ⟨b, 2, none⟩ z').setCell ⟨b, 3, none⟩ u') b x' y' z' u' := by
  obtain ⟨h0, h1, h2, h3, h4⟩ := h
  refine ⟨?_, ?_, ?_, ?_, fun i => ?_⟩
  · rw [World.cell?_setCell_other _ _ _ _ (by simp), World.cell?_setCell_other _ _ _ _ (by simp), World.cell?_setCell_other _ _ _ _ (by simp)]; exact World.cell?_setCell_same _ _ _ h0
  · rw [World.cell?_setCell_other _ _ _ _ (by simp), World.cell?_setCell_other _ _ _ _ (by simp)]; exact World.cell?_setCell_same _ _ _ (u := y) (by rw [World.cell?_setCell_other _ _ _ _ (by simp)]; exact h1)
  · rw [World.cell?_setCell_other _ _ _ _ (by simp)]; exact World.cell?_setCell_same _ _ _ (u := z) (by rw [World.cell?_setCell_other _ _ _ _ (by simp), World.cell?_setCell_other _ _ _ _ (by simp)]; exact h2)
  · exact World.cell?_setCell_same _ _ _ (u := u) (by rw [World.cell?_setCell_other _ _ _ _ (by simp), World.cell?_setCell_other _ _ _ _ (by simp), World.cell?_setCell_other _ _ _ _ (by simp)]; exact h3)
  · rw [World.frozen?_setCell, World.frozen?_setCell, World.frozen?_setCell, World.frozen?_setCell]; exact h4 i
theorem At4.drewN {W : World} {b : Nat} {x y z u : Value} (h : At4 W b x y z u) (n : Nat) : At4 (W.drewN n) b x y z u := h
theorem At4.far {W : World} {b : Nat} {x y z u : Value} (h : At4 W b x y z u) {b' : Nat} (hb : b' ≠ b) (i : Nat) (v : Value) : At4 (W.setCell ⟨b', i, none⟩ v) b x y z u := by
  obtain ⟨h0, h1, h2, h3, h4⟩ := h
  have ne : ∀ j, (⟨b', i, none⟩ : Addr) ≠ ⟨b, j, none⟩ := fun j e => hb (by cases e; rfl)
  refine ⟨?_, ?_, ?_, ?_, fun i => by rw [World.frozen?_setCell]; exact h4 i⟩
  · rw [World.cell?_setCell_other _ _ _ _ (ne 0)]; exact h0
  · rw [World.cell?_setCell_other _ _ _ _ (ne 1)]; exact h1
  · rw [World.cell?_setCell_other _ _ _ _ (ne 2)]; exact h2
  · rw [World.cell?_setCell_other _ _ _ _ (ne 3)]; exact h3
theorem bel_four {B : Nat} {w W : World} (h : Below B w W) {b : Nat} (hb : B ≤ b) (x y z u : Value) : Below B w ((((W.setCell ⟨b, 0, none⟩ x).setCell ⟨b, 1, none⟩ y).setCell ⟨b, 2, none⟩ z).setCell ⟨b, 3, none⟩ u) := (((h.setCell hb _).setCell hb _).setCell hb _).setCell hb _
end Go.Proofs.YtcflomcankcggatDoor
