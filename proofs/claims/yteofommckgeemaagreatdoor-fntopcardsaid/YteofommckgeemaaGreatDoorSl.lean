/-
  Slices of int64 in memory of the call's own: what a slice holds, what keeps it, and what the laws' helpers on such slices answer (equal, marked, held), walked.
-/
import Derived.WalkKit
import Derived.Test.YteofommckgeemaaGreatDoorRows
import Derived.BigQuiet
import Derived.Deep.QuietTactic
import Derived.WalkSmall
namespace Go.Proofs.YteofommckgeemaaGreatDoor.Ln
/-- n lanes up, in 64 bits. -/
def up (w : Int) (n : Nat) : Int := w * 16 ^ n % 18446744073709551616
theorem ret_bool {a b : Bool} (h : a = b) : Ending.returned (.bool a) = .returned (.bool b) := by rw [h]
end Go.Proofs.YteofommckgeemaaGreatDoor.Ln
namespace Go.Proofs.YteofommckgeemaaGreatDoor
open Go.RowKit
set_option linter.unusedVariables false
set_option maxRecDepth 100000
theorem results_num {fn : Func} {p : Tmp} {b : Nat} {x y z u : Value} (h : fn.results = #[.cell p 78]) (tmps : Array Value) (w : World) (hp : tmps[p]?.getD undef = .pointer (some ⟨b, 0, none⟩))
    (q0 : w.cell? ⟨b, 0, none⟩ = some x) (q1 : w.cell? ⟨b, 1, none⟩ = some y) (q2 : w.cell? ⟨b, 2, none⟩ = some z) (q3 : w.cell? ⟨b, 3, none⟩ = some u) : (results fn tmps).run Tryz.prog w = .ok (.agg #[x, y, z, u]) w := by
  simp [results, h, hp, go_sem, q0, q1, q2, q3]
/-- A Num's four cells in a block. -/
def At4 (W : World) (b : Nat) (x y z u : Value) : Prop := W.cell? ⟨b, 0, none⟩ = some x ∧ W.cell? ⟨b, 1, none⟩ = some y ∧ W.cell? ⟨b, 2, none⟩ = some z ∧ W.cell? ⟨b, 3, none⟩ = some u ∧ ∀ i, W.frozen? ⟨b, i, none⟩ = false
theorem at4_new (w : World) (x y z u : Value) : At4 (w.alloc (.cells #[x, y, z, u] 78)) w.heap.size x y z u := by
  refine ⟨?_, ?_, ?_, ?_, fun i => ?_⟩ <;> simp
theorem At4.below {W w1 : World} {b B : Nat} {x y z u : Value} (h : At4 W b x y z u) (hb : Below B W w1) (hB : b < B) : At4 w1 b x y z u :=
  ⟨(hb.cell (p := ⟨b, 0, none⟩) hB).trans h.1, (hb.cell (p := ⟨b, 1, none⟩) hB).trans h.2.1, (hb.cell (p := ⟨b, 2, none⟩) hB).trans h.2.2.1, (hb.cell (p := ⟨b, 3, none⟩) hB).trans h.2.2.2.1, fun i => (hb.frozen (p := ⟨b, i, none⟩) hB).trans (h.2.2.2.2 i)⟩
theorem At4.alloc {W : World} {b : Nat} {x y z u : Value} (h : At4 W b x y z u) (hb : b < W.heap.size) (o : Obj) : At4 (W.alloc o) b x y z u := h.below ((Below.refl _ _).alloc (Nat.le_refl _) _) hb
theorem At4.put {W : World} {b : Nat} {x y z u : Value} (h : At4 W b x y z u) (x' y' z' u' : Value) : At4 ((((W.setCell ⟨b, 0, none⟩ x').setCell ⟨b, 1, none⟩ y').setCell ⟨b, 2, none⟩ z').setCell ⟨b, 3, none⟩ u') b x' y' z' u' := by
  obtain ⟨h0, h1, h2, h3, h4⟩ := h
  refine ⟨?_, ?_, ?_, ?_, fun i => ?_⟩
  · rw [World.cell?_setCell_other _ _ _ _ (by simp), World.cell?_setCell_other _ _ _ _ (by simp), World.cell?_setCell_other _ _ _ _ (by simp)]; exact World.cell?_setCell_same _ _ _ h0
  · rw [World.cell?_setCell_other _ _ _ _ (by simp), World.cell?_setCell_other _ _ _ _ (by simp)]; exact World.cell?_setCell_same _ _ _ (u := y) (by rw [World.cell?_setCell_other _ _ _ _ (by simp)]; exact h1)
  · rw [World.cell?_setCell_other _ _ _ _ (by simp)]; exact World.cell?_setCell_same _ _ _ (u := z) (by rw [World.cell?_setCell_other _ _ _ _ (by simp), World.cell?_setCell_other _ _ _ _ (by simp)]; exact h2)
  · exact World.cell?_setCell_same _ _ _ (u := u) (by rw [World.cell?_setCell_other _ _ _ _ (by simp), World.cell?_setCell_other _ _ _ _ (by simp), World.cell?_setCell_other _ _ _ _ (by simp)]; exact h3)
  · rw [World.frozen?_setCell, World.frozen?_setCell, World.frozen?_setCell, World.frozen?_setCell]; exact h4 i
theorem At4.drewN {W : World} {b : Nat} {x y z u : Value} (h : At4 W b x y z u) (n : Nat) : At4 (W.drewN n) b x y z u := h
theorem At4.far {W : World} {b : Nat} {x y z u : Value} (h : At4 W b x y z u) {b' : Nat} (hb : b' ≠ b) (i : Nat) (v : Value) : At4 (W.setCell ⟨b', i, none⟩ v) b x y z u := by
  obtain ⟨h0, h1, h2, h3, h4⟩ := h
  have ne : ∀ j, (⟨b', i, none⟩ : Addr) ≠ ⟨b, j, none⟩ := fun j e => hb (by cases e; rfl)
  refine ⟨?_, ?_, ?_, ?_, fun i => by rw [World.frozen?_setCell]; exact h4 i⟩
  · rw [World.cell?_setCell_other _ _ _ _ (ne 0)]; exact h0
  · rw [World.cell?_setCell_other _ _ _ _ (ne 1)]; exact h1
  · rw [World.cell?_setCell_other _ _ _ _ (ne 2)]; exact h2
  · rw [World.cell?_setCell_other _ _ _ _ (ne 3)]; exact h3
end Go.Proofs.YteofommckgeemaaGreatDoor
namespace Go.Proofs.YteofommckgeemaaGreatDoor
open Go.RowKit
set_option linter.unusedVariables false
set_option maxRecDepth 100000
/-- The slice value v holds the numbers zs in a row of its own, in a block from base on. -/
def Has (w : World) (base : Nat) (v : Value) (zs : List Int) : Prop := w.ownsRow base 2 1 v zs.length (zs.map (Value.int .i64))
theorem own_below {w w' : World} {base B : Nat} {e : TypeId} {s : Nat} {v : Value} {n : Nat} {xs : List Value} (h : w.ownsRow base e s v n xs) (hb : Below B w w') (hB : w.heap.size ≤ B) : w'.ownsRow base e s v n xs := by
  obtain ⟨hl, h⟩ := h
  refine ⟨hl, ?_⟩
  rcases h with h | ⟨g, cap, cur, e, hg, hc, r⟩
  · exact .inl h
  · have := (Array.getElem?_eq_some_iff.1 hc).1
    exact .inr ⟨g, cap, cur, e, hg, by rw [hb.block g (by omega)]; exact hc, r⟩
theorem Has.kept {w w' : World} {base : Nat} {v : Value} {zs : List Int} (h : Has w base v zs) (hb : ∀ k, k < w.heap.size → w'.heap[k]? = w.heap[k]?) : Has w' base v zs := by
  obtain ⟨hl, h⟩ := h
  refine ⟨hl, ?_⟩
  rcases h with h | ⟨g, cap, cur, e, hg, hc, r⟩
  · exact .inl h
  · exact .inr ⟨g, cap, cur, e, hg, by rw [hb g (Array.getElem?_eq_some_iff.1 hc).1]; exact hc, r⟩
theorem Has.below {w w' : World} {base B : Nat} {v : Value} {zs : List Int} (h : Has w base v zs) (hb : Below B w w') (hB : w.heap.size ≤ B) : Has w' base v zs :=
  h.kept fun k hk => hb.block k (by omega)
theorem Has.form {w : World} {base : Nat} {v : Value} {zs : List Int} (h : Has w base v zs) :
    (v = .slice none 0 0 ∧ zs = []) ∨ ∃ g cap, v = .slice (some ⟨g, 0, none⟩) zs.length cap ∧ base ≤ g ∧ g < w.heap.size ∧ zs.length ≤ 9223372036854775807 ∧ (∀ i, i < zs.length → w.cell? ⟨g, i, none⟩ = some (.int .i64 (zs.getD i 0))) ∧ (∀ i, w.frozen? ⟨g, i, none⟩ = false) := by
  have h0 := h
  obtain ⟨hl, h⟩ := h
  rcases h with ⟨rfl, h⟩ | ⟨g, cap, cur, rfl, hg, hc, hn, hm, hs, ht⟩
  · exact .inl ⟨rfl, List.length_eq_zero_iff.1 h⟩
  · refine .inr ⟨g, cap, rfl, hg, (Array.getElem?_eq_some_iff.1 hc).1, by unfold maxLen at hm; omega, fun i hi => ?_, fun i => World.ownsRow.frozenAt h0 i⟩
    rw [World.ownsRow.cellAt h0 i (by omega)]
    simp [hi]
theorem Has.len {w : World} {base : Nat} {v : Value} {zs : List Int} (h : Has w base v zs) : ∃ a cap, v = .slice a zs.length cap ∧ zs.length ≤ 9223372036854775807 := by
  rcases h.form with ⟨rfl, rfl⟩ | ⟨g, cap, rfl, _, _, hm, _⟩
  · exact ⟨_, _, rfl, by simp⟩
  · exact ⟨_, _, rfl, hm⟩
end Go.Proofs.YteofommckgeemaaGreatDoor
