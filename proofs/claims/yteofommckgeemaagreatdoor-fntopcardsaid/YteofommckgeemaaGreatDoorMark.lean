/-
  The laws' marks on a slice of int64: every place written over, and no block but the slice's own turned, walked.
-/
import Derived.Test.YteofommckgeemaaGreatDoorSl

namespace Go.Proofs.YteofommckgeemaaGreatDoor
open Go.RowKit
set_option linter.unusedVariables false
set_option maxRecDepth 100000
/-- A slice stays where only a block below its own turns. -/
theorem Has.grown {w w' : World} {base : Nat} {v : Value} {zs : List Int} {r : Option Nat} (h : Has w base v zs) (hg : w.grownBy w' r) (hr : ∀ k, r = some k → k < base) : Has w' base v zs := by
  obtain ⟨hl, h⟩ := h
  refine ⟨hl, ?_⟩
  rcases h with h | ⟨g, cap, cur, e, hgb, hc, q⟩
  · exact .inl h
  · have hlt := (Array.getElem?_eq_some_iff.1 hc).1
    exact .inr ⟨g, cap, cur, e, hgb, by rw [hg.block g hlt (fun e => by have := hr g e.symm; omega)]; exact hc, q⟩
/-- A slice stays where only a block that is not its own turns. -/
theorem Has.apart {w w' : World} {base : Nat} {v : Value} {zs : List Int} {r : Option Nat} (h : Has w base v zs) (hg : w.grownBy w' r) (hr : ∀ k, v.ownBlock = some k → r ≠ some k) : Has w' base v zs := by
  obtain ⟨hl, h⟩ := h
  refine ⟨hl, ?_⟩
  rcases h with h | ⟨g, cap, cur, e, hgb, hc, q⟩
  · exact .inl h
  · have hlt := (Array.getElem?_eq_some_iff.1 hc).1
    exact .inr ⟨g, cap, cur, e, hgb, by rw [hg.block g hlt (fun e' => hr g (by rw [e]; rfl) e'.symm)]; exact hc, q⟩
/-- A slice's own block lies from its base on and is there. -/
theorem Has.own {w : World} {base : Nat} {v : Value} {zs : List Int} (h : Has w base v zs) : ∀ k, v.ownBlock = some k → base ≤ k ∧ k < w.heap.size := fun k hk => by
  rcases h.form with ⟨rfl, -⟩ | ⟨g, cap, rfl, hb, hl, -⟩
  · cases hk
  · cases hk; exact ⟨hb, hl⟩
end Go.Proofs.YteofommckgeemaaGreatDoor
