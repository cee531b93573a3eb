/-
  What the rows' list of package-level variables gives a walk: the table of the kinds' places.
-/
import Derived.Test.YtnkoeidolmiheaaDoorRows
import Derived.Test.YtnkoeidolmiheaaDoorOrc
import Derived.WalkKit
import Derived.ProofKit
import Derived.OpenShut
import Derived.OpenVars
import Derived.LaidMore
import Derived.Lib.LaidTab
import Derived.Stop.Joined
import Derived.Stop.LaidErr
namespace Go.Proofs.YtnkoeidolmiheaaDoor
open Go.ChangeShapes Go.WideShapes Go.ChangeAt Go.RowKit
theorem own : ownKnob Tryd.prog.godebug = none := by kernel_rfl
theorem laidOut : laidOutB Tryd.prog = true := by kernel_rfl
theorem gKpl : Tryd.prog.globalNamed "loop.example/g00085/impl.kindPlaces" = some 0 := by kernel_rfl
theorem gKplType : (Tryd.prog.globals[0]?).map (·.type) = some 72 := by kernel_rfl
theorem cellsI : Tryd.prog.cellsOf 2 = 1 := by kernel_rfl
theorem cells5 : Tryd.prog.cellsOf 72 = 5 := by kernel_rfl
theorem ktab_at {W : World} {rest : List (String × DataW Unit)} (h : laidMet Tryd.prog (("loop.example/g00085/impl.kindPlaces", Rows.laid_loop_example_g00085_impl_kindPlaces) :: rest) W) : KTab W := by
  obtain ⟨ps, ⟨g', t', cs, fuel, p, q, hg', ht', hvar, hd, _, _⟩, _⟩ := h
  obtain rfl := Option.some.inj (gKpl.symm.trans hg')
  obtain rfl := Option.some.inj (gKplType.symm.trans ht')
  have r0 := Lib.cells_of_tab (k := .i64) (zs := [0, 0, 1, 3, 2]) Tryd.underlying72 Tryd.underlying2 cellsI cells5 (p := p) hd
  have hall : ∀ i, W.cell? ⟨0, i, none⟩ = cs.toList[i]? := fun i => by simpa using World.var?_cell gKpl hvar i
  have ht : ∀ k : Nat, 1 ≤ k → k ≤ 4 → W.cell? ⟨0, k, none⟩ = some (.int .i64 (kpl k)) := by
    intro k h1 h4
    rw [hall, r0]
    match k, h1, h4 with
    | 1, _, _ | 2, _, _ | 3, _, _ | 4, _, _ => rfl
  exact ⟨ht, World.block_lt_of_cell? _ _ (ht 1 (by decide) (by decide))⟩
theorem ktab_of_laid {W : World} {x : String × DataW Unit} {rest : List (String × DataW Unit)} (h : laidMet Tryd.prog (x :: ("loop.example/g00085/impl.kindPlaces", Rows.laid_loop_example_g00085_impl_kindPlaces) :: rest) W) : KTab W := ktab_at (laidMet.tail h)
/-- One named variable: one datum. -/
theorem vars1 {H : Type} {enc : TypeId × Value → H} {P : Program} {w : World} {sp : Nat → Bool} {n : String} {gs : List (DataW H)} {ps : List MemPlace} (h : DataW.TrodVars enc P w sp [n] gs ps) : ∃ g0, gs = [g0] := by
  obtain ⟨_, _, _, _, d, _, rfl, _⟩ := trodVars_one h
  exact ⟨d, rfl⟩
end Go.Proofs.YtnkoeidolmiheaaDoor
