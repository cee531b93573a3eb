/-
  What the rows' list of package-level variables gives a walk: the cells of the table of weights.
-/
import Derived.Test.YtmeicjbeibmmganDoorRows
import Derived.Test.YtmeicjbeibmmganDoorVal
import Derived.WalkKit
import Derived.ProofKit
import Derived.OpenShut
import Derived.LaidMore
import Derived.Lib.LaidTab
import Derived.Stop.Joined
namespace Go.Proofs.YtmeicjbeibmmganDoor
open Go.ChangeShapes Go.WideShapes Go.ChangeAt Go.RowKit

theorem own : ownKnob Tryd.prog.godebug = none := by kernel_rfl
theorem laidOut : laidOutB Tryd.prog = true := by kernel_rfl
theorem gTab : Tryd.prog.globalNamed "loop.example/g00085/impl.bitWeights" = some 1 := by kernel_rfl
theorem gTabType : (Tryd.prog.globals[1]?).map (·.type) = some 54 := by kernel_rfl
theorem cells2 : Tryd.prog.cellsOf 2 = 1 := by kernel_rfl
theorem cells51 : Tryd.prog.cellsOf 53 = 4 := by kernel_rfl
theorem cells52 : Tryd.prog.cellsOf 54 = 12 := by kernel_rfl

theorem tab_of_laid {W : World} {rest : List (String × DataW Unit)} (h : laidMet Tryd.prog (("loop.example/g00085/impl.bitWeights", Rows.laid_loop_example_g00085_impl_bitWeights) :: rest) W) : Tab W ∧ 1 < W.heap.size := by
  obtain ⟨ps, ⟨g', t', cs, fuel, p, q, hg', ht', hvar, hd, _, _⟩, _⟩ := h
  obtain rfl := Option.some.inj (gTab.symm.trans hg')
  obtain rfl := Option.some.inj (gTabType.symm.trans ht')
  obtain ⟨xs, m1, rfl, hx1, hlen, hn3, hel⟩ := DataW.trod_array Tryd.underlying54 hd
  rw [cells52] at hlen
  rw [cells51] at hel
  simp only [Rows.laid_loop_example_g00085_impl_bitWeights, Prod.mk.injEq, DataW.agg.injEq] at hx1
  match xs, hn3, hx1, hel with
  | [x0, x1, x2], _, hx1, hel =>
    simp only [List.map_cons, List.map_nil, List.cons.injEq, and_true] at hx1
    obtain ⟨⟨e0, e1, e2⟩, _⟩ := hx1
    obtain ⟨d0, p0⟩ := x0
    obtain ⟨d1, p1⟩ := x1
    obtain ⟨d2, p2⟩ := x2
    simp only at e0 e1 e2
    subst e0 e1 e2
    have r0 := Lib.cells_of_tab (k := .i64) (zs := [8, 4, 2, 1]) Tryd.underlying53 Tryd.underlying2 cells2 cells51 (p := p0) (hel 0 (by decide))
    have r1 := Lib.cells_of_tab (k := .i64) (zs := [4, 2, 2, 1]) Tryd.underlying53 Tryd.underlying2 cells2 cells51 (p := p1) (hel 1 (by decide))
    have r2 := Lib.cells_of_tab (k := .i64) (zs := [5, 2, 1, 1]) Tryd.underlying53 Tryd.underlying2 cells2 cells51 (p := p2) (hel 2 (by decide))
    have hall : ∀ i, W.cell? ⟨1, i, none⟩ = cs.toList[i]? := fun i => by simpa using World.var?_cell gTab hvar i
    have key : ∀ m k, k < 4 → cs.toList[m * 4 + k]? = (List.take 4 (List.drop (m * 4) cs.toList))[k]? := fun m k hk => by
      rw [List.getElem?_take_of_lt hk, List.getElem?_drop]
    have ht : Tab W := by
      intro m k hm hk
      rw [hall, key m k hk]
      match m, hm with
      | 0, _ => rw [r0]; match k, hk with
        | 0, _ | 1, _ | 2, _ | 3, _ => rfl
      | 1, _ => rw [r1]; match k, hk with
        | 0, _ | 1, _ | 2, _ | 3, _ => rfl
      | 2, _ => rw [r2]; match k, hk with
        | 0, _ | 1, _ | 2, _ | 3, _ => rfl
    exact ⟨ht, World.block_lt_of_cell? _ _ (ht 0 0 (by decide) (by decide))⟩
/-- One named variable: one datum. -/
theorem vars1 {H : Type} {enc : TypeId × Value → H} {P : Program} {w : World} {sp : Nat → Bool} {n : String} {gs : List (DataW H)} {ps : List MemPlace} (h : DataW.TrodVars enc P w sp [n] gs ps) : ∃ g0, gs = [g0] := by
  obtain ⟨_, _, _, _, d, _, rfl, _⟩ := trodVars_one h
  exact ⟨d, rfl⟩
end Go.Proofs.YtmeicjbeibmmganDoor
