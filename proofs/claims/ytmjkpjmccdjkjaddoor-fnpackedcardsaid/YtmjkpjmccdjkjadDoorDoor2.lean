/-
  What the rows' list of package-level variables gives a walk: both tables.
-/
import Derived.Test.YtmjkpjmccdjkjadDoorRows
import Derived.Test.YtmjkpjmccdjkjadDoorVal
import Derived.WalkKit
import Derived.ProofKit
import Derived.OpenShut
import Derived.LaidMore
import Derived.Lib.LaidTab
import Derived.Stop.Joined
import Derived.Test.YtmjkpjmccdjkjadDoorTbs
import Derived.Stop.LaidErr
namespace Go.Proofs.YtmjkpjmccdjkjadDoor
open Go.ChangeShapes Go.WideShapes Go.ChangeAt Go.RowKit

theorem own : ownKnob Tryd.prog.godebug = none := by kernel_rfl
theorem laidOut : laidOutB Tryd.prog = true := by kernel_rfl
theorem gTab : Tryd.prog.globalNamed "loop.example/g00085/impl.bitWeights" = some 1 := by kernel_rfl
theorem gTabType : (Tryd.prog.globals[1]?).map (·.type) = some 120 := by kernel_rfl
theorem cells2 : Tryd.prog.cellsOf 2 = 1 := by kernel_rfl
theorem cells51 : Tryd.prog.cellsOf 119 = 4 := by kernel_rfl
theorem cells52 : Tryd.prog.cellsOf 120 = 12 := by kernel_rfl

theorem tab_of_laid {W : World} {rest : List (String × DataW Unit)} (h : laidMet Tryd.prog (("loop.example/g00085/impl.bitWeights", Rows.laid_loop_example_g00085_impl_bitWeights) :: rest) W) : Tab W ∧ 1 < W.heap.size := by
  obtain ⟨ps, ⟨g', t', cs, fuel, p, q, hg', ht', hvar, hd, _, _⟩, _⟩ := h
  obtain rfl := Option.some.inj (gTab.symm.trans hg')
  obtain rfl := Option.some.inj (gTabType.symm.trans ht')
  obtain ⟨xs, m1, rfl, hx1, hlen, hn3, hel⟩ := DataW.trod_array Tryd.underlying120 hd
  rw [cells52] at hlen
  rw [cells51] at hel
  simp only [Rows.laid_loop_example_g00085_impl_bitWeights, Prod.mk.injEq, DataW.agg.injEq] at hx1
  match xs, hn3, hx1, hel with
  | [x0, x1, x2], _, hx1, hel =>
    simp only [List.map_cons, List.map_nil, List.cons.injEq, and_true] at hx1
    obtain ⟨⟨e0, e1, e2⟩, _⟩ := hx1
    obtain ⟨d0, p0⟩ := x0
    obtain ⟨d1, p1⟩ := x1
    obtain ⟨d2, p2⟩ := x2
    simp only at e0 e1 e2
    subst e0 e1 e2
    have r0 := Lib.cells_of_tab (k := .i64) (zs := [8, 4, 2, 1]) Tryd.underlying119 Tryd.underlying2 cells2 cells51 (p := p0) (hel 0 (by decide))
    have r1 := Lib.cells_of_tab (k := .i64) (zs := [4, 2, 2, 1]) Tryd.underlying119 Tryd.underlying2 cells2 cells51 (p := p1) (hel 1 (by decide))
    have r2 := Lib.cells_of_tab (k := .i64) (zs := [5, 2, 1, 1]) Tryd.underlying119 Tryd.underlying2 cells2 cells51 (p := p2) (hel 2 (by decide))
    have hall : ∀ i, W.cell? ⟨1, i, none⟩ = cs.toList[i]? := fun i => by simpa using World.var?_cell gTab hvar i
    have key : ∀ m k, k < 4 → cs.toList[m * 4 + k]? = (List.take 4 (List.drop (m * 4) cs.toList))[k]? := fun m k hk => by
      rw [List.getElem?_take_of_lt hk, List.getElem?_drop]
    have ht : Tab W := by
      intro m k hm hk
      rw [hall, key m k hk]
      match m, hm with
      | 0, _ => rw [r0]; match k, hk with
        | 0, _ | 1, _ | 2, _ | 3, _ => rfl
      | 1, _ => rw [r1]; match k, hk with
        | 0, _ | 1, _ | 2, _ | 3, _ => rfl
      | 2, _ => rw [r2]; match k, hk with
        | 0, _ | 1, _ | 2, _ | 3, _ => rfl
    exact ⟨ht, World.block_lt_of_cell? _ _ (ht 0 0 (by decide) (by decide))⟩
/-- One named variable: one datum. -/
theorem vars1 {H : Type} {enc : TypeId × Value → H} {P : Program} {w : World} {sp : Nat → Bool} {n : String} {gs : List (DataW H)} {ps : List MemPlace} (h : DataW.TrodVars enc P w sp [n] gs ps) : ∃ g0, gs = [g0] := by
  obtain ⟨_, _, _, _, d, _, rfl, _⟩ := trodVars_one h
  exact ⟨d, rfl⟩
end Go.Proofs.YtmjkpjmccdjkjadDoor
namespace Go.Proofs.YtmjkpjmccdjkjadDoor
open Go.ChangeShapes Go.WideShapes Go.ChangeAt Go.RowKit
theorem gRws : Tryd.prog.globalNamed "loop.example/g00085/impl.decletRows" = some 0 := by kernel_rfl
theorem gRwsType : (Tryd.prog.globals[0]?).map (·.type) = some 101 := by kernel_rfl
theorem cellsStr : Tryd.prog.cellsOf 9 = 1 := by kernel_rfl
theorem rwS_at (s : ByteArray) (r : Nat) (h : s.data.toList = (rwL r).map fun c => c.toNat.toUInt8) : s = rwS r := by
  apply ByteArray.ext
  show s.data = ((rwL r).map fun c => c.toNat.toUInt8).toArray
  rw [← h]
theorem rows_of_laid {W : World} {rest : List (String × DataW Unit)} (h : laidMet Tryd.prog (("loop.example/g00085/impl.decletRows", Rows.laid_loop_example_g00085_impl_decletRows) :: rest) W) : DRows W ∧ 0 < W.heap.size := by
  obtain ⟨ps, ⟨g', t', cs, fuel, p, q, hg', ht', hvar, hd, _, _⟩, _⟩ := h
  obtain rfl := Option.some.inj (gRws.symm.trans hg')
  obtain rfl := Option.some.inj (gRwsType.symm.trans ht')
  obtain ⟨xs, m1, rfl, hx1, hlen, hn8, hel⟩ := DataW.trod_array Tryd.underlying101 hd
  rw [cellsStr] at hel
  simp only [Rows.laid_loop_example_g00085_impl_decletRows, Prod.mk.injEq, DataW.agg.injEq] at hx1
  have hall : ∀ i, W.cell? ⟨0, i, none⟩ = cs.toList[i]? := fun i => by simpa using World.var?_cell gRws hvar i
  have hr : DRows W := by
    intro r hr
    have he := hel r hr
    obtain ⟨y, hy⟩ : ∃ y, xs[r]? = some y := ⟨xs[r]'(by omega), List.getElem?_eq_getElem (by omega)⟩
    rw [hy] at he
    obtain ⟨s, hc, hs, _⟩ := DataW.trod_string Tryd.underlying9 he
    have h1 : cs.toList[r]? = some (.string s) := by
      have := congrArg (·[0]?) hc
      simpa [List.getElem?_take, List.getElem?_drop] using this
    rw [hall, h1]
    have h2 : (xs.map (·.1))[r]? = some (DataW.lit (.string s.data.toList) : DataW Unit) := by rw [List.getElem?_map, hy, hs]; rfl
    rw [← hx1.1] at h2
    have h3 : s = rwS r := by
      match r, hr with
      | 0, _ | 1, _ | 2, _ | 3, _ | 4, _ | 5, _ | 6, _ | 7, _ =>
        simp only [List.getElem?_cons_succ, List.getElem?_cons_zero, Option.some.injEq, DataW.lit.injEq, Lit.string.injEq] at h2
        exact rwS_at s _ h2.symm
    rw [h3]
  exact ⟨hr, World.block_lt_of_cell? _ _ (hr 0 (by decide))⟩
theorem tabs_of_laid {W : World} {rest : List (String × DataW Unit)} (h : laidMet Tryd.prog (("loop.example/g00085/impl.bitWeights", Rows.laid_loop_example_g00085_impl_bitWeights) :: ("loop.example/g00085/impl.decletRows", Rows.laid_loop_example_g00085_impl_decletRows) :: rest) W) : Tabs W :=
  ⟨(tab_of_laid h).1, (rows_of_laid (laidMet.tail h)).1, (tab_of_laid h).2, (rows_of_laid (laidMet.tail h)).2⟩
theorem tabs_of_laid4 {W : World} {x : String × DataW Unit} {rest : List (String × DataW Unit)} (h : laidMet Tryd.prog (x :: ("loop.example/g00085/impl.bitWeights", Rows.laid_loop_example_g00085_impl_bitWeights) :: ("loop.example/g00085/impl.decletRows", Rows.laid_loop_example_g00085_impl_decletRows) :: rest) W) : Tabs W :=
  tabs_of_laid (laidMet.tail h)
/-- Two named variables: two data. -/
theorem vars2 {H : Type} {enc : TypeId × Value → H} {P : Program} {w : World} {sp : Nat → Bool} {n m : String} {gs : List (DataW H)} {ps : List MemPlace} (h : DataW.TrodVars enc P w sp [n, m] gs ps) : ∃ g0 g1, gs = [g0, g1] := by
  cases gs with
  | nil => simp [DataW.TrodVars] at h
  | cons g0 r =>
    obtain ⟨_, _, _, _, _, _, _, _, _, _, hs, _⟩ := h
    obtain ⟨g1, rfl⟩ := vars1 hs
    exact ⟨_, _, rfl⟩
end Go.Proofs.YtmjkpjmccdjkjadDoor
