/-
  A number that came in, opened: its four cells.
-/
import Derived.Test.YtcflomcankcggatDoorNum
import Derived.Lib.SmallJoins
import Derived.ProofKit
import Derived.OpenShut
namespace Go.Proofs.YtcflomcankcggatDoor
open Go.ChangeShapes Go.WideShapes Go.ChangeAt Go.RowKit
set_option linter.unusedVariables false
set_option maxRecDepth 100000
set_option maxRecDepth 100000 in
theorem open_num {H : Type} {enc : TypeId × Value → H} {W : World} {base b0 : Nat} {r : Reach} {sp : Nat → Bool} {held : Bool} {v : Value} {d : DataW H} {ps : List MemPlace} (hval : Value.okWide Tryd.prog W r b0 23 v) (hd : DataW.Trod enc Tryd.prog W base sp held 23 v d ps) :
    ∃ k b e s, v = numV k b e s ∧ (Lit.int .i64 k).wf = true ∧ (Lit.int .i64 e).wf = true ∧ s.size ≤ maxLen := by
  obtain ⟨cs, rfl, hsz⟩ := okWide_struct Tryd.underlying23 hval
  have hc4 : Tryd.prog.cellsOf 23 = 4 := by kernel_rfl
  have ci : Tryd.prog.cellsOf 2 = 1 := by kernel_rfl
  have cb : Tryd.prog.cellsOf 4 = 1 := by kernel_rfl
  have cs' : Tryd.prog.cellsOf 9 = 1 := by kernel_rfl
  obtain ⟨c0, c1, c2, c3, rfl⟩ := Go.Joins.array4 (hsz.trans hc4)
  obtain ⟨fuel, hf⟩ := hd
  obtain ⟨y0, y1, y2, y3, n, -, -, h0, h1, h2, h3⟩ := Go.Joins.trod_struct4 Tryd.underlying23 hf
  simp only [Value.cells, ci, cb, cs'] at h0 h1 h2 h3
  obtain ⟨k, hk, -, wk⟩ := DataW.trod_int Tryd.underlying2 h0
  obtain ⟨b, hb, -⟩ := DataW.trod_bool Tryd.underlying4 h1
  obtain ⟨e, he, -, we⟩ := DataW.trod_int Tryd.underlying2 h2
  obtain ⟨s, hs, -, ws⟩ := DataW.trod_string Tryd.underlying9 h3
  simp at hk hb he hs
  subst hk; subst hb; subst he; subst hs
  exact ⟨k, b, e, s, rfl, wk, we, ws⟩
end Go.Proofs.YtcflomcankcggatDoor
