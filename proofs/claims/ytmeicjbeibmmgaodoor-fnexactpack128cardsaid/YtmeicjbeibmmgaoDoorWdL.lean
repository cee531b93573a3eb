/-
  Two words as the laws hand them on: opened, copied, held against each other.
-/
import Derived.Test.YtmeicjbeibmmgaoDoorFmt
import Derived.Test.YtmeicjbeibmmgaoDoorWid
import Derived.Handy
namespace Go.Proofs.YtmeicjbeibmmgaoDoor
open Go.ChangeShapes Go.WideShapes Go.ChangeAt Go.RowKit
set_option linter.unusedVariables false
set_option maxRecDepth 100000
theorem eqWide_same (y z : Int) (w : World) : Calls Tryd.prog 14 #[wpV y z, wpV y z] w fun r w' => r = .returned (.bool true) ∧ Below w.heap.size w w' := by
  go_enter Tryd.func14, Tryd.ntmps14
  go_wp2
  go_ret
  exact ⟨rfl, ((Below.refl _ _).alloc (Nat.le_refl _) _).alloc (by simp) _⟩
theorem toWide_any (y z : Int) (w : World) : Calls Tryd.prog 19 #[wpV y z] w fun r w' => r = .returned (wpV y z) ∧ Below w.heap.size w w' := by
  go_enter Tryd.func19, Tryd.ntmps19
  go_wp2
  go_returns
  exact ⟨rfl, (((Below.refl _ _).alloc (Nat.le_refl _) _).alloc (by simp) _).alloc (by simp; omega) _⟩
set_option maxRecDepth 100000 in
theorem open_wide {H : Type} {enc : TypeId × Value → H} {W : World} {base b0 : Nat} {r : Reach} {sp : Nat → Bool} {held : Bool} {v : Value} {d : DataW H} {ps : List MemPlace} (hval : Value.okWide Tryd.prog W r b0 39 v) (hd : DataW.Trod enc Tryd.prog W base sp held 39 v d ps) :
    ∃ h l, v = wpV h l ∧ (Lit.int .u64 h).wf = true ∧ (Lit.int .u64 l).wf = true := by
  obtain ⟨cs, rfl, hsz⟩ := okWide_struct Tryd.underlying39 hval
  have hc2 : Tryd.prog.cellsOf 39 = 2 := by kernel_rfl
  have cu : Tryd.prog.cellsOf 25 = 1 := by kernel_rfl
  obtain ⟨c0, c1, rfl⟩ := Go.Joins.array2 (hsz.trans hc2)
  obtain ⟨fuel, hf⟩ := hd
  obtain ⟨y0, y1, n, -, -, h0, h1⟩ := ChangeShapes.trod_struct2 Tryd.underlying39 hf
  simp only [Value.cells, cu] at h0 h1
  obtain ⟨h, hh, -, wh⟩ := DataW.trod_int Tryd.underlying25 h0
  obtain ⟨l, hl, -, wl⟩ := DataW.trod_int Tryd.underlying25 h1
  simp at hh hl
  subst hh; subst hl
  exact ⟨h, l, rfl, wh, wl⟩
end Go.Proofs.YtmeicjbeibmmgaoDoor
