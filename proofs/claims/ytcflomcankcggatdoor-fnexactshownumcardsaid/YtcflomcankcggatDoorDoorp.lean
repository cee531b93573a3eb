/-
  What the rows' list of package-level variables gives a walk: the library's table of the powers of ten.
-/
import Derived.Test.YtcflomcankcggatDoorRows
import Derived.Test.YtcflomcankcggatDoorShc
import Derived.WalkKit
import Derived.ProofKit
import Derived.OpenShut
import Derived.OpenVars
import Derived.LaidMore
import Derived.Lib.LaidTab
import Derived.Stop.Joined
import Derived.Stop.LaidErr
namespace Go.Proofs.YtcflomcankcggatDoor
open Go.ChangeShapes Go.WideShapes Go.ChangeAt Go.RowKit
theorem own : ownKnob Tryd.prog.godebug = none := by kernel_rfl
theorem laidOut : laidOutB Tryd.prog = true := by kernel_rfl
theorem gPowType : (Tryd.prog.globals[0]?).map (·.type) = some 113 := by kernel_rfl
theorem cellsU : Tryd.prog.cellsOf 99 = 1 := by kernel_rfl
theorem cells20 : Tryd.prog.cellsOf 113 = 20 := by kernel_rfl
theorem ptab_at {W : World} {rest : List (String × DataW Unit)} (h : laidMet Tryd.prog (("internal/strconv.uint64pow10", Rows.laid_internal_strconv_uint64pow10) :: rest) W) : PTab W := by
  unfold PTab
  exact Lib.tabIs_of_head (k := .u64) (zs := Lib.pow10Tab) gPow gPowType Tryd.underlying113 Tryd.underlying99 cellsU cells20 h
theorem ptab_of_laid {W : World} {x y : String × DataW Unit} {rest : List (String × DataW Unit)} (h : laidMet Tryd.prog (x :: y :: ("internal/strconv.uint64pow10", Rows.laid_internal_strconv_uint64pow10) :: rest) W) : PTab W := ptab_at (laidMet.tail (laidMet.tail h))
theorem vars0 {H : Type} {enc : TypeId × Value → H} {P : Program} {w : World} {sp : Nat → Bool} {gs : List (DataW H)} {ps : List MemPlace} (h : DataW.TrodVars enc P w sp [] gs ps) : gs = [] := by
  cases gs with
  | nil => rfl
  | cons g r => simp [DataW.TrodVars] at h
/-- One named variable: one datum. -/
theorem vars1 {H : Type} {enc : TypeId × Value → H} {P : Program} {w : World} {sp : Nat → Bool} {n : String} {gs : List (DataW H)} {ps : List MemPlace} (h : DataW.TrodVars enc P w sp [n] gs ps) : ∃ g0, gs = [g0] := by
  obtain ⟨_, _, _, _, d, _, rfl, _⟩ := trodVars_one h
  exact ⟨d, rfl⟩
end Go.Proofs.YtcflomcankcggatDoor
