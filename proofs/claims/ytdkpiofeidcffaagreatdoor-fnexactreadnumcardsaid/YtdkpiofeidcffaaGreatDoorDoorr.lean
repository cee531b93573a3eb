/-
  What the rows' list of package-level variables gives a walk: the library's two tables of UTF-8 alone.
-/
import Derived.Test.YtdkpiofeidcffaaGreatDoorDooru
namespace Go.Proofs.YtdkpiofeidcffaaGreatDoor
open Go.ChangeShapes Go.WideShapes Go.ChangeAt Go.RowKit
theorem own : ownKnob Tryz.prog.godebug = none := by kernel_rfl
theorem laidOut : laidOutB Tryz.prog = true := by kernel_rfl
def UTab (w : World) : Prop := Lib.Utf8Tabs 0 1 w
theorem utabs_of_laid {W : World} (h : laidMet Tryz.prog [("unicode/utf8.acceptRanges", Rows.laid_unicode_utf8_acceptRanges), ("unicode/utf8.first", Rows.laid_unicode_utf8_first)] W) : UTab W :=
  utabs_at h (.tail _ (.head _)) (.head _)
theorem vars0 {H : Type} {enc : TypeId × Value → H} {P : Program} {w : World} {sp : Nat → Bool} {gs : List (DataW H)} {ps : List MemPlace} (h : DataW.TrodVars enc P w sp [] gs ps) : gs = [] := by
  cases gs with
  | nil => rfl
  | cons g r => simp [DataW.TrodVars] at h
end Go.Proofs.YtdkpiofeidcffaaGreatDoor
