/-
  A row that lists variables whose values are not asked for.
-/
import Derived.Test.YtnkoeidolmiheaaGreatDoorRows
import Derived.WalkKit
import Derived.OpenVars
namespace Go.Proofs.YtnkoeidolmiheaaGreatDoor
open Go.RowKit
theorem own : ownKnob Tryz.prog.godebug = none := by kernel_rfl
theorem laidOut : laidOutB Tryz.prog = true := by kernel_rfl
theorem any_of_laid {l : List (String × DataW Unit)} {W : World} (_h : laidMet Tryz.prog l W) : True := trivial
theorem vars0 {H : Type} {enc : TypeId × Value → H} {P : Program} {w : World} {sp : Nat → Bool} {gs : List (DataW H)} {ps : List MemPlace} (h : DataW.TrodVars enc P w sp [] gs ps) : gs = [] := by
  cases gs with
  | nil => rfl
  | cons g r => simp [DataW.TrodVars] at h
end Go.Proofs.YtnkoeidolmiheaaGreatDoor
