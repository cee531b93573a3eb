/-
  Naturals of the program: which of two is more, sums and differences; walked.
-/
import Derived.Test.YtjgnhlldehgieaqDoorNap
namespace Go.Proofs.YtjgnhlldehgieaqDoor
open Go.RowKit
set_option linter.unusedVariables false
set_option maxRecDepth 100000
theorem len_cmp (X Y : List Int) (hX : NCan X) (hY : NCan Y) (hl : X.length ≠ Y.length) : cmpI (X.length : Int) (Y.length : Int) = cmpI (lv X) (lv Y) := by
  rcases Nat.lt_or_ge X.length Y.length with c | c
  · rw [cmpI_lt _ _ (by omega), cmpI_lt _ _ (short_less X Y hX.1 hY c)]
  · rw [cmpI_gt _ _ (by omega), cmpI_gt _ _ (short_less Y X hY.1 hX (by omega))]
theorem dig_cmp (X Y : List Int) (p : Nat) (hX : NCan X) (hY : NCan Y) (pX : p < X.length) (pY : p < Y.length) (hd : X.drop (p + 1) = Y.drop (p + 1)) (hne : X.getD p 0 ≠ Y.getD p 0) : cmpI (X.getD p 0) (Y.getD p 0) = cmpI (lv X) (lv Y) := by
  rcases Int.lt_or_gt_of_ne hne with c | c
  · rw [cmpI_lt _ _ c, cmpI_lt _ _ (low_lt X Y p hX.1 hY.1 pX pY hd c)]
  · rw [cmpI_gt _ _ c, cmpI_gt _ _ (low_lt Y X p hY.1 hX.1 pY pX hd.symm c)]
end Go.Proofs.YtjgnhlldehgieaqDoor
