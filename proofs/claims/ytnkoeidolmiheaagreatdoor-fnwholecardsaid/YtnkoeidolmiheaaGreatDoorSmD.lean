/-
  The model's sum of two finite numbers, walked: none of them nought.
-/
import Derived.Test.YtnkoeidolmiheaaGreatDoorSmC
import Derived.Deep.RegionWith
namespace Go.Proofs.YtnkoeidolmiheaaGreatDoor
open Go.RowKit
set_option linter.unusedVariables false
set_option maxRecDepth 100000
/-- The exact sum of two numbers, the first one reaching higher, finished: the sign and the rest. -/
def sumY (f mode : Int) (n1 : Bool) (e1 : Int) (d1 : List Int) (n2 : Bool) (e2 : Int) (d2 : List Int) (M : Int) : Bool × (Int × Int × ByteArray × Int) :=
  if 180 < (d1.length : Int) + e1 - M then (n1, finD f mode n1 (nt (vl d1 * 10 ^ 40 - if n1 = n2 then 0 else 1)) (e1 - 40) true M)
  else if n1 = n2 then (n1, finD f mode n1 (nt (vl d1 * 10 ^ (e1 - M).toNat + vl d2 * 10 ^ (e2 - M).toNat)) M false M)
  else if vl d1 * 10 ^ (e1 - M).toNat = vl d2 * 10 ^ (e2 - M).toNat then (decide (mode = 3), finD f mode (decide (mode = 3)) [0] M false M)
  else if vl d2 * 10 ^ (e2 - M).toNat < vl d1 * 10 ^ (e1 - M).toNat then (n1, finD f mode n1 (nt (vl d1 * 10 ^ (e1 - M).toNat - vl d2 * 10 ^ (e2 - M).toNat)) M false M)
  else (n2, finD f mode n2 (nt (vl d2 * 10 ^ (e2 - M).toNat - vl d1 * 10 ^ (e1 - M).toNat)) M false M)
theorem noughts40 (d : List Int) (h : Canon d) (hz : d ≠ [0]) : tx d ++ tx (List.replicate 40 0) = tx (d ++ List.replicate 40 0) ∧ Canon (d ++ List.replicate 40 0) ∧ vl (d ++ List.replicate 40 0) = vl d * 10 ^ 40 ∧ (d ++ List.replicate 40 0).length = d.length + 40 :=
  ⟨tx_append _ _, canon_noughts d 40 h hz, vl_noughts d 40, by simp⟩
end Go.Proofs.YtnkoeidolmiheaaGreatDoor
