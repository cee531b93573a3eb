/-
  Order of the model: Compare, Total; walked.
-/
import Derived.Test.YtnkoeidolmiheaaDoorOrd
import Derived.Test.YtnkoeidolmiheaaDoorNatS
namespace Go.Proofs.YtnkoeidolmiheaaDoor
open Go.RowKit
set_option linter.unusedVariables false
set_option maxRecDepth 100000
theorem oMin_is (x y : Int) (w : World) : Calls Tryd.prog 43 #[.int .i64 x, .int .i64 y] w fun e w' => e = .returned (.int .i64 (min x y)) ∧ w' = w := by
  by_cases h : x < y
  · have E : Hid (min x y = x) := by show _ = _; omega
    rw [E.out]
    go_enter Tryd.func43, Tryd.ntmps43
    go_wp2
    go_ret
    exact ⟨rfl, rfl⟩
  · have E : Hid (min x y = y) := by show _ = _; omega
    rw [E.out]
    go_enter Tryd.func43, Tryd.ntmps43
    go_wp2
    go_ret
    exact ⟨rfl, rfl⟩
theorem nou_no (d : List Int) (h : nouB 1 (tx d) = false) : d ≠ [0] := by
  rintro rfl
  have : nouB 1 (tx [0]) = true := by unfold nouB; rw [ByteArray.toList_eq, tx_data]; rfl
  rw [this] at h; cases h
end Go.Proofs.YtnkoeidolmiheaaDoor
namespace Go.Proofs.YtnkoeidolmiheaaDoor
open Go.RowKit
set_option linter.unusedVariables false
set_option maxRecDepth 100000
end Go.Proofs.YtnkoeidolmiheaaDoor
namespace Go.Proofs.YtnkoeidolmiheaaDoor
open Go.RowKit
set_option linter.unusedVariables false
set_option maxRecDepth 100000
end Go.Proofs.YtnkoeidolmiheaaDoor
