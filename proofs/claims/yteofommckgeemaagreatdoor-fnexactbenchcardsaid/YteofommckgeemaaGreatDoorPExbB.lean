/-
  At any text the program's bench and the specification's answer the same.
  The card ties the listed package-level variables to the program's text, in the pruned copy that the seat holds; it says nothing of the project's other packages, commands or tests.
-/
import Derived.Test.YteofommckgeemaaGreatDoorCards
import Derived.Test.YteofommckgeemaaGreatDoorTie
import Derived.Test.YteofommckgeemaaGreatDoorEBQ
import Derived.Test.YteofommckgeemaaGreatDoorPExbA
namespace Go.Proofs.YteofommckgeemaaGreatDoor.fnExactBench
open Go.ChangeShapes Go.WideShapes Go.ChangeAt Go.RowKit
open Go.ChangeMaps (open_string shut_string)
set_option linter.unusedVariables false

theorem jf1 : Tryz.pinned.checked.prog.inPlace 5 = Rows.fnExactBenchRow.inPlace := by kernel_rfl
theorem jf2 : Tryz.pinned.checked.prog.unfollowed 5 = Rows.fnExactBenchRow.unfollowed := by kernel_rfl
theorem jf3 : Tryz.pinned.checked.prog.recurses 5 = Rows.fnExactBenchRow.recurses := by kernel_rfl
theorem jf4 : Tryz.pinned.checked.prog.varsNamed 5 = Rows.fnExactBenchRow.named := by kernel_rfl
theorem jfacts : joinedFacts Tryz.pinned.checked.prog 5 Tryz.f5 Rows.fnExactBenchSpec Rows.fnExactBenchRow = true := by
  unfold joinedFacts
  rw [jf1, jf2, jf3, jf4]
  kernel_rfl
theorem said : Rows.FnExactBenchSaid :=
  OpenClaim.holds_of_wide 5 Tryz.f5 rfl rfl rfl rfl rfl rfl rfl ⟨rfl, rfl, rfl, rfl, rfl⟩ rfl rfl rfl rfl rfl (by kernel_rfl) Tryz.func5 jfacts
    (of_decide_eq_true (by kernel_rfl)) (by unfold Func.isWrapper; first | (rw [if_pos (by decide +kernel)]; kernel_rfl) | (rw [if_neg (by decide +kernel)]; exact ⟨rfl, rfl⟩))
    (fun os started H enc _ => lifted os started H enc)

/-- No parameter wants a stand-in; the program's own looks are as the card says. -/
theorem plain (f : FuncId) (fn : Func) (hf : Tryz.pinned.checked.prog.funcNamed "loop.example/g00085/laws.FnExactBench" = some f) (hfn : Tryz.pinned.checked.prog.funcs[f]? = some fn) :
    true = Tryz.pinned.checked.prog.looks [] ∧ ∀ (j : Nat) t, fn.params[j]? = some t → Tryz.pinned.checked.prog.wantsStandIn t = false := by
  obtain rfl : f = 5 := Option.some.inj ((show Tryz.prog.funcNamed "loop.example/g00085/laws.FnExactBench" = some 5 by kernel_rfl).symm.trans hf) |>.symm
  obtain rfl : fn = Tryz.f5 := (Option.some.inj (Tryz.func5.symm.trans hfn)).symm
  refine ⟨by kernel_rfl, fun j t ht => ?_⟩
  rw [Tryz.params5] at ht
  have hm : t = 9 := by first | (simpa using Array.mem_of_getElem? ht) | (have hm0 := Array.mem_of_getElem? ht; simp at hm0; grind)
  subst hm
  · exact (show Tryz.prog.wantsStandIn 9 = false by kernel_rfl)
end Go.Proofs.YteofommckgeemaaGreatDoor.fnExactBench
namespace Go.Proofs.YteofommckgeemaaGreatDoor
/-- The given statement: the card. -/
theorem fnExactBench_card : Rows.FnExactBenchCardSaid :=
  Claim7.holds_tied_plain_at .later [] _ _ _ _ fnExactBench.said (fun _ h => by cases h) (by kernel_rfl) (fun _ h => by cases h) fnExactBench_row_tie rfl ⟨rfl, rfl⟩ (by kernel_rfl) rfl fnExactBench.plain (by kernel_rfl)
#print axioms fnExactBench_card
end Go.Proofs.YteofommckgeemaaGreatDoor
