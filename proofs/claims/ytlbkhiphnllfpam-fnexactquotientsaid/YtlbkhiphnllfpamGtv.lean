/-
  The functions of the program that are called as plain ones beside goroutines.
-/
import Derived.Test.YtlbkhiphnllfpamGtu
import Derived.Test.YtlbkhiphnllfpamRows
import Derived.KernelRfl
namespace Go.Proofs.Ytlbkhiphnllfpam
open Go.Conc
set_option linter.unusedVariables false
def loneL : List FuncId := [11, 24, 16, 13, 14, 15, 18, 19, 20, 37, 38, 39, 35, 36, 47, 48, 49, 42, 58, 59]
def loneB (f : FuncId) : Bool := loneL.elem f
theorem lone_all : (loneL.all fun f => (Try.prog.funcs[f]?).any fun fn => (fn.body).any (okCode Try.prog loneB)) = true := by kernel_rfl
theorem lone_ok : OkP Try.prog loneB where
  code := fun f hf => by
    have h := List.all_eq_true.1 lone_all f (by simpa [loneB] using hf)
    cases h1 : Try.prog.funcs[f]? with
    | none => rw [h1] at h; cases h
    | some fn =>
      rw [h1] at h
      cases h2 : fn.body with
      | none => rw [show (some fn).any _ = (fn.body).any _ from rfl, h2] at h; cases h
      | some c => rw [show (some fn).any _ = (fn.body).any _ from rfl, h2] at h; exact ⟨fn, c, rfl, h2, h⟩
  wide := by kernel_rfl
  step := fun g => by
    have h : (Try.prog.funcs.all fun f => ((f.body.map readies).getD []) == []) = true := by kernel_rfl
    unfold Program.stepOf
    rw [Array.findIdx?_eq_none_iff]
    intro fn hfn
    have h1 := Array.all_eq_true_iff_forall_mem.1 h fn hfn
    cases h2 : fn.body with
    | none => rfl
    | some c =>
      rw [h2] at h1
      have h3 : readies c = [] := by simpa using h1
      simp [h3]
end Go.Proofs.Ytlbkhiphnllfpam
