/-
  Numbers held against one another.
-/
import Derived.Test.YtnkoeidolmiheaaDoorIsR2
import Derived.Laws.StructEq
namespace Go.Proofs.YtnkoeidolmiheaaDoor
open Go.RowKit
set_option linter.unusedVariables false
set_option maxRecDepth 100000
theorem eql_num_any (k : Int) (b : Bool) (e : Int) (s : ByteArray) (k' : Int) (b' : Bool) (e' : Int) (s' : ByteArray) (w : World) : (binOp .eql 25 (.agg #[.int .i64 k, .bool b, .int .i64 e, .string s]) (.agg #[.int .i64 k', .bool b', .int .i64 e', .string s'])).run Tryd.prog w = .ok (.bool (decide (k = k' ∧ b = b' ∧ e = e' ∧ s = s'))) w := by
  have hS : Tryd.prog.underlying 25 = some (.struct (Tryd.prog.fieldsOf 25)) := by kernel_rfl
  have hp : Tryd.prog.stoodInHeld 25 = false := by kernel_rfl
  rw [run_eql_struct, show (10000 : Nat) = 9999 + 1 from rfl, run_equalIn_agg w 9999 25 _ _ hS hp]
  simp only [Program.fieldsOf, Tryd.underlying25]
  by_cases h1 : k = k'
  case neg =>
    rw [decide_eq_false (fun h => h1 h.1)]
    have q : (k == k') = false := beq_eq_false_iff_ne.2 h1
    go_simp
  subst h1
  by_cases h2 : b = b'
  case neg =>
    rw [decide_eq_false (fun h => h2 h.2.1)]
    have q : (b == b') = false := beq_eq_false_iff_ne.2 h2
    go_simp
  subst h2
  by_cases h3 : e = e'
  case neg =>
    rw [decide_eq_false (fun h => h3 h.2.2.1)]
    have q : (e == e') = false := beq_eq_false_iff_ne.2 h3
    go_simp
  subst h3
  by_cases h4 : s = s'
  case neg =>
    rw [decide_eq_false (fun h => h4 h.2.2.2)]
    have q2 : (s.toList == s'.toList) = false := beq_eq_false_iff_ne.2 (fun e => h4 (by rw [ByteArray.toList_eq, ByteArray.toList_eq] at e; apply ByteArray.ext; exact Array.ext' e))
    go_simp
  subst h4
  rw [decide_eq_true ⟨rfl, rfl, rfl, rfl⟩]
  go_simp
end Go.Proofs.YtnkoeidolmiheaaDoor
