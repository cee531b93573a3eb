/-
  laws.turned: a number with the other sign.
-/
import Derived.Test.YtndnoblcnjccdafGreatDoorExg
import Derived.Test.YtndnoblcnjccdafGreatDoorBx5
namespace Go.Proofs.YtndnoblcnjccdafGreatDoor
open Go.RowKit
set_option linter.unusedVariables false
set_option maxRecDepth 100000
theorem turned_any (k : Int) (b : Bool) (e : Int) (s : ByteArray) (w : World) : Calls Tryz.prog 19 #[numV k b e s] w fun x w' => x = .returned (numV k (tuB k b) e s) ∧ Below w.heap.size w w' := by
  by_cases h1 : k = 1
  · subst h1
    rw [show tuB 1 b = !b from if_pos (.inl rfl)]
    go_enter Tryz.func19, Tryz.ntmps19
    go_wp2
    have hP := at4_new (w.alloc (.cells #[.int .i64 1, .bool (!b), .int .i64 e, .string s] 25)) (.int .i64 1) (.bool (!b)) (.int .i64 e) (.string s)
    rw [show (w.alloc (.cells #[.int .i64 1, .bool (!b), .int .i64 e, .string s] 25)).heap.size = w.heap.size + 1 by simp] at hP
    refine bodyPost_ret (results_num rfl _ _ rfl hP.1 hP.2.1 hP.2.2.1 hP.2.2.2.1) rfl ?_
    exact ⟨rfl, bel_two _ _ _⟩
  · by_cases h2 : k = 2
    · subst h2
      rw [show tuB 2 b = !b from if_pos (.inr rfl)]
      go_enter Tryz.func19, Tryz.ntmps19
      go_wp2
      have hP := at4_new (w.alloc (.cells #[.int .i64 2, .bool (!b), .int .i64 e, .string s] 25)) (.int .i64 2) (.bool (!b)) (.int .i64 e) (.string s)
      rw [show (w.alloc (.cells #[.int .i64 2, .bool (!b), .int .i64 e, .string s] 25)).heap.size = w.heap.size + 1 by simp] at hP
      refine bodyPost_ret (results_num rfl _ _ rfl hP.1 hP.2.1 hP.2.2.1 hP.2.2.2.1) rfl ?_
      exact ⟨rfl, bel_two _ _ _⟩
    · rw [show tuB k b = b from if_neg (fun h => h.elim h1 h2)]
      have c1 : (k == 1) = false := beq_eq_false_iff_ne.2 h1
      have c2 : (k == 2) = false := beq_eq_false_iff_ne.2 h2
      clear h1 h2
      go_enter Tryz.func19, Tryz.ntmps19
      go_wp2
      have hP := at4_new (w.alloc (.cells #[.int .i64 k, .bool b, .int .i64 e, .string s] 25)) (.int .i64 k) (.bool b) (.int .i64 e) (.string s)
      rw [show (w.alloc (.cells #[.int .i64 k, .bool b, .int .i64 e, .string s] 25)).heap.size = w.heap.size + 1 by simp] at hP
      refine bodyPost_ret (results_num rfl _ _ rfl hP.1 hP.2.1 hP.2.2.1 hP.2.2.2.1) rfl ?_
      exact ⟨rfl, bel_two _ _ _⟩
end Go.Proofs.YtndnoblcnjccdafGreatDoor
