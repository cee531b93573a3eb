/-
  The divisors that are let in; a slice of turns that is one's own.
-/
import Derived.Test.YtlbkhiphnllfpamTrn
import Derived.Test.YtlbkhiphnllfpamRows
import Derived.WalkKit
namespace Go.Proofs.Ytlbkhiphnllfpam
open Go.RowKit
set_option linter.unusedVariables false
theorem HasT.own {w : World} {base : Nat} {v : Value} {l : List (Int × Int)} (h : HasT w base v l) : ∀ k, v.ownBlock = some k → base ≤ k ∧ k < w.heap.size := fun k hk => by
  obtain ⟨-, h⟩ := h
  rcases h with ⟨rfl, -⟩ | ⟨g, cap, cur, rfl, hb, hc, -⟩
  · cases hk
  · cases hk
    exact ⟨hb, (Array.getElem?_eq_some_iff.1 hc).1⟩
/-- The divisors that are let in. -/
def prt (d : Int) : Bool := decide (1 ≤ d ∧ d ≤ 100000000)
theorem isPart_any (d : Int) (w : World) : Calls Try.prog 38 #[.int .i64 d] w fun e w' => e = .returned (.bool (prt d)) ∧ w' = w := by
  by_cases h1 : 1 ≤ d
  · by_cases h2 : d ≤ 100000000
    · have e : prt d = true := decide_eq_true ⟨h1, h2⟩
      rw [e]
      clear e
      go_enter Try.func38, Try.ntmps38
      go_wp2
      go_ret
      exact ⟨rfl, rfl⟩
    · have e : prt d = false := decide_eq_false (by omega)
      rw [e]
      clear e
      go_enter Try.func38, Try.ntmps38
      go_wp2
      go_ret
      exact ⟨rfl, rfl⟩
  · have e : prt d = false := decide_eq_false (by omega)
    rw [e]
    clear e
    go_enter Try.func38, Try.ntmps38
    go_wp2
    go_ret
    exact ⟨rfl, rfl⟩
end Go.Proofs.Ytlbkhiphnllfpam
