/-
  The model's two registers, walked.
-/
import Derived.Test.YtlbkhiphnllfpacSgn
import Derived.Test.YtlbkhiphnllfpacApp
namespace Go.Proofs.Ytlbkhiphnllfpac
open Go.RowKit
set_option linter.unusedVariables false
set_option maxRecDepth 100000
/-- What Flight takes. -/
def fok (ds : List Int) : Bool := l3 ds && decide (ds.length ≤ 40)
/-- What Flight gives. -/
def flo (ds : List Int) : List Int × List Int := if fok ds then reg ds ds.length else ([], [])
theorem fok_not (ds : List Int) (h : l3 ds = false) : fok ds = false := by unfold fok; rw [h]; rfl
theorem fok_big (ds : List Int) (h : 40 < ds.length) : fok ds = false := by
  unfold fok; rw [decide_eq_false (p := ds.length ≤ 40) (by omega)]; simp
theorem fok_yes (ds : List Int) (h : l3 ds = true) (hl : ds.length ≤ 40) : fok ds = true := by
  unfold fok; rw [h, decide_eq_true hl]; rfl
theorem flo_length (ds : List Int) : (flo ds).1.length ≤ 40 ∧ (flo ds).2.length ≤ 40 := by
  unfold flo; split
  · rename_i h; rw [(reg_length ds _).1, (reg_length ds _).2]
    rcases Nat.lt_or_ge 40 ds.length with h' | h'
    · rw [fok_big ds h'] at h; cases h
    · omega
  · simp
end Go.Proofs.Ytlbkhiphnllfpac
