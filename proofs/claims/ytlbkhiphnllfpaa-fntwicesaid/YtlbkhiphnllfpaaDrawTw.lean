/-
  What the draw of a word to be doubled gives, walked.
-/
import Derived.Test.YtlbkhiphnllfpaaDraw2
namespace Go.Proofs.Ytlbkhiphnllfpaa
open Go.RowKit
set_option linter.unusedVariables false
theorem DrawTwice_any (a : Option Addr) (len cap : Nat) (w : World) (hl : len ≤ 4096) (hb : Bytes w.heap.size w a len) :
    Calls Try.prog 10 #[.slice a len cap] w fun e w' => ∃ x, e = .returned (.int .u64 x) ∧ (0 ≤ x ∧ x ≤ 18446744073709551615) ∧ Below w.heap.size w w' := by
  have hB : Hid (Bytes w.heap.size w a len) := hb
  clear hb
  go_enter Try.func10, Try.ntmps10
  go_wp2_with fail
  refine (l1New_any a len cap _ hl hB.out).mono ?_
  rintro e w1 ⟨rfl, hc1, hb1⟩
  have hs1 := hb1.size
  go_wp2_with fail
  refine (l1DrawAnyWord_any _ _ _ hc1).mono ?_
  rintro e w2 ⟨x, rfl, x0, x1, hc2, hg2⟩
  have hbf : Below w.heap.size w w2 := Below.grown hb1 hg2 hs1 (fun k hk => by cases hk; exact Nat.le_refl _)
  clear hg2 hc1 hc2
  go_wp2
  go_ret
  exact ⟨_, rfl, ⟨x0, x1⟩, hbf⟩
end Go.Proofs.Ytlbkhiphnllfpaa
