/-
  What the draw of a word and a number of lanes gives, walked.
-/
import Derived.Test.YtlbkhiphnllfpaaDraw2
namespace Go.Proofs.Ytlbkhiphnllfpaa
open Go.RowKit
set_option linter.unusedVariables false

theorem DrawLaneShift_any (a : Option Addr) (len cap : Nat) (w : World) (hl : len ≤ 4096) (hb : Bytes w.heap.size w a len) :
    Calls Try.prog 6 #[.slice a len cap] w fun e w' => ∃ x n, e = .returned (.tuple #[.int .u64 x, .int .i64 n]) ∧ (0 ≤ x ∧ x ≤ 18446744073709551615) ∧ (-9223372036854775808 ≤ n ∧ n ≤ 9223372036854775807) ∧ Below w.heap.size w w' := by
  have hB : Hid (Bytes w.heap.size w a len) := hb
  clear hb
  go_enter Try.func6, Try.ntmps6
  go_wp2_with fail
  refine (l1New_any a len cap _ hl hB.out).mono ?_
  rintro e w1 ⟨rfl, hc1, hb1⟩
  have hs1 := hb1.size
  go_wp2_with fail
  refine (l1DrawAnyWord_any _ _ _ hc1).mono ?_
  rintro e w2 ⟨x, rfl, x0, x1, hc2, hg2⟩
  go_wp2_with fail
  refine (l1From_any _ _ (-17) 17 _ hc2 (by decide) (by decide) (by decide)).mono ?_
  rintro e w3 ⟨n, rfl, n0, n1, hc3, hg3⟩
  go_wp2_with fail
  refine (l1Once_any _ _ 20 _ hc3 (by decide) (by decide)).mono ?_
  rintro e w4 ⟨b, rfl, hc4, hg4⟩
  have hg := grown_trans (grown_trans hg2 hg3) hg4
  clear hg2 hg3 hg4 hc1 hc2 hc3
  cases b
  · have hbf : Below w.heap.size w w4 := Below.grown hb1 hg hs1 (fun k hk => by cases hk; exact Nat.le_refl _)
    go_wp2
    go_ret2
    exact ⟨_, _, rfl, ⟨x0, x1⟩, ⟨by omega, by omega⟩, hbf⟩
  · go_wp2_with fail
    refine (l1Odd_any _ _ _ hc4).mono ?_
    rintro e w5 ⟨m, rfl, m0, m1, hc5, hg5⟩
    have hbf : Below w.heap.size w w5 := Below.grown hb1 (grown_trans hg hg5) hs1 (fun k hk => by cases hk; exact Nat.le_refl _)
    clear hg hg5 hc4 hc5
    go_wp2
    go_ret2
    exact ⟨_, _, rfl, ⟨x0, x1⟩, ⟨m0, m1⟩, hbf⟩
end Go.Proofs.Ytlbkhiphnllfpaa
