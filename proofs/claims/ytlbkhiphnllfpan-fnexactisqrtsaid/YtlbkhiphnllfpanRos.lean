/-
  RootStep, Isqrt, IsSquare and Root of the model, walked.
-/
import Derived.Test.YtlbkhiphnllfpanRoq
import Derived.Test.YtlbkhiphnllfpanIn
namespace Go.Proofs.Ytlbkhiphnllfpan
open Go.RowKit
set_option linter.unusedVariables false
set_option maxHeartbeats 2000000 in
theorem sIsqrt_any (x : Int) (w : World) (h1 : x ≤ 9223372036854775807) :
    Calls Try.prog 7 #[.int .i64 x] w fun e w' => e = .returned (.int .i64 (isA x)) ∧ w' = w := by
  by_cases h0 : x < 0
  · have E : Hid (isA x = -1) := by show _ = _; unfold isA; rw [if_pos h0]
    generalize isA x = K at *
    go_enter Try.func7, Try.ntmps7
    go_wp2
    go_ret
    exact ⟨Ln.ret_int E.out.symm, rfl⟩
  · have E : Hid (∀ s : Int, 0 ≤ s → s * s ≤ x → x < (s + 1) * (s + 1) → s = isA x) := fun s s0 k1 k2 => by
      unfold isA; rw [if_neg h0]; exact isq_unique x s (by omega) h1 s0 k1 k2
    have Hc : Hid (x < (3037000499 + 1) * (3037000499 + 1)) := by show _ < _; omega
    generalize isA x = K at *
    go_enter Try.func7, Try.ntmps7
    go_wp2
    go_loop [3, 4] (fun lo hi => ∃ a b : Int, lo = .int .i64 a ∧ hi = .int .i64 b ∧ 0 ≤ a ∧ a ≤ b ∧ b ≤ 3037000499 ∧ Hid (a * a ≤ x) ∧ Hid (x < (b + 1) * (b + 1))) (fun lo hi => (intOf hi - intOf lo).toNat)
    case atStart => exact ⟨0, 3037000499, rfl, rfl, by omega, by omega, by omega, by show _ ≤ _; omega, Hc⟩
    case round =>
      obtain ⟨a, b, rfl, rfl, a0, ab, b1, HA, HB⟩ := hrel
      by_cases hlt : a < b
      · have hdv : Int.tdiv (a + b + 1) 2 = (a + b + 1) / 2 := Int.tdiv_eq_ediv_of_nonneg (by omega)
        obtain ⟨m, hm⟩ : ∃ m, (a + b + 1) / 2 = m := ⟨_, rfl⟩
        rw [hm] at hdv
        have m0 : a < m := by omega
        have m1 : m ≤ b := by omega
        have hmm := sq_le m 3037000499 (by omega) (by omega)
        have hm0 : 0 ≤ m * m := Int.mul_nonneg (by omega) (by omega)
        clear hm
        by_cases hle : m * m ≤ x
        · have HM : Hid (m * m ≤ x) := hle
          go_wp2
          go_round
          case rel => exact ⟨m, b, rfl, rfl, by omega, m1, b1, HM, HB⟩
          case measure => simp [intOf]; omega
        · have HM : Hid (x < (m - 1 + 1) * (m - 1 + 1)) := by show _ < _; rw [show m - 1 + 1 = m by omega]; omega
          go_wp2
          go_round
          case rel => exact ⟨a, m - 1, rfl, rfl, a0, by omega, by omega, HA, HM⟩
          case measure => simp [intOf]; omega
      · obtain rfl : a = b := by omega
        go_wp2
        go_ret
        exact ⟨Ln.ret_int (E.out a a0 HA.out HB.out), rfl⟩
theorem isq_b (x : Int) (h0 : 0 ≤ x) (h1 : x ≤ 9223372036854775807) : isq x ≤ 3037000499 := by
  obtain ⟨a, b, c⟩ := isq_spec x h0 h1
  rcases Int.lt_or_le 3037000499 (isq x) with g | g
  · have := Int.mul_le_mul (show 3037000500 ≤ isq x by omega) (show 3037000500 ≤ isq x by omega) (by decide) a
    omega
  · exact g
theorem sIsSquare_any (x : Int) (w : World) (h1 : x ≤ 9223372036854775807) :
    Calls Try.prog 5 #[.int .i64 x] w fun e w' => e = .returned (.bool (isB x)) ∧ w' = w := by
  have HS : Hid (∀ W, Calls Try.prog 7 #[.int .i64 x] W fun e w' => e = .returned (.int .i64 (isA x)) ∧ w' = W) := fun W => sIsqrt_any x W h1
  by_cases h0 : x < 0
  · have E : Hid (isB x = false) := by show _ = _; unfold isB; rw [decide_eq_false (by omega)]; rfl
    have ea : isA x = -1 := by unfold isA; rw [if_pos h0]
    rw [ea] at HS
    clear ea
    generalize isB x = K at *
    go_enter Try.func5, Try.ntmps5
    go_wp2_with fail
    refine (HS.out _).mono ?_
    rintro e w' ⟨rfl, hw⟩
    obtain rfl := hw.symm
    go_wp2
    go_ret
    exact ⟨Ln.ret_bool E.out.symm, rfl⟩
  · have ea : isA x = isq x := by unfold isA; rw [if_neg h0]
    have hb := isq_b x (by omega) h1
    obtain ⟨s0, s1, -⟩ := isq_spec x (by omega) h1
    have E : Hid (isB x = decide (isq x * isq x = x)) := by
      show _ = _; unfold isB; rw [decide_eq_true (by omega), Bool.true_and]; exact decide_eq_decide.2 ⟨fun h => by omega, fun h => by omega⟩
    rw [ea] at HS
    clear ea
    generalize isq x = s at *
    have hm0 : 0 ≤ s * s := Int.mul_nonneg s0 s0
    generalize isB x = K at *
    go_enter Try.func5, Try.ntmps5
    go_wp2_with fail
    refine (HS.out _).mono ?_
    rintro e w' ⟨rfl, hw⟩
    obtain rfl := hw.symm
    go_wp2
    go_ret
    exact ⟨Ln.ret_bool E.out.symm, rfl⟩
end Go.Proofs.Ytlbkhiphnllfpan
