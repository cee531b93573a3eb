/-
  RootStep, Isqrt, IsSquare and Root of the model, walked.
-/
import Derived.Test.YtlbkhiphnllfpadRoq
import Derived.Test.YtlbkhiphnllfpadIn
namespace Go.Proofs.Ytlbkhiphnllfpad
open Go.RowKit
set_option linter.unusedVariables false
set_option maxHeartbeats 2000000 in
theorem sIsqrt_any (x : Int) (w : World) (h1 : x ≤ 9223372036854775807) :
    Calls Try.prog 27 #[.int .i64 x] w fun e w' => e = .returned (.int .i64 (isA x)) ∧ w' = w := by
  by_cases h0 : x < 0
  · have E : Hid (isA x = -1) := by show _ = _; unfold isA; rw [if_pos h0]
    generalize isA x = K at *
    go_enter Try.func27, Try.ntmps27
    go_wp2
    go_ret
    exact ⟨Ln.ret_int E.out.symm, rfl⟩
  · have E : Hid (∀ s : Int, 0 ≤ s → s * s ≤ x → x < (s + 1) * (s + 1) → s = isA x) := fun s s0 k1 k2 => by
      unfold isA; rw [if_neg h0]; exact isq_unique x s (by omega) h1 s0 k1 k2
    have Hc : Hid (x < (3037000499 + 1) * (3037000499 + 1)) := by show _ < _; omega
    generalize isA x = K at *
    go_enter Try.func27, Try.ntmps27
    go_wp2
    go_loop [3, 4] (fun lo hi => ∃ a b : Int, lo = .int .i64 a ∧ hi = .int .i64 b ∧ 0 ≤ a ∧ a ≤ b ∧ b ≤ 3037000499 ∧ Hid (a * a ≤ x) ∧ Hid (x < (b + 1) * (b + 1))) (fun lo hi => (intOf hi - intOf lo).toNat)
    case atStart => exact ⟨0, 3037000499, rfl, rfl, by omega, by omega, by omega, by show _ ≤ _; omega, Hc⟩
    case round =>
      obtain ⟨a, b, rfl, rfl, a0, ab, b1, HA, HB⟩ := hrel
      by_cases hlt : a < b
      · have hdv : Int.tdiv (a + b + 1) 2 = (a + b + 1) / 2 := Int.tdiv_eq_ediv_of_nonneg (by omega)
        obtain ⟨m, hm⟩ : ∃ m, (a + b + 1) / 2 = m := ⟨_, rfl⟩
        rw [hm] at hdv
        have m0 : a < m := by omega
        have m1 : m ≤ b := by omega
        have hmm := sq_le m 3037000499 (by omega) (by omega)
        have hm0 : 0 ≤ m * m := Int.mul_nonneg (by omega) (by omega)
        clear hm
        by_cases hle : m * m ≤ x
        · have HM : Hid (m * m ≤ x) := hle
          go_wp2
          go_round
          case rel => exact ⟨m, b, rfl, rfl, by omega, m1, b1, HM, HB⟩
          case measure => simp [intOf]; omega
        · have HM : Hid (x < (m - 1 + 1) * (m - 1 + 1)) := by show _ < _; rw [show m - 1 + 1 = m by omega]; omega
          go_wp2
          go_round
          case rel => exact ⟨a, m - 1, rfl, rfl, a0, by omega, by omega, HA, HM⟩
          case measure => simp [intOf]; omega
      · obtain rfl : a = b := by omega
        go_wp2
        go_ret
        exact ⟨Ln.ret_int (E.out a a0 HA.out HB.out), rfl⟩
theorem isq_b (x : Int) (h0 : 0 ≤ x) (h1 : x ≤ 9223372036854775807) : isq x ≤ 3037000499 := by
  obtain ⟨a, b, c⟩ := isq_spec x h0 h1
  rcases Int.lt_or_le 3037000499 (isq x) with g | g
  · have := Int.mul_le_mul (show 3037000500 ≤ isq x by omega) (show 3037000500 ≤ isq x by omega) (by decide) a
    omega
  · exact g
theorem sRoot_no (x n : Int) (w : World) (h : rok x n = false) :
    Calls Try.prog 7 #[.int .i64 x, .int .i64 n] w fun e w' => ∃ u, e = .returned (.tuple #[u, .int .i64 0, .bool false]) ∧ Has w' w.heap.size u [] ∧ Below w.heap.size w w' := by
  have HN0 : Hid (Has (w.alloc (.cells #[] 2)) w.heap.size (.slice (some ⟨w.heap.size, 0, none⟩) 0 0) [] ∧ Below w.heap.size w (w.alloc (.cells #[] 2))) := ⟨none_own w, (Below.refl _ _).alloc (Nat.le_refl _) _⟩
  have hn : ¬ ((0 ≤ x ∧ x ≤ 99999999) ∧ 0 ≤ n ∧ n ≤ 4) := of_decide_eq_false h
  clear h
  by_cases hx : 0 ≤ x ∧ x ≤ 99999999
  · have hn2 : n < 0 ∨ 4 < n := by omega
    clear hn
    go_enter Try.func7, Try.ntmps7
    go_wp2_with fail
    refine (l1In_yes x 0 99999999 _ hx.1 hx.2).mono ?_
    rintro e w' ⟨rfl, hw⟩
    obtain rfl := hw.symm
    go_wp2_with fail
    refine (l1In_no n 0 4 _ hn2).mono ?_
    rintro e w' ⟨rfl, hw⟩
    obtain rfl := hw.symm
    go_wp2
    go_ret3
    exact ⟨_, rfl, HN0.out.1, HN0.out.2⟩
  · have hx2 : x < 0 ∨ 99999999 < x := by omega
    clear hn
    go_enter Try.func7, Try.ntmps7
    go_wp2_with fail
    refine (l1In_no x 0 99999999 _ hx2).mono ?_
    rintro e w' ⟨rfl, hw⟩
    obtain rfl := hw.symm
    go_wp2
    go_ret3
    exact ⟨_, rfl, HN0.out.1, HN0.out.2⟩
set_option maxHeartbeats 4000000 in
theorem sRoot_any (x n : Int) (w : World) :
    Calls Try.prog 7 #[.int .i64 x, .int .i64 n] w fun e w' => ∃ u, e = .returned (.tuple #[u, .int .i64 (rtR x n), .bool (rok x n)]) ∧ Has w' w.heap.size u (rtL x n) ∧ Below w.heap.size w w' := by
  cases hk : rok x n with
  | false =>
    have e1 : rtR x n = 0 := by unfold rtR; rw [hk]; rfl
    have e2 : rtL x n = [] := by unfold rtL; rw [hk]; rfl
    rw [e1, e2]
    exact sRoot_no x n w hk
  | true =>
    obtain ⟨hx, hn⟩ := of_decide_eq_true hk
    obtain ⟨N, hN⟩ := Int.eq_ofNat_of_zero_le hn.1
    subst hN
    obtain ⟨b0, b1, b2, b3, b4⟩ := rtX_bd x N hx.1 hx.2 (by omega)
    have hX : rtX x (N : Int) = x * 10 ^ (2 * N) := by unfold rtX; rw [Int.toNat_natCast]
    have e1 : rtL x (N : Int) = cut 10 (isq (x * 10 ^ (2 * N))) (4 + N) := by unfold rtL; rw [hk, hX, Int.toNat_natCast]; rfl
    have e2 : rtR x (N : Int) = x * 10 ^ (2 * N) - isq (x * 10 ^ (2 * N)) * isq (x * 10 ^ (2 * N)) := by unfold rtR; rw [hk, hX]; rfl
    have HQ : Hid (∀ W, Calls Try.prog 26 #[.int .i64 (2 * (N : Int))] W fun e w' => e = .returned (.int .i64 (10 ^ (2 * N))) ∧ w' = W) := fun W => by
      have := l6Power_any (2 * N) W (by omega)
      simpa using this
    have HS : Hid (∀ W, Calls Try.prog 27 #[.int .i64 (x * 10 ^ (2 * N))] W fun e w' => e = .returned (.int .i64 (isq (x * 10 ^ (2 * N)))) ∧ w' = W) := fun W => by
      have := sIsqrt_any (x * 10 ^ (2 * N)) W (by omega)
      rw [show isA (x * 10 ^ (2 * N)) = isq (x * 10 ^ (2 * N)) by unfold isA; rw [if_neg (by omega)]] at this
      exact this
    obtain ⟨s0, s1, -⟩ := isq_spec (x * 10 ^ (2 * N)) b0 (by omega)
    have s2 := isq_b (x * 10 ^ (2 * N)) b0 (by omega)
    rw [e1, e2]
    clear e1 e2 hX hk b1
    generalize isq (x * 10 ^ (2 * N)) = s at *
    generalize (10 : Int) ^ (2 * N) = P at *
    have ss0 : 0 ≤ s * s := Int.mul_nonneg s0 s0
    obtain ⟨M, hM⟩ : ∃ M : Nat, 4 + N = M := ⟨_, rfl⟩
    have hM2 : 4 + (N : Int) = (M : Int) := by omega
    have hM3 : 3 + (N : Int) = (M : Int) - 1 := by omega
    have hMb : M ≤ 8 := by omega
    rw [hM]
    obtain ⟨i0, hi, hz0, hz1, hz2⟩ := info_parts info64
    obtain ⟨w1, hrun, hown, hgrow⟩ := run_make_full (P := Try.prog) w w.heap.size 26 2 i0 (.int .i64 0) 1 Try.underlying26 hi hz0 hz1 .i64 .i64 M (by rw [hz2]; omega) (by unfold maxLen; omega) (Nat.le_refl _)
    have hb1 : Below w.heap.size w w1 := Below.grown (Below.refl _ _) hgrow (Nat.le_refl _) (fun k hk => by cases hk)
    have Ho : Hid (Has w1 w.heap.size (.slice (some ⟨w.heap.size, 0, none⟩) M M) (fil 10 s M 0)) := by
      rw [fil_zero]; exact rp_made M w w1 _ (by simpa using hown)
    have hrun' : (Instr.makeSlice 26 (.int .i64 (M : Int)) (.int .i64 (M : Int))).run Try.prog w = .ok (.slice (some ⟨w.heap.size, 0, none⟩) M M) w1 := hrun
    have Hnx : Hid (∀ j, j < M → (fil 10 s M j).set (M - 1 - j) (s / 10 ^ j % 10) = fil 10 s M (j + 1)) := fun j hj => fil_set 10 s M j hj
    have Hln : Hid (∀ j, j ≤ M → (fil 10 s M j).length = M) := fun j hj => fil_length 10 s M j hj
    have Hdv : Hid (∀ j : Nat, s / 10 ^ j / 10 = s / 10 ^ (j + 1)) := fun j => cut_next 10 s (by decide) j
    have Hy : Hid (∀ j : Nat, 0 ≤ s / 10 ^ j ∧ s / 10 ^ j ≤ 9223372036854775807) := fun j => ⟨Int.ediv_nonneg s0 (Int.le_of_lt (Int.pow_pos (by decide))), Int.le_trans (Int.ediv_le_self _ s0) (by omega)⟩
    have Hz : Hid (s / 10 ^ 0 = s) := by show _ = _; rw [Int.pow_zero, Int.ediv_one]
    clear hrun hown hgrow hM
    go_enter Try.func7, Try.ntmps7
    go_wp2_with fail
    refine (l1In_yes x 0 99999999 _ hx.1 hx.2).mono ?_
    rintro e w' ⟨rfl, hw⟩
    obtain rfl := hw.symm
    go_wp2_with fail
    refine (l1In_yes (N : Int) 0 4 _ hn.1 hn.2).mono ?_
    rintro e w' ⟨rfl, hw⟩
    obtain rfl := hw.symm
    go_wp2_with fail
    refine (HQ.out _).mono ?_
    rintro e w' ⟨rfl, hw⟩
    obtain rfl := hw.symm
    go_wp2_with fail
    refine (HS.out _).mono ?_
    rintro e w' ⟨rfl, hw⟩
    obtain rfl := hw.symm
    go_wp2
    clear HQ HS
    go_loopw [10, 11] (fun y p wr => ∃ j : Nat, j ≤ M ∧ y = .int .i64 (s / 10 ^ j) ∧ p = .int .i64 ((M : Int) - 1 - (j : Int)) ∧ Hid (Has wr w.heap.size (.slice (some ⟨w.heap.size, 0, none⟩) M M) (fil 10 s M j)) ∧ Below w.heap.size w wr) (fun _ p _ => (intOf p + 1).toNat)
    case atStart => exact ⟨0, Nat.zero_le _, Ln.val_int Hz.out.symm, Ln.val_int (by omega), Ho, hb1⟩
    case round =>
      obtain ⟨j, hj, rfl, rfl, hown, hbel⟩ := hrel
      clear Ho hb1 Hz hrun'
      by_cases hlt : j < M
      · obtain ⟨K, hK⟩ : ∃ K : Nat, M - 1 - j = K := ⟨_, rfl⟩
        have eP : (M : Int) - 1 - (j : Int) = (K : Int) := by omega
        have hKn : K < M := by omega
        have hKn' : (K : Int) < (M : Int) := by omega
        have hst : wr.ownsRow w.heap.size 2 1 (.slice (some ⟨w.heap.size, 0, none⟩) M M) M ((fil 10 s M j).map (Value.int .i64)) := by
          have := hown.out; unfold Has at this; rw [Hln.out j hj] at this; exact this
        have hnx := Hnx.out j hlt
        rw [hK] at hnx
        have hy := Hy.out j
        have Hd1 : Hid (s / 10 ^ j / 10 = s / 10 ^ (j + 1)) := Hdv.out j
        have hcs : wr.cell? ⟨w.heap.size, K, none⟩ = some (.int .i64 ((fil 10 s M j).getD K 0)) := by
          rw [World.ownsRow.cellAt hst K (by omega)]
          simp only [List.getElem?_map, List.getD]
          rw [List.getElem?_eq_getElem (by rw [Hln.out j hj]; omega)]
          rfl
        have hf : wr.frozen? ⟨w.heap.size, K, none⟩ = false := World.ownsRow.frozenAt hst K
        have Hnew : Hid (Has (wr.setCell ⟨w.heap.size, K, none⟩ (.int .i64 (s / 10 ^ j % 10))) w.heap.size (.slice (some ⟨w.heap.size, 0, none⟩) M M) (fil 10 s M (j + 1))) := by
          have := (World.ownsRow.stored hst K (.int .i64 (s / 10 ^ j % 10))).1
          show World.ownsRow _ _ _ _ _ _ _
          rw [Hln.out (j + 1) hlt, ← hnx]
          simpa using this
        rw [eP]
        clear hst hown hnx
        generalize (fil 10 s M j).getD K 0 = o at *
        generalize s / 10 ^ j = y at *
        have hdv : Int.tdiv y 10 = y / 10 := Int.tdiv_eq_ediv_of_nonneg hy.1
        have hmd : Int.tmod y 10 = y % 10 := Int.tmod_eq_emod_of_nonneg hy.1
        have hr0 := Int.emod_nonneg y (show (10 : Int) ≠ 0 by omega)
        have hr1 := Int.emod_lt_of_pos y (show (0 : Int) < 10 by omega)
        have Hk : Hid (M - 1 - j = K) := hK
        clear hK eP
        go_wp2
        go_roundw
        case rel => exact ⟨j + 1, by omega, Ln.val_int Hd1.out, Ln.val_int (by have := Hk.out; omega), Hnew, hbel.setCell (Nat.le_refl _) _⟩
        case measure => simp [intOf]
      · obtain e : j = M := by omega
        subst e
        have hneg : ¬ (0 : Int) ≤ (j : Int) - 1 - (j : Int) := by omega
        go_wp2
        go_ret3
        exact ⟨_, rfl, by rw [← fil_all]; exact hown.out, hbel⟩
end Go.Proofs.Ytlbkhiphnllfpad
