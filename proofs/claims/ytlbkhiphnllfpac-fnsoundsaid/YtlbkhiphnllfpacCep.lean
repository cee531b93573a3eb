/-
  A sight of the program: whether its parameters are known, the powers of ten, what divisors it sees, its units and bounds, walked.
-/
import Derived.BigQuiet
import Derived.Deep.RegionWith
import Derived.Test.YtlbkhiphnllfpacCls
import Derived.Test.YtlbkhiphnllfpacCel2
namespace Go.Proofs.Ytlbkhiphnllfpac
open Go.RowKit
set_option linter.unusedVariables false
set_option maxRecDepth 100000
theorem tenPower_any (k : Nat) (w : World) (hk : k ≤ 17) :
    Calls Try.prog 42 #[.int .i64 k] w fun e w' => e = .returned (.int .i64 (10 ^ k)) ∧ w' = w := by
  go_enter Try.func42, Try.ntmps42
  go_wp2
  go_loop [3, 5] (fun p n => ∃ j : Nat, j ≤ k ∧ n = .int .i64 (j : Int) ∧ p = .int .i64 (10 ^ j)) (fun _ n => k - (intOf n).toNat)
  case atStart => exact ⟨0, Nat.zero_le _, Ln.val_int (by omega), Ln.val_int (by simp)⟩
  case round =>
    obtain ⟨j, hj, rfl, rfl⟩ := hrel
    have h0 : (0 : Int) < 10 ^ j := Int.pow_pos (by decide)
    have h1 : (10 : Int) ^ j ≤ 100000000000000000 := by have := ten_le j 17 (by omega); simpa using this
    by_cases hlt : j < k
    · have Hend : Hid (∀ x : Int, x = 10 ^ j * 10 → Value.int .i64 x = .int .i64 (10 ^ (j + 1))) := fun x hx => Ln.val_int (by rw [hx, Int.pow_succ])
      generalize (10 : Int) ^ j = P at *
      have hlt' : (j : Int) < (k : Int) := by omega
      go_wp2
      go_round
      case rel => exact ⟨j + 1, by omega, by go_num, Hend.out _ (by omega)⟩
      case measure => simp [intOf]; omega
    · obtain rfl : j = k := by omega
      obtain ⟨P, hP⟩ : ∃ P : Int, P = 10 ^ j := ⟨_, rfl⟩
      rw [← hP]
      have HP : Hid (P = 10 ^ j) := hP
      clear hP
      have hd : ¬ ((j : Int) < (j : Int)) := by omega
      go_wp2
      go_ret
      exact ⟨Ln.ret_int HP.out, rfl⟩
theorem tenPower_12 (x : Int) (hx : 1 ≤ x ∧ x ≤ 2) (W : World) : Calls Try.prog 42 #[.int .i64 x] W fun e w' => e = .returned (.int .i64 (10 ^ x.toNat)) ∧ w' = W := by
  rcases (show x = 1 ∨ x = 2 by omega) with rfl | rfl
  · exact tenPower_any 1 W (by decide)
  · exact tenPower_any 2 W (by decide)
theorem tenPower_01 (x : Int) (hx : 1 ≤ x ∧ x ≤ 2) (W : World) : Calls Try.prog 42 #[.int .i64 (x - 1)] W fun e w' => e = .returned (.int .i64 (10 ^ (x - 1).toNat)) ∧ w' = W := by
  rcases (show x = 1 ∨ x = 2 by omega) with rfl | rfl
  · exact tenPower_any 0 W (by decide)
  · exact tenPower_any 1 W (by decide)
theorem isGreatest_any (a : Int) (w : World) :
    Calls Try.prog 46 #[.int .i64 a] w fun e w' => e = .returned (.bool (decide (5 ≤ a ∧ a ≤ 9))) ∧ w' = w := by
  by_cases h1 : 5 ≤ a
  · have E : Hid (decide (5 ≤ a ∧ a ≤ 9) = decide (a ≤ 9)) := decide_eq_decide.2 ⟨fun h => h.2, fun h => ⟨h1, h⟩⟩
    generalize decide (5 ≤ a ∧ a ≤ 9) = R at *
    go_enter Try.func46, Try.ntmps46
    go_wp2
    go_ret
    exact ⟨Ln.ret_bool E.out.symm, rfl⟩
  · have E : Hid (decide (5 ≤ a ∧ a ≤ 9) = false) := decide_eq_false (fun h => h1 h.1)
    generalize decide (5 ≤ a ∧ a ≤ 9) = R at *
    go_enter Try.func46, Try.ntmps46
    go_wp2
    go_ret
    exact ⟨Ln.ret_bool E.out.symm, rfl⟩
theorem isSeen_any (a : Int) (w : World) :
    Calls Try.prog 64 #[.int .i64 a] w fun e w' => e = .returned (.bool (decide (1 ≤ a ∧ a ≤ 2))) ∧ w' = w := by
  by_cases h1 : 1 ≤ a
  · have E : Hid (decide (1 ≤ a ∧ a ≤ 2) = decide (a ≤ 2)) := decide_eq_decide.2 ⟨fun h => h.2, fun h => ⟨h1, h⟩⟩
    generalize decide (1 ≤ a ∧ a ≤ 2) = R at *
    go_enter Try.func64, Try.ntmps64
    go_wp2
    go_ret
    exact ⟨Ln.ret_bool E.out.symm, rfl⟩
  · have E : Hid (decide (1 ≤ a ∧ a ≤ 2) = false) := decide_eq_false (fun h => h1 h.1)
    generalize decide (1 ≤ a ∧ a ≤ 2) = R at *
    go_enter Try.func64, Try.ntmps64
    go_wp2
    go_ret
    exact ⟨Ln.ret_bool E.out.symm, rfl⟩
theorem known_any (a u t : Int) (w : World) :
    Calls Try.prog 34 #[.agg #[.int .i64 a, .int .i64 u, .int .i64 t]] w fun e w' => e = .returned (.bool (prm a u t)) ∧ Below w.heap.size w w' := by
  have HP : Hid (prm a u t = (decide (5 ≤ a ∧ a ≤ 9) && (decide (1 ≤ u ∧ u ≤ 2) && decide (1 ≤ t ∧ t ≤ 2)))) := rfl
  have H1 : Hid (∀ W, Calls Try.prog 46 #[.int .i64 a] W fun e w' => e = .returned (.bool (decide (5 ≤ a ∧ a ≤ 9))) ∧ w' = W) := fun W => isGreatest_any a W
  have H2 : Hid (∀ W, Calls Try.prog 64 #[.int .i64 u] W fun e w' => e = .returned (.bool (decide (1 ≤ u ∧ u ≤ 2))) ∧ w' = W) := fun W => isSeen_any u W
  have H3 : Hid (∀ W, Calls Try.prog 64 #[.int .i64 t] W fun e w' => e = .returned (.bool (decide (1 ≤ t ∧ t ≤ 2))) ∧ w' = W) := fun W => isSeen_any t W
  have HB : Hid (∀ o, Below w.heap.size w (w.alloc o)) := fun o => (Below.refl _ _).alloc (Nat.le_refl _) _
  generalize decide (5 ≤ a ∧ a ≤ 9) = b1 at *
  generalize decide (1 ≤ u ∧ u ≤ 2) = b2 at *
  generalize decide (1 ≤ t ∧ t ≤ 2) = b3 at *
  generalize prm a u t = R at *
  cases b1 with
  | false =>
    go_enter Try.func34, Try.ntmps34
    go_wp2_with fail
    refine (H1.out _).mono ?_
    rintro e w' ⟨rfl, hw⟩
    obtain rfl := hw.symm
    go_wp2
    go_ret
    exact ⟨Ln.ret_bool (by rw [HP.out]; rfl), HB.out _⟩
  | true =>
    cases b2 with
    | false =>
      go_enter Try.func34, Try.ntmps34
      go_wp2_with fail
      refine (H1.out _).mono ?_
      rintro e w' ⟨rfl, hw⟩
      obtain rfl := hw.symm
      go_wp2_with fail
      refine (H2.out _).mono ?_
      rintro e w' ⟨rfl, hw⟩
      obtain rfl := hw.symm
      go_wp2
      go_ret
      exact ⟨Ln.ret_bool (by rw [HP.out]; rfl), HB.out _⟩
    | true =>
      go_enter Try.func34, Try.ntmps34
      go_wp2_with fail
      refine (H1.out _).mono ?_
      rintro e w' ⟨rfl, hw⟩
      obtain rfl := hw.symm
      go_wp2_with fail
      refine (H2.out _).mono ?_
      rintro e w' ⟨rfl, hw⟩
      obtain rfl := hw.symm
      go_wp2_with fail
      refine (H3.out _).mono ?_
      rintro e w' ⟨rfl, hw⟩
      obtain rfl := hw.symm
      go_wp2
      go_ret
      exact ⟨Ln.ret_bool (by rw [HP.out]; rfl), HB.out _⟩
theorem seesDivisor_any (a u t D : Int) (w : World) (hu : 1 ≤ u ∧ u ≤ 2) :
    Calls Try.prog 35 #[.agg #[.int .i64 a, .int .i64 u, .int .i64 t], .int .i64 D] w fun e w' => e = .returned (.bool (rgd u D)) ∧ Below w.heap.size w w' := by
  have HB : Hid (∀ o, Below w.heap.size w (w.alloc o)) := fun o => (Below.refl _ _).alloc (Nat.le_refl _) _
  have H1 : Hid (∀ W, Calls Try.prog 42 #[.int .i64 (u - 1)] W fun e w' => e = .returned (.int .i64 (10 ^ (u - 1).toNat)) ∧ w' = W) := fun W => tenPower_01 u hu W
  have H2 : Hid (∀ W, Calls Try.prog 42 #[.int .i64 u] W fun e w' => e = .returned (.int .i64 (10 ^ u.toNat)) ∧ w' = W) := fun W => tenPower_12 u hu W
  have HR : Hid (rgd u D = decide (10 ^ (u - 1).toNat ≤ D ∧ D ≤ 10 ^ u.toNat - 1)) := rfl
  generalize (10 : Int) ^ (u - 1).toNat = V at *
  generalize (10 : Int) ^ u.toNat = U at *
  generalize rgd u D = R at *
  by_cases h1 : V ≤ D
  · have E : Hid (R = decide (D < U)) := by
      show _ = _; rw [HR.out]; exact decide_eq_decide.2 ⟨fun h => by omega, fun h => by omega⟩
    go_enter Try.func35, Try.ntmps35
    go_wp2_with fail
    refine (H1.out _).mono ?_
    rintro e w' ⟨rfl, hw⟩
    obtain rfl := hw.symm
    go_wp2_with fail
    refine (H2.out _).mono ?_
    rintro e w' ⟨rfl, hw⟩
    obtain rfl := hw.symm
    go_wp2
    go_ret
    exact ⟨Ln.ret_bool E.out.symm, HB.out _⟩
  · have E : Hid (R = false) := by
      show _ = _; rw [HR.out]; exact decide_eq_false (fun h => h1 h.1)
    go_enter Try.func35, Try.ntmps35
    go_wp2_with fail
    refine (H1.out _).mono ?_
    rintro e w' ⟨rfl, hw⟩
    obtain rfl := hw.symm
    go_wp2
    go_ret
    exact ⟨Ln.ret_bool E.out.symm, HB.out _⟩
theorem divisorUnits_any (a u t : Int) (w : World) (ha : 5 ≤ a ∧ a ≤ 9) (ht : 1 ≤ t ∧ t ≤ 2) :
    Calls Try.prog 65 #[.agg #[.int .i64 a, .int .i64 u, .int .i64 t]] w fun e w' => e = .returned (.int .i64 (10 * a * 10 ^ t.toNat)) ∧ Below w.heap.size w w' := by
  have HB : Hid (∀ o, Below w.heap.size w (w.alloc o)) := fun o => (Below.refl _ _).alloc (Nat.le_refl _) _
  have H2 : Hid (∀ W, Calls Try.prog 42 #[.int .i64 t] W fun e w' => e = .returned (.int .i64 (10 ^ t.toNat)) ∧ w' = W) := fun W => tenPower_12 t ht W
  have hT := pow12 t ht
  generalize (10 : Int) ^ t.toNat = T at *
  have m := mulB (10 * a) T 90 100 (by omega) (by omega) (by omega) (by omega) (by decide)
  go_enter Try.func65, Try.ntmps65
  go_wp2
  go_quiet (first | (go_at_call 42; refine Calls.quiet_of_same (H2.out _)))
  go_wp2
  go_ret
  exact ⟨rfl, below_drewN (HB.out _) _⟩
theorem restUnits_any (a u t : Int) (w : World) (hu : 1 ≤ u ∧ u ≤ 2) :
    Calls Try.prog 66 #[.agg #[.int .i64 a, .int .i64 u, .int .i64 t]] w fun e w' => e = .returned (.int .i64 (9 * 10 ^ u.toNat)) ∧ Below w.heap.size w w' := by
  have HB : Hid (∀ o, Below w.heap.size w (w.alloc o)) := fun o => (Below.refl _ _).alloc (Nat.le_refl _) _
  have H2 : Hid (∀ W, Calls Try.prog 42 #[.int .i64 u] W fun e w' => e = .returned (.int .i64 (10 ^ u.toNat)) ∧ w' = W) := fun W => tenPower_12 u hu W
  have hU := pow12 u hu
  generalize (10 : Int) ^ u.toNat = U at *
  go_enter Try.func66, Try.ntmps66
  go_wp2_with fail
  refine (H2.out _).mono ?_
  rintro e w' ⟨rfl, hw⟩
  obtain rfl := hw.symm
  go_wp2
  go_ret
  exact ⟨rfl, HB.out _⟩
set_option maxHeartbeats 2000000 in
theorem bound_any (a u t D : Int) (w : World) (ha : 5 ≤ a ∧ a ≤ 9) (hu : 1 ≤ u ∧ u ≤ 2) (ht : 1 ≤ t ∧ t ≤ 2) (hr : rgd u D = true) :
    Calls Try.prog 36 #[.agg #[.int .i64 a, .int .i64 u, .int .i64 t], .int .i64 D] w fun e w' => e = .returned (.int .i64 (bnd a u t D)) ∧ Below w.heap.size w w' := by
  have hp : prm a u t = true := by unfold prm; simp [ha, hu, ht]
  have HB : Hid (∀ o, Below w.heap.size w (w.alloc o)) := fun o => (Below.refl _ _).alloc (Nat.le_refl _) _
  have H1 : Hid (∀ W, Calls Try.prog 65 #[.agg #[.int .i64 a, .int .i64 u, .int .i64 t]] W fun e w' => e = .returned (.int .i64 (10 * a * 10 ^ t.toNat)) ∧ Below W.heap.size W w') := fun W => divisorUnits_any a u t W ha ht
  have H2 : Hid (∀ W, Calls Try.prog 66 #[.agg #[.int .i64 a, .int .i64 u, .int .i64 t]] W fun e w' => e = .returned (.int .i64 (9 * 10 ^ u.toNat)) ∧ Below W.heap.size W w') := fun W => restUnits_any a u t W hu
  have E : Hid (bnd a u t D = (10 * a * 10 ^ t.toNat * (D + 1)) / (9 * 10 ^ u.toNat)) := by show _ = _; unfold bnd; rw [if_pos ⟨hp, hr⟩]
  have hd := rgd_bd u D hu hr
  have hT := pow12 t ht
  have hU := pow12 u hu
  clear hp hr
  generalize (10 : Int) ^ t.toNat = T at *
  generalize (10 : Int) ^ u.toNat = U at *
  generalize bnd a u t D = X at *
  have m1 : 0 ≤ 10 * a * T ∧ 10 * a * T ≤ 9000 := by
    have := Int.mul_le_mul_of_nonneg_left hT.2 (show 0 ≤ 10 * a by omega)
    have := Int.mul_nonneg (show 0 ≤ 10 * a by omega) (show 0 ≤ T by omega)
    omega
  generalize 10 * a * T = q at *
  have hqb : 90 ≤ 9 * U ∧ 9 * U ≤ 900 := by omega
  generalize 9 * U = p at *
  have m2 : 0 ≤ (D + 1) * q ∧ (D + 1) * q ≤ 900000 := by
    have := Int.mul_le_mul_of_nonneg_left (show D + 1 ≤ 100 by omega) m1.1
    have := Int.mul_nonneg m1.1 (show 0 ≤ D + 1 by omega)
    rw [Int.mul_comm (D + 1) q]
    omega
  have hq : Int.tdiv ((D + 1) * q) p = (D + 1) * q / p := Int.tdiv_eq_ediv_of_nonneg m2.1
  have hZ0 : 0 ≤ (D + 1) * q / p := Int.ediv_nonneg m2.1 (by omega)
  have hZ1 : (D + 1) * q / p ≤ 900000 := Int.le_trans (Int.ediv_le_self _ m2.1) m2.2
  have E2 : Hid (X = (D + 1) * q / p) := by show _ = _; rw [E.out, Int.mul_comm q (D + 1)]
  clear E hT hU
  go_enter Try.func36, Try.ntmps36
  go_wp2
  go_region_with (first | (go_at_call 65; refine (H1.out _).mono ?_; rintro e w1 ⟨rfl, hb1⟩; have hs1 := At3.below (by first | exact at3_new _ _ _ _ _ | exact hs2) hb1; obtain ⟨q10, q11, q12⟩ := id hs1) | (go_at_call 66; refine (H2.out _).mono ?_; rintro e w2 ⟨rfl, hb2⟩; have hs2 := At3.below (by first | exact at3_new _ _ _ _ _ | exact hs1) hb2; obtain ⟨q20, q21, q22⟩ := id hs2))
  all_goals
    go_wp2
    go_ret
    exact ⟨Ln.ret_int E2.out.symm, by first | exact bel2 (HB.out _).drew hb1 hb2 | exact bel2 (HB.out _).drew hb2 hb1⟩
theorem least_any (a u t D : Int) (w : World) (ha : 5 ≤ a ∧ a ≤ 9) (hu : 1 ≤ u ∧ u ≤ 2) (ht : 1 ≤ t ∧ t ≤ 2) (hr : rgd u D = true) :
    Calls Try.prog 37 #[.agg #[.int .i64 a, .int .i64 u, .int .i64 t], .int .i64 D] w fun e w' => e = .returned (.int .i64 (-(bnd a u t D) - 2)) ∧ Below w.heap.size w w' := by
  have hp : prm a u t = true := by unfold prm; simp [ha, hu, ht]
  have hb := bnd_bd a u t D hp hr
  have HB : Hid (∀ o, Below w.heap.size w (w.alloc o)) := fun o => (Below.refl _ _).alloc (Nat.le_refl _) _
  have H1 : Hid (∀ W, Calls Try.prog 36 #[.agg #[.int .i64 a, .int .i64 u, .int .i64 t], .int .i64 D] W fun e w' => e = .returned (.int .i64 (bnd a u t D)) ∧ Below W.heap.size W w') := fun W => bound_any a u t D W ha hu ht hr
  clear hp hr
  generalize bnd a u t D = b at *
  go_enter Try.func37, Try.ntmps37
  go_wp2_with fail
  refine (H1.out _).mono ?_
  rintro e w1 ⟨rfl, hb1⟩
  go_wp2
  go_ret
  exact ⟨rfl, bel1 (HB.out _) hb1⟩
set_option maxHeartbeats 1000000 in
theorem iBound_any (a u t D : Int) (w : World) :
    Calls Try.prog 11 #[.int .i64 a, .int .i64 u, .int .i64 t, .int .i64 D] w fun e w' => e = .returned (.int .i64 (bnd a u t D)) ∧ Below w.heap.size w w' := by
  have HB : Hid (∀ o, Below w.heap.size w (w.alloc o)) := fun o => (Below.refl _ _).alloc (Nat.le_refl _) _
  have HK : Hid (∀ W, Calls Try.prog 34 #[.agg #[.int .i64 a, .int .i64 u, .int .i64 t]] W fun e w' => e = .returned (.bool (prm a u t)) ∧ Below W.heap.size W w') := fun W => known_any a u t W
  cases hp : prm a u t with
  | false =>
    have E : Hid (bnd a u t D = 0) := by show _ = _; unfold bnd; rw [hp]; simp
    rw [hp] at HK
    clear hp
    go_enter Try.func11, Try.ntmps11
    go_wp2_with fail
    refine (HK.out _).mono ?_
    rintro e w1 ⟨rfl, hb1⟩
    go_wp2
    go_ret
    exact ⟨Ln.ret_int E.out.symm, bel1 (HB.out _) hb1⟩
  | true =>
    obtain ⟨ha, hu, ht⟩ := prm_parts a u t hp
    have HS : Hid (∀ W, Calls Try.prog 35 #[.agg #[.int .i64 a, .int .i64 u, .int .i64 t], .int .i64 D] W fun e w' => e = .returned (.bool (rgd u D)) ∧ Below W.heap.size W w') := fun W => seesDivisor_any a u t D W hu
    rw [hp] at HK
    cases hr : rgd u D with
    | false =>
      have E : Hid (bnd a u t D = 0) := by show _ = _; unfold bnd; rw [hr]; simp
      rw [hr] at HS
      clear hp hr
      go_enter Try.func11, Try.ntmps11
      go_wp2_with fail
      refine (HK.out _).mono ?_
      rintro e w1 ⟨rfl, hb1⟩
      obtain ⟨q0, q1, q2⟩ := At3.below (at3_new _ _ _ _ _) hb1
      go_wp2_with fail
      refine (HS.out _).mono ?_
      rintro e w2 ⟨rfl, hb2⟩
      go_wp2
      go_ret
      exact ⟨Ln.ret_int E.out.symm, bel2 (HB.out _) hb1 hb2⟩
    | true =>
      have H1 : Hid (∀ W, Calls Try.prog 36 #[.agg #[.int .i64 a, .int .i64 u, .int .i64 t], .int .i64 D] W fun e w' => e = .returned (.int .i64 (bnd a u t D)) ∧ Below W.heap.size W w') := fun W => bound_any a u t D W ha hu ht hr
      rw [hr] at HS
      clear hp hr
      go_enter Try.func11, Try.ntmps11
      go_wp2_with fail
      refine (HK.out _).mono ?_
      rintro e w1 ⟨rfl, hb1⟩
      have hs1 := At3.below (at3_new _ _ _ _ _) hb1
      obtain ⟨q0, q1, q2⟩ := id hs1
      go_wp2_with fail
      refine (HS.out _).mono ?_
      rintro e w2 ⟨rfl, hb2⟩
      obtain ⟨q3, q4, q5⟩ := At3.below hs1 hb2
      clear q0 q1 q2
      go_wp2_with fail
      refine (H1.out _).mono ?_
      rintro e w3 ⟨rfl, hb3⟩
      go_wp2
      go_ret
      exact ⟨rfl, bel1 (bel2 (HB.out _) hb1 hb2) hb3⟩
end Go.Proofs.Ytlbkhiphnllfpac
