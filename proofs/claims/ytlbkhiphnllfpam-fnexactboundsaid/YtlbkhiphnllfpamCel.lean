/-
  The model's powers, parameters, range and bound of a table's cells, walked.
-/
import Derived.Test.YtlbkhiphnllfpamIn
namespace Go.Proofs.Ytlbkhiphnllfpam
open Go.RowKit
set_option linter.unusedVariables false
theorem ten_le (a b : Nat) (h : a ≤ b) : (10 : Int) ^ a ≤ 10 ^ b := by
  obtain ⟨c, rfl⟩ := Nat.exists_eq_add_of_le h
  rw [Int.pow_add]
  have h1 : (1 : Int) ≤ 10 ^ c := Int.le_of_lt_add_one (by have : (0 : Int) < 10 ^ c := Int.pow_pos (by decide); omega)
  have h2 : (0 : Int) ≤ 10 ^ a := Int.le_of_lt (Int.pow_pos (by decide))
  have := Int.mul_le_mul_of_nonneg_left h1 h2
  omega
theorem l6Power_any (k : Nat) (w : World) (hk : k ≤ 17) :
    Calls Try.prog 31 #[.int .i64 k] w fun e w' => e = .returned (.int .i64 (10 ^ k)) ∧ w' = w := by
  go_enter Try.func31, Try.ntmps31
  go_wp2
  go_loop [0, 3] (fun n p => ∃ j : Nat, j ≤ k ∧ n = .int .i64 ((k : Int) - (j : Int)) ∧ p = .int .i64 (10 ^ j)) (fun n _ => (intOf n).toNat)
  case atStart => exact ⟨0, Nat.zero_le _, Ln.val_int (by omega), Ln.val_int (by simp)⟩
  case round =>
    obtain ⟨j, hj, rfl, rfl⟩ := hrel
    have h0 : (0 : Int) < 10 ^ j := Int.pow_pos (by decide)
    have h1 : (10 : Int) ^ j ≤ 100000000000000000 := by have := ten_le j 17 (by omega); simpa using this
    by_cases hlt : j < k
    · have hlt' : (0 : Int) < (k : Int) - (j : Int) := by omega
      have Hend : Hid (∀ x y : Int, x = (k : Int) - (j : Int) - 1 → y = 10 * 10 ^ j → ∃ q : Nat, q ≤ k ∧ Value.int .i64 x = .int .i64 ((k : Int) - (q : Int)) ∧ Value.int .i64 y = .int .i64 (10 ^ q)) := fun x y hx hy => ⟨j + 1, by omega, Ln.val_int (by omega), Ln.val_int (by rw [hy, Int.pow_succ, Int.mul_comm])⟩
      generalize (10 : Int) ^ j = P at *
      go_wp2
      go_round
      case rel => exact Hend.out _ _ (by omega) (by omega)
      case measure => simp [intOf]; omega
    · obtain rfl : j = k := by omega
      obtain ⟨P, hP⟩ : ∃ P : Int, P = 10 ^ j := ⟨_, rfl⟩
      rw [← hP]
      have HP : Hid (P = 10 ^ j) := hP
      clear hP
      have hd : decide ((0 : Int) < (j : Int) - (j : Int)) = false := by simp
      go_wp2
      go_ret
      exact ⟨Ln.ret_int HP.out, rfl⟩
/-- The parameters that a table takes. -/
def prm (a u t : Int) : Bool := decide (5 ≤ a ∧ a ≤ 9) && (decide (1 ≤ u ∧ u ≤ 2) && decide (1 ≤ t ∧ t ≤ 2))
theorem prm_parts (a u t : Int) (h : prm a u t = true) : (5 ≤ a ∧ a ≤ 9) ∧ (1 ≤ u ∧ u ≤ 2) ∧ (1 ≤ t ∧ t ≤ 2) := by
  unfold prm at h; simpa using h
theorem l6Params_any (a u t : Int) (w : World) :
    Calls Try.prog 29 #[.int .i64 a, .int .i64 u, .int .i64 t] w fun e w' => e = .returned (.bool (prm a u t)) ∧ w' = w := by
  by_cases h1 : 5 ≤ a ∧ a ≤ 9
  · by_cases h2 : 1 ≤ u ∧ u ≤ 2
    · by_cases h3 : 1 ≤ t ∧ t ≤ 2
      · have E : Hid (prm a u t = true) := by show _ = _; unfold prm; simp [h1, h2, h3]
        go_enter Try.func29, Try.ntmps29
        go_wp2_with fail
        refine (l1In_yes a 5 9 _ h1.1 h1.2).mono ?_
        rintro e w' ⟨rfl, hw⟩
        obtain rfl := hw.symm
        go_wp2_with fail
        refine (l1In_yes u 1 2 _ h2.1 h2.2).mono ?_
        rintro e w' ⟨rfl, hw⟩
        obtain rfl := hw.symm
        go_wp2_with fail
        refine (l1In_yes t 1 2 _ h3.1 h3.2).mono ?_
        rintro e w' ⟨rfl, hw⟩
        obtain rfl := hw.symm
        go_wp2
        go_ret
        exact ⟨Ln.ret_bool E.out.symm, rfl⟩
      · have E : Hid (prm a u t = false) := by show _ = _; unfold prm; simp [h1, h2]; omega
        go_enter Try.func29, Try.ntmps29
        go_wp2_with fail
        refine (l1In_yes a 5 9 _ h1.1 h1.2).mono ?_
        rintro e w' ⟨rfl, hw⟩
        obtain rfl := hw.symm
        go_wp2_with fail
        refine (l1In_yes u 1 2 _ h2.1 h2.2).mono ?_
        rintro e w' ⟨rfl, hw⟩
        obtain rfl := hw.symm
        go_wp2_with fail
        refine (l1In_no t 1 2 _ (by omega)).mono ?_
        rintro e w' ⟨rfl, hw⟩
        obtain rfl := hw.symm
        go_wp2
        go_ret
        exact ⟨Ln.ret_bool E.out.symm, rfl⟩
    · have E : Hid (prm a u t = false) := by show _ = _; unfold prm; rw [decide_eq_false h2]; simp
      go_enter Try.func29, Try.ntmps29
      go_wp2_with fail
      refine (l1In_yes a 5 9 _ h1.1 h1.2).mono ?_
      rintro e w' ⟨rfl, hw⟩
      obtain rfl := hw.symm
      go_wp2_with fail
      refine (l1In_no u 1 2 _ (by omega)).mono ?_
      rintro e w' ⟨rfl, hw⟩
      obtain rfl := hw.symm
      go_wp2
      go_ret
      exact ⟨Ln.ret_bool E.out.symm, rfl⟩
  · have E : Hid (prm a u t = false) := by show _ = _; unfold prm; rw [decide_eq_false h1]; simp
    go_enter Try.func29, Try.ntmps29
    go_wp2_with fail
    refine (l1In_no a 5 9 _ (by omega)).mono ?_
    rintro e w' ⟨rfl, hw⟩
    obtain rfl := hw.symm
    go_wp2
    go_ret
    exact ⟨Ln.ret_bool E.out.symm, rfl⟩
/-- The divisors of u digits. -/
def rgd (u d : Int) : Bool := decide (10 ^ (u - 1).toNat ≤ d ∧ d ≤ 10 ^ u.toNat - 1)
theorem l6Range_any (u d : Int) (w : World) (h1 : 1 ≤ u) (h2 : u ≤ 17) :
    Calls Try.prog 30 #[.int .i64 u, .int .i64 d] w fun e w' => e = .returned (.bool (rgd u d)) ∧ w' = w := by
  obtain ⟨k, rfl⟩ := Int.eq_ofNat_of_zero_le (show 0 ≤ u by omega)
  obtain ⟨k, rfl⟩ : ∃ j, k = j + 1 := ⟨k - 1, by omega⟩
  have e1 : (((k + 1 : Nat) : Int) - 1).toNat = k := by omega
  have Hr : Hid (rgd ((k + 1 : Nat) : Int) d = decide (10 ^ k ≤ d ∧ d ≤ 10 ^ (k + 1) - 1)) := by
    show _ = _; unfold rgd; rw [e1]; rfl
  have ek : ((k + 1 : Nat) : Int) = (k : Int) + 1 := by omega
  have hp1 := ten_le (k + 1) 17 (by omega)
  have hp0 : (0 : Int) < 10 ^ (k + 1) := Int.pow_pos (by decide)
  have hp2 : (10 : Int) ^ 17 = 100000000000000000 := by decide
  rw [hp2] at hp1
  have C1 : Hid (∀ W, Calls Try.prog 31 #[.int .i64 (k : Int)] W fun e w' => e = .returned (.int .i64 (10 ^ k)) ∧ w' = W) := fun W => l6Power_any k W (by omega)
  have C2 : Hid (∀ W, Calls Try.prog 31 #[.int .i64 ((k : Int) + 1)] W fun e w' => e = .returned (.int .i64 (10 ^ (k + 1))) ∧ w' = W) := fun W => by
    have := l6Power_any (k + 1) W (by omega)
    rw [ek] at this; exact this
  rw [ek]
  rw [ek] at Hr
  generalize (10 : Int) ^ k = P at *
  generalize (10 : Int) ^ (k + 1) = R at *
  generalize rgd ((k : Int) + 1) d = b at *
  go_enter Try.func30, Try.ntmps30
  go_wp2_with fail
  refine (C1.out _).mono ?_
  rintro e w' ⟨rfl, hw⟩
  obtain rfl := hw.symm
  go_wp2_with fail
  refine (C2.out _).mono ?_
  rintro e w' ⟨rfl, hw⟩
  obtain rfl := hw.symm
  by_cases h : P ≤ d ∧ d ≤ R - 1
  · have E : Hid (b = true) := by show _ = _; rw [Hr.out]; exact decide_eq_true h
    go_wp2_with fail
    refine (l1In_yes d P (R - 1) _ h.1 h.2).mono ?_
    rintro e w' ⟨rfl, hw⟩
    obtain rfl := hw.symm
    go_wp2
    go_ret
    exact ⟨Ln.ret_bool E.out.symm, rfl⟩
  · have E : Hid (b = false) := by show _ = _; rw [Hr.out]; exact decide_eq_false h
    go_wp2_with fail
    refine (l1In_no d P (R - 1) _ (by omega)).mono ?_
    rintro e w' ⟨rfl, hw⟩
    obtain rfl := hw.symm
    go_wp2
    go_ret
    exact ⟨Ln.ret_bool E.out.symm, rfl⟩
/-- The bound of a divisor's cells. -/
def bnd (a u t d : Int) : Int := if prm a u t = true ∧ rgd u d = true then (10 * a * 10 ^ t.toNat * (d + 1)) / (9 * 10 ^ u.toNat) else 0
theorem sBound_any (a u t d : Int) (w : World) :
    Calls Try.prog 9 #[.int .i64 a, .int .i64 u, .int .i64 t, .int .i64 d] w fun e w' => e = .returned (.int .i64 (bnd a u t d)) ∧ w' = w := by
  cases hp : prm a u t with
  | false =>
    have Hp : Hid (prm a u t = false) := hp
    have E : Hid (bnd a u t d = 0) := by show _ = _; unfold bnd; rw [hp]; simp
    clear hp
    go_enter Try.func9, Try.ntmps9
    go_wp2_with fail
    refine (l6Params_any a u t _).mono ?_
    rintro e w' ⟨rfl, hw⟩
    obtain rfl := hw.symm
    rw [Hp.out]
    go_wp2
    go_ret
    exact ⟨Ln.ret_int E.out.symm, rfl⟩
  | true =>
    have Hp : Hid (prm a u t = true) := hp
    obtain ⟨ha, hu, ht⟩ := prm_parts a u t hp
    cases hr : rgd u d with
    | false =>
      have Hr : Hid (rgd u d = false) := hr
      have E : Hid (bnd a u t d = 0) := by show _ = _; unfold bnd; rw [hr]; simp
      clear hp hr
      go_enter Try.func9, Try.ntmps9
      go_wp2_with fail
      refine (l6Params_any a u t _).mono ?_
      rintro e w' ⟨rfl, hw⟩
      obtain rfl := hw.symm
      rw [Hp.out]
      go_wp2_with fail
      refine (l6Range_any u d _ hu.1 (by omega)).mono ?_
      rintro e w' ⟨rfl, hw⟩
      obtain rfl := hw.symm
      rw [Hr.out]
      go_wp2
      go_ret
      exact ⟨Ln.ret_int E.out.symm, rfl⟩
    | true =>
      have Hr : Hid (rgd u d = true) := hr
      have E : Hid (bnd a u t d = (10 * a * 10 ^ t.toNat * (d + 1)) / (9 * 10 ^ u.toNat)) := by show _ = _; unfold bnd; rw [if_pos ⟨hp, hr⟩]
      have hd : 1 ≤ d ∧ d ≤ 99 := by
        unfold rgd at hr
        simp only [decide_eq_true_eq] at hr
        rcases (show u = 1 ∨ u = 2 by omega) with rfl | rfl
        · simp at hr; omega
        · simp at hr; omega
      have C : Hid (∀ W x, (x = 1 ∨ x = 2) → Calls Try.prog 31 #[.int .i64 x] W fun e w' => e = .returned (.int .i64 (10 ^ x.toNat)) ∧ w' = W) := fun W x hx => by
        rcases hx with rfl | rfl
        · exact l6Power_any 1 W (by decide)
        · exact l6Power_any 2 W (by decide)
      have hT : 10 ≤ (10 : Int) ^ t.toNat ∧ (10 : Int) ^ t.toNat ≤ 100 := by
        rcases (show t = 1 ∨ t = 2 by omega) with rfl | rfl <;> simp
      have hU : 10 ≤ (10 : Int) ^ u.toNat ∧ (10 : Int) ^ u.toNat ≤ 100 := by
        rcases (show u = 1 ∨ u = 2 by omega) with rfl | rfl <;> simp
      have Ct := C.out w t (by omega)
      have Cu := C.out w u (by omega)
      clear hp hr C
      generalize (10 : Int) ^ t.toNat = T at *
      generalize (10 : Int) ^ u.toNat = U at *
      generalize bnd a u t d = X at *
      have m1 : 0 ≤ 10 * a * T ∧ 10 * a * T ≤ 9000 := by
        have := Int.mul_le_mul_of_nonneg_left hT.2 (show 0 ≤ 10 * a by omega)
        have := Int.mul_nonneg (show 0 ≤ 10 * a by omega) (show 0 ≤ T by omega)
        omega
      have m2 : 0 ≤ 10 * a * T * (d + 1) ∧ 10 * a * T * (d + 1) ≤ 900000 := by
        have := Int.mul_le_mul_of_nonneg_left (show d + 1 ≤ 100 by omega) m1.1
        have := Int.mul_nonneg m1.1 (show 0 ≤ d + 1 by omega)
        omega
      have Ct' : Hid (Calls Try.prog 31 #[.int .i64 t] w fun e w' => e = .returned (.int .i64 T) ∧ w' = w) := Ct
      have Cu' : Hid (Calls Try.prog 31 #[.int .i64 u] w fun e w' => e = .returned (.int .i64 U) ∧ w' = w) := Cu
      clear Ct Cu
      have hq : Int.tdiv (10 * a * T * (d + 1)) (9 * U) = (10 * a * T * (d + 1)) / (9 * U) := Int.tdiv_eq_ediv_of_nonneg m2.1
      have hZ0 : 0 ≤ (10 * a * T * (d + 1)) / (9 * U) := Int.ediv_nonneg m2.1 (by omega)
      have hZ1 : (10 * a * T * (d + 1)) / (9 * U) ≤ 900000 := Int.le_trans (Int.ediv_le_self _ m2.1) m2.2
      go_enter Try.func9, Try.ntmps9
      go_wp2_with fail
      refine (l6Params_any a u t _).mono ?_
      rintro e w' ⟨rfl, hw⟩
      obtain rfl := hw.symm
      rw [Hp.out]
      go_wp2_with fail
      refine (l6Range_any u d _ hu.1 (by omega)).mono ?_
      rintro e w' ⟨rfl, hw⟩
      obtain rfl := hw.symm
      rw [Hr.out]
      go_wp2_with fail
      refine Ct'.out.mono ?_
      rintro e w' ⟨rfl, hw⟩
      obtain rfl := hw.symm
      go_wp2_with fail
      refine Cu'.out.mono ?_
      rintro e w' ⟨rfl, hw⟩
      obtain rfl := hw.symm
      go_wp2
      go_ret
      exact ⟨Ln.ret_int (by rw [E.out]), rfl⟩
end Go.Proofs.Ytlbkhiphnllfpam
