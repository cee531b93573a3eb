/-
  What the model's Declet, Undeclet and Canonical answer, walked.
-/
import Derived.Test.YtmeicjbeibmmgadGreatDoorRows
import Derived.WalkKit
import Derived.Deep.DeepCutAuto
import Derived.Test.YtmeicjbeibmmgadGreatDoorDig
import Derived.Test.YtmeicjbeibmmgadGreatDoorIn
import Derived.Test.YtmeicjbeibmmgadGreatDoorDclM
namespace Go.Proofs.YtmeicjbeibmmgadGreatDoor
open Go.RowKit
set_option linter.unusedVariables false
set_option maxRecDepth 100000
set_option linter.unusedSimpArgs false
theorem lowbits (x : Int) (h0 : 0 ≤ x) (h1 : x ≤ 9) : Int.tmod x 2 = x % 2 ∧ (0 ≤ x % 2 ∧ x % 2 ≤ 1) ∧ Int.tmod x 8 = x % 8 ∧ (0 ≤ x % 8 ∧ x % 8 ≤ 7) ∧ Int.tdiv (x % 8) 2 = x % 8 / 2 ∧ (0 ≤ x % 8 / 2 ∧ x % 8 / 2 ≤ 3) ∧ Int.tdiv x 8 = x / 8 ∧ (x / 8 = 0 ∨ x / 8 = 1) :=
  ⟨Int.tmod_eq_emod_of_nonneg h0, by omega, Int.tmod_eq_emod_of_nonneg h0, by omega, Int.tdiv_eq_ediv_of_nonneg (by omega), by omega, Int.tdiv_eq_ediv_of_nonneg h0, by omega⟩
set_option maxRecDepth 100000 in
set_option maxHeartbeats 4000000 in
theorem sDeclet_yes (n : Int) (w : World) (h0 : 0 ≤ n) (h1 : n ≤ 999) :
    Calls Tryz.prog 43 #[.int .i64 n] w fun e w' => e = .returned (.int .i64 (dcl n)) ∧ w' = w := by
  have HD : Hid (dcl n = dcD (n / 100) (n / 10 % 10) (n % 10)) := by show _ = _; unfold dcl; rw [if_pos ⟨h0, h1⟩]
  have a1 : Int.tdiv n 100 = n / 100 := Int.tdiv_eq_ediv_of_nonneg h0
  have a2 : Int.tdiv n 10 = n / 10 := Int.tdiv_eq_ediv_of_nonneg h0
  have a3 : Int.tmod (n / 10) 10 = n / 10 % 10 := Int.tmod_eq_emod_of_nonneg (by omega)
  have a4 : Int.tmod n 10 = n % 10 := Int.tmod_eq_emod_of_nonneg h0
  have b1 : 0 ≤ n / 100 ∧ n / 100 ≤ 9 := by omega
  have b2 : 0 ≤ n / 10 ∧ n / 10 ≤ 99 := by omega
  have b3 : 0 ≤ n / 10 % 10 ∧ n / 10 % 10 ≤ 9 := by omega
  have b4 : 0 ≤ n % 10 ∧ n % 10 ≤ 9 := by omega
  generalize n / 100 = x at *
  generalize n / 10 % 10 = y at *
  generalize n % 10 = z at *
  generalize n / 10 = t at *
  obtain ⟨p1, p2, p3, p4, p5, p6, p7, p8⟩ := lowbits x b1.1 b1.2
  obtain ⟨q1, q2, q3, q4, q5, q6, q7, q8⟩ := lowbits y b3.1 b3.2
  obtain ⟨r1, r2, r3, r4, r5, r6, r7, r8⟩ := lowbits z b4.1 b4.2
  replace HD : Hid (dcl n = dcK (x / 8 * 4 + y / 8 * 2 + z / 8) (x % 8 / 2) (x % 2) (y % 8 / 2) (y % 2) (z % 8 / 2) (z % 2)) := HD
  generalize x % 8 / 2 = xb at *
  generalize y % 8 / 2 = yb at *
  generalize z % 8 / 2 = zb at *
  generalize x % 8 = x8 at *
  generalize y % 8 = y8 at *
  generalize z % 8 = z8 at *
  generalize x % 2 = d at *
  generalize y % 2 = h at *
  generalize z % 2 = m at *
  go_enter Tryz.func43, Tryz.ntmps43
  go_wp2_with fail
  refine (l1In_yes n 0 999 _ h0 h1).mono ?_
  rintro e w1 ⟨rfl, rfl⟩
  rcases p8 with p8 | p8 <;> rcases q8 with q8 | q8 <;> rcases r8 with r8 | r8 <;> rw [p8] at p7 HD <;> rw [q8] at q7 HD <;> rw [r8] at r7 HD <;> clear p8 q8 r8 <;> (go_wp2; go_ret; refine ⟨Ln.ret_int ?_, rfl⟩; rw [HD.out]; rfl)
set_option maxRecDepth 100000 in
set_option maxHeartbeats 4000000 in
theorem sDeclet_any (n : Int) (w : World) :
    Calls Tryz.prog 43 #[.int .i64 n] w fun e w' => e = .returned (.int .i64 (dcl n)) ∧ w' = w := by
  by_cases h : 0 ≤ n ∧ n ≤ 999
  · exact sDeclet_yes n w h.1 h.2
  rw [dcl_none n h]
  go_enter Tryz.func43, Tryz.ntmps43
  go_wp2_with fail
  refine (l1In_no n 0 999 _ (by omega)).mono ?_
  rintro e w1 ⟨rfl, rfl⟩
  go_wp2
  go_ret
  exact ⟨rfl, rfl⟩
set_option maxRecDepth 100000 in
set_option maxHeartbeats 4000000 in
theorem sUndeclet_any (b : Int) (w : World) :
    Calls Tryz.prog 38 #[.int .i64 b] w fun e w' => e = .returned (.int .i64 (und b)) ∧ w' = w := by
  by_cases h : 0 ≤ b ∧ b ≤ 1023
  case neg =>
    rw [und_none b h]
    go_enter Tryz.func38, Tryz.ntmps38
    go_wp2_with fail
    refine (l1In_no b 0 1023 _ (by omega)).mono ?_
    rintro e w1 ⟨rfl, rfl⟩
    go_wp2
    go_ret
    exact ⟨rfl, rfl⟩
  obtain ⟨h0, h1⟩ := h
  obtain ⟨u1, u2, u3⟩ := und_back b h0 h1
  have e0 : und b = unK b := by unfold und; rw [if_pos ⟨h0, h1⟩]
  rw [e0]
  clear e0
  obtain ⟨U, hU⟩ := Int.eq_ofNat_of_zero_le u2
  rw [hU] at u1 u3 ⊢
  have HU : Hid (∀ k : Nat, k < U → ¬ dcl (k : Int) = fold b) := fun k hk e => by
    have := dcl_one k U (by omega) (by omega) (by omega) u3 (e.trans u1.symm)
    omega
  have HV : Hid (dcl (U : Int) = fold b) := u1
  have HS : Hid (∀ (k : Int) X, Calls Tryz.prog 43 #[.int .i64 k] X fun e w' => e = .returned (.int .i64 (dcl k)) ∧ w' = X) := fun k X => sDeclet_any k X
  have HF : Hid (fold b = if b / 2 % 8 = 7 ∧ b / 32 % 4 = 3 then b % 256 else b) := rfl
  generalize fold b = F at *
  clear u1 u2 hU
  have a1 : Int.tdiv b 2 = b / 2 := Int.tdiv_eq_ediv_of_nonneg h0
  have a2 : Int.tmod (b / 2) 8 = b / 2 % 8 := Int.tmod_eq_emod_of_nonneg (by omega)
  have a3 : Int.tdiv b 32 = b / 32 := Int.tdiv_eq_ediv_of_nonneg h0
  have a4 : Int.tmod (b / 32) 4 = b / 32 % 4 := Int.tmod_eq_emod_of_nonneg (by omega)
  have a5 : Int.tmod b 256 = b % 256 := Int.tmod_eq_emod_of_nonneg h0
  have b1 : 0 ≤ b / 2 ∧ b / 2 ≤ 511 := by omega
  have b2 : 0 ≤ b / 2 % 8 ∧ b / 2 % 8 ≤ 7 := by omega
  have b3 : 0 ≤ b / 32 ∧ b / 32 ≤ 31 := by omega
  have b4 : 0 ≤ b / 32 % 4 ∧ b / 32 % 4 ≤ 3 := by omega
  have b5 : 0 ≤ b % 256 ∧ b % 256 ≤ 255 := by omega
  generalize b / 2 % 8 = g1 at *
  generalize b / 32 % 4 = g2 at *
  generalize b % 256 = g3 at *
  generalize b / 2 = g4 at *
  generalize b / 32 = g5 at *
  go_enter Tryz.func38, Tryz.ntmps38
  go_wp2_with fail
  refine (l1In_yes b 0 1023 _ h0 h1).mono ?_
  rintro e w1 ⟨rfl, rfl⟩
  have H3 : (g1 = 7 ∧ g2 = 3 ∧ g3 = F) ∨ (g1 = 7 ∧ ¬ g2 = 3 ∧ b = F) ∨ (¬ g1 = 7 ∧ b = F) := by
    have := HF.out
    by_cases c1 : g1 = 7
    · by_cases c2 : g2 = 3
      · rw [if_pos ⟨c1, c2⟩] at this; exact .inl ⟨c1, c2, this.symm⟩
      · rw [if_neg (fun h => c2 h.2)] at this; exact .inr (.inl ⟨c1, c2, this.symm⟩)
    · rw [if_neg (fun h => c1 h.1)] at this; exact .inr (.inr ⟨c1, this.symm⟩)
  clear HF
  rcases H3 with ⟨c1, c2, e⟩ | ⟨c1, c2, e⟩ | ⟨c1, e⟩
  · subst c1 c2 e
    go_wp2
    clear a1 a2 a3 a4 a5 b1 b2 b3 b4
    go_loop [3] (fun i => ∃ k : Nat, k ≤ U ∧ i = .int .i64 (k : Int)) (fun i => 1000 - (intOf i).toNat)
    case atStart => exact ⟨0, Nat.zero_le _, rfl⟩
    case round =>
      obtain ⟨k, hk, rfl⟩ := hrel
      have hlt : (k : Int) < 1000 := by omega
      by_cases hkU : k = U
      · subst hkU
        have hv := HV.out
        go_wp2_with fail
        refine (HS.out _ _).mono ?_
        rintro e w2 ⟨rfl, rfl⟩
        rw [hv]
        clear hv
        go_wp2
        go_ret
        exact ⟨rfl, rfl⟩
      · have hne := HU.out k (by omega)
        go_wp2_with fail
        refine (HS.out _ _).mono ?_
        rintro e w2 ⟨rfl, rfl⟩
        generalize dcl (k : Int) = D at *
        have hneb := beq_eq_false_iff_ne.mpr hne
        clear hne
        go_wp2
        go_round
        case rel => exact ⟨k + 1, by omega, by go_num⟩
        case measure => simp [intOf]; omega
  · subst c1 e
    have c2b : (g2 == 3) = false := beq_eq_false_iff_ne.mpr c2
    clear c2
    go_wp2
    clear a1 a2 a3 a4 a5 b1 b2 b3 b4
    go_loop [3] (fun i => ∃ k : Nat, k ≤ U ∧ i = .int .i64 (k : Int)) (fun i => 1000 - (intOf i).toNat)
    case atStart => exact ⟨0, Nat.zero_le _, rfl⟩
    case round =>
      obtain ⟨k, hk, rfl⟩ := hrel
      have hlt : (k : Int) < 1000 := by omega
      by_cases hkU : k = U
      · subst hkU
        have hv := HV.out
        go_wp2_with fail
        refine (HS.out _ _).mono ?_
        rintro e w2 ⟨rfl, rfl⟩
        rw [hv]
        clear hv
        go_wp2
        go_ret
        exact ⟨rfl, rfl⟩
      · have hne := HU.out k (by omega)
        go_wp2_with fail
        refine (HS.out _ _).mono ?_
        rintro e w2 ⟨rfl, rfl⟩
        generalize dcl (k : Int) = D at *
        have hneb := beq_eq_false_iff_ne.mpr hne
        clear hne
        go_wp2
        go_round
        case rel => exact ⟨k + 1, by omega, by go_num⟩
        case measure => simp [intOf]; omega
  · subst e
    have c1b : (g1 == 7) = false := beq_eq_false_iff_ne.mpr c1
    clear c1
    go_wp2
    clear a1 a2 a3 a4 a5 b1 b2 b3 b4
    go_loop [3] (fun i => ∃ k : Nat, k ≤ U ∧ i = .int .i64 (k : Int)) (fun i => 1000 - (intOf i).toNat)
    case atStart => exact ⟨0, Nat.zero_le _, rfl⟩
    case round =>
      obtain ⟨k, hk, rfl⟩ := hrel
      have hlt : (k : Int) < 1000 := by omega
      by_cases hkU : k = U
      · subst hkU
        have hv := HV.out
        go_wp2_with fail
        refine (HS.out _ _).mono ?_
        rintro e w2 ⟨rfl, rfl⟩
        rw [hv]
        clear hv
        go_wp2
        go_ret
        exact ⟨rfl, rfl⟩
      · have hne := HU.out k (by omega)
        go_wp2_with fail
        refine (HS.out _ _).mono ?_
        rintro e w2 ⟨rfl, rfl⟩
        generalize dcl (k : Int) = D at *
        have hneb := beq_eq_false_iff_ne.mpr hne
        clear hne
        go_wp2
        go_round
        case rel => exact ⟨k + 1, by omega, by go_num⟩
        case measure => simp [intOf]; omega
end Go.Proofs.YtmeicjbeibmmgadGreatDoor
