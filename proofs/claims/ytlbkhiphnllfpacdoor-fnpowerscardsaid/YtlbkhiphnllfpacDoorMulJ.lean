/-
  What checkedMultiple, Double, Five and Multiple of the program answer, walked.
-/
import Derived.Test.YtlbkhiphnllfpacDoorMulI
import Derived.Test.YtlbkhiphnllfpacDoorDoor
namespace Go.Proofs.YtlbkhiphnllfpacDoor
open Go.RowKit
set_option linter.unusedVariables false

/-- The parts, greatest first. -/
def tm : Nat → Int
  | 0 => 5
  | 1 => 2
  | 2 => 2
  | _ => 1
theorem tm_easy (j : Nat) (hj : j < 4) : Easy (tm j) := by
  match j, hj with
  | 0, _ => exact .inr (.inr rfl)
  | 1, _ => exact .inr (.inl rfl)
  | 2, _ => exact .inr (.inl rfl)
  | 3, _ => exact .inl rfl
/-- What is left behind j parts. -/
def lft (k : Int) : Nat → Int
  | 0 => k
  | j + 1 => if lft k j < tm j then lft k j else lft k j - tm j
theorem lft_bd (k : Int) (k0 : 0 ≤ k) (j : Nat) : 0 ≤ lft k j ∧ lft k j ≤ k := by
  induction j with
  | zero => exact ⟨k0, Int.le_refl _⟩
  | succ j ih =>
    have e : 1 ≤ tm j := by unfold tm; split <;> decide
    unfold lft; split <;> omega
theorem lft_end (k : Int) (k0 : 0 ≤ k) (k10 : k ≤ 10) : lft k 4 = 0 := by
  simp only [lft, tm]
  omega
theorem mul_step (x a t : Int) (hx : Ln.okB 0 x = true) : addV (mulV x a) (mulV x t) false = mulV x (a + t) ∧ mulC x a + mulC x t + inI (addC (mulV x a) (mulV x t) false) = mulC x (a + t) := by
  have h := mul_more x (mulV x a) (mulC x a) a t hx (mulV_ok x a) (mulV_vl x a hx)
  have b : 0 ≤ addV (mulV x a) (mulV x t) false ∧ addV (mulV x a) (mulV x t) false ≤ 18446744073709551615 := Sm_u64 _ (sdF_nine _ _ _)
  exact mul_told x _ _ _ hx (ok_Sm _ (sdF_nine _ _ _)) b.1 b.2 h
theorem mul_none (x : Int) (hx : Ln.okB 0 x = true) : mulV x 0 = 0 ∧ mulC x 0 = 0 := by
  have := mul_told x 0 0 0 hx (by decide) (by decide) (by decide) (by rw [Int.mul_zero]; decide)
  exact ⟨this.1.symm, this.2.symm⟩
theorem ix4 (j : Nat) (hj : j < 4) (w : World) : (Instr.index 49 (.agg #[.int .i64 5, .int .i64 2, .int .i64 2, .int .i64 1]) (.int .i64 (j : Int))).run Tryd.prog w = .ok (.int .i64 (tm j)) w := by
  rcases (show j = 0 ∨ j = 1 ∨ j = 2 ∨ j = 3 by omega) with rfl | rfl | rfl | rfl
  · kernel_rfl
  · kernel_rfl
  · kernel_rfl
  · kernel_rfl
theorem imul_no (x k : Int) (w : World) (hT : Tab w) (x0 : 0 ≤ x) (x1 : x ≤ 18446744073709551615) (h : Ln.okB 0 x = false ∨ k < 0 ∨ 10 < k) :
    Calls Tryd.prog 9 #[.int .u64 x, .int .i64 k] w fun e w' => e = .returned (.tuple #[.int .u64 0, .int .i64 0, .bool false]) ∧ Below w.heap.size w w' := by
  cases kx : Ln.okB 0 x with
  | false =>
    have Kx : Hid (Ln.okB 0 x = false) := kx
    clear kx h
    go_enter Tryd.func9, Tryd.ntmps9
    go_wp2_with fail
    refine (iok_plain x _ hT x0 x1).mono ?_
    rintro e w1 ⟨rfl, rfl⟩
    rw [Kx.out]
    go_wp2
    go_ret3
    exact ⟨rfl, Below.refl _ _⟩
  | true =>
    have Kx : Hid (Ln.okB 0 x = true) := kx
    have hk : k < 0 ∨ 10 < k := by rcases h with h | h; rw [kx] at h; cases h; exact h
    clear kx h
    rcases hk with hk | hk
    · go_enter Tryd.func9, Tryd.ntmps9
      go_wp2_with fail
      refine (iok_plain x _ hT x0 x1).mono ?_
      rintro e w1 ⟨rfl, rfl⟩
      rw [Kx.out]
      go_wp2
      go_ret3
      exact ⟨rfl, Below.refl _ _⟩
    · have hk0 : ¬ k < 0 := by omega
      go_enter Tryd.func9, Tryd.ntmps9
      go_wp2_with fail
      refine (iok_plain x _ hT x0 x1).mono ?_
      rintro e w1 ⟨rfl, rfl⟩
      rw [Kx.out]
      go_wp2
      go_ret3
      exact ⟨rfl, Below.refl _ _⟩
theorem imul_yes (x k : Int) (w : World) (hT : Tab w) (hz : 0 < w.heap.size) (x0 : 0 ≤ x) (x1 : x ≤ 18446744073709551615) (kx : Ln.okB 0 x = true) (k0 : 0 ≤ k) (k10 : k ≤ 10) :
    Calls Tryd.prog 9 #[.int .u64 x, .int .i64 k] w fun e w' => e = .returned (.tuple #[.int .u64 (mulV x k), .int .i64 (mulC x k), .bool true]) ∧ Below w.heap.size w w' := by
  have Kx : Hid (Ln.okB 0 x = true) := kx
  have HT : Hid (Tab w) := hT
  clear kx hT
  go_enter Tryd.func9, Tryd.ntmps9
  go_wp2_with fail
  refine (iok_plain x _ HT.out x0 x1).mono ?_
  rintro e w1 ⟨rfl, rfl⟩
  rw [Kx.out]
  go_wp2
  go_loopw [1, 7, 8, 28] (fun kv m l i wr => ∃ j : Nat, j ≤ 4 ∧ i = .int .i64 j ∧ kv = .int .i64 (lft k j) ∧ m = .int .u64 (mulV x (k - lft k j)) ∧ l = .int .i64 (mulC x (k - lft k j)) ∧ Below w1.heap.size w1 wr) (fun _ _ _ i _ => 4 - (intOf i).toNat)
  case atStart =>
    refine ⟨0, Nat.zero_le _, rfl, rfl, Ln.val_int ?_, Ln.val_int ?_, Below.refl _ _⟩
    · rw [show k - lft k 0 = 0 from by show k - k = 0; omega, (mul_none x Kx.out).1]
    · rw [show k - lft k 0 = 0 from by show k - k = 0; omega, (mul_none x Kx.out).2]
  case round =>
    obtain ⟨j, hj, rfl, rfl, rfl, rfl, hbel⟩ := hrel
    by_cases hlt : j < 4
    · have hix := ix4 j hlt
      have hbd := lft_bd k k0 j
      have Hl : Hid (lft k (j + 1) = if lft k j < tm j then lft k j else lft k j - tm j) := rfl
      have Het : Hid (Easy (tm j)) := tm_easy j hlt
      have ht05 : 0 ≤ tm j ∧ tm j ≤ 5 := by rcases Het.out with h | h | h <;> omega
      have hsz := hbel.size
      have Hst := fun t => mul_step x (k - lft k j) t Kx.out
      have hV := mulV_bd x (k - lft k j)
      have hVk : Hid (Ln.okB 0 (mulV x (k - lft k j)) = true) := mulV_ok x _
      have hC := mulC_bd x (k - lft k j) Kx.out (by omega) (by omega)
      generalize tm j = t at *
      generalize lft k j = K at *
      obtain ⟨V, hVe⟩ : ∃ V, V = mulV x (k - K) := ⟨_, rfl⟩
      obtain ⟨C, hCe⟩ : ∃ C, C = mulC x (k - K) := ⟨_, rfl⟩
      rw [← hVe] at hV hVk ⊢
      rw [← hCe] at hC ⊢
      by_cases hgt : K < t
      · have HVe : Hid (V = mulV x (k - K)) := hVe
        have HCe : Hid (C = mulC x (k - K)) := hCe
        clear hVe hCe Hst
        go_wp2
        go_roundw
        case rel =>
          have e : lft k (j + 1) = K := by rw [Hl.out, if_pos hgt]
          refine ⟨j + 1, by omega, by go_num, Ln.val_int e.symm, Ln.val_int ?_, Ln.val_int ?_, hbel⟩
          · rw [e]; exact HVe.out
          · rw [e]; exact HCe.out
        case measure => simp [intOf]; omega
      · have hE := ezV_same x t Het.out Kx.out
        have HE : Hid (ezV x t = mulV x t ∧ ezC x t = mulC x t) := hE
        have hV2 := mulV_bd x t
        have hVk2 : Hid (Ln.okB 0 (mulV x t) = true) := mulV_ok x t
        have hC2 := mulC_bd x t Kx.out (by omega) (by omega)
        have hS := Hst t
        rw [← hVe, ← hCe] at hS
        have HS : Hid (addV V (mulV x t) false = mulV x (k - K + t) ∧ C + mulC x t + inI (addC V (mulV x t) false) = mulC x (k - K + t)) := hS
        clear hVe hCe Hst hE hS
        obtain ⟨M, hM⟩ : ∃ M, M = mulV x t := ⟨_, rfl⟩
        obtain ⟨D, hD⟩ : ∃ D, D = mulC x t := ⟨_, rfl⟩
        rw [← hM] at HE hV2 hVk2 HS
        rw [← hD] at HE hC2 HS
        clear hM hD
        obtain ⟨b, hb⟩ : ∃ b, b = addC V M false := ⟨_, rfl⟩
        have Hb : Hid (b = addC V M false) := hb
        clear hb
        cases b
        all_goals
          go_wp2_with fail
          refine (easy1 x t Het.out _ x0 x1 Kx.out).mono ?_
          rintro e w2 ⟨rfl, hb2⟩
          have hb12 := hbel.trans (hb2.mono hsz)
          have hT2 := Tab.below HT.out hb12 hz
          rw [HE.out.1, HE.out.2]
          go_wp2_with fail
          refine (iadd_yes V M false _ hT2 hV.1 hV.2 hV2.1 hV2.2 hVk.out hVk2.out).mono ?_
          rintro e w' ⟨rfl, rfl⟩
          rw [← Hb.out]
          go_wp2
          go_roundw
          case rel =>
            have e : lft k (j + 1) = K - t := by rw [Hl.out, if_neg (by omega)]
            have e2 : k - (K - t) = k - K + t := by omega
            refine ⟨j + 1, by omega, by go_num, Ln.val_int e.symm, Ln.val_int ?_, Ln.val_int ?_, hb12⟩
            · rw [e, e2]; exact HS.out.1
            · have h2 := HS.out.2
              rw [← Hb.out] at h2
              rw [e, e2, ← h2]
              simp [inI]
          case measure => simp [intOf]; omega
    · have e : j = 4 := by omega
      subst e
      have e0 := lft_end k k0 k10
      go_wp2
      go_ret3
      rw [e0, Int.sub_zero]
      exact ⟨rfl, hbel⟩
end Go.Proofs.YtlbkhiphnllfpacDoor
