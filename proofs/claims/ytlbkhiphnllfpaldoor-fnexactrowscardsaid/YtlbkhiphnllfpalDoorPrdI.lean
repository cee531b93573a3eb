/-
  What bothPlain, pushDown and Column of the program answer, walked.
-/
import Derived.Test.YtlbkhiphnllfpalDoorPrdV
import Derived.Test.YtlbkhiphnllfpalDoorMulJ
import Derived.Test.YtlbkhiphnllfpalDoorShift
import Derived.Test.YtlbkhiphnllfpalDoorAdd2
namespace Go.Proofs.YtlbkhiphnllfpalDoor
open Go.RowKit
set_option linter.unusedVariables false
theorem bothPlain_any (a b : Int) (w : World) (hT : Tab w) (a0 : 0 ≤ a) (a1 : a ≤ 18446744073709551615) (b0 : 0 ≤ b) (b1 : b ≤ 18446744073709551615) :
    Calls Tryd.prog 21 #[.int .u64 a, .int .u64 b] w fun e w' => e = .returned (.bool (Ln.okB 0 a && Ln.okB 0 b)) ∧ w' = w := by
  have HT : Hid (Tab w) := hT
  clear hT
  cases ka : Ln.okB 0 a with
  | false =>
    have Ka : Hid (Ln.okB 0 a = false) := ka
    clear ka
    go_enter Tryd.func21, Tryd.ntmps21
    go_wp2_with fail
    refine (iok_plain a _ HT.out a0 a1).mono ?_
    rintro e w1 ⟨rfl, rfl⟩
    rw [Ka.out]
    go_wp2
    go_ret
    exact ⟨rfl, rfl⟩
  | true =>
    have Ka : Hid (Ln.okB 0 a = true) := ka
    clear ka
    go_enter Tryd.func21, Tryd.ntmps21
    go_wp2_with fail
    refine (iok_plain a _ HT.out a0 a1).mono ?_
    rintro e w1 ⟨rfl, hw⟩
    obtain rfl := hw.symm
    rw [Ka.out]
    go_wp2_with fail
    refine (iok_plain b _ HT.out b0 b1).mono ?_
    rintro e w1 ⟨rfl, rfl⟩
    go_wp2
    go_ret
    exact ⟨by simp, rfl⟩
theorem pushDown_any (x d : Int) (w : World) (x0 : 0 ≤ x) (x1 : x ≤ 18446744073709551615) (d0 : 0 ≤ d) (d9 : d ≤ 9) :
    Calls Tryd.prog 36 #[.int .u64 x, .int .u64 d] w fun e w' => e = .returned (.int .u64 (psh x d)) ∧ w' = w := by
  have h1 : ∀ W, Calls Tryd.prog 44 #[.int .u64 x, .int .i64 (-1)] W fun e w' => e = .returned (.int .u64 (Ln.down x 1)) ∧ w' = W := fun W => ishift_down x 1 W x0 x1 (by decide) (by decide)
  have h2 : ∀ W, Calls Tryd.prog 44 #[.int .u64 d, .int .i64 15] W fun e w' => e = .returned (.int .u64 (Ln.up d 15)) ∧ w' = W := fun W => ishift_up d 15 W d0 (by omega) (by decide)
  have hor := psh_or x d x0 x1 d0 d9
  have hd := Ln.down_hi x 1 x0 x1
  have hd0 := Ln.down_lo x 1 x0
  have hu := Ln.up_hi d 15
  have hu0 := Ln.up_lo d 15
  generalize Ln.down x 1 = D at *
  generalize Ln.up d 15 = U at *
  generalize psh x d = R at *
  have H1 : Hid (∀ W, Calls Tryd.prog 44 #[.int .u64 x, .int .i64 (-1)] W fun e w' => e = .returned (.int .u64 D) ∧ w' = W) := h1
  have H2 : Hid (∀ W, Calls Tryd.prog 44 #[.int .u64 d, .int .i64 15] W fun e w' => e = .returned (.int .u64 U) ∧ w' = W) := h2
  have Hor : Hid (bits .or .u64 D U = R) := hor
  clear h1 h2 hor
  go_enter Tryd.func36, Tryd.ntmps36
  go_wp2_with fail
  refine (H1.out _).mono ?_
  rintro e w1 ⟨rfl, hw⟩
  obtain rfl := hw.symm
  go_wp2_with fail
  refine (H2.out _).mono ?_
  rintro e w1 ⟨rfl, hw⟩
  obtain rfl := hw.symm
  go_wp2
  go_ret
  exact ⟨Ln.ret_int Hor.out, rfl⟩
theorem icol_no (a b n : Int) (w : World) (hT : Tab w) (a0 : 0 ≤ a) (a1 : a ≤ 18446744073709551615) (b0 : 0 ≤ b) (b1 : b ≤ 18446744073709551615) (k : Ln.okB 0 a = false ∨ Ln.okB 0 b = false ∨ n < 0 ∨ 30 < n) :
    Calls Tryd.prog 13 #[.int .u64 a, .int .u64 b, .int .i64 n] w fun e w' => e = .returned (.int .i64 (-1)) ∧ w' = w := by
  have HT : Hid (Tab w) := hT
  clear hT
  cases ho : (Ln.okB 0 a && Ln.okB 0 b) with
  | false =>
    have Ho : Hid ((Ln.okB 0 a && Ln.okB 0 b) = false) := ho
    clear ho k
    go_enter Tryd.func13, Tryd.ntmps13
    go_wp2_with fail
    refine (bothPlain_any a b _ HT.out a0 a1 b0 b1).mono ?_
    rintro e w1 ⟨rfl, rfl⟩
    rw [Ho.out]
    go_wp2
    go_ret
    exact ⟨rfl, rfl⟩
  | true =>
    have hn : n < 0 ∨ 30 < n := by
      simp at ho
      rcases k with h | h | h
      · rw [ho.1] at h; cases h
      · rw [ho.2] at h; cases h
      · exact h
    have Ho : Hid ((Ln.okB 0 a && Ln.okB 0 b) = true) := ho
    clear ho k
    rcases hn with hn | hn
    all_goals
      go_enter Tryd.func13, Tryd.ntmps13
      go_wp2_with fail
      refine (bothPlain_any a b _ HT.out a0 a1 b0 b1).mono ?_
      rintro e w1 ⟨rfl, rfl⟩
      rw [Ho.out]
      go_wp2
      go_ret
      exact ⟨rfl, rfl⟩
theorem icol_yes (a b : Int) (n : Nat) (w : World) (hT : Tab w) (a0 : 0 ≤ a) (a1 : a ≤ 18446744073709551615) (b0 : 0 ≤ b) (b1 : b ≤ 18446744073709551615) (ka : Ln.okB 0 a = true) (kb : Ln.okB 0 b = true) (hn : n ≤ 30) :
    Calls Tryd.prog 13 #[.int .u64 a, .int .u64 b, .int .i64 n] w fun e w' => e = .returned (.int .i64 (colS (Ln.ln a) (Ln.ln b) n 16)) ∧ w' = w := by
  have HT : Hid (Tab w) := hT
  have na : Hid (Nine (Ln.ln a)) := ok_nine a ka
  have nb : Hid (Nine (Ln.ln b)) := ok_nine b kb
  have Ho : Hid ((Ln.okB 0 a && Ln.okB 0 b) = true) := by rw [Hid, ka, kb]; rfl
  clear hT ka kb
  go_enter Tryd.func13, Tryd.ntmps13
  go_wp2_with fail
  refine (bothPlain_any a b _ HT.out a0 a1 b0 b1).mono ?_
  rintro e w1 ⟨rfl, hw⟩
  obtain rfl := hw.symm
  rw [Ho.out]
  go_wp2
  go_loop [7, 8] (fun s i => ∃ j : Nat, n ≤ j + 15 ∧ j ≤ n + 1 ∧ j ≤ 16 ∧ i = .int .i64 j ∧ s = .int .u64 (colS (Ln.ln a) (Ln.ln b) n j)) (fun _ i => 17 - (intOf i).toNat)
  case atStart =>
    refine ⟨n - 15, by omega, by omega, by omega, Ln.val_int (by omega), Ln.val_int ?_⟩
    rcases Nat.lt_or_ge n 15 with h | h
    · rw [show n - 15 = 0 by omega]; rfl
    · exact (colS_begin _ _ n (n - 15) (by omega)).symm
  case round =>
    obtain ⟨j, h1, h2, h3, rfl, rfl⟩ := hrel
    by_cases hlt : j ≤ n ∧ j < 16
    · have hC := colS_bd (Ln.ln a) (Ln.ln b) na.out nb.out n j (by omega)
      have Hs : Hid (colS (Ln.ln a) (Ln.ln b) n (j + 1) = colS (Ln.ln a) (Ln.ln b) n j + Ln.ln a j * Ln.ln b (n - j)) := by
        show colS _ _ n j + (if j ≤ n ∧ n - j < 16 then Ln.ln a j * Ln.ln b (n - j) else 0) = _
        rw [if_pos ⟨hlt.1, by omega⟩]
      generalize colS (Ln.ln a) (Ln.ln b) n j = S at *
      have hA := na.out j hlt.2
      have hB := nb.out (n - j) (by omega)
      have hm := mul99 _ _ hA.1 hA.2 hB.1 hB.2
      have hle : (j : Int) ≤ min (n : Int) 15 := by omega
      go_wp2_with fail
      refine (laneAt_any a _ j _ rfl (by omega) a0 a1).mono ?_
      rintro e w' ⟨rfl, hw⟩
      obtain rfl := hw.symm
      go_wp2_with fail
      refine (laneAt_any b _ (n - j) _ (by omega) (by omega) b0 b1).mono ?_
      rintro e w' ⟨rfl, hw⟩
      obtain rfl := hw.symm
      go_wp2
      go_round
      case rel => exact ⟨j + 1, by omega, by omega, by omega, by go_num, Ln.val_int Hs.out.symm⟩
      case measure => simp [intOf]; omega
    · have hle : ¬ (j : Int) ≤ min (n : Int) 15 := by omega
      have hC := colS_bd (Ln.ln a) (Ln.ln b) na.out nb.out n j (by omega)
      have He : Hid (colS (Ln.ln a) (Ln.ln b) n j = colS (Ln.ln a) (Ln.ln b) n 16) := by
        rcases Nat.lt_or_ge j 16 with h | h
        · have := colS_end (Ln.ln a) (Ln.ln b) n j (by omega) (16 - j)
          rw [show j + (16 - j) = 16 by omega] at this
          exact this.symm
        · rw [Hid, show j = 16 by omega]
      generalize colS (Ln.ln a) (Ln.ln b) n j = S at *
      go_wp2
      go_ret
      exact ⟨Ln.ret_int He.out, rfl⟩
end Go.Proofs.YtlbkhiphnllfpalDoor
