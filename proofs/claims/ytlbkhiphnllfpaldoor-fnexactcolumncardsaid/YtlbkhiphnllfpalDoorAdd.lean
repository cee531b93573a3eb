/-
  What LaneAdd answers, for the program and for its model alike, walked.
-/
import Derived.Test.YtlbkhiphnllfpalDoorSum
namespace Go.Proofs.YtlbkhiphnllfpalDoor
open Go.RowKit
set_option linter.unusedVariables false

def inI (b : Bool) : Int := if b then 1 else 0
theorem inI_bd (b : Bool) : 0 ≤ inI b ∧ inI b ≤ 1 := by cases b <;> decide
/-- The sum's word, of two plain words and what comes in. -/
def addV (a b : Int) (i : Bool) : Int := Sm (sdF (Ln.ln a) (Ln.ln b) (inI i)) 16
/-- Does a carry leave? -/
def addC (a b : Int) (i : Bool) : Bool := cyF (Ln.ln a) (Ln.ln b) (inI i) 16 == 1
theorem ok_nine (x : Int) (h : Ln.okB 0 x = true) : Nine (Ln.ln x) := by
  have := dig_nine 0 x h
  rw [plain_dig] at this
  exact this
/-- The program's LaneAdd, of two right words. -/
theorem iadd_yes (a b : Int) (i : Bool) (w : World) (ht : Tab w) (a0 : 0 ≤ a) (a1 : a ≤ 18446744073709551615) (b0 : 0 ≤ b) (b1 : b ≤ 18446744073709551615) (ka : Ln.okB 0 a = true) (kb : Ln.okB 0 b = true) :
    Calls Tryd.prog 35 #[.int .u64 a, .int .u64 b, .bool i] w fun e w' => e = .returned (.tuple #[.int .u64 (addV a b i), .bool (addC a b i), .bool true]) ∧ w' = w := by
  have na : Hid (Nine (Ln.ln a)) := ok_nine a ka
  have nb : Hid (Nine (Ln.ln b)) := ok_nine b kb
  have Ka : Hid (Ln.okB 0 a = true) := ka
  have Kb : Hid (Ln.okB 0 b = true) := kb
  clear ka kb
  obtain ⟨c, hc⟩ : ∃ c, c = inI i := ⟨_, rfl⟩
  have hc01 := inI_bd i
  rw [← hc] at hc01
  have Hv : Hid (addV a b i = Sm (sdF (Ln.ln a) (Ln.ln b) c) 16) := by rw [hc]; rfl
  have Hcv : Hid (addC a b i = (cyF (Ln.ln a) (Ln.ln b) c 16 == 1)) := by rw [hc]; rfl
  cases i
  all_goals
    have Hc : Hid (c = inI _) := hc
    clear hc
    go_enter Tryd.func35, Tryd.ntmps35
    go_wp2_with fail
    refine (iok_plain a _ ht a0 a1).mono ?_
    rintro e w1 ⟨rfl, rfl⟩
    rw [Ka.out]
    go_wp2_with fail
    refine (iok_plain b _ ht b0 b1).mono ?_
    rintro e w1 ⟨rfl, rfl⟩
    rw [Kb.out]
    go_wp2
    go_loop [9, 10, 22] (fun s cv l => ∃ k : Nat, k ≤ 16 ∧ l = .int .i64 k ∧ cv = .int .u64 (cyF (Ln.ln a) (Ln.ln b) c k) ∧ s = .int .u64 (Sm (sdF (Ln.ln a) (Ln.ln b) c) k)) (fun _ _ l => 16 - (intOf l).toNat)
    case atStart => exact ⟨0, Nat.zero_le _, rfl, Ln.val_int (by rw [cyF, Hc.out]; rfl), rfl⟩
    case round =>
      obtain ⟨k, hk, rfl, rfl, rfl⟩ := hrel
      by_cases hlt : k < 16
      · have hA := na.out k hlt
        have hB := nb.out k hlt
        have hC := cyF_bd (Ln.ln a) (Ln.ln b) c na.out nb.out hc01.1 hc01.2 k (by omega)
        have hS := Sm_bd (sdF (Ln.ln a) (Ln.ln b) c) (sdF_nine _ _ _) k (by omega)
        have HS : Hid (Sm (sdF (Ln.ln a) (Ln.ln b) c) k < 16 ^ k) := hS.2
        have hS0 := hS.1
        clear hS
        obtain ⟨y, hy⟩ : ∃ y, y = cyF (Ln.ln a) (Ln.ln b) c k := ⟨_, rfl⟩
        have Hs : Hid (cyF (Ln.ln a) (Ln.ln b) c (k + 1) = (Ln.ln a k + Ln.ln b k + y) / 10) := by rw [hy]; exact cyF_succ _ _ c k
        have Hd : Hid (sdF (Ln.ln a) (Ln.ln b) c k = (Ln.ln a k + Ln.ln b k + y) % 10) := by rw [hy]; exact sdF_def _ _ c k
        rw [← hy] at hC ⊢
        clear hy
        by_cases h9 : 9 < Ln.ln a k + Ln.ln b k + y
        · go_wp2_with fail
          refine (laneAt_any a _ k _ rfl (by omega) a0 a1).mono ?_
          rintro e w' ⟨rfl, rfl⟩
          go_wp2_with fail
          refine (laneAt_any b _ k _ rfl (by omega) b0 b1).mono ?_
          rintro e w' ⟨rfl, rfl⟩
          go_wp2
          go_round
          case rel =>
            refine ⟨k + 1, by omega, by go_num, Ln.val_int (by rw [Hs.out]; omega), Ln.val_int ?_⟩
            rw [orK _ _ k hS0 HS.out (by omega) (by omega) hlt, Sm, Hd.out]
            congr 2
            omega
          case measure => simp [intOf]; omega
        · go_wp2_with fail
          refine (laneAt_any a _ k _ rfl (by omega) a0 a1).mono ?_
          rintro e w' ⟨rfl, rfl⟩
          go_wp2_with fail
          refine (laneAt_any b _ k _ rfl (by omega) b0 b1).mono ?_
          rintro e w' ⟨rfl, rfl⟩
          go_wp2
          go_round
          case rel =>
            refine ⟨k + 1, by omega, by go_num, Ln.val_int (by rw [Hs.out]; omega), Ln.val_int ?_⟩
            rw [orK _ _ k hS0 HS.out (by omega) (by omega) hlt, Sm, Hd.out]
            congr 2
            omega
          case measure => simp [intOf]; omega
      · go_wp2
        go_ret3
        have e : k = 16 := by omega
        subst e
        exact ⟨by rw [Hv.out, Hcv.out]; rfl, rfl⟩
end Go.Proofs.YtlbkhiphnllfpalDoor
