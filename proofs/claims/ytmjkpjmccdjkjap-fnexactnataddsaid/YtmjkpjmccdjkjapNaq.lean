/-
  Naturals of the program: which of two is more, sums and differences; walked.
-/
import Derived.Test.YtmjkpjmccdjkjapNap
namespace Go.Proofs.Ytmjkpjmccdjkjap
open Go.RowKit
set_option linter.unusedVariables false
theorem nNaN_int (x : Int) (w : World) : Calls Try.prog 45 #[.int .i64 x] w fun e w' => e = .returned (.bool false) ∧ w' = w := by
  go_enter Try.func45, Try.ntmps45
  go_wp2
  go_ret
  exact ⟨by simp, rfl⟩
theorem nNaN_u8 (x : Int) (w : World) : Calls Try.prog 46 #[.int .u8 x] w fun e w' => e = .returned (.bool false) ∧ w' = w := by
  go_enter Try.func46, Try.ntmps46
  go_wp2
  go_ret
  exact ⟨by simp, rfl⟩
theorem nCmp_int (x y : Int) (w : World) : Calls Try.prog 37 #[.int .i64 x, .int .i64 y] w fun e w' => e = .returned (.int .i64 (cmpI x y)) ∧ w' = w := by
  have HS : Hid ((x < y → cmpI x y = -1) ∧ (y < x → cmpI x y = 1) ∧ (x = y → cmpI x y = 0)) := ⟨cmpI_lt x y, cmpI_gt x y, fun e => e ▸ cmpI_eq x⟩
  generalize cmpI x y = C at *
  by_cases h1 : x < y
  · have E : Hid (C = -1) := HS.out.1 h1
    go_enter Try.func37, Try.ntmps37
    go_wp2_with fail
    refine (nNaN_int x _).mono ?_
    rintro e w1 ⟨rfl, rfl⟩
    go_wp2_with fail
    refine (nNaN_int y _).mono ?_
    rintro e w1 ⟨rfl, rfl⟩
    go_wp2
    go_ret
    exact ⟨by rw [E.out]; rfl, rfl⟩
  · by_cases h2 : y < x
    · have E : Hid (C = 1) := HS.out.2.1 h2
      go_enter Try.func37, Try.ntmps37
      go_wp2_with fail
      refine (nNaN_int x _).mono ?_
      rintro e w1 ⟨rfl, rfl⟩
      go_wp2_with fail
      refine (nNaN_int y _).mono ?_
      rintro e w1 ⟨rfl, rfl⟩
      go_wp2
      go_ret
      exact ⟨by rw [E.out]; rfl, rfl⟩
    · have E : Hid (C = 0) := HS.out.2.2 (by omega)
      go_enter Try.func37, Try.ntmps37
      go_wp2_with fail
      refine (nNaN_int x _).mono ?_
      rintro e w1 ⟨rfl, rfl⟩
      go_wp2_with fail
      refine (nNaN_int y _).mono ?_
      rintro e w1 ⟨rfl, rfl⟩
      go_wp2
      go_ret
      exact ⟨by rw [E.out]; rfl, rfl⟩
theorem nCmp_u8 (x y : Int) (w : World) : Calls Try.prog 38 #[.int .u8 x, .int .u8 y] w fun e w' => e = .returned (.int .i64 (cmpI x y)) ∧ w' = w := by
  have HS : Hid ((x < y → cmpI x y = -1) ∧ (y < x → cmpI x y = 1) ∧ (x = y → cmpI x y = 0)) := ⟨cmpI_lt x y, cmpI_gt x y, fun e => e ▸ cmpI_eq x⟩
  generalize cmpI x y = C at *
  by_cases h1 : x < y
  · have E : Hid (C = -1) := HS.out.1 h1
    go_enter Try.func38, Try.ntmps38
    go_wp2_with fail
    refine (nNaN_u8 x _).mono ?_
    rintro e w1 ⟨rfl, rfl⟩
    go_wp2_with fail
    refine (nNaN_u8 y _).mono ?_
    rintro e w1 ⟨rfl, rfl⟩
    go_wp2
    go_ret
    exact ⟨by rw [E.out]; rfl, rfl⟩
  · by_cases h2 : y < x
    · have E : Hid (C = 1) := HS.out.2.1 h2
      go_enter Try.func38, Try.ntmps38
      go_wp2_with fail
      refine (nNaN_u8 x _).mono ?_
      rintro e w1 ⟨rfl, rfl⟩
      go_wp2_with fail
      refine (nNaN_u8 y _).mono ?_
      rintro e w1 ⟨rfl, rfl⟩
      go_wp2
      go_ret
      exact ⟨by rw [E.out]; rfl, rfl⟩
    · have E : Hid (C = 0) := HS.out.2.2 (by omega)
      go_enter Try.func38, Try.ntmps38
      go_wp2_with fail
      refine (nNaN_u8 x _).mono ?_
      rintro e w1 ⟨rfl, rfl⟩
      go_wp2_with fail
      refine (nNaN_u8 y _).mono ?_
      rintro e w1 ⟨rfl, rfl⟩
      go_wp2
      go_ret
      exact ⟨by rw [E.out]; rfl, rfl⟩
theorem len_cmp (X Y : List Int) (hX : NCan X) (hY : NCan Y) (hl : X.length ≠ Y.length) : cmpI (X.length : Int) (Y.length : Int) = cmpI (lv X) (lv Y) := by
  rcases Nat.lt_or_ge X.length Y.length with c | c
  · rw [cmpI_lt _ _ (by omega), cmpI_lt _ _ (short_less X Y hX.1 hY c)]
  · rw [cmpI_gt _ _ (by omega), cmpI_gt _ _ (short_less Y X hY.1 hX (by omega))]
theorem dig_cmp (X Y : List Int) (p : Nat) (hX : NCan X) (hY : NCan Y) (pX : p < X.length) (pY : p < Y.length) (hd : X.drop (p + 1) = Y.drop (p + 1)) (hne : X.getD p 0 ≠ Y.getD p 0) : cmpI (X.getD p 0) (Y.getD p 0) = cmpI (lv X) (lv Y) := by
  rcases Int.lt_or_gt_of_ne hne with c | c
  · rw [cmpI_lt _ _ c, cmpI_lt _ _ (low_lt X Y p hX.1 hY.1 pX pY hd c)]
  · rw [cmpI_gt _ _ c, cmpI_gt _ _ (low_lt Y X p hY.1 hX.1 pY pX hd.symm c)]
set_option maxHeartbeats 2000000 in
theorem nCompare_any (x y : Value) (a b : Int) (w : World) (hx : NIs w x a) (hy : NIs w y b) (fa : NFit a 1000) (fb : NFit b 1000) :
    Calls Try.prog 25 #[x, y] w fun e w' => e = .returned (.int .i64 (cmpI a b)) ∧ Below w.heap.size w w' := by
  obtain ⟨X, ⟨g, cg, rfl, hcg, hgl, hcx⟩, cX, rfl⟩ := hx
  obtain ⟨Y, ⟨k, ck, rfl, hck, hkl, hcy⟩, cY, rfl⟩ := hy
  have lX := ncan_len X 1000 cX fa
  have lY := ncan_len Y 1000 cY fb
  by_cases hl : X.length = Y.length
  · have HX : Hid (∀ i, i < X.length → w.cell? ⟨g, i, none⟩ = some (.int .u8 (X.getD i 0))) := hcx
    have HY : Hid (∀ i, i < Y.length → w.cell? ⟨k, i, none⟩ = some (.int .u8 (Y.getD i 0))) := hcy
    have HD : Hid (∀ p, p < X.length → X.drop (p + 1) = Y.drop (p + 1) → X.getD p 0 ≠ Y.getD p 0 → cmpI (X.getD p 0) (Y.getD p 0) = cmpI (lv X) (lv Y)) := fun p hp hd hne => dig_cmp X Y p cX cY hp (by omega) hd hne
    have HS : Hid (∀ p, p < X.length → X.drop (p + 1) = Y.drop (p + 1) → X.getD p 0 = Y.getD p 0 → X.drop p = Y.drop p) := fun p hp hd he => drop_same X Y p hp (by omega) hd he
    have HE : Hid (X.drop 0 = Y.drop 0 → cmpI (lv X) (lv Y) = 0) := fun h => by
      rw [List.drop_zero, List.drop_zero] at h; rw [h]; exact cmpI_eq _
    have H0 : Hid (X.drop X.length = Y.drop X.length) := by show _ = _; rw [List.drop_length, hl, List.drop_length]
    generalize cmpI (lv X) (lv Y) = C at *
    rw [← hl] at hck HY ⊢
    obtain ⟨n, hn⟩ : ∃ n, X.length = n := ⟨_, rfl⟩
    rw [hn] at HX HY HD HS H0 lX hcg hck ⊢
    clear hcx hcy cX cY lY hl fa fb hn
    go_enter Try.func25, Try.ntmps25
    go_wp2
    go_loopw [19] (fun i wr => ∃ q : Nat, q ≤ n ∧ i = .int .i64 (q : Int) ∧ Hid (X.drop (n - q) = Y.drop (n - q)) ∧ Below w.heap.size w wr) (fun i _ => n - (intOf i).toNat)
    case atStart => exact ⟨0, Nat.zero_le _, rfl, H0, Below.refl _ _⟩
    case round =>
      obtain ⟨q, hq, rfl, hd, hbel⟩ := hrel
      by_cases hlt : q < n
      · obtain ⟨p, hp⟩ : ∃ p, n - 1 - q = p := ⟨_, rfl⟩
        have hd' : Hid (X.drop (p + 1) = Y.drop (p + 1)) := by
          have := hd.out
          rw [show n - q = p + 1 by omega] at this; exact this
        have ep : (n : Int) - 1 - (q : Int) = (p : Int) := by omega
        have hpn : (p : Int) < (n : Int) := by omega
        have hqn : (q : Int) < (n : Int) := by omega
        have hpn' : p < n := by omega
        have h1 := (hbel.cell (p := ⟨g, p, none⟩) hgl).trans (HX.out p hpn')
        have h2 := (hbel.cell (p := ⟨k, p, none⟩) hkl).trans (HY.out p hpn')
        by_cases he : X.getD p 0 = Y.getD p 0
        · have HN : Hid (X.drop (n - (q + 1)) = Y.drop (n - (q + 1))) := by
            show _ = _
            rw [show n - (q + 1) = p by omega]
            exact HS.out p hpn' hd'.out he
          rw [← he] at h2
          generalize X.getD p 0 = d at *
          clear he hd hd'
          go_wp2
          go_quiet (fail)
          go_wp2
          go_roundw
          case rel => exact ⟨q + 1, by omega, by go_num, HN, below_drewN hbel _⟩
          case measure => simp [intOf]; omega
        · have E : Hid (cmpI (X.getD p 0) (Y.getD p 0) = C) := HD.out p hpn' hd'.out he
          have HC : Hid (∀ W, Calls Try.prog 38 #[.int .u8 (X.getD p 0), .int .u8 (Y.getD p 0)] W fun e w' => e = .returned (.int .i64 C) ∧ w' = W) := fun W => by
            rw [← E.out]; exact nCmp_u8 _ _ W
          have he' : (X.getD p 0 == Y.getD p 0) = false := beq_eq_false_iff_ne.2 he
          generalize X.getD p 0 = d at *
          generalize Y.getD p 0 = d' at *
          clear hd hd' E
          go_wp2
          go_quiet (fail)
          have h3 : (wr.drewN nq).cell? ⟨g, p, none⟩ = some (.int .u8 d) := by simpa using h1
          have h4 : (wr.drewN nq).cell? ⟨k, p, none⟩ = some (.int .u8 d') := by simpa using h2
          have hbel2 := below_drewN hbel nq
          clear h1 h2 hbel
          generalize wr.drewN nq = wr2 at *
          go_wp2
          go_quiet (first | (go_at_call 38; refine Calls.quiet_of_same (HC.out _)))
          go_wp2
          go_ret
          exact ⟨rfl, below_drewN hbel2 _⟩
      · have e : q = n := by omega
        subst e
        have E : Hid (C = 0) := HE.out (by have := hd.out; rwa [Nat.sub_self] at this)
        go_wp2
        go_ret
        exact ⟨by rw [E.out]; rfl, hbel⟩
  · have E : Hid (cmpI (X.length : Int) (Y.length : Int) = cmpI (lv X) (lv Y)) := len_cmp X Y cX cY hl
    have HC : Hid (∀ W, Calls Try.prog 37 #[.int .i64 (X.length : Int), .int .i64 (Y.length : Int)] W fun e w' => e = .returned (.int .i64 (cmpI (lv X) (lv Y))) ∧ w' = W) := fun W => by
      rw [← E.out]; exact nCmp_int _ _ W
    have hne : ((X.length : Int) == (Y.length : Int)) = false := beq_eq_false_iff_ne.2 (by omega)
    generalize cmpI (lv X) (lv Y) = C at *
    generalize X.length = n at *
    generalize Y.length = m at *
    clear hcx hcy cX cY E fa fb
    go_enter Try.func25, Try.ntmps25
    go_wp2_with fail
    refine (HC.out _).mono ?_
    rintro e w1 ⟨rfl, rfl⟩
    go_wp2
    go_ret
    exact ⟨rfl, Below.refl _ _⟩
end Go.Proofs.Ytmjkpjmccdjkjap
