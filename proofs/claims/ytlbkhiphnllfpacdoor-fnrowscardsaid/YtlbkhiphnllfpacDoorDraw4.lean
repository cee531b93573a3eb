/-
  What the draw of a word of lanes gives, walked.
-/
import Derived.Test.YtlbkhiphnllfpacDoorDraw2
namespace Go.Proofs.YtlbkhiphnllfpacDoor
open Go.RowKit
set_option linter.unusedVariables false

theorem xor_bd (a b : Int) : 0 ≤ bits .xor .u64 a b ∧ bits .xor .u64 a b ≤ 18446744073709551615 := u64_wrap_bd _
theorem div_bd (x : Int) (n : Nat) (h0 : 0 ≤ x) (h1 : x ≤ 18446744073709551615) : 0 ≤ x / 2 ^ n ∧ x / 2 ^ n ≤ 18446744073709551615 := by
  have a : 0 ≤ x / 2 ^ n := Int.ediv_nonneg h0 (Int.le_of_lt (Int.pow_pos (by decide)))
  have b := Int.ediv_le_self (2 ^ n) h0
  omega
def dig3 : Array Value := #[.int .i64 0, .int .i64 9, .int .i64 5]
theorem dig3_at (x : Int) (h0 : 0 ≤ x) (h1 : x < 3) : ∃ v : Int, dig3[x.toNat]? = some (.int .i64 v) ∧ 0 ≤ v ∧ v ≤ 9 := by
  obtain ⟨n, rfl⟩ := Int.eq_ofNat_of_zero_le h0
  match n, h1 with
  | 0, _ => exact ⟨_, rfl, by decide, by decide⟩
  | 1, _ => exact ⟨_, rfl, by decide, by decide⟩
  | 2, _ => exact ⟨_, rfl, by decide, by decide⟩
def word6 : Array Value := #[.int .u64 0, .int .u64 1, .int .u64 11068046444225730969, .int .u64 5764607523034234880, .int .u64 5303438921191496089, .int .u64 1152921504606846976]
theorem word6_at (x : Int) (h0 : 0 ≤ x) (h1 : x < 6) : ∃ v : Int, word6[x.toNat]? = some (.int .u64 v) ∧ 0 ≤ v ∧ v ≤ 18446744073709551615 := by
  obtain ⟨n, rfl⟩ := Int.eq_ofNat_of_zero_le h0
  match n, h1 with
  | 0, _ => exact ⟨_, rfl, by decide, by decide⟩
  | 1, _ => exact ⟨_, rfl, by decide, by decide⟩
  | 2, _ => exact ⟨_, rfl, by decide, by decide⟩
  | 3, _ => exact ⟨_, rfl, by decide, by decide⟩
  | 4, _ => exact ⟨_, rfl, by decide, by decide⟩
  | 5, _ => exact ⟨_, rfl, by decide, by decide⟩
set_option maxHeartbeats 2000000 in
theorem l1DrawWord_any (B cb : Nat) (w : World) (hc : Cur B w cb) :
    Calls Tryd.prog 39 #[.pointer (some ⟨cb, 0, none⟩)] w fun e w' => ∃ x, e = .returned (.int .u64 x) ∧ 0 ≤ x ∧ x ≤ 18446744073709551615 ∧ Cur B w' cb ∧ w.grownBy w' (some cb) := by
  go_enter Tryd.func39, Tryd.ntmps39
  go_wp2
  go_loopw [3, 4] (fun v i wr => ∃ k : Nat, k ≤ 16 ∧ i = .int .i64 k ∧ ∃ x : Int, v = .int .u64 x ∧ (0 ≤ x ∧ x ≤ 18446744073709551615) ∧ Cur B wr cb ∧ w.grownBy wr (some cb)) (fun _ i _ => 16 - (intOf i).toNat)
  case atStart => exact ⟨0, Nat.zero_le _, rfl, 0, rfl, ⟨by decide, by decide⟩, hc, World.grownBy.refl _ _⟩
  case round =>
    obtain ⟨k, hk, rfl, x, rfl, hx, hcr, hgr⟩ := hrel
    by_cases hlt : k < 16
    · go_wp2_with fail
      refine (l1Below_any B cb 10 _ hcr (by decide) (by decide)).mono ?_
      rintro e w1 ⟨d, rfl, d0, d1, hc1, hg1⟩
      go_wp2_with fail
      refine (l1Once_any B cb 3 _ hc1 (by decide) (by decide)).mono ?_
      rintro e w2 ⟨b, rfl, hc2, hg2⟩
      have hg := grown_trans (grown_trans hgr hg1) hg2
      clear hgr hg1 hg2 hcr hc1
      cases b
      · go_wp2
        go_roundw
        case rel => exact ⟨k + 1, by omega, by go_num, _, rfl, u64_wrap_bd _, hc2, hg⟩
        case measure => simp [intOf]; omega
      · have hcl := hc2.lt
        go_wp2_with fail
        refine (l1Below_any B cb 3 _ (cur_alloc hc2 _) (by decide) (by decide)).mono ?_
        rintro e w3 ⟨y, rfl, y0, y1, hc3, hg3⟩
        obtain ⟨v, hv, v0, v1⟩ := dig3_at y y0 y1
        have hcell := lit_at (arr := dig3) hg3 hcl.2 y.toNat _ hv
        have hgf := grown_trans (grown_trans hg (World.grownBy_alloc _ _ _)) hg3
        clear hg hg3 hc2 hv
        go_wp2
        go_roundw
        case rel => exact ⟨k + 1, by omega, by go_num, _, rfl, u64_wrap_bd _, hc3, hgf⟩
        case measure => simp [intOf]; omega
    · go_wp2_with fail
      refine (l1Below_any B cb 6 _ hcr (by decide) (by decide)).mono ?_
      rintro e w1 ⟨s, rfl, s0, s1, hc1, hg1⟩
      have hg := grown_trans hgr hg1
      clear hgr hg1 hcr
      have hcl := hc1.lt
      have hcase : s = 0 ∨ s = 1 ∨ s = 2 ∨ ((s == 0) = false ∧ (s == 1) = false ∧ (s == 2) = false) := by
        by_cases e0 : s = 0
        · exact .inl e0
        · by_cases e1 : s = 1
          · exact .inr (.inl e1)
          · by_cases e2 : s = 2
            · exact .inr (.inr (.inl e2))
            · exact .inr (.inr (.inr ⟨by simp [e0], by simp [e1], by simp [e2]⟩))
      rcases hcase with e0 | e0 | e0 | ⟨e0, e1, e2⟩
      · subst e0
        go_wp2_with fail
        refine (l1Below_any B cb 16 _ hc1 (by decide) (by decide)).mono ?_
        rintro e w2 ⟨y, rfl, y0, y1, hcT, hg2⟩
        have hgT := grown_trans hg hg2
        obtain ⟨q, rfl⟩ := Int.eq_ofNat_of_zero_le y0
        clear hg hg2 hc1
        go_wp2_with fail
        refine (l1Once_any B cb 24 _ hcT (by decide) (by decide)).mono ?_
        rintro e w3 ⟨b, rfl, hcU, hgU⟩
        have hgV := grown_trans hgT hgU
        clear hgT hgU hcT
        cases b
        · go_wp2
          go_ret
          exact ⟨_, rfl, (div_bd _ _ hx.1 hx.2).1, (div_bd _ _ hx.1 hx.2).2, hcU, hgV⟩
        · go_wp2_with fail
          refine (l1Byte_any B cb _ hcU).mono ?_
          rintro e w4 ⟨z, rfl, z0, z1, hcW, hgW⟩
          go_wp2_with fail
          refine (l1Below_any B cb 15 _ hcW (by decide) (by decide)).mono ?_
          rintro e w5 ⟨u, rfl, u0, u1, hcX, hgX⟩
          have hgF := grown_trans (grown_trans hgV hgW) hgX
          obtain ⟨p, rfl⟩ := Int.eq_ofNat_of_zero_le u0
          clear hgV hgW hgX hcU hcW
          go_wp2
          go_ret
          exact ⟨_, rfl, (xor_bd _ _).1, (xor_bd _ _).2, hcX, hgF⟩
      · subst e0
        go_wp2_with fail
        refine (l1Below_any B cb 16 _ hc1 (by decide) (by decide)).mono ?_
        rintro e w2 ⟨y, rfl, y0, y1, hcT, hg2⟩
        have hgT := grown_trans hg hg2
        obtain ⟨q, rfl⟩ := Int.eq_ofNat_of_zero_le y0
        clear hg hg2 hc1
        go_wp2_with fail
        refine (l1Once_any B cb 24 _ hcT (by decide) (by decide)).mono ?_
        rintro e w3 ⟨b, rfl, hcU, hgU⟩
        have hgV := grown_trans hgT hgU
        clear hgT hgU hcT
        cases b
        · go_wp2
          go_ret
          exact ⟨_, rfl, (u64_wrap_bd _).1, (u64_wrap_bd _).2, hcU, hgV⟩
        · go_wp2_with fail
          refine (l1Byte_any B cb _ hcU).mono ?_
          rintro e w4 ⟨z, rfl, z0, z1, hcW, hgW⟩
          go_wp2_with fail
          refine (l1Below_any B cb 15 _ hcW (by decide) (by decide)).mono ?_
          rintro e w5 ⟨u, rfl, u0, u1, hcX, hgX⟩
          have hgF := grown_trans (grown_trans hgV hgW) hgX
          obtain ⟨p, rfl⟩ := Int.eq_ofNat_of_zero_le u0
          clear hgV hgW hgX hcU hcW
          go_wp2
          go_ret
          exact ⟨_, rfl, (xor_bd _ _).1, (xor_bd _ _).2, hcX, hgF⟩
      · subst e0
        go_wp2_with fail
        refine (l1Below_any B cb 6 _ (cur_alloc hc1 _) (by decide) (by decide)).mono ?_
        rintro e w2 ⟨y, rfl, y0, y1, hcT, hg2⟩
        obtain ⟨v, hv, v0, v1⟩ := word6_at y y0 y1
        have hcell := lit_at (arr := word6) hg2 hcl.2 y.toNat _ hv
        have hgT := grown_trans (grown_trans hg (World.grownBy_alloc _ _ _)) hg2
        clear hg hg2 hc1 hv
        go_wp2_with fail
        refine (l1Once_any B cb 24 _ hcT (by decide) (by decide)).mono ?_
        rintro e w3 ⟨b, rfl, hcU, hgU⟩
        have hgV := grown_trans hgT hgU
        clear hgT hgU hcT
        cases b
        · go_wp2
          go_ret
          exact ⟨_, rfl, v0, v1, hcU, hgV⟩
        · go_wp2_with fail
          refine (l1Byte_any B cb _ hcU).mono ?_
          rintro e w4 ⟨z, rfl, z0, z1, hcW, hgW⟩
          go_wp2_with fail
          refine (l1Below_any B cb 15 _ hcW (by decide) (by decide)).mono ?_
          rintro e w5 ⟨u, rfl, u0, u1, hcX, hgX⟩
          have hgF := grown_trans (grown_trans hgV hgW) hgX
          obtain ⟨p, rfl⟩ := Int.eq_ofNat_of_zero_le u0
          clear hgV hgW hgX hcU hcW
          go_wp2
          go_ret
          exact ⟨_, rfl, (xor_bd _ _).1, (xor_bd _ _).2, hcX, hgF⟩
      · go_wp2_with fail
        refine (l1Once_any B cb 24 _ hc1 (by decide) (by decide)).mono ?_
        rintro e w3 ⟨b, rfl, hcU, hgU⟩
        have hgV := grown_trans hg hgU
        clear hg hgU hc1
        cases b
        · go_wp2
          go_ret
          exact ⟨_, rfl, hx.1, hx.2, hcU, hgV⟩
        · go_wp2_with fail
          refine (l1Byte_any B cb _ hcU).mono ?_
          rintro e w4 ⟨z, rfl, z0, z1, hcW, hgW⟩
          go_wp2_with fail
          refine (l1Below_any B cb 15 _ hcW (by decide) (by decide)).mono ?_
          rintro e w5 ⟨u, rfl, u0, u1, hcX, hgX⟩
          have hgF := grown_trans (grown_trans hgV hgW) hgX
          obtain ⟨p, rfl⟩ := Int.eq_ofNat_of_zero_le u0
          clear hgV hgW hgX hcU hcW
          go_wp2
          go_ret
          exact ⟨_, rfl, (xor_bd _ _).1, (xor_bd _ _).2, hcX, hgF⟩
end Go.Proofs.YtlbkhiphnllfpacDoor
