/-
  The draws of divisions, walked.
-/
import Derived.Deep.DeepCutAuto
import Derived.Test.YtlbkhiphnllfpacDrawG
import Derived.Test.YtlbkhiphnllfpacCel2
namespace Go.Proofs.Ytlbkhiphnllfpac
open Go.RowKit
set_option linter.unusedVariables false
set_option maxRecDepth 100000
def dl0 : Array Value := #[.int .i64 0, .int .i64 100000000, .int .i64 100000001, .int .i64 (-1)]
theorem dl0_at (x : Int) (h0 : 0 ≤ x) (h1 : x < 4) : ∃ v : Int, dl0[x.toNat]? = some (.int .i64 v) ∧ I64 v := by
  obtain ⟨n, rfl⟩ := Int.eq_ofNat_of_zero_le h0
  match n, h1 with
  | 0, _ => exact ⟨_, rfl, by omega, by omega⟩
  | 1, _ => exact ⟨_, rfl, by omega, by omega⟩
  | 2, _ => exact ⟨_, rfl, by omega, by omega⟩
  | 3, _ => exact ⟨_, rfl, by omega, by omega⟩
def dl1 (x0 : Int) : Array Value := #[.int .i64 (-1), .int .i64 (x0 + 1), .int .i64 100000001, .int .i64 4611686018427387904]
theorem dl1_at (x0 : Int) (hh : 0 ≤ x0 ∧ x0 ≤ 1000000000) (x : Int) (h0 : 0 ≤ x) (h1 : x < 4) : ∃ v : Int, (dl1 x0)[x.toNat]? = some (.int .i64 v) ∧ I64 v := by
  obtain ⟨n, rfl⟩ := Int.eq_ofNat_of_zero_le h0
  match n, h1 with
  | 0, _ => exact ⟨_, rfl, by omega, by omega⟩
  | 1, _ => exact ⟨_, rfl, by omega, by omega⟩
  | 2, _ => exact ⟨_, rfl, by omega, by omega⟩
  | 3, _ => exact ⟨_, rfl, by omega, by omega⟩
def dl2 : Array Value := #[.int .i64 4, .int .i64 10, .int .i64 (-9223372036854775808)]
theorem dl2_at (x : Int) (h0 : 0 ≤ x) (h1 : x < 3) : ∃ v : Int, dl2[x.toNat]? = some (.int .i64 v) ∧ I64 v := by
  obtain ⟨n, rfl⟩ := Int.eq_ofNat_of_zero_le h0
  match n, h1 with
  | 0, _ => exact ⟨_, rfl, by omega, by omega⟩
  | 1, _ => exact ⟨_, rfl, by omega, by omega⟩
  | 2, _ => exact ⟨_, rfl, by omega, by omega⟩
def dl3 : Array Value := #[.int .i64 (-1), .int .i64 18, .int .i64 19, .int .i64 4611686018427387904]
theorem dl3_at (x : Int) (h0 : 0 ≤ x) (h1 : x < 4) : ∃ v : Int, dl3[x.toNat]? = some (.int .i64 v) ∧ I64 v := by
  obtain ⟨n, rfl⟩ := Int.eq_ofNat_of_zero_le h0
  match n, h1 with
  | 0, _ => exact ⟨_, rfl, by omega, by omega⟩
  | 1, _ => exact ⟨_, rfl, by omega, by omega⟩
  | 2, _ => exact ⟨_, rfl, by omega, by omega⟩
  | 3, _ => exact ⟨_, rfl, by omega, by omega⟩
def dl4 (d0 : Int) : Array Value := #[.int .i64 (-1), .int .i64 d0, .int .i64 (d0 - 1)]
theorem dl4_at (d0 : Int) (hh : -1 ≤ d0 ∧ d0 ≤ 1000000000) (x : Int) (h0 : 0 ≤ x) (h1 : x < 3) : ∃ v : Int, (dl4 d0)[x.toNat]? = some (.int .i64 v) ∧ I64 v := by
  obtain ⟨n, rfl⟩ := Int.eq_ofNat_of_zero_le h0
  match n, h1 with
  | 0, _ => exact ⟨_, rfl, by omega, by omega⟩
  | 1, _ => exact ⟨_, rfl, by omega, by omega⟩
  | 2, _ => exact ⟨_, rfl, by omega, by omega⟩
def dl5 : Array Value := #[.int .i64 0, .int .i64 18, .int .i64 19, .int .i64 5]
theorem dl5_at (x : Int) (h0 : 0 ≤ x) (h1 : x < 4) : ∃ v : Int, dl5[x.toNat]? = some (.int .i64 v) ∧ I64 v := by
  obtain ⟨n, rfl⟩ := Int.eq_ofNat_of_zero_le h0
  match n, h1 with
  | 0, _ => exact ⟨_, rfl, by omega, by omega⟩
  | 1, _ => exact ⟨_, rfl, by omega, by omega⟩
  | 2, _ => exact ⟨_, rfl, by omega, by omega⟩
  | 3, _ => exact ⟨_, rfl, by omega, by omega⟩
theorem dl0_small (x : Int) (h0 : 0 ≤ x) (h1 : x < 4) (v : Int) (h : dl0[x.toNat]? = some (.int .i64 v)) : -1 ≤ v ∧ v ≤ 100000001 := by
  obtain ⟨n, rfl⟩ := Int.eq_ofNat_of_zero_le h0
  match n, h1 with
  | 0, _ => have e : (0 : Int) = v := by injection Option.some.inj h
            omega
  | 1, _ => have e : (100000000 : Int) = v := by injection Option.some.inj h
            omega
  | 2, _ => have e : (100000001 : Int) = v := by injection Option.some.inj h
            omega
  | 3, _ => have e : (-1 : Int) = v := by injection Option.some.inj h
            omega
set_option maxRecDepth 100000 in
set_option maxHeartbeats 2000000 in
theorem l7Draw_any (B cb : Nat) (w : World) (hc : Cur B w cb) :
    Calls Try.prog 45 #[.pointer (some ⟨cb, 0, none⟩)] w fun e w' => ∃ x d a, e = .returned (.tuple #[.int .i64 x, .int .i64 d, .int .i64 a]) ∧ (I64 x ∧ I64 d ∧ I64 a) ∧ (-1 ≤ d ∧ d ≤ 1000000000) ∧ Cur B w' cb ∧ w.grownBy w' (some cb) := by
  go_enter Try.func45, Try.ntmps45
  go_wp2_with fail
  refine (l1Below_any _ _ 999 _ hc (by decide) (by decide)).mono ?_
  rintro e w1 ⟨x1, rfl, a0, a1, hc1, hg1⟩
  go_wp2_with fail
  refine (l1Once_any _ _ 3 _ hc1 (by decide) (by decide)).mono ?_
  rintro e w2 ⟨b1, rfl, hc2, hg2⟩
  have hg := grown_trans hg1 hg2
  have HG : Hid (w.grownBy w2 (some cb)) := hg
  have HC : Hid (Cur B w2 cb) := hc2
  clear hc hc1 hg1 hg2 hg hc2
  go_upto_if 12 with fail
  go_cut [5] (fun s wx => ∃ d : Int, s = .int .i64 d ∧ (1 ≤ d ∧ d ≤ 100000000) ∧ Hid (Cur B wx cb) ∧ Hid (w.grownBy wx (some cb)))
  case first =>
    cases b1
    · go_wp2
      go_meet
      exact ⟨_, rfl, by omega, HC, HG⟩
    · go_wp2_with fail
      refine (l1Below_any _ _ 100000000 _ HC.out (by decide) (by decide)).mono ?_
      rintro e w3 ⟨x3, rfl, c0, c1, hc3, hg3⟩
      go_wp2
      go_meet
      exact ⟨_, rfl, by omega, hc3, grown_trans HG.out hg3⟩
  case rest =>
    obtain ⟨d, rfl, hd, HC, HG⟩ := hcut
    go_wp2_with fail
    refine (l1Below_any _ _ 5 _ HC.out (by decide) (by decide)).mono ?_
    rintro e w4 ⟨x4, rfl, e0, e1, hc4, hg4⟩
    obtain ⟨a, ha⟩ : ∃ a, a = 5 + x4 := ⟨_, rfl⟩
    have hab : 5 ≤ a ∧ a ≤ 9 := by omega
    have hg := grown_trans HG.out hg4
    have m := mulB a d 9 100000000 (by omega) (by omega) (by omega) (by omega) (by decide)
    have m0 := Int.mul_nonneg (show 0 ≤ a by omega) (show 0 ≤ d by omega)
    have hdv : Int.tdiv (a * d) 9 = a * d / 9 := Int.tdiv_eq_ediv_of_nonneg m0
    have hq0 : 0 ≤ a * d / 9 := Int.ediv_nonneg m0 (by decide)
    have hq1 : a * d / 9 ≤ 100000000 := by omega
    go_upto_region 5 with fail
    rw [← ha]
    clear HC HG hg4 ha e0 e1
    go_wp2_with fail
    refine (l1Below_any _ _ (a * d / 9 + 1) _ hc4 (by omega) (by omega)).mono ?_
    rintro e w5 ⟨x5, rfl, f0, f1, hc5, hg5⟩
    go_wp2_with fail
    refine (l1Once_any _ _ 6 _ hc5 (by decide) (by decide)).mono ?_
    rintro e w6 ⟨b6, rfl, hc6, hg6⟩
    have HG : Hid (w.grownBy w6 (some cb)) := grown_trans (grown_trans hg hg5) hg6
    have HC : Hid (Cur B w6 cb) := hc6
    clear hg hg5 hg6 hc4 hc5 hc6
    go_upto_if 27 with fail
    go_cut [7] (fun s wx => ∃ x : Int, s = .int .i64 x ∧ (0 ≤ x ∧ x ≤ 1000000000) ∧ wx = w6)
    case first =>
      cases b6
      · go_wp2
        go_meet
        exact ⟨_, rfl, by omega, rfl⟩
      · go_wp2
        go_meet
        exact ⟨_, rfl, by omega, rfl⟩
    case rest =>
      obtain ⟨x, rfl, hx, hwc⟩ := hcut
      obtain rfl := hwc
      clear f0 f1 hdv hq0 hq1
      go_wp2_with fail
      refine (l1Once_any _ _ 16 _ HC.out (by decide) (by decide)).mono ?_
      rintro e w8 ⟨b8, rfl, hc8, hg8⟩
      have hgg0 := grown_trans HG.out hg8
      have i1 : I64 x := ⟨by omega, by omega⟩
      have i2 : I64 d := ⟨by omega, by omega⟩
      have i3 : I64 a := ⟨by omega, by omega⟩
      have hdd : -1 ≤ d ∧ d ≤ 1000000000 := by omega
      clear HG HC hg8
      cases b8
      · go_wp2
        go_ret3
        exact ⟨_, _, _, rfl, ⟨i1, i2, i3⟩, hdd, hc8, hgg0⟩
      · go_wp2_with fail
        refine (l1Below_any _ _ 3 _ hc8 (by decide) (by decide)).mono ?_
        rintro e w9 ⟨k, rfl, k0, k1, hc6, hg9⟩
        have hcl6 := hc6.lt
        have hgg := grown_trans hgg0 hg9
        clear hgg0 hg9 hc8
        rcases (show k = 0 ∨ k = 1 ∨ k = 2 by omega) with rfl | rfl | rfl
        · skip
          go_wp2_with fail
          refine (l1Below_any _ _ 4 _ (cur_alloc hc6 _) (by decide) (by decide)).mono ?_
          rintro e w7 ⟨y, rfl, y0, y1, hc7, hg7⟩
          obtain ⟨v, hv, iv⟩ := dl0_at y y0 y1
          have hv' := hv
          have hcell := lit_at (arr := dl0) hg7 hcl6.2 y.toNat _ hv
          have hgf := grown_trans (grown_trans hgg (World.grownBy_alloc _ _ _)) hg7
          clear hgg hg7 hc6 hv
          go_wp2
          go_ret3
          exact ⟨_, _, _, rfl, ⟨i1, iv, i3⟩, by have := dl0_small y y0 y1 v hv'; omega, hc7, hgf⟩
        · skip
          go_wp2_with fail
          refine (l1Below_any _ _ 4 _ (cur_alloc hc6 _) (by decide) (by decide)).mono ?_
          rintro e w7 ⟨y, rfl, y0, y1, hc7, hg7⟩
          obtain ⟨v, hv, iv⟩ := dl1_at x hx y y0 y1
          have hcell := lit_at (arr := dl1 x) hg7 hcl6.2 y.toNat _ hv
          have hgf := grown_trans (grown_trans hgg (World.grownBy_alloc _ _ _)) hg7
          clear hgg hg7 hc6 hv
          go_wp2
          go_ret3
          exact ⟨_, _, _, rfl, ⟨iv, i2, i3⟩, hdd, hc7, hgf⟩
        · skip
          go_wp2_with fail
          refine (l1Below_any _ _ 3 _ (cur_alloc hc6 _) (by decide) (by decide)).mono ?_
          rintro e w7 ⟨y, rfl, y0, y1, hc7, hg7⟩
          obtain ⟨v, hv, iv⟩ := dl2_at y y0 y1
          have hcell := lit_at (arr := dl2) hg7 hcl6.2 y.toNat _ hv
          have hgf := grown_trans (grown_trans hgg (World.grownBy_alloc _ _ _)) hg7
          clear hgg hg7 hc6 hv
          go_wp2
          go_ret3
          exact ⟨_, _, _, rfl, ⟨i1, i2, iv⟩, hdd, hc7, hgf⟩
set_option maxRecDepth 100000 in
set_option maxHeartbeats 1000000 in
theorem DrawDivide_any (a : Option Addr) (len cap : Nat) (w : World) (hl : len ≤ 4096) (hb : Bytes w.heap.size w a len) :
    Calls Try.prog 16 #[.slice a len cap] w fun e w' => ∃ x d a n, e = .returned (.tuple #[.int .i64 x, .int .i64 d, .int .i64 a, .int .i64 n]) ∧ (I64 x ∧ I64 d ∧ I64 a ∧ I64 n) ∧ Below w.heap.size w w' := by
  have hB : Hid (Bytes w.heap.size w a len) := hb
  clear hb
  go_enter Try.func16, Try.ntmps16
  go_wp2_with fail
  refine (l1New_any a len cap _ hl hB.out).mono ?_
  rintro e w1 ⟨rfl, hc1, hb1⟩
  have hs1 := hb1.size
  go_wp2_with fail
  refine (l7Draw_any _ _ _ hc1).mono ?_
  rintro e w2 ⟨x, d, a, rfl, ⟨i1, i2, i3⟩, hdd, hc2, hg2⟩
  go_wp2_with fail
  refine (l1Below_any _ _ 19 _ hc2 (by decide) (by decide)).mono ?_
  rintro e w3 ⟨n, rfl, n0, n1, hc3, hg3⟩
  go_wp2_with fail
  refine (l1Once_any _ _ 16 _ hc3 (by decide) (by decide)).mono ?_
  rintro e w4 ⟨o, rfl, hc4, hg4⟩
  have hg := grown_trans (grown_trans hg2 hg3) hg4
  have i4 : I64 n := ⟨by omega, by omega⟩
  clear hg2 hg3 hg4 hc1 hc2 hc3
  have hcl := hc4.lt
  cases o
  · have hbf : Below w.heap.size w w4 := Below.grown hb1 hg hs1 (fun k hk => by cases hk; exact Nat.le_refl _)
    clear hg
    go_wp2
    refine bodyPost_ret (results_tmp4 rfl _ _ _) rfl ?_
    exact ⟨_, _, _, _, rfl, ⟨i1, i2, i3, i4⟩, hbf⟩
  · go_wp2_with fail
    refine (l1Below_any _ _ 4 _ (cur_alloc hc4 _) (by decide) (by decide)).mono ?_
    rintro e w5 ⟨y, rfl, k0, k1, hc5, hg5⟩
    obtain ⟨v, hv, iv⟩ := dl3_at y k0 k1
    have hcell := lit_at (arr := dl3) hg5 hcl.2 y.toNat _ hv
    have hbf : Below w.heap.size w w5 := Below.grown hb1 (grown_trans (grown_trans hg (World.grownBy_alloc _ _ _)) hg5) hs1 (fun k hk => by cases hk; exact Nat.le_refl _)
    clear hg hg5 hc4 hc5 hv
    go_wp2
    refine bodyPost_ret (results_tmp4 rfl _ _ _) rfl ?_
    exact ⟨_, _, _, _, rfl, ⟨i1, i2, i3, iv⟩, hbf⟩
theorem l1Max_any (x y : Int) (w : World) : Calls Try.prog 57 #[.int .i64 x, .int .i64 y] w fun e w' => ∃ m, e = .returned (.int .i64 m) ∧ (x ≤ m ∧ y ≤ m ∧ (m = x ∨ m = y)) ∧ w' = w := by
  by_cases h : y < x
  · go_enter Try.func57, Try.ntmps57
    go_wp2
    go_ret
    exact ⟨_, rfl, by omega, rfl⟩
  · go_enter Try.func57, Try.ntmps57
    go_wp2
    go_ret
    exact ⟨_, rfl, by omega, rfl⟩
set_option maxRecDepth 100000 in
set_option maxHeartbeats 1000000 in
theorem DrawQuotient_any (a : Option Addr) (len cap : Nat) (w : World) (hl : len ≤ 4096) (hb : Bytes w.heap.size w a len) :
    Calls Try.prog 22 #[.slice a len cap] w fun e w' => ∃ x d n, e = .returned (.tuple #[.int .i64 x, .int .i64 d, .int .i64 n]) ∧ (I64 x ∧ I64 d ∧ I64 n) ∧ Below w.heap.size w w' := by
  have hB : Hid (Bytes w.heap.size w a len) := hb
  clear hb
  go_enter Try.func22, Try.ntmps22
  go_wp2_with fail
  refine (l1New_any a len cap _ hl hB.out).mono ?_
  rintro e w1 ⟨rfl, hc1, hb1⟩
  have hs1 := hb1.size
  go_wp2_with fail
  refine (l7Draw_any _ _ _ hc1).mono ?_
  rintro e w2 ⟨x0, d, a, rfl, ⟨i1, i2, i3⟩, hdd, hc2, hg2⟩
  go_wp2_with fail
  refine (l1Max_any 1 d _).mono ?_
  rintro e w' ⟨m, rfl, hm, hw⟩
  obtain rfl := hw.symm
  go_wp2_with fail
  refine (l1Below_any _ _ m _ hc2 (by omega) (by omega)).mono ?_
  rintro e w3 ⟨x, rfl, n0, n1, hc3, hg3⟩
  go_wp2_with fail
  refine (l1Below_any _ _ 18 _ hc3 (by decide) (by decide)).mono ?_
  rintro e w4 ⟨n, rfl, p0, p1, hc4, hg4⟩
  go_wp2_with fail
  refine (l1Once_any _ _ 12 _ hc4 (by decide) (by decide)).mono ?_
  rintro e w5 ⟨o, rfl, hc5, hg5⟩
  have hg := grown_trans (grown_trans (grown_trans hg2 hg3) hg4) hg5
  have j1 : I64 x := ⟨by omega, by omega⟩
  have j3 : I64 (1 + n) := ⟨by omega, by omega⟩
  clear hg2 hg3 hg4 hg5 hc1 hc2 hc3 hc4
  have hcl := hc5.lt
  cases o
  · have hbf : Below w.heap.size w w5 := Below.grown hb1 hg hs1 (fun k hk => by cases hk; exact Nat.le_refl _)
    clear hg
    go_wp2
    go_ret3
    exact ⟨_, _, _, rfl, ⟨j1, i2, j3⟩, hbf⟩
  · go_wp2_with fail
    refine (l1Below_any _ _ 3 _ (cur_alloc hc5 _) (by decide) (by decide)).mono ?_
    rintro e w6 ⟨y, rfl, k0, k1, hc6, hg6⟩
    obtain ⟨v, hv, iv⟩ := dl4_at d hdd y k0 k1
    have hcell := lit_at (arr := dl4 d) hg6 hcl.2 y.toNat _ hv
    have hg7 := grown_trans (grown_trans hg (World.grownBy_alloc _ _ _)) hg6
    have hcl6 := hc6.lt
    clear hg hg6 hc5 hv
    go_wp2_with fail
    refine (l1Below_any _ _ 4 _ (cur_alloc hc6 _) (by decide) (by decide)).mono ?_
    rintro e w7 ⟨z, rfl, z0, z1, hc7, hg8⟩
    obtain ⟨u, hu, iu⟩ := dl5_at z z0 z1
    have hcell2 := lit_at (arr := dl5) hg8 hcl6.2 z.toNat _ hu
    have hbf : Below w.heap.size w w7 := Below.grown hb1 (grown_trans (grown_trans hg7 (World.grownBy_alloc _ _ _)) hg8) hs1 (fun k hk => by cases hk; exact Nat.le_refl _)
    clear hg7 hg8 hc6 hc7 hu
    go_wp2
    go_ret3
    exact ⟨_, _, _, rfl, ⟨iv, i2, iu⟩, hbf⟩
end Go.Proofs.Ytlbkhiphnllfpac
