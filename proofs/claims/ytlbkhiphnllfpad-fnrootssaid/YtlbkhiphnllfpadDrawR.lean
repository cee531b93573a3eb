/-
  The draws of roots, walked.
-/
import Derived.Deep.DeepCutAuto
import Derived.Test.YtlbkhiphnllfpadDrawG
import Derived.Test.YtlbkhiphnllfpadRoq
namespace Go.Proofs.Ytlbkhiphnllfpad
open Go.RowKit
set_option linter.unusedVariables false
def dr0 : Array Value := #[.int .i64 (-1), .int .i64 0, .int .i64 99999999, .int .i64 100000000, .int .i64 4611686018427387904]
theorem dr0_at (x : Int) (h0 : 0 ≤ x) (h1 : x < 5) : ∃ v : Int, dr0[x.toNat]? = some (.int .i64 v) ∧ I64 v := by
  obtain ⟨n, rfl⟩ := Int.eq_ofNat_of_zero_le h0
  match n, h1 with
  | 0, _ => exact ⟨_, rfl, by omega, by omega⟩
  | 1, _ => exact ⟨_, rfl, by omega, by omega⟩
  | 2, _ => exact ⟨_, rfl, by omega, by omega⟩
  | 3, _ => exact ⟨_, rfl, by omega, by omega⟩
  | 4, _ => exact ⟨_, rfl, by omega, by omega⟩
def dr1 (n0 : Int) : Array Value := #[.int .i64 (-1), .int .i64 4, .int .i64 5, .int .i64 n0]
theorem dr1_at (n0 : Int) (hh : I64 n0) (x : Int) (h0 : 0 ≤ x) (h1 : x < 4) : ∃ v : Int, (dr1 n0)[x.toNat]? = some (.int .i64 v) ∧ I64 v := by
  obtain ⟨n, rfl⟩ := Int.eq_ofNat_of_zero_le h0
  match n, h1 with
  | 0, _ => exact ⟨_, rfl, by omega, by omega⟩
  | 1, _ => exact ⟨_, rfl, by omega, by omega⟩
  | 2, _ => exact ⟨_, rfl, by omega, by omega⟩
  | 3, _ => exact ⟨_, rfl, hh⟩
theorem l1Most_any (x y : Int) (w : World) : Calls Try.prog 20 #[.int .i64 x, .int .i64 y] w fun e w' => ∃ m, e = .returned (.int .i64 m) ∧ (x ≤ m ∧ y ≤ m ∧ (m = x ∨ m = y)) ∧ w' = w := by
  by_cases h : y < x
  · go_enter Try.func20, Try.ntmps20
    go_wp2
    go_ret
    exact ⟨_, rfl, by omega, rfl⟩
  · go_enter Try.func20, Try.ntmps20
    go_wp2
    go_ret
    exact ⟨_, rfl, by omega, rfl⟩
theorem l1Least_any (x y : Int) (w : World) : Calls Try.prog 19 #[.int .i64 x, .int .i64 y] w fun e w' => ∃ m, e = .returned (.int .i64 m) ∧ (m ≤ x ∧ m ≤ y ∧ (m = x ∨ m = y)) ∧ w' = w := by
  by_cases h : x < y
  · go_enter Try.func19, Try.ntmps19
    go_wp2
    go_ret
    exact ⟨_, rfl, by omega, rfl⟩
  · go_enter Try.func19, Try.ntmps19
    go_wp2
    go_ret
    exact ⟨_, rfl, by omega, rfl⟩
set_option maxRecDepth 100000 in
set_option maxHeartbeats 2000000 in
theorem DrawRoot_any (a : Option Addr) (len cap : Nat) (w : World) (hl : len ≤ 4096) (hb : Bytes w.heap.size w a len) :
    Calls Try.prog 5 #[.slice a len cap] w fun e w' => ∃ x n, e = .returned (.tuple #[.int .i64 x, .int .i64 n]) ∧ (I64 x ∧ I64 n) ∧ Below w.heap.size w w' := by
  have hB : Hid (Bytes w.heap.size w a len) := hb
  clear hb
  go_enter Try.func5, Try.ntmps5
  go_wp2_with fail
  refine (l1New_any a len cap _ hl hB.out).mono ?_
  rintro e w0 ⟨rfl, hc0, hb0⟩
  have hs0 := hb0.size
  have HB0 : Hid (Below w.heap.size w w0) := hb0
  clear hb0 hB
  go_wp2_with fail
  refine (l1Below_any _ _ 100000000 _ hc0 (by decide) (by decide)).mono ?_
  rintro e w1 ⟨x1, rfl, a0, a1, hc1, hg1⟩
  go_wp2_with fail
  refine (l1Once_any _ _ 3 _ hc1 (by decide) (by decide)).mono ?_
  rintro e w2 ⟨b1, rfl, hc2, hg2⟩
  have HG : Hid (w0.grownBy w2 (some w.heap.size)) := grown_trans hg1 hg2
  have HC : Hid (Cur _ w2 w.heap.size) := hc2
  clear hc0 hc1 hg1 hg2 hc2
  go_upto_if 13 with fail
  go_cut [5] (fun s wx => ∃ x : Int, s = .int .i64 x ∧ I64 x ∧ Hid (Cur w.heap.size wx w.heap.size) ∧ Hid (w0.grownBy wx (some w.heap.size)))
  case first =>
    cases b1
    · go_wp2
      go_meet
      exact ⟨_, rfl, ⟨by omega, by omega⟩, HC, HG⟩
    · go_wp2_with fail
      refine (l1Below_any _ _ 10000 _ HC.out (by decide) (by decide)).mono ?_
      rintro e w3 ⟨k, rfl, c0, c1, hc3, hg3⟩
      have hkk := sq_le k 10000 c0 (by omega)
      have hk0 : 0 ≤ k * k := Int.mul_nonneg c0 c0
      go_wp2_with fail
      refine (l1From_any _ _ (-1) 1 _ hc3 (by decide) (by decide) (by decide)).mono ?_
      rintro e w4 ⟨y, rfl, y0, y1, hc4, hg4⟩
      have HG4 : Hid (w0.grownBy w4 (some w.heap.size)) := grown_trans (grown_trans HG.out hg3) hg4
      have HC4 : Hid (Cur w.heap.size w4 w.heap.size) := hc4
      clear hc3 hg3 hg4 hc4 HG HC
      generalize k * k = kk at *
      go_wp2_with fail
      refine (l1Most_any 0 (kk + y) _).mono ?_
      rintro e w' ⟨m, rfl, hm, hw⟩
      obtain rfl := hw.symm
      go_wp2_with fail
      refine (l1Least_any 99999999 m _).mono ?_
      rintro e w' ⟨m2, rfl, hm2, hw⟩
      obtain rfl := hw.symm
      go_wp2
      go_meet
      exact ⟨_, rfl, ⟨by omega, by omega⟩, HC4, HG4⟩
  case rest =>
    obtain ⟨x, rfl, ix, HC, HG⟩ := hcut
    have Hx : Hid (I64 x) := ix
    clear ix a0 a1
    go_wp2_with fail
    refine (l1Below_any _ _ 5 _ HC.out (by decide) (by decide)).mono ?_
    rintro e w4 ⟨n, rfl, e0, e1, hc4, hg4⟩
    go_wp2_with fail
    refine (l1Once_any _ _ 14 _ hc4 (by decide) (by decide)).mono ?_
    rintro e w5 ⟨o, rfl, hc5, hg5⟩
    have hg := grown_trans (grown_trans HG.out hg4) hg5
    have i4 : I64 n := ⟨by omega, by omega⟩
    have Hn : Hid (I64 n) := i4
    clear HC HG hg4 hg5 hc4
    have hcl := hc5.lt
    cases o
    · have hbf : Below w.heap.size w w5 := Below.grown HB0.out hg hs0 (fun k hk => by cases hk; exact Nat.le_refl _)
      clear hg
      go_wp2
      go_ret2
      exact ⟨_, _, rfl, ⟨Hx.out, Hn.out⟩, hbf⟩
    · go_wp2_with fail
      refine (l1Below_any _ _ 5 _ (cur_alloc hc5 _) (by decide) (by decide)).mono ?_
      rintro e w6 ⟨y, rfl, k0, k1, hc6, hg6⟩
      obtain ⟨v, hv, iv⟩ := dr0_at y k0 k1
      have Hv : Hid (I64 v) := iv
      have hcell := lit_at (arr := dr0) hg6 hcl.2 y.toNat _ hv
      have hg7 := grown_trans (grown_trans hg (World.grownBy_alloc _ _ _)) hg6
      have hcl6 := hc6.lt
      clear hg hg6 hc5 hv iv
      go_wp2_with fail
      refine (l1Below_any _ _ 4 _ (cur_alloc hc6 _) (by decide) (by decide)).mono ?_
      rintro e w7 ⟨z, rfl, z0, z1, hc7, hg8⟩
      obtain ⟨u, hu, iu⟩ := dr1_at n Hn.out z z0 z1
      have Hu : Hid (I64 u) := iu
      have hcell2 := lit_at (arr := dr1 n) hg8 hcl6.2 z.toNat _ hu
      have hbf : Below w.heap.size w w7 := Below.grown HB0.out (grown_trans (grown_trans hg7 (World.grownBy_alloc _ _ _)) hg8) hs0 (fun k hk => by cases hk; exact Nat.le_refl _)
      clear hg7 hg8 hc6 hc7 hu iu
      go_wp2
      go_ret2
      exact ⟨_, _, rfl, ⟨Hv.out, Hu.out⟩, hbf⟩
end Go.Proofs.Ytlbkhiphnllfpad
