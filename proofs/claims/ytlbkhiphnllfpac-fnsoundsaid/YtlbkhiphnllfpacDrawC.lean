/-
  What the draws of a table's cells give, walked.
-/
import Derived.Test.YtlbkhiphnllfpacDrawG
import Derived.Test.YtlbkhiphnllfpacDraw2
import Derived.Test.YtlbkhiphnllfpacCel5
namespace Go.Proofs.Ytlbkhiphnllfpac
open Go.RowKit
set_option linter.unusedVariables false
set_option maxRecDepth 100000
def cl0 : Array Value := #[.int .i64 4, .int .i64 10, .int .i64 (-1)]
def cl1 : Array Value := #[.int .i64 0, .int .i64 3, .int .i64 4611686018427387904]
def cl2 : Array Value := #[.int .i64 0, .int .i64 3, .int .i64 (-9223372036854775808)]
def cl3 : Array Value := #[.int .i64 0, .int .i64 100, .int .i64 9, .int .i64 10, .int .i64 4611686018427387904, .int .i64 (-1)]
theorem cl0_at (x : Int) (h0 : 0 ≤ x) (h1 : x < 3) : ∃ v : Int, cl0[x.toNat]? = some (.int .i64 v) ∧ I64 v := by
  obtain ⟨n, rfl⟩ := Int.eq_ofNat_of_zero_le h0
  match n, h1 with
  | 0, _ => exact ⟨_, rfl, by decide, by decide⟩
  | 1, _ => exact ⟨_, rfl, by decide, by decide⟩
  | 2, _ => exact ⟨_, rfl, by decide, by decide⟩
theorem cl1_at (x : Int) (h0 : 0 ≤ x) (h1 : x < 3) : ∃ v : Int, cl1[x.toNat]? = some (.int .i64 v) ∧ I64 v := by
  obtain ⟨n, rfl⟩ := Int.eq_ofNat_of_zero_le h0
  match n, h1 with
  | 0, _ => exact ⟨_, rfl, by decide, by decide⟩
  | 1, _ => exact ⟨_, rfl, by decide, by decide⟩
  | 2, _ => exact ⟨_, rfl, by decide, by decide⟩
theorem cl2_at (x : Int) (h0 : 0 ≤ x) (h1 : x < 3) : ∃ v : Int, cl2[x.toNat]? = some (.int .i64 v) ∧ I64 v := by
  obtain ⟨n, rfl⟩ := Int.eq_ofNat_of_zero_le h0
  match n, h1 with
  | 0, _ => exact ⟨_, rfl, by decide, by decide⟩
  | 1, _ => exact ⟨_, rfl, by decide, by decide⟩
  | 2, _ => exact ⟨_, rfl, by decide, by decide⟩
theorem cl3_at (x : Int) (h0 : 0 ≤ x) (h1 : x < 6) : ∃ v : Int, cl3[x.toNat]? = some (.int .i64 v) ∧ I64 v := by
  obtain ⟨n, rfl⟩ := Int.eq_ofNat_of_zero_le h0
  match n, h1 with
  | 0, _ => exact ⟨_, rfl, by decide, by decide⟩
  | 1, _ => exact ⟨_, rfl, by decide, by decide⟩
  | 2, _ => exact ⟨_, rfl, by decide, by decide⟩
  | 3, _ => exact ⟨_, rfl, by decide, by decide⟩
  | 4, _ => exact ⟨_, rfl, by decide, by decide⟩
  | 5, _ => exact ⟨_, rfl, by decide, by decide⟩
set_option maxRecDepth 100000 in
set_option maxHeartbeats 2000000 in
theorem l6Draw_any (B cb : Nat) (w : World) (hc : Cur B w cb) :
    Calls Try.prog 29 #[.pointer (some ⟨cb, 0, none⟩)] w fun e w' => ∃ a u t D, e = .returned (.tuple #[.int .i64 a, .int .i64 u, .int .i64 t, .int .i64 D]) ∧ (I64 a ∧ I64 u ∧ I64 t ∧ I64 D) ∧ Cur B w' cb ∧ w.grownBy w' (some cb) := by
  go_enter Try.func29, Try.ntmps29
  go_wp2_with fail
  refine (l1Below_any _ _ 5 _ hc (by decide) (by decide)).mono ?_
  rintro e w1 ⟨x1, rfl, a0, a1, hc1, hg1⟩
  go_wp2_with fail
  refine (l1Below_any _ _ 2 _ hc1 (by decide) (by decide)).mono ?_
  rintro e w2 ⟨x2, rfl, b0, b1, hc2, hg2⟩
  go_wp2_with fail
  refine (l1Below_any _ _ 2 _ hc2 (by decide) (by decide)).mono ?_
  rintro e w3 ⟨x3, rfl, d0, d1, hc3, hg3⟩
  have hg := grown_trans (grown_trans hg1 hg2) hg3
  clear hc hc1 hc2 hg1 hg2 hg3
  obtain ⟨u, hu⟩ : ∃ u, u = 1 + x2 := ⟨_, rfl⟩
  have hub : 1 ≤ u ∧ u ≤ 2 := by omega
  have hP1 : Hid (∀ W, Calls Try.prog 44 #[.int .i64 (u - 1)] W fun e w' => e = .returned (.int .i64 (10 ^ (u - 1).toNat)) ∧ w' = W) := fun W => l6Power_01 u hub W
  have hP2 : Hid (∀ W, Calls Try.prog 44 #[.int .i64 u] W fun e w' => e = .returned (.int .i64 (10 ^ u.toNat)) ∧ w' = W) := fun W => l6Power_12 u hub W
  have hU := pow12 u hub
  have hV : 1 ≤ (10 : Int) ^ (u - 1).toNat ∧ (10 : Int) ^ (u - 1).toNat < (10 : Int) ^ u.toNat := by
    rcases (show u = 1 ∨ u = 2 by omega) with rfl | rfl <;> simp
  generalize (10 : Int) ^ (u - 1).toNat = V at *
  generalize (10 : Int) ^ u.toNat = U at *
  rw [← hu]
  clear hu
  go_wp2_with fail
  refine (hP1.out _).mono ?_
  rintro e w' ⟨rfl, hw⟩
  obtain rfl := hw.symm
  go_wp2_with fail
  refine (hP2.out _).mono ?_
  rintro e w' ⟨rfl, hw⟩
  obtain rfl := hw.symm
  go_wp2_with fail
  refine (hP1.out _).mono ?_
  rintro e w' ⟨rfl, hw⟩
  obtain rfl := hw.symm
  go_wp2_with fail
  refine (l1Below_any _ _ (U - V) _ hc3 (by omega) (by omega)).mono ?_
  rintro e w4 ⟨x4, rfl, e0, e1, hc4, hg4⟩
  go_wp2_with fail
  refine (l1Once_any _ _ 16 _ hc4 (by decide) (by decide)).mono ?_
  rintro e w5 ⟨b, rfl, hc5, hg5⟩
  have hg' := grown_trans (grown_trans hg hg4) hg5
  clear hg hc3 hc4 hg4 hg5 hP1 hP2
  have i1 : I64 (5 + x1) := ⟨by omega, by omega⟩
  have i2 : I64 u := ⟨by omega, by omega⟩
  have i3 : I64 (1 + x3) := ⟨by omega, by omega⟩
  have i4 : I64 (V + x4) := ⟨by omega, by omega⟩
  have hcl := hc5.lt
  cases b
  · go_wp2
    refine bodyPost_ret (results_tmp4 rfl _ _ _) rfl ?_
    exact ⟨_, _, _, _, rfl, ⟨i1, i2, i3, i4⟩, hc5, hg'⟩
  · go_wp2_with fail
    refine (l1Below_any _ _ 4 _ hc5 (by decide) (by decide)).mono ?_
    rintro e w6 ⟨k, rfl, k0, k1, hc6, hg6⟩
    have hcl6 := hc6.lt
    have hgg := grown_trans hg' hg6
    clear hg' hg6 hc5
    rcases (show k = 0 ∨ k = 1 ∨ k = 2 ∨ k = 3 by omega) with rfl | rfl | rfl | rfl
    · go_wp2_with fail
      refine (l1Below_any _ _ 3 _ (cur_alloc hc6 _) (by decide) (by decide)).mono ?_
      rintro e w7 ⟨y, rfl, y0, y1, hc7, hg7⟩
      obtain ⟨v, hv, iv⟩ := cl0_at y y0 y1
      have hcell := lit_at (arr := cl0) hg7 hcl6.2 y.toNat _ hv
      have hgf := grown_trans (grown_trans hgg (World.grownBy_alloc _ _ _)) hg7
      clear hgg hg7 hc6 hv
      go_wp2
      refine bodyPost_ret (results_tmp4 rfl _ _ _) rfl ?_
      exact ⟨_, _, _, _, rfl, ⟨iv, i2, i3, i4⟩, hc7, hgf⟩
    · go_wp2_with fail
      refine (l1Below_any _ _ 3 _ (cur_alloc hc6 _) (by decide) (by decide)).mono ?_
      rintro e w7 ⟨y, rfl, y0, y1, hc7, hg7⟩
      obtain ⟨v, hv, iv⟩ := cl1_at y y0 y1
      have hcell := lit_at (arr := cl1) hg7 hcl6.2 y.toNat _ hv
      have hgf := grown_trans (grown_trans hgg (World.grownBy_alloc _ _ _)) hg7
      clear hgg hg7 hc6 hv
      go_wp2
      refine bodyPost_ret (results_tmp4 rfl _ _ _) rfl ?_
      exact ⟨_, _, _, _, rfl, ⟨i1, iv, i3, i4⟩, hc7, hgf⟩
    · go_wp2_with fail
      refine (l1Below_any _ _ 3 _ (cur_alloc hc6 _) (by decide) (by decide)).mono ?_
      rintro e w7 ⟨y, rfl, y0, y1, hc7, hg7⟩
      obtain ⟨v, hv, iv⟩ := cl2_at y y0 y1
      have hcell := lit_at (arr := cl2) hg7 hcl6.2 y.toNat _ hv
      have hgf := grown_trans (grown_trans hgg (World.grownBy_alloc _ _ _)) hg7
      clear hgg hg7 hc6 hv
      go_wp2
      refine bodyPost_ret (results_tmp4 rfl _ _ _) rfl ?_
      exact ⟨_, _, _, _, rfl, ⟨i1, i2, iv, i4⟩, hc7, hgf⟩
    · go_wp2_with fail
      refine (l1Below_any _ _ 6 _ (cur_alloc hc6 _) (by decide) (by decide)).mono ?_
      rintro e w7 ⟨y, rfl, y0, y1, hc7, hg7⟩
      obtain ⟨v, hv, iv⟩ := cl3_at y y0 y1
      have hcell := lit_at (arr := cl3) hg7 hcl6.2 y.toNat _ hv
      have hgf := grown_trans (grown_trans hgg (World.grownBy_alloc _ _ _)) hg7
      clear hgg hg7 hc6 hv
      go_wp2
      refine bodyPost_ret (results_tmp4 rfl _ _ _) rfl ?_
      exact ⟨_, _, _, _, rfl, ⟨i1, i2, i3, iv⟩, hc7, hgf⟩
theorem bnd_any_bd (a u t d : Int) : 0 ≤ bnd a u t d ∧ bnd a u t d ≤ 900000 := by
  cases hp : prm a u t with
  | false => unfold bnd; rw [hp]; simp
  | true =>
    cases hr : rgd u d with
    | false => unfold bnd; rw [hr]; simp
    | true => exact bnd_bd a u t d hp hr
def cl8 (b : Int) : Array Value := #[.int .i64 (-b - 2), .int .i64 (-b - 3), .int .i64 b, .int .i64 (b + 1), .int .i64 (-1), .int .i64 4611686018427387904, .int .i64 (-9223372036854775808), .int .i64 1000001]
theorem cl8_at (b x : Int) (hb : 0 ≤ b ∧ b ≤ 900000) (h0 : 0 ≤ x) (h1 : x < 8) : ∃ v : Int, (cl8 b)[x.toNat]? = some (.int .i64 v) ∧ I64 v := by
  obtain ⟨n, rfl⟩ := Int.eq_ofNat_of_zero_le h0
  match n, h1 with
  | 0, _ => exact ⟨_, rfl, by omega, by omega⟩
  | 1, _ => exact ⟨_, rfl, by omega, by omega⟩
  | 2, _ => exact ⟨_, rfl, by omega, by omega⟩
  | 3, _ => exact ⟨_, rfl, by omega, by omega⟩
  | 4, _ => exact ⟨_, rfl, by decide, by decide⟩
  | 5, _ => exact ⟨_, rfl, by decide, by decide⟩
  | 6, _ => exact ⟨_, rfl, by decide, by decide⟩
  | 7, _ => exact ⟨_, rfl, by decide, by decide⟩
set_option maxRecDepth 100000 in
set_option maxHeartbeats 2000000 in
theorem DrawCell_any (a : Option Addr) (len cap : Nat) (w : World) (hl : len ≤ 4096) (hb : Bytes w.heap.size w a len) :
    Calls Try.prog 8 #[.slice a len cap] w fun e w' => ∃ a u t D Y, e = .returned (.tuple #[.int .i64 a, .int .i64 u, .int .i64 t, .int .i64 D, .int .i64 Y]) ∧ (I64 a ∧ I64 u ∧ I64 t ∧ I64 D ∧ I64 Y) ∧ Below w.heap.size w w' := by
  have hB : Hid (Bytes w.heap.size w a len) := hb
  clear hb
  go_enter Try.func8, Try.ntmps8
  go_wp2_with fail
  refine (l1New_any a len cap _ hl hB.out).mono ?_
  rintro e w1 ⟨rfl, hc1, hb1⟩
  have hs1 := hb1.size
  go_wp2_with fail
  refine (l6Draw_any _ _ _ hc1).mono ?_
  rintro e w2 ⟨x, u, t, D, rfl, ⟨i1, i2, i3, i4⟩, hc2, hg2⟩
  go_wp2_with fail
  refine (sBound_any x u t D _).mono ?_
  rintro e w' ⟨rfl, hw⟩
  obtain rfl := hw.symm
  have hbb := bnd_any_bd x u t D
  generalize bnd x u t D = b at *
  go_wp2_with fail
  refine (l1From_any _ _ (-b - 4) (b + 3) _ hc2 (by omega) (by omega) (by omega)).mono ?_
  rintro e w3 ⟨Y, rfl, y0, y1, hc3, hg3⟩
  go_wp2_with fail
  refine (l1Once_any _ _ 16 _ hc3 (by decide) (by decide)).mono ?_
  rintro e w4 ⟨o, rfl, hc4, hg4⟩
  have hg := grown_trans (grown_trans hg2 hg3) hg4
  have i5 : I64 Y := ⟨by omega, by omega⟩
  clear hg2 hg3 hg4 hc1 hc2 hc3
  have hcl := hc4.lt
  cases o
  · have hbf : Below w.heap.size w w4 := Below.grown hb1 hg hs1 (fun k hk => by cases hk; exact Nat.le_refl _)
    clear hg
    go_wp2
    refine bodyPost_ret (results_tmp5 rfl _ _ _) rfl ?_
    exact ⟨_, _, _, _, _, rfl, ⟨i1, i2, i3, i4, i5⟩, hbf⟩
  · go_wp2_with fail
    refine (l1Below_any _ _ 8 _ (cur_alloc hc4 _) (by decide) (by decide)).mono ?_
    rintro e w5 ⟨y, rfl, k0, k1, hc5, hg5⟩
    obtain ⟨v, hv, iv⟩ := cl8_at b y hbb k0 k1
    have hcell := lit_at (arr := cl8 b) hg5 hcl.2 y.toNat _ hv
    have hbf : Below w.heap.size w w5 := Below.grown hb1 (grown_trans (grown_trans hg (World.grownBy_alloc _ _ _)) hg5) hs1 (fun k hk => by cases hk; exact Nat.le_refl _)
    clear hg hg5 hc4 hc5 hv
    go_wp2
    refine bodyPost_ret (results_tmp5 rfl _ _ _) rfl ?_
    exact ⟨_, _, _, _, _, rfl, ⟨i1, i2, i3, i4, iv⟩, hbf⟩
theorem DrawSound_any (a : Option Addr) (len cap : Nat) (w : World) (hl : len ≤ 4096) (hb : Bytes w.heap.size w a len) :
    Calls Try.prog 12 #[.slice a len cap] w fun e w' => ∃ a u t, e = .returned (.tuple #[.int .i64 a, .int .i64 u, .int .i64 t]) ∧ (I64 a ∧ I64 u ∧ I64 t) ∧ Below w.heap.size w w' := by
  have hB : Hid (Bytes w.heap.size w a len) := hb
  clear hb
  go_enter Try.func12, Try.ntmps12
  go_wp2_with fail
  refine (l1New_any a len cap _ hl hB.out).mono ?_
  rintro e w1 ⟨rfl, hc1, hb1⟩
  have hs1 := hb1.size
  go_wp2_with fail
  refine (l6Draw_any _ _ _ hc1).mono ?_
  rintro e w2 ⟨x, u, t, D, rfl, ⟨i1, i2, i3, i4⟩, hc2, hg2⟩
  have hbf2 : Below w.heap.size w w2 := Below.grown hb1 hg2 hs1 (fun k hk => by cases hk; exact Nat.le_refl _)
  have j1 : I64 1 := ⟨by decide, by decide⟩
  by_cases hu : u = 2
  · by_cases ht : t = 2
    · go_wp2_with fail
      refine (l1Once_any _ _ 20 _ hc2 (by decide) (by decide)).mono ?_
      rintro e w3 ⟨o, rfl, hc3, hg3⟩
      have hbf : Below w.heap.size w w3 := Below.grown hb1 (grown_trans hg2 hg3) hs1 (fun k hk => by cases hk; exact Nat.le_refl _)
      clear hg2 hg3 hc1 hc2 hc3
      cases o
      · go_wp2
        go_ret3
        exact ⟨_, _, _, rfl, ⟨i1, by first | exact i2 | exact ⟨by decide, by decide⟩, by first | exact j1 | exact ⟨by decide, by decide⟩⟩, hbf⟩
      · go_wp2
        go_ret3
        exact ⟨_, _, _, rfl, ⟨i1, by first | exact i2 | exact ⟨by decide, by decide⟩, by first | exact i3 | exact ⟨by decide, by decide⟩⟩, hbf⟩
    · have hne : (t == 2) = false := by simpa using ht
      clear hc1 hc2 hg2
      go_wp2
      go_ret3
      exact ⟨_, _, _, rfl, ⟨i1, by first | exact i2 | exact ⟨by decide, by decide⟩, i3⟩, hbf2⟩
  · have hne : (u == 2) = false := by simpa using hu
    clear hc1 hc2 hg2
    go_wp2
    go_ret3
    exact ⟨_, _, _, rfl, ⟨i1, i2, i3⟩, hbf2⟩
end Go.Proofs.Ytlbkhiphnllfpac
