/-
  The draw of RoundDigits' arguments, walked.
-/
import Derived.Test.YtjgnhlldehgieaeDoorDrawNt
import Derived.Test.YtjgnhlldehgieaeDoorDrawG
import Derived.Deep.DeepCutAuto
namespace Go.Proofs.YtjgnhlldehgieaeDoor
open Go.RowKit
set_option linter.unusedVariables false
set_option maxRecDepth 100000
def mod3 : Array Value := #[.int .i64 0, .int .i64 6, .int .i64 (-1)]
theorem mod3_at (x : Int) (h0 : 0 ≤ x) (h1 : x < 3) : ∃ v : Int, mod3[x.toNat]? = some (.int .i64 v) := by
  obtain ⟨n, rfl⟩ := Int.eq_ofNat_of_zero_le h0
  match n, h1 with
  | 0, _ => exact ⟨_, rfl⟩
  | 1, _ => exact ⟨_, rfl⟩
  | 2, _ => exact ⟨_, rfl⟩
def drp4 : Array Value := #[.int .i64 (-1), .int .i64 200, .int .i64 201, .int .i64 0]
theorem drp4_at (x : Int) (h0 : 0 ≤ x) (h1 : x < 4) : ∃ v : Int, drp4[x.toNat]? = some (.int .i64 v) := by
  obtain ⟨n, rfl⟩ := Int.eq_ofNat_of_zero_le h0
  match n, h1 with
  | 0, _ => exact ⟨_, rfl⟩
  | 1, _ => exact ⟨_, rfl⟩
  | 2, _ => exact ⟨_, rfl⟩
  | 3, _ => exact ⟨_, rfl⟩
set_option maxRecDepth 100000 in
theorem l12DrawMode_any (B cb : Nat) (w : World) (hc : Cur B w cb) :
    Calls Tryd.prog 10 #[.pointer (some ⟨cb, 0, none⟩)] w fun e w' => ∃ m : Int, e = .returned (.int .i64 m) ∧ Cur B w' cb ∧ w.grownBy w' (some cb) := by
  have hcl := hc.lt
  go_enter Tryd.func10, Tryd.ntmps10
  go_wp2_with fail
  refine (l1Once_any B cb 30 _ hc (by decide) (by decide)).mono ?_
  rintro e w1 ⟨b1, rfl, hc1, hg1⟩
  have hl1 := hc1.lt
  have HG1 : Hid (w.grownBy w1 (some cb)) := hg1
  have HC1 : Hid (Cur B w1 cb) := hc1
  clear hc hc1 hg1
  cases b1
  · go_wp2_with fail
    refine (l1Below_any B cb 5 _ HC1.out (by decide) (by decide)).mono ?_
    rintro e w2 ⟨y, rfl, y0, y1, hc2, hg2⟩
    have HG2 : Hid (w.grownBy w2 (some cb)) := grown_trans HG1.out hg2
    have HC2 : Hid (Cur B w2 cb) := hc2
    have hw : IntKind.i64.wrap (1 + y) = 1 + y := by rw [IntKind.wrap_i64]; omega
    clear hc2 hg2 HG1 HC1
    go_wp2
    go_ret
    exact ⟨_, rfl, HC2.out, HG2.out⟩
  · go_wp2_with fail
    refine (l1Below_any B cb 3 _ (cur_alloc HC1.out _) (by decide) (by decide)).mono ?_
    rintro e w2 ⟨y, rfl, y0, y1, hc2, hg2⟩
    obtain ⟨v, hv⟩ := mod3_at y y0 y1
    have hcell := lit_at (arr := mod3) hg2 hl1.2 y.toNat _ hv
    have HG2 : Hid (w.grownBy w2 (some cb)) := grown_trans (grown_trans HG1.out (World.grownBy_alloc _ _ _)) hg2
    have HC2 : Hid (Cur B w2 cb) := hc2
    clear hc2 hg2 HG1 HC1 hv
    go_wp2
    go_ret
    exact ⟨_, rfl, HC2.out, HG2.out⟩
set_option maxRecDepth 100000 in
set_option maxHeartbeats 1000000 in
theorem DrawRoundDigits_any (a : Option Addr) (len cap : Nat) (w : World) (hl : len ≤ 4096) (hb : Bytes w.heap.size w a len) :
    Calls Tryd.prog 5 #[.slice a len cap] w fun e w' => ∃ (m : Int) (neg : Bool) (s : ByteArray) (n : Int) (rest : Bool), e = .returned (.tuple #[.int .i64 m, .bool neg, .string s, .int .i64 n, .bool rest]) ∧ s.size ≤ 300 ∧ Below w.heap.size w w' := by
  have hB : Hid (Bytes w.heap.size w a len) := hb
  clear hb
  go_enter Tryd.func5, Tryd.ntmps5
  go_wp2_with fail
  refine (l1New_any a len cap _ hl hB.out).mono ?_
  rintro e w0 ⟨rfl, hc0, hb0⟩
  have hs0 := hb0.size
  have HB0 : Hid (Below w.heap.size w w0) := hb0
  clear hb0 hB
  go_wp2_with fail
  refine (l12DrawMode_any _ _ _ hc0).mono ?_
  rintro e w1 ⟨m, rfl, hc1, hg1⟩
  clear hc0
  go_wp2_with fail
  refine (l1Once_any _ _ 2 _ hc1 (by decide) (by decide)).mono ?_
  rintro e w2 ⟨neg, rfl, hc2, hg2⟩
  have hg := grown_trans hg1 hg2
  clear hg1 hg2 hc1
  go_wp2_with fail
  refine (l11Draw_any _ _ _ hc2).mono ?_
  rintro e w3 ⟨s, rfl, hs, hc3, hg3⟩
  replace hg := grown_trans hg hg3
  clear hg3 hc2
  have hw3 : IntKind.i64.wrap ((s.size : Int) + 3) = (s.size : Int) + 3 := by rw [IntKind.wrap_i64]; omega
  go_wp2_with fail
  refine (l1Below_any _ _ ((s.size : Int) + 3) _ hc3 (by omega) (by omega)).mono ?_
  rintro e w4 ⟨n0, rfl, n00, n01, hc4, hg4⟩
  replace hg := grown_trans hg hg4
  clear hg4 hc3 n00 n01
  go_wp2_with fail
  refine (l1Once_any _ _ 14 _ hc4 (by decide) (by decide)).mono ?_
  rintro e w5 ⟨b5, rfl, hc5, hg5⟩
  have hl5 := hc5.lt
  have HG5 : Hid (w0.grownBy w5 (some _)) := grown_trans hg hg5
  have HC5 : Hid (Cur _ w5 _) := hc5
  clear hg hg5 hc4 hc5 hw3
  cases b5
  · go_wp2_with fail
    refine (l1Once_any _ _ 3 _ HC5.out (by decide) (by decide)).mono ?_
    rintro e w6 ⟨b6, rfl, hc6, hg6⟩
    have HB6 : Hid (Below w.heap.size w w6) := Below.grown HB0.out (grown_trans HG5.out hg6) hs0 (fun k hk => by cases hk; exact Nat.le_refl _)
    clear hc6 hg6 HG5 HC5 HB0
    go_wp2
    refine bodyPost_ret (results_tmp5 rfl _ _ _) rfl ?_
    exact ⟨m, neg, s, n0, b6, rfl, hs, HB6.out⟩
  · go_wp2_with fail
    refine (l1Below_any _ _ 4 _ (cur_alloc HC5.out _) (by decide) (by decide)).mono ?_
    rintro e w6 ⟨y, rfl, y0, y1, hc6, hg6⟩
    obtain ⟨v, hv⟩ := drp4_at y y0 y1
    have hcell := lit_at (arr := drp4) hg6 hl5.2 y.toNat _ hv
    have HG6 : Hid (w0.grownBy w6 (some _)) := grown_trans (grown_trans HG5.out (World.grownBy_alloc _ _ _)) hg6
    have HC6 : Hid (Cur _ w6 _) := hc6
    clear hc6 hg6 HG5 HC5 hv
    go_wp2_with fail
    refine (l1Once_any _ _ 3 _ HC6.out (by decide) (by decide)).mono ?_
    rintro e w7 ⟨b7, rfl, hc7, hg7⟩
    have HB7 : Hid (Below w.heap.size w w7) := Below.grown HB0.out (grown_trans HG6.out hg7) hs0 (fun k hk => by cases hk; exact Nat.le_refl _)
    clear hc7 hg7 HG6 HC6 HB0 hcell
    go_wp2
    refine bodyPost_ret (results_tmp5 rfl _ _ _) rfl ?_
    exact ⟨m, neg, s, v, b7, rfl, hs, HB7.out⟩
end Go.Proofs.YtjgnhlldehgieaeDoor
