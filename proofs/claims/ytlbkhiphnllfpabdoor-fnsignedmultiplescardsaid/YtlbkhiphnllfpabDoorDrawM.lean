/-
  What the draws of a word and how many times it is taken give, walked.
-/
import Derived.Test.YtlbkhiphnllfpabDoorDraw4
namespace Go.Proofs.YtlbkhiphnllfpabDoor
open Go.RowKit
set_option linter.unusedVariables false
set_option maxRecDepth 100000
def mul3 : Array Value := #[.int .i64 (-1), .int .i64 11, .int .i64 4611686018427387904]
theorem mul3_at (x : Int) (h0 : 0 ≤ x) (h1 : x < 3) : ∃ v : Int, mul3[x.toNat]? = some (.int .i64 v) ∧ -9223372036854775808 ≤ v ∧ v ≤ 9223372036854775807 := by
  obtain ⟨n, rfl⟩ := Int.eq_ofNat_of_zero_le h0
  match n, h1 with
  | 0, _ => exact ⟨_, rfl, by decide, by decide⟩
  | 1, _ => exact ⟨_, rfl, by decide, by decide⟩
  | 2, _ => exact ⟨_, rfl, by decide, by decide⟩
def sgn3 : Array Value := #[.int .i64 (-6), .int .i64 6, .int .i64 (-9223372036854775808)]
theorem sgn3_at (x : Int) (h0 : 0 ≤ x) (h1 : x < 3) : ∃ v : Int, sgn3[x.toNat]? = some (.int .i64 v) ∧ -9223372036854775808 ≤ v ∧ v ≤ 9223372036854775807 := by
  obtain ⟨n, rfl⟩ := Int.eq_ofNat_of_zero_le h0
  match n, h1 with
  | 0, _ => exact ⟨_, rfl, by decide, by decide⟩
  | 1, _ => exact ⟨_, rfl, by decide, by decide⟩
  | 2, _ => exact ⟨_, rfl, by decide, by decide⟩
theorem DrawMultiple_any (a : Option Addr) (len cap : Nat) (w : World) (hl : len ≤ 4096) (hb : Bytes w.heap.size w a len) :
    Calls Tryd.prog 16 #[.slice a len cap] w fun e w' => ∃ x k, e = .returned (.tuple #[.int .u64 x, .int .i64 k]) ∧ (0 ≤ x ∧ x ≤ 18446744073709551615) ∧ (-9223372036854775808 ≤ k ∧ k ≤ 9223372036854775807) ∧ Below w.heap.size w w' := by
  have hB : Hid (Bytes w.heap.size w a len) := hb
  clear hb
  go_enter Tryd.func16, Tryd.ntmps16
  go_wp2_with fail
  refine (l1New_any a len cap _ hl hB.out).mono ?_
  rintro e w1 ⟨rfl, hc1, hb1⟩
  have hs1 := hb1.size
  go_wp2_with fail
  refine (l1Below_any _ _ 11 _ hc1 (by decide) (by decide)).mono ?_
  rintro e w2 ⟨k, rfl, k0, k1, hc2, hg2⟩
  go_wp2_with fail
  refine (l1Once_any _ _ 14 _ hc2 (by decide) (by decide)).mono ?_
  rintro e w3 ⟨b, rfl, hc3, hg3⟩
  have hg := grown_trans hg2 hg3
  clear hg2 hg3 hc1 hc2
  have hcl := hc3.lt
  cases b
  · go_wp2_with fail
    refine (l1DrawWord_any _ _ _ hc3).mono ?_
    rintro e w4 ⟨x, rfl, x0, x1, hc4, hg4⟩
    have hbf : Below w.heap.size w w4 := Below.grown hb1 (grown_trans hg hg4) hs1 (fun k hk => by cases hk; exact Nat.le_refl _)
    clear hg hg4 hc3 hc4
    go_wp2
    go_ret2
    exact ⟨_, _, rfl, ⟨x0, x1⟩, ⟨by omega, by omega⟩, hbf⟩
  · go_wp2_with fail
    refine (l1Below_any _ _ 3 _ (cur_alloc hc3 _) (by decide) (by decide)).mono ?_
    rintro e w4 ⟨y, rfl, y0, y1, hc4, hg4⟩
    obtain ⟨v, hv, v0, v1⟩ := mul3_at y y0 y1
    have hcell := lit_at (arr := mul3) hg4 hcl.2 y.toNat _ hv
    have hg' := grown_trans (grown_trans hg (World.grownBy_alloc _ _ _)) hg4
    clear hg hg4 hc3 hv
    go_wp2_with fail
    refine (l1DrawWord_any _ _ _ hc4).mono ?_
    rintro e w5 ⟨x, rfl, x0, x1, hc5, hg5⟩
    have hbf : Below w.heap.size w w5 := Below.grown hb1 (grown_trans hg' hg5) hs1 (fun k hk => by cases hk; exact Nat.le_refl _)
    clear hg' hg5 hc4 hc5 hcell
    go_wp2
    go_ret2
    exact ⟨_, _, rfl, ⟨x0, x1⟩, ⟨v0, v1⟩, hbf⟩
theorem DrawSignedMultiple_any (a : Option Addr) (len cap : Nat) (w : World) (hl : len ≤ 4096) (hb : Bytes w.heap.size w a len) :
    Calls Tryd.prog 25 #[.slice a len cap] w fun e w' => ∃ x k, e = .returned (.tuple #[.int .u64 x, .int .i64 k]) ∧ (0 ≤ x ∧ x ≤ 18446744073709551615) ∧ (-9223372036854775808 ≤ k ∧ k ≤ 9223372036854775807) ∧ Below w.heap.size w w' := by
  have hB : Hid (Bytes w.heap.size w a len) := hb
  clear hb
  go_enter Tryd.func25, Tryd.ntmps25
  go_wp2_with fail
  refine (l1New_any a len cap _ hl hB.out).mono ?_
  rintro e w1 ⟨rfl, hc1, hb1⟩
  have hs1 := hb1.size
  go_wp2_with fail
  refine (l1From_any _ _ (-5) 5 _ hc1 (by decide) (by decide) (by decide)).mono ?_
  rintro e w2 ⟨k, rfl, k0, k1, hc2, hg2⟩
  go_wp2_with fail
  refine (l1Once_any _ _ 14 _ hc2 (by decide) (by decide)).mono ?_
  rintro e w3 ⟨b, rfl, hc3, hg3⟩
  have hg := grown_trans hg2 hg3
  clear hg2 hg3 hc1 hc2
  have hcl := hc3.lt
  cases b
  · go_wp2_with fail
    refine (l1DrawWord_any _ _ _ hc3).mono ?_
    rintro e w4 ⟨x, rfl, x0, x1, hc4, hg4⟩
    have hbf : Below w.heap.size w w4 := Below.grown hb1 (grown_trans hg hg4) hs1 (fun k hk => by cases hk; exact Nat.le_refl _)
    clear hg hg4 hc3 hc4
    go_wp2
    go_ret2
    exact ⟨_, _, rfl, ⟨x0, x1⟩, ⟨by omega, by omega⟩, hbf⟩
  · go_wp2_with fail
    refine (l1Below_any _ _ 3 _ (cur_alloc hc3 _) (by decide) (by decide)).mono ?_
    rintro e w4 ⟨y, rfl, y0, y1, hc4, hg4⟩
    obtain ⟨v, hv, v0, v1⟩ := sgn3_at y y0 y1
    have hcell := lit_at (arr := sgn3) hg4 hcl.2 y.toNat _ hv
    have hg' := grown_trans (grown_trans hg (World.grownBy_alloc _ _ _)) hg4
    clear hg hg4 hc3 hv
    go_wp2_with fail
    refine (l1DrawWord_any _ _ _ hc4).mono ?_
    rintro e w5 ⟨x, rfl, x0, x1, hc5, hg5⟩
    have hbf : Below w.heap.size w w5 := Below.grown hb1 (grown_trans hg' hg5) hs1 (fun k hk => by cases hk; exact Nat.le_refl _)
    clear hg' hg5 hc4 hc5 hcell
    go_wp2
    go_ret2
    exact ⟨_, _, rfl, ⟨x0, x1⟩, ⟨v0, v1⟩, hbf⟩
end Go.Proofs.YtlbkhiphnllfpabDoor
