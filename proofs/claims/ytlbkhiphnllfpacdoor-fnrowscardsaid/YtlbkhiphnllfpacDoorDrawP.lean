/-
  What the draws of two words, and of a word and a power, give, walked.
-/
import Derived.Test.YtlbkhiphnllfpacDoorDraw4
namespace Go.Proofs.YtlbkhiphnllfpacDoor
open Go.RowKit
set_option linter.unusedVariables false
theorem DrawProduct_any (a : Option Addr) (len cap : Nat) (w : World) (hl : len ≤ 4096) (hb : Bytes w.heap.size w a len) :
    Calls Tryd.prog 18 #[.slice a len cap] w fun e w' => ∃ x y, e = .returned (.tuple #[.int .u64 x, .int .u64 y]) ∧ (0 ≤ x ∧ x ≤ 18446744073709551615) ∧ (0 ≤ y ∧ y ≤ 18446744073709551615) ∧ Below w.heap.size w w' := by
  have hB : Hid (Bytes w.heap.size w a len) := hb
  clear hb
  go_enter Tryd.func18, Tryd.ntmps18
  go_wp2_with fail
  refine (l1New_any a len cap _ hl hB.out).mono ?_
  rintro e w1 ⟨rfl, hc1, hb1⟩
  have hs1 := hb1.size
  go_wp2_with fail
  refine (l1DrawWord_any _ _ _ hc1).mono ?_
  rintro e w2 ⟨x, rfl, x0, x1, hc2, hg2⟩
  go_wp2_with fail
  refine (l1DrawWord_any _ _ _ hc2).mono ?_
  rintro e w3 ⟨y, rfl, y0, y1, hc3, hg3⟩
  have hbf : Below w.heap.size w w3 := Below.grown hb1 (grown_trans hg2 hg3) hs1 (fun k hk => by cases hk; exact Nat.le_refl _)
  clear hg2 hg3 hc1 hc2 hc3
  go_wp2
  go_ret2
  exact ⟨_, _, rfl, ⟨x0, x1⟩, ⟨y0, y1⟩, hbf⟩
theorem DrawRows_any (a : Option Addr) (len cap : Nat) (w : World) (hl : len ≤ 4096) (hb : Bytes w.heap.size w a len) :
    Calls Tryd.prog 6 #[.slice a len cap] w fun e w' => ∃ x y, e = .returned (.tuple #[.int .u64 x, .int .u64 y]) ∧ (0 ≤ x ∧ x ≤ 18446744073709551615) ∧ (0 ≤ y ∧ y ≤ 18446744073709551615) ∧ Below w.heap.size w w' := by
  have hB : Hid (Bytes w.heap.size w a len) := hb
  clear hb
  go_enter Tryd.func6, Tryd.ntmps6
  go_wp2_with fail
  refine (DrawProduct_any a len cap _ hl hB.out).mono ?_
  rintro e w1 ⟨x, y, rfl, hx, hy, hb1⟩
  go_wp2
  go_ret2
  exact ⟨_, _, rfl, hx, hy, hb1⟩
def pow3 : Array Value := #[.int .i64 (-1), .int .i64 60, .int .i64 61]
theorem pow3_at (x : Int) (h0 : 0 ≤ x) (h1 : x < 3) : ∃ v : Int, pow3[x.toNat]? = some (.int .i64 v) ∧ -1 ≤ v ∧ v ≤ 61 := by
  obtain ⟨n, rfl⟩ := Int.eq_ofNat_of_zero_le h0
  match n, h1 with
  | 0, _ => exact ⟨_, rfl, by decide, by decide⟩
  | 1, _ => exact ⟨_, rfl, by decide, by decide⟩
  | 2, _ => exact ⟨_, rfl, by decide, by decide⟩
theorem DrawPowerOf_any (a : Option Addr) (len cap : Nat) (w : World) (hl : len ≤ 4096) (hb : Bytes w.heap.size w a len) :
    Calls Tryd.prog 15 #[.slice a len cap] w fun e w' => ∃ x k, e = .returned (.tuple #[.int .u64 x, .int .i64 k]) ∧ (0 ≤ x ∧ x ≤ 18446744073709551615) ∧ (-1 ≤ k ∧ k ≤ 61) ∧ Below w.heap.size w w' := by
  have hB : Hid (Bytes w.heap.size w a len) := hb
  clear hb
  go_enter Tryd.func15, Tryd.ntmps15
  go_wp2_with fail
  refine (l1New_any a len cap _ hl hB.out).mono ?_
  rintro e w1 ⟨rfl, hc1, hb1⟩
  have hs1 := hb1.size
  go_wp2_with fail
  refine (l1Below_any _ _ 61 _ hc1 (by decide) (by decide)).mono ?_
  rintro e w2 ⟨k, rfl, k0, k1, hc2, hg2⟩
  go_wp2_with fail
  refine (l1Once_any _ _ 14 _ hc2 (by decide) (by decide)).mono ?_
  rintro e w3 ⟨b, rfl, hc3, hg3⟩
  have hg := grown_trans hg2 hg3
  clear hg2 hg3 hc1 hc2
  have hcl := hc3.lt
  cases b
  · go_wp2_with fail
    refine (l1DrawWord_any _ _ _ hc3).mono ?_
    rintro e w4 ⟨x, rfl, x0, x1, hc4, hg4⟩
    have hbf : Below w.heap.size w w4 := Below.grown hb1 (grown_trans hg hg4) hs1 (fun k hk => by cases hk; exact Nat.le_refl _)
    clear hg hg4 hc3 hc4
    go_wp2
    go_ret2
    exact ⟨_, _, rfl, ⟨x0, x1⟩, ⟨by omega, by omega⟩, hbf⟩
  · go_wp2_with fail
    refine (l1Below_any _ _ 3 _ (cur_alloc hc3 _) (by decide) (by decide)).mono ?_
    rintro e w4 ⟨y, rfl, y0, y1, hc4, hg4⟩
    obtain ⟨v, hv, v0, v1⟩ := pow3_at y y0 y1
    have hcell := lit_at (arr := pow3) hg4 hcl.2 y.toNat _ hv
    have hg' := grown_trans (grown_trans hg (World.grownBy_alloc _ _ _)) hg4
    clear hg hg4 hc3 hv
    go_wp2_with fail
    refine (l1DrawWord_any _ _ _ hc4).mono ?_
    rintro e w5 ⟨x, rfl, x0, x1, hc5, hg5⟩
    have hbf : Below w.heap.size w w5 := Below.grown hb1 (grown_trans hg' hg5) hs1 (fun k hk => by cases hk; exact Nat.le_refl _)
    clear hg' hg5 hc4 hc5 hcell
    go_wp2
    go_ret2
    exact ⟨_, _, rfl, ⟨x0, x1⟩, ⟨v0, v1⟩, hbf⟩
end Go.Proofs.YtlbkhiphnllfpacDoor
