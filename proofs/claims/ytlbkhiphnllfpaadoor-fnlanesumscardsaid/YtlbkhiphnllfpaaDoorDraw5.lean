/-
  What the draw of two words and what comes in gives, walked.
-/
import Derived.Test.YtlbkhiphnllfpaaDoorDraw4
import Derived.Test.YtlbkhiphnllfpaaDoorNines
namespace Go.Proofs.YtlbkhiphnllfpaaDoor
open Go.RowKit
set_option linter.unusedVariables false

theorem grown_of_below {w w' : World} (h : Below w.heap.size w w') (r : Option Nat) : w.grownBy w' r :=
  ⟨h.os, h.tape, h.output, h.size, fun k hk _ => h.block k hk⟩
theorem cur_below {B cb : Nat} {w w' : World} (h : Cur B w cb) (bel : Below w.heap.size w w') : Cur B w' cb := by
  obtain ⟨a, len, cap, i, h, hB, hcb, hlen, hi, hby, c0, c1, c2, f1, f2⟩ := h
  refine ⟨a, len, cap, i, h, hB, Nat.lt_of_lt_of_le hcb bel.size, hlen, hi, hby.grown (grown_of_below bel (some cb)) hB, ?_, ?_, ?_, ?_, ?_⟩
  · exact (bel.cell (p := ⟨cb, 0, none⟩) hcb).trans c0
  · exact (bel.cell (p := ⟨cb, 1, none⟩) hcb).trans c1
  · exact (bel.cell (p := ⟨cb, 2, none⟩) hcb).trans c2
  · exact (bel.frozen (p := ⟨cb, 1, none⟩) hcb).trans f1
  · exact (bel.frozen (p := ⟨cb, 2, none⟩) hcb).trans f2
theorem nine_bd (x : Int) : 0 ≤ nine x ∧ nine x ≤ 18446744073709551615 := u64_wrap_bd _
theorem snines_some (x : Int) (w : World) (h0 : 0 ≤ x) (h1 : x ≤ 18446744073709551615) :
    Calls Tryd.prog 38 #[.int .u64 x] w fun e w' => ∃ y b, e = .returned (.tuple #[.int .u64 y, .bool b]) ∧ (0 ≤ y ∧ y ≤ 18446744073709551615) ∧ Below w.heap.size w w' := by
  cases hk : Ln.okB 0 x with
  | true => exact (snines_yes x w h0 h1 hk).mono fun e w' h => ⟨_, _, h.1, nine_bd x, h.2⟩
  | false => exact (snines_no x w h0 h1 hk).mono fun e w' h => ⟨_, _, h.1, ⟨by decide, by decide⟩, h.2⟩
set_option maxHeartbeats 800000 in
theorem DrawLaneAdd_any (a : Option Addr) (len cap : Nat) (w : World) (hl : len ≤ 4096) (hb : Bytes w.heap.size w a len) :
    Calls Tryd.prog 14 #[.slice a len cap] w fun e w' => ∃ x y i, e = .returned (.tuple #[.int .u64 x, .int .u64 y, .bool i]) ∧ (0 ≤ x ∧ x ≤ 18446744073709551615) ∧ (0 ≤ y ∧ y ≤ 18446744073709551615) ∧ Below w.heap.size w w' := by
  have hB : Hid (Bytes w.heap.size w a len) := hb
  clear hb
  go_enter Tryd.func14, Tryd.ntmps14
  go_wp2_with fail
  refine (l1New_any a len cap _ hl hB.out).mono ?_
  rintro e w1 ⟨rfl, hc1, hb1⟩
  have hs1 := hb1.size
  go_wp2_with fail
  refine (l1DrawWord_any _ _ _ hc1).mono ?_
  rintro e w2 ⟨x, rfl, x0, x1, hc2, hg2⟩
  go_wp2_with fail
  refine (l1DrawWord_any _ _ _ hc2).mono ?_
  rintro e w3 ⟨y, rfl, y0, y1, hc3, hg3⟩
  go_wp2_with fail
  refine (l1Once_any _ _ 4 _ hc3 (by decide) (by decide)).mono ?_
  rintro e w4 ⟨b, rfl, hc4, hg4⟩
  have hg := grown_trans (grown_trans hg2 hg3) hg4
  clear hg2 hg3 hg4 hc1 hc2 hc3
  cases b
  · go_wp2_with fail
    refine (l1Once_any _ _ 2 _ hc4 (by decide) (by decide)).mono ?_
    rintro e w5 ⟨i, rfl, hc5, hg5⟩
    have hbf : Below w.heap.size w w5 := Below.grown hb1 (grown_trans hg hg5) hs1 (fun k hk => by cases hk; exact Nat.le_refl _)
    clear hg hg5 hc4 hc5
    go_wp2
    go_ret3
    exact ⟨_, _, _, rfl, ⟨x0, x1⟩, ⟨y0, y1⟩, hbf⟩
  · go_wp2_with fail
    refine (snines_some x _ x0 x1).mono ?_
    rintro e w5 ⟨z, bz, rfl, hz, hb5⟩
    have hc5 := cur_below hc4 hb5
    have hg5 := grown_trans hg (grown_of_below hb5 _)
    clear hc4 hg hb5
    go_wp2_with fail
    refine (l1Once_any _ _ 2 _ hc5 (by decide) (by decide)).mono ?_
    rintro e w6 ⟨i, rfl, hc6, hg6⟩
    have hbf : Below w.heap.size w w6 := Below.grown hb1 (grown_trans hg5 hg6) hs1 (fun k hk => by cases hk; exact Nat.le_refl _)
    clear hg5 hg6 hc5 hc6
    go_wp2
    go_ret3
    exact ⟨_, _, _, rfl, ⟨x0, x1⟩, hz, hbf⟩
end Go.Proofs.YtlbkhiphnllfpaaDoor
