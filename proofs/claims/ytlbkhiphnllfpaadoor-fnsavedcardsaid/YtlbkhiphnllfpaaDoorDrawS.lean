/-
  What the draws of words in fours give, walked.
-/
import Derived.Test.YtlbkhiphnllfpaaDoorDraw4
import Derived.Test.YtlbkhiphnllfpaaDoorSave
namespace Go.Proofs.YtlbkhiphnllfpaaDoor
open Go.RowKit
set_option linter.unusedVariables false
theorem grown_old {w w' : World} (h : Below w.heap.size w w') (r : Option Nat) : w.grownBy w' r :=
  ⟨h.os, h.tape, h.output, h.size, fun k hk _ => h.block k hk⟩
theorem cur_old {B cb : Nat} {w w' : World} (h : Cur B w cb) (bel : Below w.heap.size w w') : Cur B w' cb := by
  obtain ⟨a, len, cap, i, h, hB, hcb, hlen, hi, hby, c0, c1, c2, f1, f2⟩ := h
  refine ⟨a, len, cap, i, h, hB, Nat.lt_of_lt_of_le hcb bel.size, hlen, hi, hby.grown (grown_old bel (some cb)) hB, ?_, ?_, ?_, ?_, ?_⟩
  · exact (bel.cell (p := ⟨cb, 0, none⟩) hcb).trans c0
  · exact (bel.cell (p := ⟨cb, 1, none⟩) hcb).trans c1
  · exact (bel.cell (p := ⟨cb, 2, none⟩) hcb).trans c2
  · exact (bel.frozen (p := ⟨cb, 1, none⟩) hcb).trans f1
  · exact (bel.frozen (p := ⟨cb, 2, none⟩) hcb).trans f2
theorem srec_draw (x : Int) (w : World) (h0 : 0 ≤ x) (h1 : x ≤ 18446744073709551615) :
    Calls Tryd.prog 9 #[.int .i64 1, .int .i64 2, .int .u64 x] w fun e w' => e = .returned (.tuple #[.int .u64 (recV 0 1 x), .bool (Ln.okB 0 x)]) ∧ Below w.heap.size w w' :=
  srec_any 0 1 x w (by decide) (by decide) h0 h1
/-- A drawn word in fours. -/
theorem l2DrawFour_any (B cb : Nat) (w : World) (hc : Cur B w cb) :
    Calls Tryd.prog 46 #[.pointer (some ⟨cb, 0, none⟩)] w fun e w' => ∃ x, e = .returned (.int .u64 x) ∧ (0 ≤ x ∧ x ≤ 18446744073709551615) ∧ Cur B w' cb ∧ w.grownBy w' (some cb) := by
  go_enter Tryd.func46, Tryd.ntmps46
  go_wp2_with fail
  refine (l1Once_any B cb 2 _ hc (by decide) (by decide)).mono ?_
  rintro e w1 ⟨b, rfl, hc1, hg1⟩
  cases b
  · go_wp2_with fail
    refine (l1DrawWord_any B cb _ hc1).mono ?_
    rintro e w2 ⟨x, rfl, x0, x1, hc2, hg2⟩
    go_wp2_with fail
    refine (srec_draw x _ x0 x1).mono ?_
    rintro e w3 ⟨rfl, hb3⟩
    have hc3 := cur_old hc2 hb3
    have hg := grown_trans (grown_trans hg1 hg2) (grown_old hb3 _)
    have hr := recV_bd 0 1 x
    clear hg1 hg2 hb3 hc1 hc2
    go_wp2
    go_ret
    exact ⟨_, rfl, hr, hc3, hg⟩
  · go_wp2_with fail
    refine (l1DrawAnyWord_any B cb _ hc1).mono ?_
    rintro e w2 ⟨x, rfl, x0, x1, hc2, hg2⟩
    have hg := grown_trans hg1 hg2
    clear hg1 hg2 hc1
    go_wp2
    go_ret
    exact ⟨_, rfl, ⟨x0, x1⟩, hc2, hg⟩
theorem DrawSave_any (a : Option Addr) (len cap : Nat) (w : World) (hl : len ≤ 4096) (hb : Bytes w.heap.size w a len) :
    Calls Tryd.prog 22 #[.slice a len cap] w fun e w' => ∃ x y z, e = .returned (.tuple #[.int .u64 x, .int .u64 y, .int .u64 z]) ∧ (0 ≤ x ∧ x ≤ 18446744073709551615) ∧ (0 ≤ y ∧ y ≤ 18446744073709551615) ∧ (0 ≤ z ∧ z ≤ 18446744073709551615) ∧ Below w.heap.size w w' := by
  have hB : Hid (Bytes w.heap.size w a len) := hb
  clear hb
  go_enter Tryd.func22, Tryd.ntmps22
  go_wp2_with fail
  refine (l1New_any a len cap _ hl hB.out).mono ?_
  rintro e w1 ⟨rfl, hc1, hb1⟩
  have hs1 := hb1.size
  go_wp2_with fail
  refine (l2DrawFour_any _ _ _ hc1).mono ?_
  rintro e w2 ⟨x, rfl, hx, hc2, hg2⟩
  go_wp2_with fail
  refine (l2DrawFour_any _ _ _ hc2).mono ?_
  rintro e w3 ⟨y, rfl, hy, hc3, hg3⟩
  go_wp2_with fail
  refine (l2DrawFour_any _ _ _ hc3).mono ?_
  rintro e w4 ⟨z, rfl, hz, hc4, hg4⟩
  have hbf : Below w.heap.size w w4 := Below.grown hb1 (grown_trans (grown_trans hg2 hg3) hg4) hs1 (fun k hk => by cases hk; exact Nat.le_refl _)
  clear hg2 hg3 hg4 hc1 hc2 hc3 hc4
  go_wp2
  go_ret3
  exact ⟨_, _, _, rfl, hx, hy, hz, hbf⟩
end Go.Proofs.YtlbkhiphnllfpaaDoor
