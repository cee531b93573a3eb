/-
  What the draws of words in fours give, walked.
-/
import Derived.Test.YtlbkhiphnllfpabDoorDraw4
import Derived.Test.YtlbkhiphnllfpabDoorSave
namespace Go.Proofs.YtlbkhiphnllfpabDoor
open Go.RowKit
set_option linter.unusedVariables false
set_option maxRecDepth 100000
theorem grown_old {w w' : World} (h : Below w.heap.size w w') (r : Option Nat) : w.grownBy w' r :=
  ⟨h.os, h.tape, h.output, h.size, fun k hk _ => h.block k hk⟩
theorem cur_old {B cb : Nat} {w w' : World} (h : Cur B w cb) (bel : Below w.heap.size w w') : Cur B w' cb := by
  obtain ⟨a, len, cap, i, h, hB, hcb, hlen, hi, hby, c0, c1, c2, f1, f2⟩ := h
  refine ⟨a, len, cap, i, h, hB, Nat.lt_of_lt_of_le hcb bel.size, hlen, hi, hby.grown (grown_old bel (some cb)) hB, ?_, ?_, ?_, ?_, ?_⟩
  · exact (bel.cell (p := ⟨cb, 0, none⟩) hcb).trans c0
  · exact (bel.cell (p := ⟨cb, 1, none⟩) hcb).trans c1
  · exact (bel.cell (p := ⟨cb, 2, none⟩) hcb).trans c2
  · exact (bel.frozen (p := ⟨cb, 1, none⟩) hcb).trans f1
  · exact (bel.frozen (p := ⟨cb, 2, none⟩) hcb).trans f2
theorem srec_draw (x : Int) (w : World) (h0 : 0 ≤ x) (h1 : x ≤ 18446744073709551615) :
    Calls Tryd.prog 71 #[.int .i64 1, .int .i64 2, .int .u64 x] w fun e w' => e = .returned (.tuple #[.int .u64 (recV 0 1 x), .bool (Ln.okB 0 x)]) ∧ Below w.heap.size w w' :=
  srec_any 0 1 x w (by decide) (by decide) h0 h1
/-- A drawn word in fours. -/
theorem l2DrawFour_any (B cb : Nat) (w : World) (hc : Cur B w cb) :
    Calls Tryd.prog 37 #[.pointer (some ⟨cb, 0, none⟩)] w fun e w' => ∃ x, e = .returned (.int .u64 x) ∧ (0 ≤ x ∧ x ≤ 18446744073709551615) ∧ Cur B w' cb ∧ w.grownBy w' (some cb) := by
  go_enter Tryd.func37, Tryd.ntmps37
  go_wp2_with fail
  refine (l1Once_any B cb 2 _ hc (by decide) (by decide)).mono ?_
  rintro e w1 ⟨b, rfl, hc1, hg1⟩
  cases b
  · go_wp2_with fail
    refine (l1DrawWord_any B cb _ hc1).mono ?_
    rintro e w2 ⟨x, rfl, x0, x1, hc2, hg2⟩
    go_wp2_with fail
    refine (srec_draw x _ x0 x1).mono ?_
    rintro e w3 ⟨rfl, hb3⟩
    have hc3 := cur_old hc2 hb3
    have hg := grown_trans (grown_trans hg1 hg2) (grown_old hb3 _)
    have hr := recV_bd 0 1 x
    clear hg1 hg2 hb3 hc1 hc2
    go_wp2
    go_ret
    exact ⟨_, rfl, hr, hc3, hg⟩
  · go_wp2_with fail
    refine (l1DrawAnyWord_any B cb _ hc1).mono ?_
    rintro e w2 ⟨x, rfl, x0, x1, hc2, hg2⟩
    have hg := grown_trans hg1 hg2
    clear hg1 hg2 hc1
    go_wp2
    go_ret
    exact ⟨_, rfl, ⟨x0, x1⟩, hc2, hg⟩
end Go.Proofs.YtlbkhiphnllfpabDoor
