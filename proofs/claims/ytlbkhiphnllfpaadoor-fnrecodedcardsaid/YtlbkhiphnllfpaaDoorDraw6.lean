/-
  What the draws of a weighting and a word give, walked.
-/
import Derived.Test.YtlbkhiphnllfpaaDoorDraw4
namespace Go.Proofs.YtlbkhiphnllfpaaDoor
open Go.RowKit
set_option linter.unusedVariables false

def weight4 : Array Value := #[.int .i64 0, .int .i64 4, .int .i64 (-1), .int .i64 4611686018427387904]
theorem weight4_at (x : Int) (h0 : 0 ≤ x) (h1 : x < 4) : ∃ v : Int, weight4[x.toNat]? = some (.int .i64 v) ∧ -9223372036854775808 ≤ v ∧ v ≤ 9223372036854775807 := by
  obtain ⟨n, rfl⟩ := Int.eq_ofNat_of_zero_le h0
  match n, h1 with
  | 0, _ => exact ⟨_, rfl, by decide, by decide⟩
  | 1, _ => exact ⟨_, rfl, by decide, by decide⟩
  | 2, _ => exact ⟨_, rfl, by decide, by decide⟩
  | 3, _ => exact ⟨_, rfl, by decide, by decide⟩
theorem l1DrawWeight_any (B cb : Nat) (w : World) (hc : Cur B w cb) :
    Calls Tryd.prog 27 #[.pointer (some ⟨cb, 0, none⟩)] w fun e w' => ∃ x, e = .returned (.int .i64 x) ∧ (-9223372036854775808 ≤ x ∧ x ≤ 9223372036854775807) ∧ Cur B w' cb ∧ w.grownBy w' (some cb) := by
  go_enter Tryd.func27, Tryd.ntmps27
  go_wp2_with fail
  refine (l1Once_any B cb 16 _ hc (by decide) (by decide)).mono ?_
  rintro e w1 ⟨b, rfl, hc1, hg1⟩
  have hcl := hc1.lt
  cases b
  · go_wp2_with fail
    refine (l1Below_any B cb 3 _ hc1 (by decide) (by decide)).mono ?_
    rintro e w2 ⟨y, rfl, y0, y1, hc2, hg2⟩
    have hg := grown_trans hg1 hg2
    clear hg1 hg2 hc1
    go_wp2
    go_ret
    exact ⟨_, rfl, ⟨by omega, by omega⟩, hc2, hg⟩
  · go_wp2_with fail
    refine (l1Below_any B cb 4 _ (cur_alloc hc1 _) (by decide) (by decide)).mono ?_
    rintro e w2 ⟨y, rfl, y0, y1, hc2, hg2⟩
    obtain ⟨v, hv, v0, v1⟩ := weight4_at y y0 y1
    have hcell := lit_at (arr := weight4) hg2 hcl.2 y.toNat _ hv
    have hg := grown_trans (grown_trans hg1 (World.grownBy_alloc _ _ _)) hg2
    clear hg1 hg2 hc1 hv
    go_wp2
    go_ret
    exact ⟨_, rfl, ⟨v0, v1⟩, hc2, hg⟩
theorem DrawLaneOk_any (a : Option Addr) (len cap : Nat) (w : World) (hl : len ≤ 4096) (hb : Bytes w.heap.size w a len) :
    Calls Tryd.prog 26 #[.slice a len cap] w fun e w' => ∃ n x, e = .returned (.tuple #[.int .i64 n, .int .u64 x]) ∧ (-9223372036854775808 ≤ n ∧ n ≤ 9223372036854775807) ∧ (0 ≤ x ∧ x ≤ 18446744073709551615) ∧ Below w.heap.size w w' := by
  have hB : Hid (Bytes w.heap.size w a len) := hb
  clear hb
  go_enter Tryd.func26, Tryd.ntmps26
  go_wp2_with fail
  refine (l1New_any a len cap _ hl hB.out).mono ?_
  rintro e w1 ⟨rfl, hc1, hb1⟩
  have hs1 := hb1.size
  go_wp2_with fail
  refine (l1DrawWeight_any _ _ _ hc1).mono ?_
  rintro e w2 ⟨n, rfl, hn, hc2, hg2⟩
  go_wp2_with fail
  refine (l1Once_any _ _ 2 _ hc2 (by decide) (by decide)).mono ?_
  rintro e w3 ⟨b, rfl, hc3, hg3⟩
  have hg := grown_trans hg2 hg3
  clear hg2 hg3 hc1 hc2
  cases b
  · go_wp2_with fail
    refine (l1DrawWord_any _ _ _ hc3).mono ?_
    rintro e w4 ⟨x, rfl, x0, x1, hc4, hg4⟩
    have hbf : Below w.heap.size w w4 := Below.grown hb1 (grown_trans hg hg4) hs1 (fun k hk => by cases hk; exact Nat.le_refl _)
    clear hg hg4 hc3 hc4
    go_wp2
    go_ret2
    exact ⟨_, _, rfl, hn, ⟨x0, x1⟩, hbf⟩
  · go_wp2_with fail
    refine (l1DrawAnyWord_any _ _ _ hc3).mono ?_
    rintro e w4 ⟨x, rfl, x0, x1, hc4, hg4⟩
    have hbf : Below w.heap.size w w4 := Below.grown hb1 (grown_trans hg hg4) hs1 (fun k hk => by cases hk; exact Nat.le_refl _)
    clear hg hg4 hc3 hc4
    go_wp2
    go_ret2
    exact ⟨_, _, rfl, hn, ⟨x0, x1⟩, hbf⟩
/-- A cursor stays where nothing old turns. -/
theorem cur_kept {B cb : Nat} {w w' : World} (h : Cur B w cb) (bel : Below w.heap.size w w') : Cur B w' cb := by
  obtain ⟨a, len, cap, i, h, hB, hcb, hlen, hi, hby, c0, c1, c2, f1, f2⟩ := h
  refine ⟨a, len, cap, i, h, hB, Nat.lt_of_lt_of_le hcb bel.size, hlen, hi, ?_, ?_, ?_, ?_, ?_, ?_⟩
  · rcases hby with h0 | ⟨b, off, rfl, hb, hz⟩
    · exact .inl h0
    · refine .inr ⟨b, off, rfl, hb, fun j hj => ?_⟩
      obtain ⟨z, hc, r⟩ := hz j hj
      exact ⟨z, (bel.cell (p := ⟨b, off + j, none⟩) (show b < w.heap.size by omega)).trans hc, r⟩
  · exact (bel.cell (p := ⟨cb, 0, none⟩) hcb).trans c0
  · exact (bel.cell (p := ⟨cb, 1, none⟩) hcb).trans c1
  · exact (bel.cell (p := ⟨cb, 2, none⟩) hcb).trans c2
  · exact (bel.frozen (p := ⟨cb, 1, none⟩) hcb).trans f1
  · exact (bel.frozen (p := ⟨cb, 2, none⟩) hcb).trans f2
theorem DrawRecode_any (a : Option Addr) (len cap : Nat) (w : World) (hl : len ≤ 4096) (hb : Bytes w.heap.size w a len) :
    Calls Tryd.prog 7 #[.slice a len cap] w fun e w' => ∃ n m x, e = .returned (.tuple #[.int .i64 n, .int .i64 m, .int .u64 x]) ∧ (-9223372036854775808 ≤ n ∧ n ≤ 9223372036854775807) ∧ (-9223372036854775808 ≤ m ∧ m ≤ 9223372036854775807) ∧ (0 ≤ x ∧ x ≤ 18446744073709551615) ∧ Below w.heap.size w w' := by
  have hB : Hid (Bytes w.heap.size w a len) := hb
  clear hb
  go_enter Tryd.func7, Tryd.ntmps7
  go_wp2_with fail
  refine (l1New_any a len cap _ hl hB.out).mono ?_
  rintro e w1 ⟨rfl, hc1, hb1⟩
  have hs1 := hb1.size
  have hB1 : Hid (Bytes w1.heap.size w1 a len) := by
    rcases hB.out with h0 | ⟨b, off, rfl, hbb, hz⟩
    · exact .inl h0
    · refine .inr ⟨b, off, rfl, by omega, fun j hj => ?_⟩
      obtain ⟨z, hc, r⟩ := hz j hj
      exact ⟨z, (hb1.cell (p := ⟨b, off + j, none⟩) hbb).trans hc, r⟩
  go_wp2_with fail
  refine (DrawLaneOk_any a len cap _ hl hB1.out).mono ?_
  rintro e w2 ⟨n, x, rfl, hn, hx, hb2⟩
  have hc2 := cur_kept hc1 hb2
  have hs2 := hb2.size
  have hb02 : Below w.heap.size w w2 := hb1.trans (hb2.mono hs1)
  clear hc1
  go_wp2_with fail
  refine (l1DrawWeight_any _ _ _ hc2).mono ?_
  rintro e w3 ⟨m, rfl, hm, hc3, hg3⟩
  have hbf : Below w.heap.size w w3 := Below.grown hb02 hg3 (by omega) (fun k hk => by cases hk; exact Nat.le_refl _)
  clear hg3 hc2 hc3
  go_wp2
  go_ret3
  exact ⟨_, _, _, rfl, hn, hm, hx, hbf⟩
end Go.Proofs.YtlbkhiphnllfpaaDoor
