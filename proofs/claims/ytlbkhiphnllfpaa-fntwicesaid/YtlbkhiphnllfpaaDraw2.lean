/-
  What the draws of lane words and shifts give, walked.
-/
import Derived.Test.YtlbkhiphnllfpaaDraw
namespace Go.Proofs.Ytlbkhiphnllfpaa
open Go.RowKit
set_option linter.unusedVariables false

theorem u64_wrap_bd (x : Int) : 0 ≤ IntKind.u64.wrap x ∧ IntKind.u64.wrap x ≤ 18446744073709551615 := by
  rw [IntKind.wrap_u64]; omega
/-- A cell of a row that was laid just ahead of a draw. -/
theorem lit_at {w w2 : World} {arr : Array Value} {T : TypeId} {cb : Nat} (hg : (w.alloc (.cells arr T)).grownBy w2 (some cb)) (hcb : cb < w.heap.size) (i : Nat) (v : Value) (hv : arr[i]? = some v) : w2.cell? ⟨w.heap.size, i, none⟩ = some v := by
  refine hg.cell ?_ (fun e => by have e' : w.heap.size = cb := Option.some.inj e; omega)
  simpa using hv
theorem cur_alloc {B cb : Nat} {w : World} (h : Cur B w cb) (o : Obj) : Cur B (w.alloc o) cb := by
  obtain ⟨a, len, cap, i, h, hB, hcb, hlen, hi, hby, c0, c1, c2, f1, f2⟩ := h
  have bel : Below w.heap.size w (w.alloc o) := (Below.refl _ _).alloc (Nat.le_refl _) _
  refine ⟨a, len, cap, i, h, hB, Nat.lt_of_lt_of_le hcb bel.size, hlen, hi, hby.grown (World.grownBy_alloc w o (some cb)) hB, ?_, ?_, ?_, ?_, ?_⟩
  · exact (bel.cell (p := ⟨cb, 0, none⟩) hcb).trans c0
  · exact (bel.cell (p := ⟨cb, 1, none⟩) hcb).trans c1
  · exact (bel.cell (p := ⟨cb, 2, none⟩) hcb).trans c2
  · exact (bel.frozen (p := ⟨cb, 1, none⟩) hcb).trans f1
  · exact (bel.frozen (p := ⟨cb, 2, none⟩) hcb).trans f2
theorem Cur.lt {B cb : Nat} {w : World} (h : Cur B w cb) : B ≤ cb ∧ cb < w.heap.size := by
  obtain ⟨_, _, _, _, _, hB, hcb, _⟩ := h; exact ⟨hB, hcb⟩
def any4 : Array Value := #[.int .u64 0, .int .u64 18446744073709551615, .int .u64 9223372036854775808, .int .u64 1]
theorem any4_at (x : Int) (h0 : 0 ≤ x) (h1 : x < 4) : ∃ v : Int, any4[x.toNat]? = some (.int .u64 v) ∧ 0 ≤ v ∧ v ≤ 18446744073709551615 := by
  obtain ⟨n, rfl⟩ := Int.eq_ofNat_of_zero_le h0
  match n, h1 with
  | 0, _ => exact ⟨_, rfl, by decide, by decide⟩
  | 1, _ => exact ⟨_, rfl, by decide, by decide⟩
  | 2, _ => exact ⟨_, rfl, by decide, by decide⟩
  | 3, _ => exact ⟨_, rfl, by decide, by decide⟩
set_option maxHeartbeats 400000 in
theorem l1DrawAnyWord_any (B cb : Nat) (w : World) (hc : Cur B w cb) :
    Calls Try.prog 17 #[.pointer (some ⟨cb, 0, none⟩)] w fun e w' => ∃ x, e = .returned (.int .u64 x) ∧ 0 ≤ x ∧ x ≤ 18446744073709551615 ∧ Cur B w' cb ∧ w.grownBy w' (some cb) := by
  go_enter Try.func17, Try.ntmps17
  go_wp2
  go_loopw [3, 4] (fun v i wr => ∃ k : Nat, k ≤ 8 ∧ i = .int .i64 k ∧ ∃ x : Int, v = .int .u64 x ∧ (0 ≤ x ∧ x ≤ 18446744073709551615) ∧ Cur B wr cb ∧ w.grownBy wr (some cb)) (fun _ i _ => 8 - (intOf i).toNat)
  case atStart => exact ⟨0, Nat.zero_le _, rfl, 0, rfl, ⟨by decide, by decide⟩, hc, World.grownBy.refl _ _⟩
  case round =>
    obtain ⟨k, hk, rfl, x, rfl, hx, hcr, hgr⟩ := hrel
    by_cases hlt : k < 8
    · go_wp2_with fail
      refine (l1Byte_any B cb _ hcr).mono ?_
      rintro e w1 ⟨y, rfl, y0, y1, hc1, hg1⟩
      have hg := grown_trans hgr hg1
      have hw := u64_wrap_bd (IntKind.u64.wrap (x * 256) + y)
      clear hgr hg1 hcr
      go_wp2
      go_roundw
      case rel => exact ⟨k + 1, by omega, by go_num, _, rfl, u64_wrap_bd _, hc1, hg⟩
      case measure => simp [intOf]; omega
    · go_wp2_with fail
      refine (l1Once_any B cb 6 _ hcr (by decide) (by decide)).mono ?_
      rintro e w1 ⟨b, rfl, hc1, hg1⟩
      have hg := grown_trans hgr hg1
      clear hgr hg1 hcr
      cases b
      · go_wp2
        go_ret
        exact ⟨_, rfl, hx.1, hx.2, hc1, hg⟩
      · have hcl := hc1.lt
        go_wp2_with fail
        refine (l1Below_any B cb 4 _ (cur_alloc hc1 _) (by decide) (by decide)).mono ?_
        rintro e w2 ⟨y, rfl, y0, y1, hc2, hg2⟩
        obtain ⟨v, hv, v0, v1⟩ := any4_at y y0 y1
        have hcell := lit_at (arr := any4) hg2 hcl.2 y.toNat _ hv
        have hgf := grown_trans (grown_trans hg (World.grownBy_alloc _ _ _)) hg2
        clear hg hg2 hc1 hv
        go_wp2
        go_ret
        exact ⟨_, rfl, v0, v1, hc2, hgf⟩
theorem l1From_any (B cb : Nat) (lo hi : Int) (w : World) (hc : Cur B w cb) (h0 : -1000000000000000 ≤ lo) (h1 : lo ≤ hi) (h2 : hi ≤ 1000000000000000) :
    Calls Try.prog 18 #[.pointer (some ⟨cb, 0, none⟩), .int .i64 lo, .int .i64 hi] w fun e w' => ∃ x, e = .returned (.int .i64 x) ∧ lo ≤ x ∧ x ≤ hi ∧ Cur B w' cb ∧ w.grownBy w' (some cb) := by
  go_enter Try.func18, Try.ntmps18
  go_wp2_with fail
  refine (l1Below_any B cb (hi - lo + 1) _ hc (by omega) (by omega)).mono ?_
  rintro e w1 ⟨x, rfl, x0, x1, hc1, hg1⟩
  go_wp2
  go_ret
  exact ⟨_, rfl, by omega, by omega, hc1, hg1⟩
def odd10 : Array Value := #[.int .i64 (-1), .int .i64 0, .int .i64 1, .int .i64 2147483648, .int .i64 (-2147483648), .int .i64 1099511627776, .int .i64 4611686018427387904, .int .i64 (-4611686018427387904), .int .i64 9223372036854775807, .int .i64 (-9223372036854775808)]
theorem odd10_at (x : Int) (h0 : 0 ≤ x) (h1 : x < 10) : ∃ v : Int, odd10[x.toNat]? = some (.int .i64 v) ∧ -9223372036854775808 ≤ v ∧ v ≤ 9223372036854775807 := by
  obtain ⟨n, rfl⟩ := Int.eq_ofNat_of_zero_le h0
  match n, h1 with
  | 0, _ => exact ⟨_, rfl, by decide, by decide⟩
  | 1, _ => exact ⟨_, rfl, by decide, by decide⟩
  | 2, _ => exact ⟨_, rfl, by decide, by decide⟩
  | 3, _ => exact ⟨_, rfl, by decide, by decide⟩
  | 4, _ => exact ⟨_, rfl, by decide, by decide⟩
  | 5, _ => exact ⟨_, rfl, by decide, by decide⟩
  | 6, _ => exact ⟨_, rfl, by decide, by decide⟩
  | 7, _ => exact ⟨_, rfl, by decide, by decide⟩
  | 8, _ => exact ⟨_, rfl, by decide, by decide⟩
  | 9, _ => exact ⟨_, rfl, by decide, by decide⟩
theorem l1Odd_any (B cb : Nat) (w : World) (hc : Cur B w cb) :
    Calls Try.prog 20 #[.pointer (some ⟨cb, 0, none⟩)] w fun e w' => ∃ x, e = .returned (.int .i64 x) ∧ -9223372036854775808 ≤ x ∧ x ≤ 9223372036854775807 ∧ Cur B w' cb ∧ w.grownBy w' (some cb) := by
  have hcl := hc.lt
  go_enter Try.func20, Try.ntmps20
  go_wp2_with fail
  refine (l1Below_any B cb 10 _ (cur_alloc hc _) (by decide) (by decide)).mono ?_
  rintro e w2 ⟨y, rfl, y0, y1, hc2, hg2⟩
  obtain ⟨v, hv, v0, v1⟩ := odd10_at y y0 y1
  have hcell := lit_at (arr := odd10) hg2 hcl.2 y.toNat _ hv
  have hgf := grown_trans (World.grownBy_alloc w _ (some cb)) hg2
  clear hg2 hv hc
  go_wp2
  go_ret
  exact ⟨_, rfl, v0, v1, hc2, hgf⟩
end Go.Proofs.Ytlbkhiphnllfpaa
