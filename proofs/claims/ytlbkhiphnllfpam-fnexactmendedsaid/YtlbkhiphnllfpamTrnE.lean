/-
  The laws' equality of slices of turns, their marks on such, and what is held of them, walked.
-/
import Derived.Test.YtlbkhiphnllfpamTrn
import Derived.Test.YtlbkhiphnllfpamMark
import Derived.Test.YtlbkhiphnllfpamCls
namespace Go.Proofs.Ytlbkhiphnllfpam
open Go.RowKit
set_option linter.unusedVariables false
theorem eqTurn_same (x y : Int) (w : World) :
    Calls Try.prog 42 #[.agg #[.int .i64 x, .int .i64 y], .agg #[.int .i64 x, .int .i64 y]] w fun e w' => e = .returned (.bool true) ∧ Below w.heap.size w w' := by
  have HB0 : Hid (∀ o o', Below w.heap.size w ((w.alloc o).alloc o')) := fun o o' => ((Below.refl _ _).alloc (Nat.le_refl _) _).alloc (by simp) _
  go_enter Try.func42, Try.ntmps42
  go_wp2
  go_ret
  exact ⟨rfl, HB0.out _ _⟩
set_option maxHeartbeats 1000000 in
theorem eqTurnS_same (va vb : Value) (l : List (Int × Int)) (ba bb : Nat) (w : World) (ha : HasT w ba va l) (hb : HasT w bb vb l) (hl : l.length ≤ 2000000) :
    Calls Try.prog 13 #[va, vb] w fun e w' => e = .returned (.bool true) ∧ Below w.heap.size w w' := by
  obtain ⟨aa, ca, rfl, hga⟩ := ha.form
  obtain ⟨ab, cb, rfl, hgb⟩ := hb.form
  have HA : Hid (0 < l.length → ∃ g, aa = some ⟨g, 0, none⟩ ∧ g < w.heap.size ∧ (∀ i p, l[i]? = some p → w.cell? ⟨g, i * 2, none⟩ = some (.int .i64 p.1) ∧ w.cell? ⟨g, i * 2 + 1, none⟩ = some (.int .i64 p.2))) := hga
  have HB : Hid (0 < l.length → ∃ g, ab = some ⟨g, 0, none⟩ ∧ g < w.heap.size ∧ (∀ i p, l[i]? = some p → w.cell? ⟨g, i * 2, none⟩ = some (.int .i64 p.1) ∧ w.cell? ⟨g, i * 2 + 1, none⟩ = some (.int .i64 p.2))) := hgb
  clear ha hb hga hgb
  go_enter Try.func13, Try.ntmps13
  go_wp2
  go_loopw [5] (fun i w1 => ∃ k : Nat, k ≤ l.length ∧ i = .int .i64 k ∧ Below w.heap.size w w1) (fun i _ => l.length - (intOf i).toNat)
  case atStart => exact ⟨0, Nat.zero_le _, rfl, Below.refl _ _⟩
  case round =>
    obtain ⟨k, hk, rfl, hbel⟩ := hrel
    by_cases hlt : k < l.length
    · obtain ⟨g, rfl, hgl, hca⟩ := HA.out (by omega)
      obtain ⟨g', rfl, hgl', hcb⟩ := HB.out (by omega)
      have hget : l[k]? = some l[k] := List.getElem?_eq_getElem hlt
      obtain ⟨c1, c2⟩ := hca k _ hget
      obtain ⟨c3, c4⟩ := hcb k _ hget
      have hk1 : (k : Int) < (l.length : Int) := by omega
      have HE : Hid (∀ x y W, Calls Try.prog 42 #[.agg #[.int .i64 x, .int .i64 y], .agg #[.int .i64 x, .int .i64 y]] W fun e w' => e = .returned (.bool true) ∧ Below W.heap.size W w') := fun x y W => eqTurn_same x y W
      clear hca hcb hget
      generalize l[k].1 = x at *
      generalize l[k].2 = y at *
      have HC1 : Hid (w.cell? ⟨g, k * 2, none⟩ = some (.int .i64 x) ∧ w.cell? ⟨g, k * 2 + 1, none⟩ = some (.int .i64 y)) := ⟨c1, c2⟩
      have HC2 : Hid (w.cell? ⟨g', k * 2, none⟩ = some (.int .i64 x) ∧ w.cell? ⟨g', k * 2 + 1, none⟩ = some (.int .i64 y)) := ⟨c3, c4⟩
      have HX0 : Hid (Below w.heap.size w wr.drew) := hbel.drew
      clear c1 c2 c3 c4
      go_upto_region 6 with fail
      refine wp_region_class (C := Below w.heap.size w) (by kernel_rfl) (by kernel_rfl) HX0.out ?_
      repeat (refine wpQuiet_step (fun K hK => ?_); go_simp; apply Exists.intro; refine ⟨fun wx hC => ?_, hK _ ?_⟩; (first | exact rfl | exact Calls.class_of (HE.out x y wx) (fun w' hb => bel1 hC hb) | (have q0 := (hC.cell (p := ⟨g, k * 2, none⟩) hgl).trans HC1.out.1; have q1 := (hC.cell (p := ⟨g, k * 2 + 1, none⟩) hgl).trans HC1.out.2; have q2 := (hC.cell (p := ⟨g', k * 2, none⟩) hgl').trans HC2.out.1; have q3 := (hC.cell (p := ⟨g', k * 2 + 1, none⟩) hgl').trans HC2.out.2; go_simp; exact rfl)); clear hK K)
      refine wpQuiet_nil ?_
      intro w1 hb1
      go_wp2
      go_roundw
      case rel => exact ⟨k + 1, by omega, by go_num, hb1⟩
      case measure => simp [intOf]; omega
    · have hk2 : k = l.length := by omega
      subst hk2
      go_wp2
      go_ret
      exact ⟨rfl, hbel⟩
/-- The numbers of turns in a row. -/
def flt : List (Int × Int) → List Int
  | [] => []
  | p :: r => p.1 :: p.2 :: flt r
theorem flt_tq (l : List (Int × Int)) : tq l = (flt l).map (Value.int .i64) := by
  induction l with
  | nil => rfl
  | cons p r ih => simp [tq, flt, ih]
theorem flt_len (l : List (Int × Int)) : (flt l).length = l.length * 2 := by
  induction l with
  | nil => rfl
  | cons p r ih => simp [flt, ih]; omega
/-- The slice v holds n turns, whose numbers in a row are zs. -/
def HasF (w : World) (base : Nat) (v : Value) (n : Nat) (zs : List Int) : Prop := w.ownsRow base 50 2 v n (zs.map (Value.int .i64))
theorem HasT.flat {w : World} {base : Nat} {v : Value} {l : List (Int × Int)} (h : HasT w base v l) : HasF w base v l.length (flt l) := by
  unfold HasF; rw [← flt_tq]; exact h
theorem HasF.below {w w' : World} {base B : Nat} {v : Value} {n : Nat} {zs : List Int} (h : HasF w base v n zs) (hb : Below B w w') (hB : w.heap.size ≤ B) : HasF w' base v n zs := own_below h hb hB
theorem HasF.form {w : World} {base : Nat} {v : Value} {n : Nat} {zs : List Int} (h : HasF w base v n zs) (hz : zs.length = n * 2) : ∃ a cap, v = .slice a n cap ∧ (0 < n → ∃ g, a = some ⟨g, 0, none⟩ ∧ base ≤ g ∧ g < w.heap.size) := by
  obtain ⟨hl, h⟩ := h
  rcases h with ⟨rfl, h⟩ | ⟨g, cap, cur, rfl, hg, hc, hn, hm, hs, ht⟩
  · exact ⟨_, _, by rw [h], fun hp => by omega⟩
  · exact ⟨_, cap, rfl, fun hp => ⟨g, rfl, hg, (Array.getElem?_eq_some_iff.1 hc).1⟩⟩
set_option maxHeartbeats 1000000 in
theorem markT_own (v : Value) (zs : List Int) (k : Int) (base n : Nat) (w : World) (h : HasF w base v n zs) (hz : zs.length = n * 2) (hn : n ≤ 2000000) (hk0 : 0 ≤ k) (hk1 : k ≤ 1000000) :
    Calls Try.prog 14 #[v, .int .i64 k] w fun e w' => e = .returned (.int .i64 (k + zs.length)) ∧ HasF w' base v n (marked k zs zs.length) ∧ w.grownBy w' v.ownBlock := by
  obtain ⟨a, ca, rfl, hg⟩ := h.form hz
  rcases Nat.eq_zero_or_pos n with h0 | hp
  · subst h0
    have hz0 : zs = [] := List.length_eq_zero_iff.1 (by omega)
    subst hz0
    have HH : Hid (HasF w base (.slice a 0 ca) 0 []) := h
    clear h hg
    go_enter Try.func14, Try.ntmps14
    go_wp2
    go_loop [1, 5] (fun m i => i = .int .i64 0 ∧ m = .int .i64 k) (fun _ _ => 0)
    case atStart => exact ⟨rfl, rfl⟩
    case round =>
      obtain ⟨rfl, rfl⟩ := hrel
      go_wp2
      go_ret
      exact ⟨Ln.ret_int (by simp), HH.out, World.grownBy.refl _ _⟩
  · obtain ⟨g, rfl, hgb, hgl⟩ := hg hp
    have HH : Hid (HasF w base (.slice (some ⟨g, 0, none⟩) n ca) n zs) := h
    clear h hg
    go_enter Try.func14, Try.ntmps14
    go_wp2
    go_loopw [1, 5] (fun m i w1 => ∃ j : Nat, j ≤ n ∧ i = .int .i64 j ∧ m = .int .i64 (k + 2 * j) ∧ Hid (HasF w1 base (.slice (some ⟨g, 0, none⟩) n ca) n (marked k zs (j * 2))) ∧ w.grownBy w1 (some g)) (fun _ i _ => n - (intOf i).toNat)
    case atStart => exact ⟨0, Nat.zero_le _, rfl, Ln.val_int (by simp), HH, World.grownBy.refl _ _⟩
    case round =>
      obtain ⟨j, hj, rfl, rfl, hh, hbel⟩ := hrel
      by_cases hlt : j < n
      · have hh' : wr.ownsRow base 50 2 (.slice (some ⟨g, 0, none⟩) n ca) n ((marked k zs (j * 2)).map (Value.int .i64)) := hh.out
        have hml := marked_length k zs (j * 2)
        have hf := World.ownsRow.frozenAt hh' (j * 2)
        have hc : wr.cell? ⟨g, j * 2, none⟩ = some (.int .i64 ((marked k zs (j * 2)).getD (j * 2) 0)) := by
          rw [World.ownsRow.cellAt hh' (j * 2) (by omega)]
          simp [List.getD, List.getElem?_eq_getElem (show j * 2 < (marked k zs (j * 2)).length by omega)]
        have Hst : Hid (_ ∧ _) := World.ownsRow.stored hh' (j * 2) (.int .i64 (k + 2 * j))
        have h1 := Hst.out.1
        have hl1 : (((marked k zs (j * 2)).map (Value.int .i64)).set (j * 2) (.int .i64 (k + 2 * (j : Int)))).length = n * 2 := by simp [hml, hz]
        have hf1 := World.ownsRow.frozenAt h1 (j * 2 + 1)
        have hc1 : (wr.setCell ⟨g, j * 2, none⟩ (.int .i64 (k + 2 * (j : Int)))).cell? ⟨g, j * 2 + 1, none⟩ = some (.int .i64 ((marked k zs (j * 2)).getD (j * 2 + 1) 0)) := by
          rw [World.ownsRow.cellAt h1 (j * 2 + 1) (by omega), List.getElem?_set_ne (by omega)]
          simp [List.getD, List.getElem?_eq_getElem (show j * 2 + 1 < (marked k zs (j * 2)).length by omega)]
        have Hst2 : Hid (_ ∧ _) := World.ownsRow.stored h1 (j * 2 + 1) (.int .i64 (k + 2 * (j : Int) + 1))
        have HM : Hid ((((marked k zs (j * 2)).map (Value.int .i64)).set (j * 2) (.int .i64 (k + 2 * (j : Int)))).set (j * 2 + 1) (.int .i64 (k + 2 * (j : Int) + 1)) = (marked k zs ((j + 1) * 2)).map (Value.int .i64)) := by
          show _ = _
          rw [show (j + 1) * 2 = j * 2 + 1 + 1 by omega]
          simp only [marked, List.map_set]
          rw [show k + ((j * 2 : Nat) : Int) = k + 2 * (j : Int) by omega, show k + ((j * 2 + 1 : Nat) : Int) = k + 2 * (j : Int) + 1 by omega]
        have hin : (j : Int) < (n : Int) := by omega
        clear hh' h1 hl1 hml
        go_wp2
        go_roundw
        case rel =>
          refine ⟨j + 1, by omega, by go_num, Ln.val_int (by omega), ?_, grown_tr (grown_tr hbel Hst.out.2) Hst2.out.2⟩
          have := Hst2.out.1
          rw [HM.out] at this
          exact this
        case measure => simp [intOf]; omega
      · have hj2 : j = n := by omega
        subst hj2
        go_wp2
        go_ret
        exact ⟨Ln.ret_int (by omega), by have := hh.out; rw [← hz] at this; exact this, hbel⟩
/-- What was marked is held. -/
theorem marked_get (k : Int) (zs : List Int) (j i : Nat) (hi : i < j) (hj : j ≤ zs.length) : (marked k zs j)[i]? = some (k + (i : Int)) := by
  induction j with
  | zero => omega
  | succ j ih =>
    unfold marked
    have hl := marked_length k zs j
    rcases (show i < j ∨ i = j by omega) with h | rfl
    · rw [List.getElem?_set_ne (by omega)]; exact ih h (by omega)
    · rw [List.getElem?_set_self (by omega)]
set_option maxHeartbeats 1000000 in
theorem heldT_same (v : Value) (zs : List Int) (k : Int) (base n : Nat) (w : World) (h : HasF w base v n zs) (hz : zs.length = n * 2) (hn : n ≤ 2000000) (hk0 : 0 ≤ k) (hk1 : k ≤ 1000000) (hm : ∀ i, i < n * 2 → zs[i]? = some (k + (i : Int))) :
    Calls Try.prog 15 #[v, .int .i64 k] w fun e w' => e = .returned (.int .i64 (k + zs.length)) ∧ w' = w := by
  obtain ⟨a, ca, rfl, hg⟩ := h.form hz
  have HC : Hid (0 < n → ∃ g, a = some ⟨g, 0, none⟩ ∧ ∀ i, i < n * 2 → w.cell? ⟨g, i, none⟩ = some (.int .i64 (k + (i : Int)))) := fun hp => by
    obtain ⟨g, rfl, -, -⟩ := hg hp
    refine ⟨g, rfl, fun i hi => ?_⟩
    rw [World.ownsRow.cellAt h i (by omega), List.getElem?_map, hm i hi]
    rfl
  clear h hg hm
  go_enter Try.func15, Try.ntmps15
  go_wp2
  go_loop [1, 5] (fun m i => ∃ j : Nat, j ≤ n ∧ i = .int .i64 j ∧ m = .int .i64 (k + 2 * j)) (fun _ i => n - (intOf i).toNat)
  case atStart => exact ⟨0, Nat.zero_le _, rfl, Ln.val_int (by simp)⟩
  case round =>
    obtain ⟨j, hj, rfl, rfl⟩ := hrel
    by_cases hlt : j < n
    · obtain ⟨g, rfl, hc⟩ := HC.out (by omega)
      have c0 := hc (j * 2) (by omega)
      have c1 := hc (j * 2 + 1) (by omega)
      rw [show k + ((j * 2 : Nat) : Int) = k + 2 * (j : Int) by omega] at c0
      rw [show k + ((j * 2 + 1 : Nat) : Int) = k + 2 * (j : Int) + 1 by omega] at c1
      have hin : (j : Int) < (n : Int) := by omega
      clear hc HC
      go_wp2
      go_round
      case rel => exact ⟨j + 1, by omega, by go_num, Ln.val_int (by omega)⟩
      case measure => simp [intOf]; omega
    · have hj2 : j = n := by omega
      subst hj2
      go_wp2
      go_ret
      exact ⟨Ln.ret_int (by omega), rfl⟩
end Go.Proofs.Ytlbkhiphnllfpam
