/-
  Whether a digit holds at the points, and what the model tells of a cell, walked.
-/
import Derived.BigQuiet
import Derived.Test.YtlbkhiphnllfpalCel2
namespace Go.Proofs.Ytlbkhiphnllfpal
open Go.RowKit
set_option linter.unusedVariables false
/-- The digit k holds at a point. -/
def hld (a U T k : Int) (p : Pt) : Bool := !(decide (9 * p.2.1 * U < (9 * k - a) * (p.1 * T)) || decide ((9 * k + a) * (p.1 * T) < 9 * p.2.1 * U))
def hlds (a U T k : Int) (l : List Pt) : Bool := l.all (hld a U T k)
/-- How great the numbers of points are. -/
def Bd (l : List Pt) : Prop := ∀ p ∈ l, (0 ≤ p.1 ∧ p.1 ≤ 1000000000) ∧ (-10000000000 ≤ p.2.1 ∧ p.2.1 ≤ 10000000000)
theorem HasP.form {w : World} {base : Nat} {v : Value} {pts : List Pt} (h : HasP w base v pts) (hp : 0 < pts.length) :
    ∃ g cap, v = .slice (some ⟨g, 0, none⟩) pts.length cap ∧ g < w.heap.size ∧ (∀ i p, pts[i]? = some p → w.cell? ⟨g, i * 3, none⟩ = some (.int .i64 p.1) ∧ w.cell? ⟨g, i * 3 + 1, none⟩ = some (.int .i64 p.2.1)) := by
  have h0 := h
  obtain ⟨hl, h⟩ := h
  rcases h with ⟨rfl, h⟩ | ⟨g, cap, cur, rfl, hg, hc, hn, hm, hs, ht⟩
  · omega
  · refine ⟨g, cap, rfl, (Array.getElem?_eq_some_iff.1 hc).1, fun i p hi => ?_⟩
    have hlt : i < pts.length := (List.getElem?_eq_some_iff.1 hi).1
    have hat := pl_at pts i p hi
    exact ⟨by rw [World.ownsRow.cellAt h0 (i * 3) (by omega)]; exact hat.1, by rw [World.ownsRow.cellAt h0 (i * 3 + 1) (by omega)]; exact hat.2.1⟩
theorem HasP.len {w : World} {base : Nat} {v : Value} {pts : List Pt} (h : HasP w base v pts) : ∃ a cap, v = .slice a pts.length cap := by
  rcases h.2 with ⟨rfl, h0⟩ | ⟨g, cap, _, rfl, _⟩
  · exact ⟨_, _, by rw [h0]⟩
  · exact ⟨_, _, rfl⟩
theorem HasP.below {w w' : World} {base B : Nat} {v : Value} {pts : List Pt} (h : HasP w base v pts) (hb : Below B w w') (hB : w.heap.size ≤ B) : HasP w' base v pts := own_below h hb hB
set_option maxRecDepth 100000 in
set_option maxHeartbeats 2000000 in
theorem l6Holds_any (v : Value) (pts : List Pt) (base : Nat) (a u t k U T : Int) (w : World) (hv : HasP w base v pts) (hb : Bd pts) (hp : 0 < pts.length) (hn : pts.length ≤ 16) (ha : 5 ≤ a ∧ a ≤ 9) (hk : -9 ≤ k ∧ k ≤ 9) (hU : 10 ≤ U ∧ U ≤ 100) (hT : 10 ≤ T ∧ T ≤ 100)
    (hu : ∀ W, Calls Try.prog 17 #[.int .i64 u] W fun e w' => e = .returned (.int .i64 U) ∧ w' = W) (ht : ∀ W, Calls Try.prog 17 #[.int .i64 t] W fun e w' => e = .returned (.int .i64 T) ∧ w' = W) :
    Calls Try.prog 23 #[v, .int .i64 a, .int .i64 u, .int .i64 t, .int .i64 k] w fun e w' => e = .returned (.bool (hlds a U T k pts)) ∧ Below w.heap.size w w' := by
  obtain ⟨g, cap, rfl, hgl, hcell⟩ := hv.form hp
  have Hu : Hid (∀ W, Calls Try.prog 17 #[.int .i64 u] W fun e w' => e = .returned (.int .i64 U) ∧ w' = W) := hu
  have Ht : Hid (∀ W, Calls Try.prog 17 #[.int .i64 t] W fun e w' => e = .returned (.int .i64 T) ∧ w' = W) := ht
  have Hc : Hid (∀ i p, pts[i]? = some p → w.cell? ⟨g, i * 3, none⟩ = some (.int .i64 p.1) ∧ w.cell? ⟨g, i * 3 + 1, none⟩ = some (.int .i64 p.2.1)) := hcell
  have Hb : Hid (Bd pts) := hb
  clear hu ht hcell hb hv
  go_enter Try.func23, Try.ntmps23
  go_wp2
  go_loopw [11] (fun i wr => ∃ j : Nat, j ≤ pts.length ∧ i = .int .i64 j ∧ hlds a U T k (pts.take j) = true ∧ Below w.heap.size w wr) (fun i _ => pts.length - (intOf i).toNat)
  case atStart => exact ⟨0, Nat.zero_le _, rfl, by simp [hlds], Below.refl _ _⟩
  case round =>
    obtain ⟨j, hj, rfl, htk, hbel⟩ := hrel
    by_cases hlt : j < pts.length
    · have hget : pts[j]? = some pts[j] := List.getElem?_eq_getElem hlt
      have hpb := Hb.out pts[j] (List.getElem_mem hlt)
      have htk1 : hlds a U T k (pts.take (j + 1)) = (hlds a U T k (pts.take j) && hld a U T k pts[j]) := by
        unfold hlds; rw [List.take_add_one, hget, List.all_append]; simp
      obtain ⟨hc1, hc2⟩ := Hc.out j _ hget
      have hc1' := (hbel.cell (p := ⟨g, j * 3, none⟩) hgl).trans hc1
      have hc2' := (hbel.cell (p := ⟨g, j * 3 + 1, none⟩) hgl).trans hc2
      have HD : Hid (hld a U T k pts[j] = !(decide (9 * pts[j].2.1 * U < (9 * k - a) * (pts[j].1 * T)) || decide ((9 * k + a) * (pts[j].1 * T) < 9 * pts[j].2.1 * U))) := rfl
      have Hn : Hid (hld a U T k pts[j] = false → hlds a U T k pts = false) := fun h => by
        unfold hlds
        rw [List.all_eq_false]
        exact ⟨pts[j], List.getElem_mem hlt, by rw [h]; decide⟩
      have Hy : Hid (hld a U T k pts[j] = true → hlds a U T k (pts.take (j + 1)) = true) := fun h => by rw [htk1, htk, h]; rfl
      clear hc1 hc2 htk1 hget
      generalize pts[j].1 = x at *
      generalize pts[j].2.1 = y at *
      generalize hld a U T k pts[j] = hb at *
      have my := mulB (9 * y) U 90000000000 100 (by omega) (by omega) (by omega) (by omega) (by decide)
      have mx := mulB x T 1000000000 100 (by omega) (by omega) (by omega) (by omega) (by decide)
      have mx0 := Int.mul_nonneg hpb.1.1 (show 0 ≤ T by omega)
      have m1 := mulB (9 * k - a) (x * T) 90 100000000000 (by omega) (by omega) mx0 (by omega) (by decide)
      have m2 := mulB (9 * k + a) (x * T) 90 100000000000 (by omega) (by omega) mx0 (by omega) (by decide)
      have hsz := hbel.size
      have hin : (j : Int) < (pts.length : Int) := by omega
      by_cases q1 : 9 * y * U < (9 * k - a) * (x * T)
      · have hF : Hid (hb = false) := by show _ = _; rw [HD.out, decide_eq_true q1]; rfl
        clear HD Hy
        go_wp2
        go_region_with (go_at_call 17; refine (Hu.out _).mono ?_; rintro e w' ⟨rfl, rfl⟩)
        all_goals
          go_wp2
          go_region_with (go_at_call 17; refine (Ht.out _).mono ?_; rintro e w' ⟨rfl, rfl⟩)
        all_goals
          go_wp2
          go_ret
          exact ⟨Ln.ret_bool (Hn.out hF.out).symm, by first | exact hbel.drew.drew | exact hbel.drew | exact hbel⟩
      · by_cases q2 : (9 * k + a) * (x * T) < 9 * y * U
        · have hF : Hid (hb = false) := by show _ = _; rw [HD.out, decide_eq_true q2, decide_eq_false q1]; rfl
          clear HD Hy
          go_wp2
          go_region_with (go_at_call 17; refine (Hu.out _).mono ?_; rintro e w' ⟨rfl, rfl⟩)
          all_goals
            go_wp2
            go_region_with (go_at_call 17; refine (Ht.out _).mono ?_; rintro e w' ⟨rfl, rfl⟩)
          all_goals
            go_wp2
            go_ret
            exact ⟨Ln.ret_bool (Hn.out hF.out).symm, by first | exact hbel.drew.drew | exact hbel.drew | exact hbel⟩
        · have hF : Hid (hb = true) := by show _ = _; rw [HD.out, decide_eq_false q2, decide_eq_false q1]; rfl
          clear HD Hn
          go_wp2
          go_region_with (go_at_call 17; refine (Hu.out _).mono ?_; rintro e w' ⟨rfl, rfl⟩)
          all_goals
            go_wp2
            go_region_with (go_at_call 17; refine (Ht.out _).mono ?_; rintro e w' ⟨rfl, rfl⟩)
          all_goals
            go_wp2
            go_roundw
            case rel => exact ⟨j + 1, by omega, by go_num, Hy.out hF.out, by first | exact hbel.drew.drew | exact hbel.drew | exact hbel⟩
            case measure => simp [intOf]; omega
    · have e : j = pts.length := by omega
      subst e
      rw [List.take_length] at htk
      have HH : Hid (hlds a U T k pts = true) := htk
      clear htk
      go_wp2
      go_ret
      exact ⟨Ln.ret_bool HH.out.symm, hbel⟩
end Go.Proofs.Ytlbkhiphnllfpal
