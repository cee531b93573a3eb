/-
  The laws' marks on slices of numbers, and what is held of them, walked.
-/
import Derived.Test.YtcflomcankcggatDoorNmr
namespace Go.Proofs.YtcflomcankcggatDoor
open Go.RowKit
set_option linter.unusedVariables false
set_option maxRecDepth 100000
theorem grown_bel {w w' : World} (h : Below w.heap.size w w') (row : Option Nat) : w.grownBy w' row := ⟨h.os, h.tape, h.output, h.size, fun k hk _ => h.block k hk⟩
theorem tmod3 (K : Nat) : (((K : Int) + 1) % 3 == 0) = decide ((K + 1) % 3 = 0) := by
  by_cases h : (K + 1) % 3 = 0
  · rw [decide_eq_true h]
    exact beq_iff_eq.2 (by omega)
  · rw [decide_eq_false h]
    exact beq_eq_false_iff_ne.2 (by omega)
set_option maxRecDepth 100000 in
set_option maxHeartbeats 2000000 in
theorem markN_own (v : Value) (xs : List Value) (k : Nat) (base n : Nat) (w : World) (h : HasV w base v n xs) (hz : xs.length = n * 4) (hn : n ≤ 10000) (hk0 : 0 < k) (hk1 : k ≤ 100000) :
    Calls Tryd.prog 12 #[v, .int .i64 k] w fun e w' => e = .returned (.int .i64 ((k + 4 * n : Nat) : Int)) ∧ HasV w' base v n (mrk k xs n) ∧ w.grownBy w' v.ownBlock := by
  obtain ⟨a, ca, rfl, hg⟩ := h.form hz
  rcases Nat.eq_zero_or_pos n with h0 | hp
  · subst h0
    have HH : Hid (HasV w base (.slice a 0 ca) 0 xs) := h
    clear h hg
    go_enter Tryd.func12, Tryd.ntmps12
    go_wp2
    go_loop [1, 5] (fun m i => i = .int .i64 0 ∧ m = .int .i64 k) (fun _ _ => 0)
    case atStart => exact ⟨rfl, rfl⟩
    case round =>
      obtain ⟨rfl, rfl⟩ := hrel
      go_wp2
      go_ret
      exact ⟨Ln.ret_int (by omega), HH.out, World.grownBy.refl _ _⟩
  · obtain ⟨g, rfl, hgb, hgl, -⟩ := hg hp
    have HH : Hid (HasV w base (.slice (some ⟨g, 0, none⟩) n ca) n xs) := h
    clear h hg
    go_enter Tryd.func12, Tryd.ntmps12
    go_wp2
    go_loopw [1, 5] (fun m i w1 => ∃ j : Nat, j ≤ n ∧ i = .int .i64 j ∧ m = .int .i64 ((k + 4 * j : Nat) : Int) ∧ Hid (HasV w1 base (.slice (some ⟨g, 0, none⟩) n ca) n (mrk k xs j)) ∧ Hid (w.grownBy w1 (some g))) (fun _ i _ => n - (intOf i).toNat)
    case atStart => exact ⟨0, Nat.zero_le _, rfl, Ln.val_int (by omega), HH, World.grownBy.refl _ _⟩
    case round =>
      obtain ⟨j, hj, rfl, rfl, hh, hbel⟩ := hrel
      by_cases hlt : j < n
      · obtain ⟨K, hK⟩ : ∃ K, k + 4 * j = K := ⟨_, rfl⟩
        have HKb : Hid (K < 200000) := by show _ < _; omega
        have hKb := HKb.out
        have HKe : Hid (k + 4 * j = K) := hK
        have HM : Hid (mrk k xs (j + 1) = ((((mrk k xs j).set (j * 4) (.int .i64 (K : Int))).set (j * 4 + 1) (.bool (decide ((K + 1) % 3 = 0)))).set (j * 4 + 2) (.int .i64 ((K + 2 : Nat) : Int))).set (j * 4 + 3) (.string (mkT (K + 3)))) := by rw [← hK]; rfl
        have HT : Hid (∀ X, Calls Tryd.prog 28 #[.int .i64 ((K : Int) + 1 + 1 + 1)] X fun x w' => x = .returned (.string (mkT (K + 3))) ∧ Below X.heap.size X w') := fun X => by
          have := markText_any (K + 3) (by omega) (by omega) X
          rwa [show ((K + 3 : Nat) : Int) = (K : Int) + 1 + 1 + 1 by omega] at this
        rw [hK]
        clear hK
        have hml := mrk_length k xs j
        have h0 : wr.ownsRow base 26 4 (.slice (some ⟨g, 0, none⟩) n ca) n (mrk k xs j) := hh.out
        have f0 := World.ownsRow.frozenAt h0 (j * 4)
        obtain ⟨x0, c0⟩ : ∃ x, wr.cell? ⟨g, j * 4, none⟩ = some x := ⟨_, (World.ownsRow.cellAt h0 (j * 4) (by omega)).trans (List.getElem?_eq_getElem (by omega))⟩
        have S1 : Hid (_ ∧ _) := World.ownsRow.stored h0 (j * 4) (.int .i64 (K : Int))
        have h1 := S1.out.1
        have f1 := World.ownsRow.frozenAt h1 (j * 4 + 1)
        obtain ⟨x1, c1⟩ : ∃ x, (wr.setCell ⟨g, j * 4, none⟩ (.int .i64 (K : Int))).cell? ⟨g, j * 4 + 1, none⟩ = some x := ⟨_, (World.ownsRow.cellAt h1 (j * 4 + 1) (by omega)).trans (List.getElem?_eq_getElem (by rw [List.length_set]; omega))⟩
        have S2 : Hid (_ ∧ _) := World.ownsRow.stored h1 (j * 4 + 1) (.bool (decide ((K + 1) % 3 = 0)))
        have h2 := S2.out.1
        have f2 := World.ownsRow.frozenAt h2 (j * 4 + 2)
        obtain ⟨x2, c2⟩ : ∃ x, ((wr.setCell ⟨g, j * 4, none⟩ (.int .i64 (K : Int))).setCell ⟨g, j * 4 + 1, none⟩ (.bool (decide ((K + 1) % 3 = 0)))).cell? ⟨g, j * 4 + 2, none⟩ = some x := ⟨_, (World.ownsRow.cellAt h2 (j * 4 + 2) (by omega)).trans (List.getElem?_eq_getElem (by rw [List.length_set, List.length_set]; omega))⟩
        have S3 : Hid (_ ∧ _) := World.ownsRow.stored h2 (j * 4 + 2) (.int .i64 ((K : Int) + 1 + 1))
        have hin : (j : Int) < (n : Int) := by omega
        have ht3 := tmod3 K
        generalize decide ((K + 1) % 3 = 0) = bb at *
        clear h0 h1 h2 hh
        go_wp2_with fail
        refine (HT.out _).mono ?_
        rintro x w4 ⟨rfl, hb4⟩
        have H4 : Hid (w4.ownsRow base 26 4 (.slice (some ⟨g, 0, none⟩) n ca) n ((((mrk k xs j).set (j * 4) (.int .i64 (K : Int))).set (j * 4 + 1) (.bool bb)).set (j * 4 + 2) (.int .i64 ((K : Int) + 1 + 1)))) := own_below S3.out.1 hb4 (Nat.le_refl _)
        have HG4 : Hid (w.grownBy w4 (some g)) := grown_tr (grown_tr (grown_tr (grown_tr hbel.out S1.out.2) S2.out.2) S3.out.2) (grown_bel hb4 _)
        have h4 := H4.out
        have f4 := World.ownsRow.frozenAt h4 (j * 4 + 3)
        obtain ⟨x3, c3⟩ : ∃ x, w4.cell? ⟨g, j * 4 + 3, none⟩ = some x := ⟨_, (World.ownsRow.cellAt h4 (j * 4 + 3) (by omega)).trans (List.getElem?_eq_getElem (by rw [List.length_set, List.length_set, List.length_set]; omega))⟩
        have S4 : Hid (_ ∧ _) := World.ownsRow.stored h4 (j * 4 + 3) (.string (mkT (K + 3)))
        have HV5 : Hid (HasV (w4.setCell ⟨g, j * 4 + 3, none⟩ (.string (mkT (K + 3)))) base (.slice (some ⟨g, 0, none⟩) n ca) n (mrk k xs (j + 1))) := by
          rw [HM.out]
          have := S4.out.1
          rw [show (K : Int) + 1 + 1 = ((K + 2 : Nat) : Int) by omega] at this
          exact this
        have HG5 : Hid (w.grownBy (w4.setCell ⟨g, j * 4 + 3, none⟩ (.string (mkT (K + 3)))) (some g)) := grown_tr HG4.out S4.out.2
        clear h4 H4 HG4 S4 S1 S2 S3 hb4 f0 f1 f2 c0 c1 c2 hbel HM HT
        generalize mkT (K + 3) = TT at *
        go_wp2
        go_roundw
        case rel => exact ⟨j + 1, by omega, by go_num, Ln.val_int (by have := HKe.out; omega), HV5, HG5⟩
        case measure => simp [intOf]; omega
      · have hj2 : j = n := by omega
        subst hj2
        go_wp2
        go_ret
        exact ⟨Ln.ret_int (by omega), hh.out, hbel.out⟩
set_option maxRecDepth 100000 in
set_option maxHeartbeats 2000000 in
theorem heldN_same (v : Value) (xs : List Value) (k : Nat) (base n : Nat) (w : World) (h : HasV w base v n xs) (hz : xs.length = n * 4) (hn : n ≤ 10000) (hk0 : 0 < k) (hk1 : k ≤ 100000)
    (hm : ∀ i, i < n → xs[i * 4]? = some (.int .i64 ((k + 4 * i : Nat) : Int)) ∧ xs[i * 4 + 1]? = some (.bool (decide ((k + 4 * i + 1) % 3 = 0))) ∧ xs[i * 4 + 2]? = some (.int .i64 ((k + 4 * i + 2 : Nat) : Int)) ∧ xs[i * 4 + 3]? = some (.string (mkT (k + 4 * i + 3)))) :
    Calls Tryd.prog 13 #[v, .int .i64 k] w fun e w' => e = .returned (.int .i64 ((k + 4 * n : Nat) : Int)) ∧ Below w.heap.size w w' := by
  obtain ⟨a, ca, rfl, hg⟩ := h.form hz
  have HC : Hid (0 < n → ∃ g, a = some ⟨g, 0, none⟩ ∧ g < w.heap.size ∧ ∀ i, i < n → w.cell? ⟨g, i * 4, none⟩ = some (.int .i64 ((k + 4 * i : Nat) : Int)) ∧ w.cell? ⟨g, i * 4 + 1, none⟩ = some (.bool (decide ((k + 4 * i + 1) % 3 = 0))) ∧ w.cell? ⟨g, i * 4 + 2, none⟩ = some (.int .i64 ((k + 4 * i + 2 : Nat) : Int)) ∧ w.cell? ⟨g, i * 4 + 3, none⟩ = some (.string (mkT (k + 4 * i + 3)))) := fun hp => by
    obtain ⟨g, rfl, -, hgl, hc⟩ := hg hp
    refine ⟨g, rfl, hgl, fun i hi => ?_⟩
    obtain ⟨q0, q1, q2, q3⟩ := hm i hi
    exact ⟨(hc _ (by omega)).trans q0, (hc _ (by omega)).trans q1, (hc _ (by omega)).trans q2, (hc _ (by omega)).trans q3⟩
  clear h hg hm
  go_enter Tryd.func13, Tryd.ntmps13
  go_wp2
  go_loopw [1, 5] (fun m i wx => ∃ j : Nat, j ≤ n ∧ i = .int .i64 j ∧ m = .int .i64 ((k + 4 * j : Nat) : Int) ∧ Hid (Below w.heap.size w wx)) (fun _ i _ => n - (intOf i).toNat)
  case atStart => exact ⟨0, Nat.zero_le _, rfl, Ln.val_int (by omega), Below.refl _ _⟩
  case round =>
    obtain ⟨j, hj, rfl, rfl, hbel⟩ := hrel
    by_cases hlt : j < n
    · obtain ⟨g, rfl, hgl, hc⟩ := HC.out (by omega)
      obtain ⟨q0, q1, q2, q3⟩ := hc j hlt
      obtain ⟨K, hK⟩ : ∃ K, k + 4 * j = K := ⟨_, rfl⟩
      have HKe : Hid (k + 4 * j = K) := hK
      have HKb : Hid (K < 200000) := by show _ < _; omega
      have hKb := HKb.out
      rw [hK] at q0 q1 q2 q3 ⊢
      have ht3 := tmod3 K
      rw [show ((K + 2 : Nat) : Int) = (K : Int) + 1 + 1 by omega] at q2
      generalize decide ((K + 1) % 3 = 0) = bb at *
      have HT : Hid (∀ X, Calls Tryd.prog 28 #[.int .i64 ((K : Int) + 1 + 1 + 1)] X fun x w' => x = .returned (.string (mkT (K + 3))) ∧ Below X.heap.size X w') := fun X => by
        have := markText_any (K + 3) (by omega) (by omega) X
        rwa [show ((K + 3 : Nat) : Int) = (K : Int) + 1 + 1 + 1 by omega] at this
      generalize mkT (K + 3) = TT at *
      have HQ : Hid (w.cell? ⟨g, j * 4 + 3, none⟩ = some (.string TT)) := q3
      have c0 := (hbel.out.cell (p := ⟨g, j * 4, none⟩) hgl).trans q0
      have c1 := (hbel.out.cell (p := ⟨g, j * 4 + 1, none⟩) hgl).trans q1
      have c2 := (hbel.out.cell (p := ⟨g, j * 4 + 2, none⟩) hgl).trans q2
      have hin : (j : Int) < (n : Int) := by omega
      have hgL : Hid (g < w.heap.size) := hgl
      clear hc HC hK q0 q1 q2 q3
      go_upto_region 13 with fail
      clear c0 c1 c2 ht3
      have HX0 : Hid (Below w.heap.size w wr.drew) := hbel.out.drew
      refine wp_region_class (C := Below w.heap.size w) (by kernel_rfl) (by kernel_rfl) HX0.out ?_
      repeat (refine wpQuiet_step (fun K hK => ?_); go_simp; apply Exists.intro; refine ⟨fun wx hC => ?_, hK _ ?_⟩; (first | exact rfl | exact Calls.class_of (HT.out wx) (fun w' hb => bel1 hC hb) | (have q0 := (hC.cell (p := ⟨g, j * 4 + 3, none⟩) hgL.out).trans HQ.out; go_simp; exact rfl)); clear hK K)
      refine wpQuiet_nil ?_
      intro w1 hb1
      have HB1 : Hid (Below w.heap.size w w1) := hb1
      clear hb1 HX0 hbel
      go_wp2
      go_roundw
      case rel => exact ⟨j + 1, by omega, by go_num, Ln.val_int (by have := HKe.out; omega), HB1⟩
      case measure => simp [intOf]; omega
    · have hj2 : j = n := by omega
      subst hj2
      go_wp2
      go_ret
      exact ⟨Ln.ret_int (by omega), hbel.out⟩
end Go.Proofs.YtcflomcankcggatDoor
