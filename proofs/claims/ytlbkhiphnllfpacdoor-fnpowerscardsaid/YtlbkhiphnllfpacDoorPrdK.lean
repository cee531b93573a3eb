/-
  What Product, Square and PowerOf of the program answer, walked.
-/
import Derived.Test.YtlbkhiphnllfpacDoorPrdJ
namespace Go.Proofs.YtlbkhiphnllfpacDoor
open Go.RowKit Go.Shelf
set_option linter.unusedVariables false
attribute [local go_sem] Oper.semAt_some
theorem iprod_no (a b : Int) (w : World) (hT : Tab w) (a0 : 0 ≤ a) (a1 : a ≤ 18446744073709551615) (b0 : 0 ≤ b) (b1 : b ≤ 18446744073709551615) (k : Ln.okB 0 a = false ∨ Ln.okB 0 b = false) :
    Calls Tryd.prog 14 #[.int .u64 a, .int .u64 b] w fun e w' => e = .returned (.tuple #[.int .u64 0, .int .u64 0, .bool false]) ∧ w' = w := by
  have Ho : Hid ((Ln.okB 0 a && Ln.okB 0 b) = false) := by rw [Hid]; rcases k with h | h <;> simp [h]
  have HT : Hid (Tab w) := hT
  clear k hT
  go_enter Tryd.func14, Tryd.ntmps14
  go_wp2_with fail
  refine (bothPlain_any a b _ HT.out a0 a1 b0 b1).mono ?_
  rintro e w1 ⟨rfl, rfl⟩
  rw [Ho.out]
  go_wp2
  go_ret3
  exact ⟨rfl, rfl⟩
theorem two_set (W : World) (q : Nat) (t : TypeId) (h l H' L' : Value) (bH : Boxed W q t h) (bL : Boxed W (q + 1) t l) :
    Boxed (W.setCell ⟨q + 1, 0, none⟩ L').drew q t h ∧ KeepsOthers W ((W.setCell ⟨q + 1, 0, none⟩ L').drew.setCell ⟨q, 0, none⟩ H') ∧ KpR q (q + 1 + 1) W ((W.setCell ⟨q + 1, 0, none⟩ L').drew.setCell ⟨q, 0, none⟩ H') ∧
      Boxed ((W.setCell ⟨q + 1, 0, none⟩ L').drew.setCell ⟨q, 0, none⟩ H') q t H' ∧ Boxed ((W.setCell ⟨q + 1, 0, none⟩ L').drew.setCell ⟨q, 0, none⟩ H') (q + 1) t L' := by
  have bH1 : Boxed (W.setCell ⟨q + 1, 0, none⟩ L').drew q t h := bH.other (by omega) L'
  have bL1 : Boxed (W.setCell ⟨q + 1, 0, none⟩ L').drew (q + 1) t L' := bL.set L'
  refine ⟨bH1, (KeepsOthers.setCell _ _ _).trans ((KeepsOthers.drew _).trans (KeepsOthers.setCell _ _ _)), ⟨((((Below.refl q W)).setCell (p := ⟨q + 1, 0, none⟩) (by show q ≤ q + 1; omega) _).drew).setCell (p := ⟨q, 0, none⟩) (Nat.le_refl _) _, ?_⟩, bH1.set _, bL1.other (by omega) _⟩
  intro k h1 h2 h3
  exact (Below.heap_setCell _ _ _ k (by show k ≠ q; omega)).trans (Below.heap_setCell _ _ _ k (by show k ≠ q + 1; omega))
theorem four_new (w : World) (t : TypeId) (v1 v2 v3 v4 : Value) : ∃ W, ((((w.alloc (.cells #[v1] t)).alloc (.cells #[v2] t)).alloc (.cells #[v3] t)).alloc (.cells #[v4] t)) = W ∧ Boxed W w.heap.size t v1 ∧ Boxed W (w.heap.size + 1) t v2 ∧ Boxed W (w.heap.size + 1 + 1) t v3 ∧ Boxed W (w.heap.size + 1 + 1 + 1) t v4 ∧
    Below w.heap.size w W ∧ W.heap.size = w.heap.size + 4 := by
  refine ⟨_, rfl, ((Boxed.new w t v1).alloc _).alloc _ |>.alloc _, ?_, ?_, ?_, ((((Below.refl _ w).alloc (Nat.le_refl _) _).alloc (by simp) _).alloc (by simp; omega) _).alloc (by simp; omega) _, by simp⟩
  · have := Boxed.new (w.alloc (.cells #[v1] t)) t v2
    rw [World.size_alloc] at this
    exact (this.alloc _).alloc _
  · have := Boxed.new ((w.alloc (.cells #[v1] t)).alloc (.cells #[v2] t)) t v3
    rw [World.size_alloc, World.size_alloc] at this
    exact this.alloc _
  · have := Boxed.new (((w.alloc (.cells #[v1] t)).alloc (.cells #[v2] t)).alloc (.cells #[v3] t)) t v4
    rw [World.size_alloc, World.size_alloc, World.size_alloc] at this
    exact this
set_option maxRecDepth 100000 in
set_option maxHeartbeats 4000000 in
theorem iprod_yes (a b : Int) (w : World) (hT : Tab w) (hz : 0 < w.heap.size) (a0 : 0 ≤ a) (a1 : a ≤ 18446744073709551615) (b0 : 0 ≤ b) (b1 : b ≤ 18446744073709551615) (ka : Ln.okB 0 a = true) (kb : Ln.okB 0 b = true) :
    Calls Tryd.prog 14 #[.int .u64 a, .int .u64 b] w fun e w' => e = .returned (.tuple #[.int .u64 (prH a b), .int .u64 (prL a b), .bool true]) ∧ Below w.heap.size w w' := by
  have HP : Hid (∀ X, Tab X → Calls Tryd.prog 19 #[.int .u64 a, .int .u64 b] X fun e w' => e = .returned (.bool true) ∧ w' = X) := fun X hX => by
    have := bothPlain_any a b X hX a0 a1 b0 b1
    rw [ka, kb] at this
    exact this
  have HT : Hid (Tab w) := hT
  clear hT
  refine (callsIn_wide (n := 4)).1 ?_
  refine callsIn_of_wp_marks Tryd.func14 rfl trivial ?_ rfl
  simp only [Tryd.ntmps14, List.size_toArray, List.length_cons, List.length_nil, Nat.reduceAdd, Nat.reduceSub, Array.replicate_succ, Array.replicate_zero, List.push_toArray, List.append_toArray, List.nil_append, List.cons_append]
  gi_wp2_with fail
  refine ⟨trivial, (callsIn_wide.2 (HP.out _ HT.out)).mono ?_⟩
  rintro e w' ⟨rfl, hw⟩
  obtain rfl := hw.symm
  gi_wp2_with fail
  refine ⟨trivial, (callsIn_wide.2 (rowsOf_any a b _)).mono ?_⟩
  rintro e w' ⟨rfl, rfl⟩
  clear HP
  gi_wp2_with fail
  obtain ⟨W0, hW0, bH0, bL0, bA0, bB0, hB0, hsz⟩ := four_new w 24 (.int .u64 0) (.int .u64 0) (.int .u64 a) (.int .u64 b)
  rw [hW0]
  have hT0 := Tab.below HT.out hB0 hz
  refine wpIn_rangeFunc_ownG rfl (by decide) (gf := 41) (lb := #[.pointer (some ⟨w.heap.size + 1 + 1, 0, none⟩), .pointer (some ⟨w.heap.size + 1 + 1 + 1, 0, none⟩)]) rfl trivial (enters_of Tryd.func41 (by kernel_rfl) rfl)
    (rows_stops (4 - 1) (by decide) (w.heap.size + 1 + 1) w.heap.size a b a0 a1 b0 b1 ka kb W0 bA0 bB0 hT0 hz (by omega)) (fun h k => KpR.trans h k) (KpR.putObj (by omega) (by omega)) (Below.refl _ _) (fun _ => rfl)
    (fun pre W => (∃ H L, Boxed W w.heap.size 24 (.int .u64 H) ∧ Boxed W (w.heap.size + 1) 24 (.int .u64 L) ∧ PI a (lv (pre.map (·.1))) pre.length H L) ∧ Below w.heap.size w W)
    (fun _ _ _ => False)
    (OwnFrom.and (Own.from (fun s X Y row hs hg hr => by obtain ⟨H, L, h1, h2, h3⟩ := hs; exact ⟨H, L, boxed_kept h1 hg hr, boxed_kept h2 hg hr, h3⟩) _) (ownFrom_below (Nat.le_refl _) (by omega)))
    (fun _ _ _ _ _ hs _ _ => hs)
    ⟨⟨0, 0, bH0, bL0, PI_zero a ka⟩, hB0⟩
    (fun x => { tmps := #[.int .u64 a, .int .u64 b, undef, undef, .int .u64 0, .int .u64 0, .bool false, .pointer (some ⟨w.heap.size, 0, none⟩), .pointer (some ⟨w.heap.size + 1, 0, none⟩), .int .u64 (mulV a x.1), .int .i64 (mulC a x.1), undef, undef, undef, .int .u64 a, .int .u64 b, .bool true, .bool false, .int .u64 a, .int .u64 b,
      .func (.func 41) #[] #[.pointer (some ⟨w.heap.size + 1 + 1, 0, none⟩), .pointer (some ⟨w.heap.size + 1 + 1 + 1, 0, none⟩)], .int .u64 (mulV a x.1), .int .i64 (mulC a x.1), undef, undef, undef, undef, undef, undef, undef, undef, undef, undef, undef, undef, undef, undef, undef, undef, undef, undef, undef, undef], defers := [] }) ?assign ?body ?done ?stop
  case assign =>
    intro l x W K hK
    unfold encR
    gi_wp2
    exact hK
  case body =>
    clear hT0 bH0 bL0 bA0 bB0 hB0
    rintro l pre x W ⟨⟨H, L, bH, bL, hPI⟩, hB⟩ hlen
    have hcH := bH.cell
    have hcL := bL.cell
    have hfH := bH.frozen
    have hfL := bL.frozen
    have hmx : Tryd.prog.follows .mixedOrders = true := by kernel_rfl
    have hx := x.2
    obtain ⟨hlv, hPI'⟩ := PI_step a _ pre.length H L x.1 ka hlen hx.1 hx.2 hPI
    obtain ⟨kH, kL, uH, uL, _⟩ := hPI
    have hV : 0 ≤ addV H (mulV a x.1) false ∧ addV H (mulV a x.1) false ≤ 18446744073709551615 := by unfold addV; exact Sm_u64 _ (sdF_nine _ _ _)
    have kV : Ln.okB 0 (addV H (mulV a x.1) false) = true := by unfold addV; exact ok_Sm _ (sdF_nine _ _ _)
    have hs0 := ok_nine _ kV 0 (by decide)
    have hc := mulC_bd a x.1 ka hx.1 (by omega)
    have hTW : Hid (Tab W) := Tab.below HT.out hB hz
    have hAD : Hid (∀ X, Tab X → Calls Tryd.prog 26 #[.int .u64 H, .int .u64 (mulV a x.1), .bool false] X fun e w' => e = .returned (.tuple #[.int .u64 (addV H (mulV a x.1) false), .bool (addC H (mulV a x.1) false), .bool true]) ∧ w' = X) := fun X hX =>
      iadd_yes H (mulV a x.1) false X hX uH.1 uH.2 (mulV_bd a x.1).1 (mulV_bd a x.1).2 kH (mulV_ok a x.1)
    have hLA : Hid (∀ X, Calls Tryd.prog 35 #[.int .u64 (addV H (mulV a x.1) false), .int .i64 0] X fun e w' => e = .returned (.int .u64 (Ln.ln (addV H (mulV a x.1) false) 0)) ∧ w' = X) := fun X => laneAt_any _ _ 0 X rfl (by decide) hV.1 hV.2
    have hD1 : Hid (∀ X, Calls Tryd.prog 34 #[.int .u64 L, .int .u64 (Ln.ln (addV H (mulV a x.1) false) 0)] X fun e w' => e = .returned (.int .u64 (psh L (Ln.ln (addV H (mulV a x.1) false) 0))) ∧ w' = X) := fun X => pushDown_any L _ X uL.1 uL.2 hs0.1 hs0.2
    have hD2 : ∀ X, Calls Tryd.prog 34 #[.int .u64 (addV H (mulV a x.1) false), .int .u64 (mulC a x.1 + inI (addC H (mulV a x.1) false))] X fun e w' => e = .returned (.int .u64 (psh (addV H (mulV a x.1) false) (mulC a x.1 + inI (addC H (mulV a x.1) false)))) ∧ w' = X := fun X => pushDown_any _ _ X hV.1 hV.2 hlv.1 hlv.2
    have HPI : Hid (PI a (lv (((pre ++ [x])).map (·.1))) (pre ++ [x]).length (psh (addV H (mulV a x.1) false) (mulC a x.1 + inI (addC H (mulV a x.1) false))) (psh L (Ln.ln (addV H (mulV a x.1) false) 0))) := by
      rw [Hid, List.map_append, lv_append, List.length_append, List.length_map]
      have : lv ((([x] : List Dgt)).map (·.1)) = x.1 := by simp [lv]
      rw [this, Int.mul_comm]
      exact hPI'
    clear hPI' kH kL kV uH uL
    generalize psh (addV H (mulV a x.1) false) (mulC a x.1 + inI (addC H (mulV a x.1) false)) = H' at *
    generalize psh L (Ln.ln (addV H (mulV a x.1) false) 0) = L' at *
    generalize Ln.ln (addV H (mulV a x.1) false) 0 = s0 at *
    generalize addV H (mulV a x.1) false = V at *
    generalize addC H (mulV a x.1) false = o at *
    generalize mulV a x.1 = m at *
    generalize mulC a x.1 = c at *
    cases o with
    | false =>
      rw [show c + inI false = c from Int.add_zero c] at hlv hD2
      have hPD : Hid (∀ X, Calls Tryd.prog 34 #[.int .u64 V, .int .u64 (c)] X fun e w' => e = .returned (.int .u64 H') ∧ w' = X) := hD2
      clear hD2
      gi_wp2_with fail
      refine ⟨trivial, (CallsIn.inRound l (callsIn_wide.2 (hAD.out _ hTW.out))).mono ?_⟩
      rintro e w' ⟨rfl, hw⟩
      obtain rfl := hw.symm
      clear hAD hTW
      gi_wp2
      gi_region_with_o ((with_reducible refine And.intro ?_ ?_); exact trivial; (first | (gi_at_call 35; refine (CallsIn.inRound l (callsIn_wide.2 (hLA.out _))).mono ?_; clear hLA; rintro e w' ⟨rfl, rfl⟩) | (gi_at_call 34; refine (CallsIn.inRound l (callsIn_wide.2 (hD1.out _))).mono ?_; clear hD1; rintro e w' ⟨rfl, rfl⟩)))
      all_goals
        obtain ⟨b1, k1, k2, b2, b3⟩ := two_set W w.heap.size 24 _ _ (.int .u64 H') (.int .u64 L') bH bL
        have hc1 := b1.cell
        have hf1 := b1.frozen
        clear hcH hcL hfH hfL bH bL
        gi_wp2_with fail
        refine ⟨trivial, (CallsIn.inRound l (callsIn_wide.2 (hPD.out _))).mono ?_⟩
        rintro e w' ⟨rfl, hw⟩
        obtain rfl := hw.symm
        gi_wp2
        exact ⟨k1.from _, k2, ⟨H', L', b2, b3, HPI.out⟩, hB.trans k2.1⟩
    | true =>
      rw [show c + inI true = c + 1 from rfl] at hlv hD2
      have hPD : Hid (∀ X, Calls Tryd.prog 34 #[.int .u64 V, .int .u64 (c + 1)] X fun e w' => e = .returned (.int .u64 H') ∧ w' = X) := hD2
      clear hD2
      gi_wp2_with fail
      refine ⟨trivial, (CallsIn.inRound l (callsIn_wide.2 (hAD.out _ hTW.out))).mono ?_⟩
      rintro e w' ⟨rfl, hw⟩
      obtain rfl := hw.symm
      clear hAD hTW
      gi_wp2
      gi_region_with_o ((with_reducible refine And.intro ?_ ?_); exact trivial; (first | (gi_at_call 35; refine (CallsIn.inRound l (callsIn_wide.2 (hLA.out _))).mono ?_; clear hLA; rintro e w' ⟨rfl, rfl⟩) | (gi_at_call 34; refine (CallsIn.inRound l (callsIn_wide.2 (hD1.out _))).mono ?_; clear hD1; rintro e w' ⟨rfl, rfl⟩)))
      all_goals
        obtain ⟨b1, k1, k2, b2, b3⟩ := two_set W w.heap.size 24 _ _ (.int .u64 H') (.int .u64 L') bH bL
        have hc1 := b1.cell
        have hf1 := b1.frozen
        clear hcH hcL hfH hfL bH bL
        gi_wp2_with fail
        refine ⟨trivial, (CallsIn.inRound l (callsIn_wide.2 (hPD.out _))).mono ?_⟩
        rintro e w' ⟨rfl, hw⟩
        obtain rfl := hw.symm
        gi_wp2
        exact ⟨k1.from _, k2, ⟨H', L', b2, b3, HPI.out⟩, hB.trans k2.1⟩
  case done =>
    rintro D ys W hD hS ⟨⟨H, L, bH, bL, hPI⟩, hB⟩ hK
    have hcH := bH.cell
    have hcL := bL.cell
    have hmx : Tryd.prog.follows .mixedOrders = true := by kernel_rfl
    gi_wp2
    gi_region_o
    all_goals gi_wp2
    all_goals
      have hlen : ys.length = 16 := by have := congrArg List.length hS; simpa using this
      rw [hS, lv_word b kb, hlen] at hPI
      obtain ⟨rfl, rfl⟩ := PI_end a b H L ka kb hPI
      have hK' : W.drew.heap[D]? = some (.deferred (some [])) := hK
      refine ⟨by simp, .inl ⟨_, _, rfl, run_takeDeferred hK', ?_⟩⟩
      exact ⟨_, results_tmp3 rfl _ _ _, rfl, hB.drew.trans (belowK_b (w := W0) (by omega) W.drew D _ _ hD hK' rfl rfl)⟩
  case stop =>
    rintro D c pre W _ _ h _
    exact h.elim
theorem ipow_no (a n : Int) (w : World) (hT : Tab w) (a0 : 0 ≤ a) (a1 : a ≤ 18446744073709551615) (k : Ln.okB 0 a = false ∨ n < 0 ∨ 60 < n) :
    Calls Tryd.prog 16 #[.int .u64 a, .int .i64 n] w fun e w' => e = .returned (.tuple #[.int .u64 0, .bool false]) ∧ Below w.heap.size w w' := by
  have HT : Hid (Tab w) := hT
  clear hT
  cases ka : Ln.okB 0 a with
  | false =>
    have Ka : Hid (Ln.okB 0 a = false) := ka
    clear ka k
    go_enter Tryd.func16, Tryd.ntmps16
    go_wp2_with fail
    refine (iok_plain a _ HT.out a0 a1).mono ?_
    rintro e w1 ⟨rfl, rfl⟩
    rw [Ka.out]
    go_wp2
    go_ret2
    exact ⟨rfl, Below.refl _ _⟩
  | true =>
    have Ka : Hid (Ln.okB 0 a = true) := ka
    have hn : n < 0 ∨ 60 < n := by rcases k with h | h; rw [ka] at h; cases h; exact h
    clear ka k
    rcases hn with hn | hn
    all_goals
      go_enter Tryd.func16, Tryd.ntmps16
      go_wp2_with fail
      refine (iok_plain a _ HT.out a0 a1).mono ?_
      rintro e w1 ⟨rfl, rfl⟩
      rw [Ka.out]
      go_wp2
      go_ret2
      exact ⟨rfl, Below.refl _ _⟩
theorem ipow_yes (a : Int) (n : Nat) (w : World) (hT : Tab w) (hz : 0 < w.heap.size) (a0 : 0 ≤ a) (a1 : a ≤ 18446744073709551615) (ka : Ln.okB 0 a = true) (hn : n ≤ 60) :
    Calls Tryd.prog 16 #[.int .u64 a, .int .i64 n] w fun e w' => e = .returned (.tuple #[.int .u64 (pw a n), .bool true]) ∧ Below w.heap.size w w' := by
  have Ka : Hid (Ln.okB 0 a = true) := ka
  have HT : Hid (Tab w) := hT
  clear ka hT
  go_enter Tryd.func16, Tryd.ntmps16
  go_wp2_with fail
  refine (iok_plain a _ HT.out a0 a1).mono ?_
  rintro e w1 ⟨rfl, hw⟩
  obtain rfl := hw.symm
  rw [Ka.out]
  go_wp2
  go_loopw [6, 19] (fun p iv wr => ∃ j : Nat, j ≤ n ∧ iv = .int .i64 j ∧ p = .int .u64 (pw a j) ∧ Below w.heap.size w wr) (fun _ iv _ => n - (intOf iv).toNat)
  case atStart => exact ⟨0, Nat.zero_le _, rfl, rfl, Below.refl _ _⟩
  case round =>
    obtain ⟨j, hj, rfl, rfl, hbel⟩ := hrel
    have hsz := hbel.size
    by_cases hlt : j < n
    · have hf := pw_facts a Ka.out j
      have Hk : Hid (Ln.okB 0 (pw a j) = true) := hf.1
      have hb := hf.2
      have Hs : Hid (pw a (j + 1) = prL (pw a j) a) := rfl
      clear hf
      generalize pw a j = p at *
      go_wp2_with fail
      refine (iprod_yes p a _ (Tab.below HT.out hbel hz) (by omega) hb.1 hb.2 a0 a1 Hk.out Ka.out).mono ?_
      rintro e w2 ⟨rfl, hb2⟩
      go_wp2
      go_roundw
      case rel => exact ⟨j + 1, by omega, by go_num, Ln.val_int Hs.out.symm, hbel.trans (hb2.mono hsz)⟩
      case measure => simp [intOf]; omega
    · have e : j = n := by omega
      subst e
      go_wp2
      go_ret2
      exact ⟨rfl, hbel⟩
end Go.Proofs.YtlbkhiphnllfpacDoor
