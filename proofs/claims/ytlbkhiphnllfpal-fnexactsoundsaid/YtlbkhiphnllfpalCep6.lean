/-
  A column of the program: the cells of a divisor that have a digit, as a map whose keys are structs, walked.
-/
import Derived.Maps.OwnSet
import Derived.DeepKeys4
import Derived.Test.YtlbkhiphnllfpalCep5
namespace Go.Proofs.Ytlbkhiphnllfpal
open Go.RowKit Go.Maps
set_option linter.unusedVariables false
theorem laid6 : laidOutB Try.prog = true := by kernel_rfl
theorem rowCell : (37 : TypeId) < Try.prog.types.size := of_decide_eq_true (by kernel_rfl)
theorem wideCell : (match Try.prog.underlying 37 with | some (.array _ _) | some (.struct _) => true | _ => false) = true := by kernel_rfl
theorem lawCell : Keyed Try.prog 37 := Keyed.of_law (deep_law_laid laid6 (m := 2) (by omega) rowCell (by kernel_rfl) wideCell)
theorem zeroI (w : World) : (zeroValue 2).run Try.prog w = .ok (.int .i64 0) w := by kernel_rfl
/-- What a cell reads as, as a key. -/
def kc (D Y : Int) : Lit := .string (keyBytes [.int .i64 D, .int .i64 Y])
theorem key_cell (D Y : Int) (hD : (Lit.int .i64 D).wf = true) (hY : (Lit.int .i64 Y).wf = true) : keyOf Try.prog 37 (.agg #[.int .i64 D, .int .i64 Y]) = some (kc D Y) := by
  have hkt : Try.prog.keyType 37 = true := by kernel_rfl
  have hc : Try.prog.cellsOf 37 = 2 := by kernel_rfl
  have hc1 : Try.prog.cellsOf 2 = 1 := by kernel_rfl
  obtain ⟨m, hm⟩ : ∃ m, Try.prog.types.size = m + 1 := ⟨_, (Nat.succ_pred_eq_of_pos (Nat.lt_of_le_of_lt (Nat.zero_le _) rowCell)).symm⟩
  unfold keyOf
  simp only [Try.underlying37]
  rw [if_pos (by simp [hkt, Value.formed, Try.underlying37, hc]), hm]
  unfold Program.keyLits
  simp only [Try.underlying37, Value.cells]
  rw [if_pos ⟨by rw [hc]; rfl, by simp⟩]
  simp [hc1, Program.keyLits, Try.underlying2, hD, hY, kc]
theorem kc_ne (D Y y : Int) (hD : (Lit.int .i64 D).wf = true) (hY : (Lit.int .i64 Y).wf = true) (hy : (Lit.int .i64 y).wf = true) (h : y ≠ Y) : kc D y ≠ kc D Y := fun e => by
  have k1 := key_cell D Y hD hY
  have k2 := key_cell D y hD hy
  rw [e] at k2
  have := lawCell.inj k1 k2
  simp at this
  exact h this.symm
theorem has_put (M : DataW Unit) (hM : IsMap M) (D Y y : Int) (d : DataW Unit) (hD : (Lit.int .i64 D).wf = true) (hY : (Lit.int .i64 Y).wf = true) (hy : (Lit.int .i64 y).wf = true) : Maps.has (M.put (kc D Y) d) (kc D y) = (decide (y = Y) || Maps.has M (kc D y)) := by
  by_cases h : y = Y
  · rw [h, has_put_same hM (lawCell.key (key_cell D Y hD hY)), decide_eq_true rfl]; rfl
  · rw [has_put_other (kc_ne D Y y hD hY hy h), decide_eq_false h]; rfl
theorem own_map_below {w w' : World} {k : TypeId} {R : Value → Option (DataW Unit × List MemPlace)} {b n : Nat} {D : DataW Unit} (h : w.ownsMap Try.prog k R b n D) (hb : Below w.heap.size w w') : w'.ownsMap Try.prog k R b n D := by
  have hlt := h.lt
  obtain ⟨es, clock, h1, h2, h3, h4⟩ := h
  exact ⟨es, clock, (hb.block b hlt).trans h1, h2, h3, h4⟩
theorem At3.grown {W w1 : World} {b : Nat} {x y z : Value} {row : Option Nat} (h : At3 W b x y z) (hg : W.grownBy w1 row) (hne : some b ≠ row) : At3 w1 b x y z := by
  have hlt := World.block_lt_of_cell? W _ h.1
  have hbk := hg.block b hlt hne
  exact ⟨(World.cell?_of_block (a := ⟨b, 0, none⟩) hbk).trans h.1, (World.cell?_of_block (a := ⟨b, 1, none⟩) hbk).trans h.2.1, (World.cell?_of_block (a := ⟨b, 2, none⟩) hbk).trans h.2.2⟩
/-- What the column holds behind the cells below y. -/
def ColM (M : DataW Unit) (a U T D lo y : Int) : Prop := ∀ z, (Lit.int .i64 z).wf = true → Maps.has M (kc D z) = decide ((lo ≤ z ∧ z < y) ∧ (cel a U T D z).1 = 0)
theorem colM_more (M : DataW Unit) (a U T D lo y : Int) (d : DataW Unit) (h : ColM M a U T D lo y) (hM : IsMap M) (hlo : lo ≤ y) (hD : (Lit.int .i64 D).wf = true) (hy : (Lit.int .i64 y).wf = true) (hc : (cel a U T D y).1 = 0) : ColM (M.put (kc D y) d) a U T D lo (y + 1) := fun z hz => by
  rw [has_put M hM D y z d hD hy hz, h z hz]
  by_cases e : z = y
  · subst e; rw [decide_eq_true rfl, decide_eq_true (show (lo ≤ z ∧ z < z + 1) ∧ (cel a U T D z).1 = 0 from ⟨⟨hlo, by omega⟩, hc⟩)]; rfl
  · rw [decide_eq_false e, Bool.false_or]
    exact decide_eq_decide.2 ⟨fun h => ⟨by omega, h.2⟩, fun h => ⟨by omega, h.2⟩⟩
theorem colM_same (M : DataW Unit) (a U T D lo y : Int) (h : ColM M a U T D lo y) (hc : (cel a U T D y).1 ≠ 0) : ColM M a U T D lo (y + 1) := fun z hz => by
  rw [h z hz]
  by_cases e : z = y
  · subst e; exact decide_eq_decide.2 ⟨fun h => absurd h.2 hc, fun h => absurd h.2 hc⟩
  · exact decide_eq_decide.2 ⟨fun h => ⟨by omega, h.2⟩, fun h => ⟨by omega, h.2⟩⟩
theorem colM_none (a U T D lo : Int) : ColM (.map []) a U T D lo lo := fun z hz => by
  rw [decide_eq_false (by omega)]; rfl
set_option maxRecDepth 100000 in
set_option maxHeartbeats 2000000 in
theorem columnOf_any (a u t D U T : Int) (w : World) (hp : prm a u t = true) (hr : rgd u D = true) (eU : U = 10 ^ u.toNat) (eT : T = 10 ^ t.toNat) :
    Calls Try.prog 20 #[.agg #[.int .i64 a, .int .i64 u, .int .i64 t], .int .i64 D] w fun e w' => ∃ m n M, e = .returned (.map (some m)) ∧ w'.ownsMap Try.prog 37 (plainElem (H := Unit) Try.prog 2) m n M ∧ ColM M a U T D (-(bnd a u t D) - 2) (bnd a u t D + 1) ∧ Below w.heap.size w w' := by
  obtain ⟨ha, hu, ht⟩ := prm_parts a u t hp
  have hbb := bnd_bd a u t D hp hr
  have hDb := rgd_bd u D hu hr
  have hDw : (Lit.int .i64 D).wf = true := WalkArith.wf_i64 (by omega)
  have H1 : Hid (∀ W, Calls Try.prog 14 #[.agg #[.int .i64 a, .int .i64 u, .int .i64 t], .int .i64 D] W fun e w' => e = .returned (.int .i64 (bnd a u t D)) ∧ Below W.heap.size W w') := fun W => bound_any a u t D W ha hu ht hr
  have H2 : Hid (∀ W, Calls Try.prog 15 #[.agg #[.int .i64 a, .int .i64 u, .int .i64 t], .int .i64 D] W fun e w' => e = .returned (.int .i64 (-(bnd a u t D) - 2)) ∧ Below W.heap.size W w') := fun W => least_any a u t D W ha hu ht hr
  have HD : Hid (∀ W Y, (-(bnd a u t D) - 2 ≤ Y ∧ Y ≤ bnd a u t D) → Calls Try.prog 16 #[.agg #[.int .i64 a, .int .i64 u, .int .i64 t], .agg #[.int .i64 D, .int .i64 Y]] W fun e w' => e = .returned (.tuple #[.int .i64 (cel a U T D Y).2, .bool (decide ((cel a U T D Y).1 = 0))]) ∧ Below W.heap.size W w') := fun W Y hY => by
    rw [eU, eT, cel_hit a u t D Y hp hr hY]
    exact digitOf_any a u t D Y _ _ W ha hu ht hDb (by omega) rfl rfl
  have HW : Hid (∀ Y, -9 ≤ (cel a U T D Y).2 ∧ (cel a U T D Y).2 ≤ 9) := fun Y => by
    rcases cel_out a U T D Y (by omega) with ⟨_, h, _⟩ | ⟨_, h, _⟩ | ⟨_, _, _, _, h1, h2⟩ <;> omega
  have HN : Hid (ColM (.map []) a U T D (-(bnd a u t D) - 2) (-(bnd a u t D) - 2)) := colM_none _ _ _ _ _
  have HMo : Hid (∀ M y d, ColM M a U T D (-(bnd a u t D) - 2) y → IsMap M → -(bnd a u t D) - 2 ≤ y → y ≤ bnd a u t D → (cel a U T D y).1 = 0 → ColM (M.put (kc D y) d) a U T D (-(bnd a u t D) - 2) (y + 1)) := fun M y d h hM h0 h1 hc => colM_more M a U T D _ y d h hM h0 hDw (WalkArith.wf_i64 (by omega)) hc
  have HMs : Hid (∀ M y, ColM M a U T D (-(bnd a u t D) - 2) y → (cel a U T D y).1 ≠ 0 → ColM M a U T D (-(bnd a u t D) - 2) (y + 1)) := fun M y h hc => colM_same M a U T D _ y h hc
  have HKey : Hid (∀ y, -(bnd a u t D) - 2 ≤ y → y ≤ bnd a u t D → keyOf Try.prog 37 (.agg #[.int .i64 D, .int .i64 y]) = some (kc D y)) := fun y h0 h1 => key_cell D y hDw (WalkArith.wf_i64 (by omega))
  have hmm := @run_makeMap Try.prog
  clear hp hr eU eT hDw
  generalize bnd a u t D = b at *
  have HS0 : Hid (At3 ((w.alloc (.cells #[.int .i64 a, .int .i64 u, .int .i64 t] 30)).alloc (.map #[] 0)) w.heap.size (.int .i64 a) (.int .i64 u) (.int .i64 t)) := (at3_new _ _ _ _ _).alloc _
  have HB0 : Hid (Below w.heap.size w ((w.alloc (.cells #[.int .i64 a, .int .i64 u, .int .i64 t] 30)).alloc (.map #[] 0))) := ((Below.refl _ _).alloc (Nat.le_refl _) _).alloc (by simp) _
  have HO0 : Hid (((w.alloc (.cells #[.int .i64 a, .int .i64 u, .int .i64 t] 30)).alloc (.map #[] 0)).ownsMap Try.prog 37 (plainElem (H := Unit) Try.prog 2) (w.heap.size + 1) 0 (.map [])) := by
    have h := World.ownsMap_made (w.alloc (.cells #[.int .i64 a, .int .i64 u, .int .i64 t] 30)) Try.prog 37 (plainElem (H := Unit) Try.prog 2)
    simpa [Hid] using h
  go_enter Try.func20, Try.ntmps20
  go_wp2_with fail
  refine (H2.out _).mono ?_
  rintro e w1 ⟨rfl, hb1⟩
  have HS1 : Hid (At3 w1 w.heap.size (.int .i64 a) (.int .i64 u) (.int .i64 t)) := HS0.out.below hb1
  have HO1 : Hid (w1.ownsMap Try.prog 37 (plainElem (H := Unit) Try.prog 2) (w.heap.size + 1) 0 (.map [])) := own_map_below HO0.out hb1
  have hB1 : Below w.heap.size w w1 := bel1 HB0.out hb1
  clear HS0 HO0 HB0 hb1 H2
  go_wp2
  go_loopw [6] (fun y wr => ∃ i : Nat, (i : Int) ≤ 2 * b + 3 ∧ y = .int .i64 (-b - 2 + (i : Int)) ∧ (∃ M, Hid (wr.ownsMap Try.prog 37 (plainElem (H := Unit) Try.prog 2) (w.heap.size + 1) i M) ∧ Hid (ColM M a U T D (-b - 2) (-b - 2 + (i : Int)))) ∧ Hid (At3 wr w.heap.size (.int .i64 a) (.int .i64 u) (.int .i64 t)) ∧ Below w.heap.size w wr) (fun y _ => (b + 1 - intOf y).toNat)
  case atStart => exact ⟨0, by omega, Ln.val_int (by omega), ⟨_, HO1, by rw [show -b - 2 + ((0 : Nat) : Int) = -b - 2 by omega]; exact HN⟩, HS1, hB1⟩
  case round =>
    clear HO1 HN HS1 hB1
    obtain ⟨i, hi2, rfl, ⟨M, HO, HM⟩, HS, hbel⟩ := hrel
    have hsz := hbel.size
    obtain ⟨q0, q1, q2⟩ := HS.out
    by_cases hit : (i : Int) < 2 * b + 3
    · obtain ⟨Y, hY⟩ : ∃ Y, Y = -b - 2 + (i : Int) := ⟨_, rfl⟩
      have hYb : -b - 2 ≤ Y ∧ Y ≤ b := by omega
      rw [← hY] at HM ⊢
      have HYi : Hid (Y = -b - 2 + (i : Int)) := hY
      have HDY : Hid (∀ W, Calls Try.prog 16 #[.agg #[.int .i64 a, .int .i64 u, .int .i64 t], .agg #[.int .i64 D, .int .i64 Y]] W fun e w' => e = .returned (.tuple #[.int .i64 (cel a U T D Y).2, .bool (decide ((cel a U T D Y).1 = 0))]) ∧ Below W.heap.size W w') := fun W => HD.out W Y hYb
      have HK := HKey.out Y hYb.1 hYb.2
      have hwf : (Lit.int .i64 (cel a U T D Y).2).wf = true := WalkArith.wf_i64 (by have := HW.out Y; omega)
      have HM1 : Hid ((cel a U T D Y).1 = 0 → ∀ d, ColM (M.put (kc D Y) d) a U T D (-b - 2) (Y + 1)) := fun hc d => HMo.out M Y d HM.out HO.out.isMap hYb.1 hYb.2 hc
      have HM2 : Hid ((cel a U T D Y).1 ≠ 0 → ColM M a U T D (-b - 2) (Y + 1)) := fun hc => HMs.out M Y HM.out hc
      clear hY HM HMo HMs HD HKey HW
      generalize (cel a U T D Y).2 = c2v at *
      by_cases hc : (cel a U T D Y).1 = 0
      · have HM3 : Hid (∀ d, ColM (M.put (kc D Y) d) a U T D (-b - 2) (Y + 1)) := HM1.out hc
        rw [decide_eq_true hc] at HDY
        clear HM1 HM2 hc
        go_wp2_with fail
        refine (H1.out _).mono ?_
        rintro e w2 ⟨rfl, hb2⟩
        have HS2 := HS.out.below hb2
        have q3 := fun o => (HS2.alloc o).1
        have q4 := fun o => (HS2.alloc o).2.1
        have q5 := fun o => (HS2.alloc o).2.2
        have HO2 := own_map_below HO.out hb2
        have hB2 : Below w.heap.size w w2 := hbel.trans (hb2.mono hsz)
        clear HS HO hb2 q0 q1 q2
        go_wp2_with fail
        refine (HDY.out _).mono ?_
        rintro e w3 ⟨rfl, hb3⟩
        have hC3 := At2.below (at2_new _ _ _ _) hb3
        obtain ⟨q6, q7⟩ := hC3
        have HS3 : Hid (At3 w3 w.heap.size (.int .i64 a) (.int .i64 u) (.int .i64 t)) := (HS2.alloc _).below hb3
        have HO3 := own_map_below (HO2.alloc _) hb3
        have hB3 : Below w.heap.size w w3 := bel1 (hB2.alloc hB2.size _) hb3
        have hs3 := hB3.size
        have hn : i < maxLen := by unfold maxLen; omega
        clear HS2 HO2 hb3 q3 q4 q5
        go_wp2_with (first | (at_mapUpdate; refine wpList_mapUpdate_own _ rfl _ _ _ 39 rfl 37 2 lawCell Try.underlying39 _ (w.heap.size + 1) i _ rfl HO3 hn _ _ _ rfl rfl HK _ [] (plainElem_int Try.underlying2 hwf) ?_; intro w4 hown4 hgrow4) | go_in)
        have hlt3 := HO3.lt
        have HB4 : Below w.heap.size w w4 := hB3.grown hgrow4 hs3 (fun k hk => by cases hk; omega)
        have HS4 : Hid (At3 w4 w.heap.size (.int .i64 a) (.int .i64 u) (.int .i64 t)) := HS3.out.grown hgrow4 (by intro e; have := Option.some.inj e; omega)
        clear hgrow4 HO3
        go_roundw
        case rel => exact ⟨i + 1, by omega, Ln.val_int (by rw [HYi.out]; omega), ⟨_, hown4, by rw [show -b - 2 + ((i + 1 : Nat) : Int) = Y + 1 by rw [HYi.out]; omega]; exact HM3.out _⟩, HS4, HB4⟩
        case measure => simp [intOf]; omega
      · have HM3 : Hid (ColM M a U T D (-b - 2) (Y + 1)) := HM2.out hc
        rw [decide_eq_false hc] at HDY
        clear HM1 HM2 hc
        go_wp2_with fail
        refine (H1.out _).mono ?_
        rintro e w2 ⟨rfl, hb2⟩
        have HS2 := HS.out.below hb2
        have q3 := fun o => (HS2.alloc o).1
        have q4 := fun o => (HS2.alloc o).2.1
        have q5 := fun o => (HS2.alloc o).2.2
        have HO2 := own_map_below HO.out hb2
        have hB2 : Below w.heap.size w w2 := hbel.trans (hb2.mono hsz)
        clear HS HO hb2 q0 q1 q2
        go_wp2_with fail
        refine (HDY.out _).mono ?_
        rintro e w3 ⟨rfl, hb3⟩
        have HS3 : Hid (At3 w3 w.heap.size (.int .i64 a) (.int .i64 u) (.int .i64 t)) := (HS2.alloc _).below hb3
        have HO3 : Hid (w3.ownsMap Try.prog 37 (plainElem (H := Unit) Try.prog 2) (w.heap.size + 1) (i + 1) M) := (own_map_below (HO2.alloc _) hb3).mono (by omega)
        have hB3 : Below w.heap.size w w3 := bel1 (hB2.alloc hB2.size _) hb3
        clear HS2 HO2 hb3 q3 q4 q5
        go_wp2
        go_roundw
        case rel => exact ⟨i + 1, by omega, Ln.val_int (by rw [HYi.out]; omega), ⟨_, HO3, by rw [show -b - 2 + ((i + 1 : Nat) : Int) = Y + 1 by rw [HYi.out]; omega]; exact HM3⟩, HS3, hB3⟩
        case measure => simp [intOf]; omega
    · have hi3 : (i : Int) = 2 * b + 3 := by omega
      have hnc : ¬ (-b - 2 + (i : Int) ≤ b) := by omega
      have HM3 : Hid (ColM M a U T D (-b - 2) (b + 1)) := by rw [show b + 1 = -b - 2 + (i : Int) by omega]; exact HM
      clear hi3 HM
      go_wp2_with fail
      refine (H1.out _).mono ?_
      rintro e w2 ⟨rfl, hb2⟩
      go_wp2
      go_ret
      exact ⟨_, _, _, rfl, own_map_below HO.out hb2, HM3.out, hbel.trans (hb2.mono hsz)⟩
end Go.Proofs.Ytlbkhiphnllfpal
