/-
  The model's unpacked words, and words made canonical, walked.
-/
import Derived.Test.YtmeicjbeibmmgadGreatDoorWrd6
import Derived.Deep.AppendLies
namespace Go.Proofs.YtmeicjbeibmmgadGreatDoor
open Go.RowKit
set_option linter.unusedVariables false
set_option maxRecDepth 100000
theorem l10Read_any (v : Value) (W : Int) (r g : Nat) (bias : Int) (n base : Nat) (w : World) (hn : n = 6 + r + 10 * g) (hr : 1 ≤ r) (hr2 : r ≤ 12) (hg : g ≤ 11) (hbi : 0 ≤ bias ∧ bias ≤ 10000) (h : HasN w base v (bl W n n)) :
    Calls Tryz.prog 22 #[v, .int .i64 r, .int .i64 g, .int .i64 bias] w fun x w' => x = .returned (numV (uK r g W) (uB r g W) (uX r g bias W) (tx (uL r g W))) ∧ Below w.heap.size w w' := by
  by_cases hc : uC r g W < 30
  · exact l10Read_fin v W r g bias n base w hn hr hr2 hg hbi h hc
  · have := uC_bd r g W
    exact l10Read_spc v W r g bias n base w hn hr hr2 hg h (by omega)
/-- What a word of Fm64 stands for. -/
abbrev num64 (W : Int) : Value := numV (uK 8 5 W) (uB 8 5 W) (uX 8 5 398 W) (tx (uL 8 5 W))
abbrev num128 (W : Int) : Value := numV (uK 12 11 W) (uB 12 11 W) (uX 12 11 6176 W) (tx (uL 12 11 W))
/-- A Num's box with nothing in it. -/
abbrev nbz (w : World) : World := w.alloc (.cells #[.int .i64 0, .bool false, .int .i64 0, .string { data := #[] }] 27)
theorem nbz_at (w : World) : At4 (nbz w) w.heap.size (.int .i64 0) (.bool false) (.int .i64 0) (.string { data := #[] }) := at4_new w _ _ _ _
theorem sUnpack64_any (W : Int) (w : World) (h0 : 0 ≤ W) (h1 : W < 18446744073709551616) :
    Calls Tryz.prog 8 #[.int .u64 W] w fun x w' => x = .returned (num64 W) ∧ Below w.heap.size w w' := by
  have HZ : Hid (At4 (nbz w) w.heap.size (.int .i64 0) (.bool false) (.int .i64 0) (.string { data := #[] }) ∧ Below w.heap.size w (nbz w)) := ⟨nbz_at w, (Below.refl _ _).alloc (Nat.le_refl _) _⟩
  go_enter Tryz.func8, Tryz.ntmps8
  go_wp2_with fail
  refine (l10Split_any W _ h0 h1).mono ?_
  rintro x w1 ⟨v, rfl, hv, hb1⟩
  have HZ1 : Hid (At4 w1 w.heap.size (.int .i64 0) (.bool false) (.int .i64 0) (.string { data := #[] }) ∧ Below w.heap.size w w1) := ⟨HZ.out.1.below hb1 (by simp), HZ.out.2.trans (hb1.mono (by simp))⟩
  have hs1 : w.heap.size + 1 ≤ w1.heap.size := by have := hb1.size; simpa using this
  clear hb1 HZ
  go_wp2_with fail
  refine (l10Read_any v W 8 5 398 64 _ _ rfl (by decide) (by decide) (by decide) (by decide) hv).mono ?_
  rintro x w2 ⟨rfl, hb2⟩
  have HZ2 : Hid (At4 w2 w.heap.size (.int .i64 0) (.bool false) (.int .i64 0) (.string { data := #[] }) ∧ Below w.heap.size w w2) := ⟨HZ1.out.1.below hb2 (by omega), HZ1.out.2.trans (hb2.mono (by omega))⟩
  clear hb2 HZ1 hv
  obtain ⟨d0, d1, d2, d3, d4⟩ := HZ2.out.1
  have d40 := d4 0
  have d41 := d4 1
  have d42 := d4 2
  have d43 := d4 3
  clear d4
  go_wp2
  have hP := HZ2.out.1.put (.int .i64 (uK 8 5 W)) (.bool (uB 8 5 W)) (.int .i64 (uX 8 5 398 W)) (.string (tx (uL 8 5 W)))
  refine bodyPost_ret (results_num rfl _ _ rfl hP.1 hP.2.1 hP.2.2.1 hP.2.2.2.1) rfl ?_
  exact ⟨rfl, bel_four HZ2.out.2 (Nat.le_refl _) _ _ _ _⟩
/-- A word made canonical. -/
def canW (W : Int) : Int := pkW 8 5 398 (uK 8 5 W) (uB 8 5 W) (uX 8 5 398 W) (uL 8 5 W)
theorem sCanonWord_any (W : Int) (w : World) (h0 : 0 ≤ W) (h1 : W < 18446744073709551616) :
    Calls Tryz.prog 9 #[.int .u64 W] w fun x w' => x = .returned (.int .u64 (canW W)) ∧ Below w.heap.size w w' := by
  go_enter Tryz.func9, Tryz.ntmps9
  go_wp2_with fail
  refine (sUnpack64_any W _ h0 h1).mono ?_
  rintro x w1 ⟨rfl, hb1⟩
  have hs1 := hb1.size
  go_wp2_with fail
  refine (sPack64_yes _ _ _ _ _ (up_right 8 5 398 W)).mono ?_
  rintro x w2 ⟨rfl, hb2⟩
  have HB : Hid (Below w.heap.size w w2) := hb1.trans (hb2.mono hs1)
  clear hb1 hb2
  go_wp2
  go_ret
  exact ⟨rfl, HB.out⟩
/-- The boxes of a Wide and of a Num behind it. -/
abbrev wbz (w : World) (hi lo : Int) : World := (w.alloc (.cells #[.int .u64 hi, .int .u64 lo] 32)).alloc (.cells #[.int .i64 0, .bool false, .int .i64 0, .string { data := #[] }] 27)
def WS (w : World) (hi lo : Int) (W : World) : Prop := Below (w.heap.size + 2) (wbz w hi lo) W
theorem WS.next {w W w1 : World} {hi lo : Int} (h : WS w hi lo W) (hb : Below W.heap.size W w1) : WS w hi lo w1 := by
  have hs := h.size
  unfold WS at *
  exact h.trans (hb.mono (by simpa using hs))
theorem WS.cells {w W : World} {hi lo : Int} (h : WS w hi lo W) : W.cell? ⟨w.heap.size, 0, none⟩ = some (.int .u64 hi) ∧ W.cell? ⟨w.heap.size, 1, none⟩ = some (.int .u64 lo) := by
  refine ⟨(h.cell (p := ⟨w.heap.size, 0, none⟩) (by simp)).trans ?_, (h.cell (p := ⟨w.heap.size, 1, none⟩) (by simp)).trans ?_⟩ <;> simp [wbz]
theorem WS.room {w W : World} {hi lo : Int} (h : WS w hi lo W) : w.heap.size + 2 ≤ W.heap.size := by
  have hs := h.size
  simpa using hs
theorem WS.num {w W : World} {hi lo : Int} (h : WS w hi lo W) : At4 W (w.heap.size + 1) (.int .i64 0) (.bool false) (.int .i64 0) (.string { data := #[] }) := by
  have := at4_new (w.alloc (.cells #[.int .u64 hi, .int .u64 lo] 32)) (.int .i64 0) (.bool false) (.int .i64 0) (.string { data := #[] })
  have h2 : At4 (wbz w hi lo) (w.heap.size + 1) (.int .i64 0) (.bool false) (.int .i64 0) (.string { data := #[] }) := by simpa using this
  exact h2.below h (by omega)
theorem WS.out {w W : World} {hi lo : Int} (h : WS w hi lo W) : Below w.heap.size w W := (((Below.refl _ _).alloc (Nat.le_refl _) _).alloc (by simp) _).trans (Below.mono h (by omega))
/-- An append of one slice of the call's own to another, in a region that draws its order. -/
theorem step_app {w : World} {ops : Array Oper} {o : Oper} {a : Act} {K : Act → World → Prop} {Q : Exit → Act → World → Prop} {E : Prop} (hgd : o.guard = none) (s x : Operand)
    (ho : o.op = .call { callee := .builtin .append, args := #[s, x], argTypes := #[48, 48] }) (vd vs : Value) (hs : a.eval s = vd) (hx : a.eval x = vs)
    (base b2 : Nat) (X Y : List Int) (hX : HasN w base vd X) (hY : HasN w b2 vs Y) (hp : 0 < Y.length) (hlen : X.length + Y.length ≤ 1000000) (hbase : base ≤ w.heap.size)
    (h : ∀ v' w', Hid (HasN w' base v' (X ++ Y)) → Hid (∀ B w0, Below B w0 w → B ≤ base → Below B w0 w') → K (a.put o.dst v') w') :
    if Region.wanted o (yielded ops a.tmps) = true then Oper.wp Tryz.prog o a w K Q else E := by
  obtain ⟨i0, hi, hz0, hz1, hz2⟩ := info_parts info64
  obtain ⟨g, cap, rfl, hb, hl, hc⟩ := hY.form
  refine step_append_lies (P := Tryz.prog) w hgd s x 48 ho base 2 i0 (.int .i64 0) 1 8 Tryz.underlying48 hi hz0 hz1 hz2 rfl (by decide) vd X.length (X.map (Value.int .i64)) hs hX.1 ⟨g, 0, none⟩ Y.length cap (Y.map (Value.int .i64)) hx (by simp) (fun j u hu => ?_) (fun u hu => ?_) hp (by unfold maxLen; omega) (by omega) hbase _ rfl ?_
  · have hj : j < Y.length := by
      have := (List.getElem?_eq_some_iff.1 hu).1
      simpa using this
    rw [show (⟨g, 0, none⟩ : Addr).add j = ⟨g, j, none⟩ by unfold Addr.add; split <;> simp_all, hc j hj, ← hu]
    simp [List.getD, List.getElem?_eq_getElem hj]
  · obtain ⟨y, -, rfl⟩ := List.mem_map.1 hu
    rfl
  · intro g' cap' w' hown hgrow hat hgl
    refine h _ w' ⟨?_, by simp⟩ (fun B w0 hB hle => Below.grown hB hgrow (Nat.le_trans hle hbase) (fun k hk => Nat.le_trans hle (hX.own k hk)))
    unfold Has
    simpa using hown
theorem WS.app {w W w1 : World} {hi lo : Int} (h : WS w hi lo W) (hb : ∀ B w0, Below B w0 W → B ≤ w.heap.size + 2 → Below B w0 w1) : WS w hi lo w1 := hb _ _ h (Nat.le_refl _)
set_option maxRecDepth 100000 in
set_option maxHeartbeats 4000000 in
theorem sUnpack128_any (hi lo : Int) (w : World) (h0 : 0 ≤ hi) (h1 : hi < 18446744073709551616) (l0 : 0 ≤ lo) (l1 : lo < 18446744073709551616) :
    Calls Tryz.prog 13 #[wideV hi lo] w fun x w' => x = .returned (num128 (hi * 18446744073709551616 + lo)) ∧ Below w.heap.size w w' := by
  have HW : Hid (WS w hi lo (wbz w hi lo).drew) := (Below.refl _ _).drew
  have HSa : Hid (∀ X, Calls Tryz.prog 23 #[.int .u64 hi] X fun e w' => ∃ v, e = .returned v ∧ HasN w' X.heap.size v (bl hi 64 64) ∧ Below X.heap.size X w') := fun X => l10Split_any hi X h0 h1
  have HSb : Hid (∀ X, Calls Tryz.prog 23 #[.int .u64 lo] X fun e w' => ∃ v, e = .returned v ∧ HasN w' X.heap.size v (bl lo 64 64) ∧ Below X.heap.size X w') := fun X => l10Split_any lo X l0 l1
  have HT : Hid (bl hi 64 64 ++ bl lo 64 64 = bl (hi * 18446744073709551616 + lo) 128 128) := bl_two hi lo 64 64 l0 (by rw [show (2 : Int) ^ 64 = 18446744073709551616 by decide]; exact l1)
  generalize hLA : bl hi 64 64 = LA at *
  generalize hLB : bl lo 64 64 = LB at *
  have HLA : Hid (LA.length = 64 ∧ LB.length = 64) := by rw [← hLA, ← hLB]; exact ⟨bl_len _ _ _, bl_len _ _ _⟩
  clear hLA hLB h0 h1 l0 l1
  have HR : Hid (∀ v X base, HasN X base v (LA ++ LB) → Calls Tryz.prog 22 #[v, .int .i64 12, .int .i64 11, .int .i64 6176] X fun x w' => x = .returned (num128 (hi * 18446744073709551616 + lo)) ∧ Below X.heap.size X w') := fun v X base h => by
    rw [HT.out] at h
    exact l10Read_any v _ 12 11 6176 128 base X rfl (by decide) (by decide) (by decide) (by decide) h
  have hcc0 := HW.out.cells
  have c0 : (wbz w hi lo).cell? ⟨w.heap.size, 0, none⟩ = some (.int .u64 hi) := hcc0.1
  have c1 : (wbz w hi lo).cell? ⟨w.heap.size, 1, none⟩ = some (.int .u64 lo) := hcc0.2
  go_enter Tryz.func13, Tryz.ntmps13
  go_wp2
  go_region_held3 (fun W => W.cell? ⟨w.heap.size, 0, none⟩ = some (.int .u64 hi) ∧ W.cell? ⟨w.heap.size, 1, none⟩ = some (.int .u64 lo))
    (first | exact hcc | exact hcc0 | go_keep)
    (first
      | (go_at_call 23; (with_reducible refine (HSa.out _).mono ?_); rintro e wA ⟨va, rfl, hva, hba⟩;
          (first
            | (have hWS2 : Hid (WS w hi lo wA) := hWS.out.next hba; have HVB2 : Hid (HasN wA (w.heap.size + 2) vb LB) := hvb.out.below hba (Nat.le_refl _); have HVA : Hid (HasN wA (w.heap.size + 2) va LA) := hva.mono hWS.out.room; have hcc := hWS2.out.cells; clear hva hba)
            | (have hWS : Hid (WS w hi lo wA) := HW.out.next hba; have hva : Hid (HasN wA (w.heap.size + 2) va LA) := hva.mono HW.out.room; have hcc := hWS.out.cells; clear hba)))
      | (go_at_call 23; (with_reducible refine (HSb.out _).mono ?_); rintro e wB ⟨vb, rfl, hvb, hbb⟩;
          (first
            | (have hWS2 : Hid (WS w hi lo wB) := hWS.out.next hbb; have HVA : Hid (HasN wB (w.heap.size + 2) va LA) := hva.out.below hbb (Nat.le_refl _); have HVB2 : Hid (HasN wB (w.heap.size + 2) vb LB) := hvb.mono hWS.out.room; have hcc := hWS2.out.cells; clear hvb hbb)
            | (have hWS : Hid (WS w hi lo wB) := HW.out.next hbb; have hvb : Hid (HasN wB (w.heap.size + 2) vb LB) := hvb.mono HW.out.room; have hcc := hWS.out.cells; clear hbb)))
      | (refine step_app (by rfl) _ _ (by rfl) _ _ (by rfl) (by rfl) (w.heap.size + 2) (w.heap.size + 2) LA LB HVA.out HVB2.out (by have := HLA.out; omega) (by have := HLA.out; omega) hWS2.out.room ?_; intro v3 w3 h3 hb3; have hWS3 : Hid (WS w hi lo w3) := hWS2.out.app hb3.out; have hcc := hWS3.out.cells; clear hb3)
      | (go_at_call 22; refine (HR.out _ _ _ h3.out).mono ?_; rintro e w4 ⟨rfl, hb4⟩; have hWS4 : Hid (WS w hi lo w4) := hWS3.out.next hb4; have hcc := hWS4.out.cells; obtain ⟨d0, d1, d2, d3, d4⟩ := hWS4.out.num; have d40 := d4 0; have d41 := d4 1; have d42 := d4 2; have d43 := d4 3; clear d4 hb4))
  all_goals
    go_wp2
    have hP := hWS4.out.num.put (.int .i64 (uK 12 11 (hi * 18446744073709551616 + lo))) (.bool (uB 12 11 (hi * 18446744073709551616 + lo))) (.int .i64 (uX 12 11 6176 (hi * 18446744073709551616 + lo))) (.string (tx (uL 12 11 (hi * 18446744073709551616 + lo))))
    refine bodyPost_ret (results_num rfl _ _ rfl hP.1 hP.2.1 hP.2.2.1 hP.2.2.2.1) rfl ?_
    exact ⟨rfl, bel_four hWS4.out.out (Nat.le_succ _) _ _ _ _⟩
end Go.Proofs.YtmeicjbeibmmgadGreatDoor
