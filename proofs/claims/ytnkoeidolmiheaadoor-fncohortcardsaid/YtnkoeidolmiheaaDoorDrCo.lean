/-
  The draws of a format and a number, walked: Cohort.
-/
import Derived.Test.YtnkoeidolmiheaaDoorDrawNm
import Derived.Test.YtnkoeidolmiheaaDoorDrawFt
import Derived.Test.YtnkoeidolmiheaaDoorChz
import Derived.Deep.DeepCutAuto
namespace Go.Proofs.YtnkoeidolmiheaaDoor
open Go.RowKit
set_option linter.unusedVariables false
set_option maxRecDepth 100000
theorem grown_bel2 {w w1 : World} (h : Below w.heap.size w w1) (r : Option Nat) : w.grownBy w1 r := ⟨h.os, h.tape, h.output, h.size, fun k hk _ => h.block k hk⟩
theorem cur_bel2 {B cb : Nat} {w w' : World} (h : Cur B w cb) (bel : Below w.heap.size w w') : Cur B w' cb := by
  obtain ⟨a, len, cap, i, h, hB, hcb, hlen, hi, hby, c0, c1, c2, f1, f2⟩ := h
  refine ⟨a, len, cap, i, h, hB, Nat.lt_of_lt_of_le hcb bel.size, hlen, hi, hby.grown (grown_bel2 bel (some cb)) hB, ?_, ?_, ?_, ?_, ?_⟩
  · exact (bel.cell (p := ⟨cb, 0, none⟩) hcb).trans c0
  · exact (bel.cell (p := ⟨cb, 1, none⟩) hcb).trans c1
  · exact (bel.cell (p := ⟨cb, 2, none⟩) hcb).trans c2
  · exact (bel.frozen (p := ⟨cb, 1, none⟩) hcb).trans f1
  · exact (bel.frozen (p := ⟨cb, 2, none⟩) hcb).trans f2
/-- The answer's box. -/
def A1 (w W : World) : Prop := At4 W w.heap.size (.int .i64 0) (.bool false) (.int .i64 0) (.string { data := #[] }) ∧ Below w.heap.size w W ∧ w.heap.size + 1 ≤ W.heap.size
abbrev a1W (w : World) : World := w.alloc (.cells #[.int .i64 0, .bool false, .int .i64 0, .string { data := #[] }] 25)
theorem a1_new (w : World) : A1 w (a1W w) ∧ (a1W w).heap.size = w.heap.size + 1 := by
  have h1 := at4_new w (.int .i64 0) (.bool false) (.int .i64 0) (.string { data := #[] })
  have z1 : (a1W w).heap.size = w.heap.size + 1 := new_sizez w (.cells #[.int .i64 0, .bool false, .int .i64 0, .string { data := #[] }] 25)
  have b1 : Below w.heap.size w (a1W w) := (Below.refl _ _).alloc (Nat.le_refl _) _
  exact ⟨⟨h1, b1, by omega⟩, z1⟩
theorem A1.next {w W W' : World} (h : A1 w W) (hb : Below W.heap.size W W') : A1 w W' := ⟨h.1.below hb (by have := h.2.2; omega), h.2.1.trans (hb.mono h.2.1.size), Nat.le_trans h.2.2 hb.size⟩
theorem A1.draw {w W W' : World} {cb : Nat} (h : A1 w W) (hg : W.grownBy W' (some cb)) (hc : w.heap.size + 1 ≤ cb) : A1 w W' :=
  ⟨h.1.grown hg (by omega) (by have := h.2.2; omega), Below.grown h.2.1 hg h.2.1.size (fun q hq => by cases hq; omega), Nat.le_trans h.2.2 hg.size⟩
theorem A1.fin {w W : World} (h : A1 w W) (x y z u : Value) : At4 ((((W.setCell ⟨w.heap.size, 0, none⟩ x).setCell ⟨w.heap.size, 1, none⟩ y).setCell ⟨w.heap.size, 2, none⟩ z).setCell ⟨w.heap.size, 3, none⟩ u) w.heap.size x y z u ∧ Below w.heap.size w ((((W.setCell ⟨w.heap.size, 0, none⟩ x).setCell ⟨w.heap.size, 1, none⟩ y).setCell ⟨w.heap.size, 2, none⟩ z).setCell ⟨w.heap.size, 3, none⟩ u) :=
  ⟨h.1.put x y z u, (((h.2.1.setCell (Nat.le_refl _) _).setCell (Nat.le_refl _) _).setCell (Nat.le_refl _) _).setCell (Nat.le_refl _) _⟩
theorem At4.one1 {W : World} {b : Nat} {x y z u : Value} (h : At4 W b x y z u) (v : Value) : At4 (W.setCell ⟨b, 1, none⟩ v) b x v z u := by
  obtain ⟨h0, h1, h2, h3, h4⟩ := h
  refine ⟨?_, World.cell?_setCell_same _ _ _ h1, ?_, ?_, fun i => by rw [World.frozen?_setCell]; exact h4 i⟩
  · rw [World.cell?_setCell_other _ _ _ _ (by simp)]; exact h0
  · rw [World.cell?_setCell_other _ _ _ _ (by simp)]; exact h2
  · rw [World.cell?_setCell_other _ _ _ _ (by simp)]; exact h3
/-- A number in its box pa, the answer's box, the cursor. -/
def Q1 (w : World) (cb pa : Nat) (k : Int) (n : Bool) (e : Int) (s : ByteArray) (W : World) : Prop :=
  At4 W pa (.int .i64 k) (.bool n) (.int .i64 e) (.string s) ∧ A1 w W ∧ Cur cb W cb ∧ w.heap.size + 1 ≤ cb ∧ cb < pa ∧ pa < W.heap.size
section
variable {w W W' : World} {cb pa : Nat} {k : Int} {n : Bool} {e : Int} {s : ByteArray}
theorem Q1.draw (h : Q1 w cb pa k n e s W) (hc : Cur cb W' cb) (hg : W.grownBy W' (some cb)) : Q1 w cb pa k n e s W' := by
  obtain ⟨h1, h2, h3, l1, l2, l3⟩ := h
  exact ⟨h1.grown hg (by omega) (by omega), h2.draw hg l1, hc, l1, l2, Nat.lt_of_lt_of_le l3 hg.size⟩
theorem Q1.next (h : Q1 w cb pa k n e s W) (hb : Below W.heap.size W W') : Q1 w cb pa k n e s W' := by
  obtain ⟨h1, h2, h3, l1, l2, l3⟩ := h
  exact ⟨h1.below hb (by omega), h2.next hb, cur_bel2 h3 hb, l1, l2, Nat.lt_of_lt_of_le l3 hb.size⟩
theorem A1.far (h : A1 w W) {q : Nat} (hq : w.heap.size + 1 ≤ q) (i : Nat) (v : Value) : A1 w (W.setCell ⟨q, i, none⟩ v) :=
  ⟨h.1.far (by omega) _ _, h.2.1.setCell (show w.heap.size ≤ q by omega) _, by have := h.2.2; simpa using this⟩
theorem Q1.set1 (h : Q1 w cb pa k n e s W) (v : Bool) : Q1 w cb pa k v e s (W.setCell ⟨pa, 1, none⟩ (.bool v)) := by
  obtain ⟨h1, h2, h3, l1, l2, l3⟩ := h
  exact ⟨h1.one1 _, h2.far (by omega) _ _, cur_far h3 (by omega) _ _, l1, l2, by simpa using l3⟩
theorem Q1.set2 (h : Q1 w cb pa k n e s W) (v : Int) : Q1 w cb pa k n v s (W.setCell ⟨pa, 2, none⟩ (.int .i64 v)) := by
  obtain ⟨h1, h2, h3, l1, l2, l3⟩ := h
  exact ⟨h1.put2 _, h2.far (by omega) _ _, cur_far h3 (by omega) _ _, l1, l2, by simpa using l3⟩
theorem Q1.set3 (h : Q1 w cb pa k n e s W) (v : ByteArray) : Q1 w cb pa k n e v (W.setCell ⟨pa, 3, none⟩ (.string v)) := by
  obtain ⟨h1, h2, h3, l1, l2, l3⟩ := h
  exact ⟨h1.set3 _, h2.far (by omega) _ _, cur_far h3 (by omega) _ _, l1, l2, by simpa using l3⟩
theorem Q1.alloc (h : Q1 w cb pa k n e s W) (o : Obj) : Q1 w cb pa k n e s (W.alloc o) := h.next ((Below.refl _ _).alloc (Nat.le_refl _) _)
theorem Q1.drew (h : Q1 w cb pa k n e s W) : Q1 w cb pa k n e s W.drew := by
  obtain ⟨h1, h2, h3, h4⟩ := h
  exact ⟨h1, ⟨h2.1, h2.2.1.drew, h2.2.2⟩, h3, h4⟩
theorem Q1.turn (h : Q1 w cb pa k n e s W) (k' : Int) (n' : Bool) (e' : Int) (s' : ByteArray) : Q1 w cb pa k' n' e' s' ((((W.setCell ⟨pa, 0, none⟩ (.int .i64 k')).setCell ⟨pa, 1, none⟩ (.bool n')).setCell ⟨pa, 2, none⟩ (.int .i64 e')).setCell ⟨pa, 3, none⟩ (.string s')) := by
  obtain ⟨h1, h2, h3, l1, l2, l3⟩ := h
  have hq : w.heap.size + 1 ≤ pa := by omega
  exact ⟨h1.put _ _ _ _, (((h2.far hq _ _).far hq _ _).far hq _ _).far hq _ _, cur_far (cur_far (cur_far (cur_far h3 (by omega) _ _) (by omega) _ _) (by omega) _ _) (by omega) _ _, l1, l2, by simpa using l3⟩
end
theorem q1_new (w W : World) (cb : Nat) (hA : A1 w W) (hc : Cur cb W cb) (hcb : w.heap.size + 1 ≤ cb) (k : Int) (n : Bool) (e : Int) (s : ByteArray) :
    Q1 w cb W.heap.size k n e s (W.alloc (.cells #[.int .i64 k, .bool n, .int .i64 e, .string s] 25)) := by
  have hlt := hc.lt.2
  have h1 := at4_new W (.int .i64 k) (.bool n) (.int .i64 e) (.string s)
  have z1 := new_sizez W (.cells #[.int .i64 k, .bool n, .int .i64 e, .string s] 25)
  have b1 : Below W.heap.size W (W.alloc (.cells #[.int .i64 k, .bool n, .int .i64 e, .string s] 25)) := (Below.refl _ _).alloc (Nat.le_refl _) _
  exact ⟨h1, hA.next b1, cur_bel2 hc b1, hcb, hlt, by omega⟩
theorem A1.find {w W : World} (h : A1 w W) (x y z u : Value) : At4 (((((W.setCell ⟨w.heap.size, 0, none⟩ x).setCell ⟨w.heap.size, 1, none⟩ y).setCell ⟨w.heap.size, 2, none⟩ z).setCell ⟨w.heap.size, 3, none⟩ u).drew) w.heap.size x y z u ∧ Below w.heap.size w (((((W.setCell ⟨w.heap.size, 0, none⟩ x).setCell ⟨w.heap.size, 1, none⟩ y).setCell ⟨w.heap.size, 2, none⟩ z).setCell ⟨w.heap.size, 3, none⟩ u).drew) :=
  by
  obtain ⟨h1, h2⟩ := h.fin x y z u
  generalize ((((W.setCell ⟨w.heap.size, 0, none⟩ x).setCell ⟨w.heap.size, 1, none⟩ y).setCell ⟨w.heap.size, 2, none⟩ z).setCell ⟨w.heap.size, 3, none⟩ u) = X at *
  exact ⟨h1, h2.drew⟩
theorem results_f1n {fn : Func} {t1 p : Tmp} {b : Nat} {x y z u : Value} (h : fn.results = #[.tmp t1, .cell p 25]) (tmps : Array Value) (w : World) (hp : tmps[p]?.getD undef = .pointer (some ⟨b, 0, none⟩)) (h1 : At4 w b x y z u) : (results fn tmps).run Tryd.prog w = .ok (.tuple #[tmps.getD t1 undef, .agg #[x, y, z, u]]) w := by
  obtain ⟨a0, a1, a2, a3, -⟩ := h1
  unfold results
  rw [h]
  simp [hp, go_sem, a0, a1, a2, a3]
theorem lim_bds (f : Int) : 0 ≤ limP f ∧ limP f ≤ 34 ∧ -6176 ≤ limL f ∧ limL f ≤ 0 ∧ 0 ≤ limH f ∧ limH f ≤ 6111 := by
  unfold limP limL limH
  split <;> (try split) <;> omega
abbrev co5 : Array Value := #[.string { data := #[49] }, .string { data := #[49, 48, 48] }, .string { data := #[49, 50, 48, 48] }, .string { data := #[55] }, .string { data := #[53, 48, 48, 48, 48, 48, 48, 48, 48, 48] }]
theorem co5_at (i : Int) (h0 : 0 ≤ i) (h1 : i < 5) : ∃ v : ByteArray, co5[i.toNat]? = some (.string v) ∧ v.size ≤ 340 := by
  rcases (show i = 0 ∨ i = 1 ∨ i = 2 ∨ i = 3 ∨ i = 4 by omega) with rfl | rfl | rfl | rfl | rfl
  · exact ⟨_, rfl, by decide⟩
  · exact ⟨_, rfl, by decide⟩
  · exact ⟨_, rfl, by decide⟩
  · exact ⟨_, rfl, by decide⟩
  · exact ⟨_, rfl, by decide⟩
theorem ce5_at (a b c d e : Int) (i : Int) (h0 : 0 ≤ i) (h1 : i < 5) : ∃ v : Int, (#[.int .i64 a, .int .i64 b, .int .i64 c, .int .i64 d, .int .i64 e] : Array Value)[i.toNat]? = some (.int .i64 v) := by
  rcases (show i = 0 ∨ i = 1 ∨ i = 2 ∨ i = 3 ∨ i = 4 by omega) with rfl | rfl | rfl | rfl | rfl
  · exact ⟨_, rfl⟩
  · exact ⟨_, rfl⟩
  · exact ⟨_, rfl⟩
  · exact ⟨_, rfl⟩
  · exact ⟨_, rfl⟩
set_option maxRecDepth 100000 in
set_option maxHeartbeats 4000000 in
theorem DrawCohort_any (a : Option Addr) (len cap : Nat) (w : World) (hl : len ≤ 4096) (hb : Bytes w.heap.size w a len) :
    Calls Tryd.prog 5 #[.slice a len cap] w fun r w' => ∃ (f : Int) (ka : Int) (na : Bool) (ea : Int) (sa : ByteArray), r = .returned (.tuple #[.int .i64 f, numV ka na ea sa]) ∧ sa.size ≤ 340 ∧ Below w.heap.size w w' := by
  obtain ⟨hA, hsz⟩ := a1_new w
  have hB : Hid (Bytes (a1W w).heap.size (a1W w) a len) := bytes_bel hb hA.2.1
  have HA : Hid (A1 w (a1W w)) := hA
  have HSz : Hid ((a1W w).heap.size = w.heap.size + 1) := hsz
  clear hb hA hsz
  go_enter Tryd.func5, Tryd.ntmps5
  go_wp2_with fail
  refine (l1New_any a len cap _ hl hB.out).mono ?_
  rintro e w0 ⟨he, hc0, hb0⟩
  rw [HSz.out] at he hc0
  subst he
  have HA0 : Hid (A1 w w0) := HA.out.next hb0
  clear hb0 HA hB HSz
  go_wp2_with fail
  refine (l10DrawFormat_any _ _ _ hc0).mono ?_
  rintro e w1 ⟨f, rfl, hc1, hg1⟩
  have HA1 : Hid (A1 w w1) := HA0.out.draw hg1 (Nat.le_refl _)
  clear hg1 hc0 HA0
  go_wp2_with fail
  refine (l10DrawNum_any _ _ f _ hc1).mono ?_
  rintro e w3 ⟨ka, na, ea, sa, rfl, -, -, sz, hc3, hg3⟩
  have HSz : Hid (sa.size ≤ 340) := sz
  have HQ : Hid (Q1 w (w.heap.size + 1) w3.heap.size ka na ea sa (w3.alloc (.cells #[.int .i64 ka, .bool na, .int .i64 ea, .string sa] 25))) := q1_new w w3 _ (HA1.out.draw hg3 (Nat.le_refl _)) hc3 (Nat.le_refl _) ka na ea sa
  clear hg3 hc1 hc3 HA1 sz
  go_upto_region 4 with fail
  generalize (w3.alloc (.cells #[.int .i64 ka, .bool na, .int .i64 ea, .string sa] 25)) = w4 at *
  generalize w3.heap.size = pa at *
  generalize hcb : w.heap.size + 1 = cb at *
  have HCb : Hid (w.heap.size + 1 = cb) := hcb
  clear hcb
  have HLm : Hid (∀ X, Calls Tryd.prog 14 #[.int .i64 f] X fun r w' => r = .returned (.tuple #[.int .i64 (limP f), .int .i64 (limL f), .int .i64 (limH f)]) ∧ w' = X) := fun X => Limits_any f X
  obtain ⟨p0, p1, l0, l1, h0, h1⟩ := lim_bds f
  generalize limP f = P at *
  generalize limL f = L at *
  generalize limH f = H at *
  have wl : IntKind.i64.wrap (L + 3) = L + 3 := by rw [IntKind.wrap_i64]; omega
  have wh : IntKind.i64.wrap (H - 2) = H - 2 := by rw [IntKind.wrap_i64]; omega
  clear p0 p1 l0 l1 h0 h1
  go_wp2_with fail
  refine (HLm.out _).mono ?_
  rintro x wq ⟨rfl, rfl⟩
  clear HLm
  go_upto_region 5 with fail
  go_cut [29] (fun s wx => ∃ bb : Bool, s = .bool bb ∧ Hid (Q1 w cb pa ka na ea sa wx))
  case first =>
    go_wp2_with fail
    refine (l1Once_any cb cb 3 _ HQ.out.2.2.1 (by decide) (by decide)).mono ?_
    rintro x w5 ⟨b2, rfl, hc5, hg5⟩
    have HQ3 : Hid (Q1 w cb pa ka na ea sa w5) := HQ.out.draw hc5 hg5
    clear hc5 hg5 HQ
    obtain ⟨a0, a1, a2, a3, -⟩ := HQ3.out.1
    cases b2
    all_goals
      go_wp2
      go_meet
      case rel => exact ⟨_, rfl, HQ3⟩
  case rest =>
    obtain ⟨bb, rfl, HQ3⟩ := hcut
    clear HQ
    go_upto_if 29 with fail
    go_cut [] (fun wx => ∃ e s, Hid (s.size ≤ 340) ∧ Hid (Q1 w cb pa ka na e s wx))
    case first =>
      cases bb
      case false =>
        go_wp2
        go_meet
        case rel => exact ⟨_, _, HSz, HQ3⟩
      case true =>
        have Hcbw : Hid (cb < wc.heap.size) := by obtain ⟨-, -, -, q1, q2, q3⟩ := HQ3.out; rw [Hid]; omega
        go_wp2_with fail
        refine (l1Below_any cb cb 5 _ (cur_alloc HQ3.out.2.2.1 _) (by decide) (by decide)).mono ?_
        rintro x w9 ⟨y, rfl, y0, y1, hc9, hg9⟩
        obtain ⟨v, hv, hvs⟩ := co5_at y y0 y1
        have HVs : Hid (v.size ≤ 340) := hvs
        have hcell := lit_at (arr := co5) hg9 Hcbw.out y.toNat _ hv
        have HQ9 : Hid (Q1 w cb pa ka na ea sa w9) := (HQ3.out.alloc _).draw hc9 hg9
        clear hc9 hg9 hv hvs HQ3
        obtain ⟨a0, a1, a2, a3, a4⟩ := HQ9.out.1
        have a43 := a4 3
        clear a4
        have HQA : Hid (Q1 w cb pa ka na ea v (w9.setCell ⟨pa, 3, none⟩ (.string v))) := HQ9.out.set3 _
        go_upto_region 7 with fail
        generalize w9.setCell ⟨pa, 3, none⟩ (.string v) = wA at *
        clear hcell a0 a1 a2 a3 a43 HQ9 Hcbw
        have Hcbw : Hid (cb < wA.heap.size) := by obtain ⟨-, -, -, q1, q2, q3⟩ := HQA.out; rw [Hid]; omega
        go_wp2_with fail
        refine (l1Below_any cb cb 5 _ (cur_alloc HQA.out.2.2.1 _) (by decide) (by decide)).mono ?_
        rintro x wB ⟨z, rfl, z0, z1, hcB, hgB⟩
        obtain ⟨v2, hv2⟩ := ce5_at 0 L H (L + 3) (H - 2) z z0 z1
        have hcell := lit_at (arr := #[.int .i64 0, .int .i64 L, .int .i64 H, .int .i64 (L + 3), .int .i64 (H - 2)]) hgB Hcbw.out z.toNat _ hv2
        have HQB : Hid (Q1 w cb pa ka na ea v wB) := (HQA.out.alloc _).draw hcB hgB
        clear hcB hgB hv2 HQA
        obtain ⟨a0, a1, a2, a3, a4⟩ := HQB.out.1
        have a42 := a4 2
        clear a4
        go_wp2
        go_meet
        case rel => exact ⟨_, _, HVs, HQB.out.set2 _⟩
    case rest =>
      obtain ⟨e, s, HSs, HQ6⟩ := hcut
      clear HQ3
      obtain ⟨⟨a0, a1, a2, a3, -⟩, ⟨⟨d0, d1, d2, d3, d4⟩, -⟩, -, m1, m2, -⟩ := HQ6.out
      have d40 := d4 0
      have d41 := d4 1
      have d42 := d4 2
      have d43 := d4 3
      have n0 : w.heap.size ≠ pa := by omega
      have n4 : pa ≠ w.heap.size := by omega
      clear d4 m1 m2
      go_upto_region 8 with fail
      go_region
      have HP := A1.find HQ6.out.2.1 (.int .i64 ka) (.bool na) (.int .i64 e) (.string s)
      clear n0 n4 a0 a1 a2 a3 d0 d1 d2 d3 d40 d41 d42 d43
      go_wp2
      refine bodyPost_ret (results_f1n rfl _ _ rfl HP.1) rfl ?_
      exact ⟨f, ka, na, e, s, rfl, HSs.out, HP.2⟩
end Go.Proofs.YtnkoeidolmiheaaDoor
