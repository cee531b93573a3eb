/-
  The draws of a format, a mode and three numbers, walked: Fma.
-/
import Derived.Test.YtndnoblcnjccdafGreatDoorDrAd
import Derived.Test.YtndnoblcnjccdafGreatDoorQta
import Derived.Test.YtndnoblcnjccdafGreatDoorMuP
import Derived.Test.YtndnoblcnjccdafGreatDoorMuB
namespace Go.Proofs.YtndnoblcnjccdafGreatDoor
open Go.RowKit
set_option linter.unusedVariables false
set_option maxRecDepth 100000
/-- The answers' boxes. -/
abbrev a3W (w : World) : World := (a2W w).alloc (.cells #[.int .i64 0, .bool false, .int .i64 0, .string { data := #[] }] 25)
def A3 (w W : World) : Prop := At4 W w.heap.size (.int .i64 0) (.bool false) (.int .i64 0) (.string { data := #[] }) ∧ At4 W (w.heap.size + 1) (.int .i64 0) (.bool false) (.int .i64 0) (.string { data := #[] }) ∧ At4 W (w.heap.size + 2) (.int .i64 0) (.bool false) (.int .i64 0) (.string { data := #[] }) ∧ Below w.heap.size w W ∧ w.heap.size + 3 ≤ W.heap.size
theorem a3_new (w : World) : A3 w (a3W w) ∧ (a3W w).heap.size = w.heap.size + 3 := by
  obtain ⟨⟨h1, h2, h3, h4⟩, z⟩ := a2_new w
  show A3 w ((a2W w).alloc (.cells #[.int .i64 0, .bool false, .int .i64 0, .string { data := #[] }] 25)) ∧ ((a2W w).alloc (.cells #[.int .i64 0, .bool false, .int .i64 0, .string { data := #[] }] 25)).heap.size = w.heap.size + 3
  generalize a2W w = W at *
  have g := at4_new W (.int .i64 0) (.bool false) (.int .i64 0) (.string { data := #[] })
  have z1 := new_size W (.cells #[.int .i64 0, .bool false, .int .i64 0, .string { data := #[] }] 25)
  have b1 : Below W.heap.size W (W.alloc (.cells #[.int .i64 0, .bool false, .int .i64 0, .string { data := #[] }] 25)) := (Below.refl _ _).alloc (Nat.le_refl _) _
  rw [z] at g
  exact ⟨⟨h1.below b1 (by omega), h2.below b1 (by omega), g, h3.trans (b1.mono h3.size), by omega⟩, by omega⟩
theorem A3.next {w W W' : World} (h : A3 w W) (hb : Below W.heap.size W W') : A3 w W' := ⟨h.1.below hb (by have := h.2.2.2.2; omega), h.2.1.below hb (by have := h.2.2.2.2; omega), h.2.2.1.below hb (by have := h.2.2.2.2; omega), h.2.2.2.1.trans (hb.mono h.2.2.2.1.size), Nat.le_trans h.2.2.2.2 hb.size⟩
theorem A3.draw {w W W' : World} {cb : Nat} (h : A3 w W) (hg : W.grownBy W' (some cb)) (hc : w.heap.size + 3 ≤ cb) : A3 w W' :=
  ⟨h.1.grown hg (by omega) (by have := h.2.2.2.2; omega), h.2.1.grown hg (by omega) (by have := h.2.2.2.2; omega), h.2.2.1.grown hg (by omega) (by have := h.2.2.2.2; omega), Below.grown h.2.2.2.1 hg h.2.2.2.1.size (fun q hq => by cases hq; omega), Nat.le_trans h.2.2.2.2 hg.size⟩
theorem put_far {W : World} {b b' : Nat} {x y z u : Value} (h : At4 W b x y z u) (hb : b' ≠ b) (x' y' z' u' : Value) : At4 ((((W.setCell ⟨b', 0, none⟩ x').setCell ⟨b', 1, none⟩ y').setCell ⟨b', 2, none⟩ z').setCell ⟨b', 3, none⟩ u') b x y z u := (((h.far hb 0 x').far hb 1 y').far hb 2 z').far hb 3 u'
theorem put_bel {w W : World} {B b' : Nat} (h : Below B w W) (hb : B ≤ b') (x' y' z' u' : Value) : Below B w ((((W.setCell ⟨b', 0, none⟩ x').setCell ⟨b', 1, none⟩ y').setCell ⟨b', 2, none⟩ z').setCell ⟨b', 3, none⟩ u') := (((h.setCell (show B ≤ b' from hb) _).setCell (show B ≤ b' from hb) _).setCell (show B ≤ b' from hb) _).setCell (show B ≤ b' from hb) _
theorem put_cur {W : World} {B cb b' : Nat} (h : Cur B W cb) (hb : cb < b') (x' y' z' u' : Value) : Cur B ((((W.setCell ⟨b', 0, none⟩ x').setCell ⟨b', 1, none⟩ y').setCell ⟨b', 2, none⟩ z').setCell ⟨b', 3, none⟩ u') cb := cur_far (cur_far (cur_far (cur_far h hb 0 x') hb 1 y') hb 2 z') hb 3 u'
theorem A3.fin {w W : World} (h : A3 w W) (ka : Int) (na : Bool) (ea : Int) (sa : ByteArray) (kb : Int) (nb : Bool) (eb : Int) (sb : ByteArray) (kd : Int) (nd : Bool) (ed : Int) (sd : ByteArray) :
    At4 (((((((((((((((((W).setCell ⟨w.heap.size, 0, none⟩ (.int .i64 ka)).setCell ⟨w.heap.size, 1, none⟩ (.bool na)).setCell ⟨w.heap.size, 2, none⟩ (.int .i64 ea)).setCell ⟨w.heap.size, 3, none⟩ (.string sa))).setCell ⟨w.heap.size + 1, 0, none⟩ (.int .i64 kb)).setCell ⟨w.heap.size + 1, 1, none⟩ (.bool nb)).setCell ⟨w.heap.size + 1, 2, none⟩ (.int .i64 eb)).setCell ⟨w.heap.size + 1, 3, none⟩ (.string sb))).setCell ⟨w.heap.size + 2, 0, none⟩ (.int .i64 kd)).setCell ⟨w.heap.size + 2, 1, none⟩ (.bool nd)).setCell ⟨w.heap.size + 2, 2, none⟩ (.int .i64 ed)).setCell ⟨w.heap.size + 2, 3, none⟩ (.string sd))).drew) w.heap.size (.int .i64 ka) (.bool na) (.int .i64 ea) (.string sa) ∧ At4 (((((((((((((((((W).setCell ⟨w.heap.size, 0, none⟩ (.int .i64 ka)).setCell ⟨w.heap.size, 1, none⟩ (.bool na)).setCell ⟨w.heap.size, 2, none⟩ (.int .i64 ea)).setCell ⟨w.heap.size, 3, none⟩ (.string sa))).setCell ⟨w.heap.size + 1, 0, none⟩ (.int .i64 kb)).setCell ⟨w.heap.size + 1, 1, none⟩ (.bool nb)).setCell ⟨w.heap.size + 1, 2, none⟩ (.int .i64 eb)).setCell ⟨w.heap.size + 1, 3, none⟩ (.string sb))).setCell ⟨w.heap.size + 2, 0, none⟩ (.int .i64 kd)).setCell ⟨w.heap.size + 2, 1, none⟩ (.bool nd)).setCell ⟨w.heap.size + 2, 2, none⟩ (.int .i64 ed)).setCell ⟨w.heap.size + 2, 3, none⟩ (.string sd))).drew) (w.heap.size + 1) (.int .i64 kb) (.bool nb) (.int .i64 eb) (.string sb) ∧ At4 (((((((((((((((((W).setCell ⟨w.heap.size, 0, none⟩ (.int .i64 ka)).setCell ⟨w.heap.size, 1, none⟩ (.bool na)).setCell ⟨w.heap.size, 2, none⟩ (.int .i64 ea)).setCell ⟨w.heap.size, 3, none⟩ (.string sa))).setCell ⟨w.heap.size + 1, 0, none⟩ (.int .i64 kb)).setCell ⟨w.heap.size + 1, 1, none⟩ (.bool nb)).setCell ⟨w.heap.size + 1, 2, none⟩ (.int .i64 eb)).setCell ⟨w.heap.size + 1, 3, none⟩ (.string sb))).setCell ⟨w.heap.size + 2, 0, none⟩ (.int .i64 kd)).setCell ⟨w.heap.size + 2, 1, none⟩ (.bool nd)).setCell ⟨w.heap.size + 2, 2, none⟩ (.int .i64 ed)).setCell ⟨w.heap.size + 2, 3, none⟩ (.string sd))).drew) (w.heap.size + 2) (.int .i64 kd) (.bool nd) (.int .i64 ed) (.string sd) ∧ Below w.heap.size w (((((((((((((((((W).setCell ⟨w.heap.size, 0, none⟩ (.int .i64 ka)).setCell ⟨w.heap.size, 1, none⟩ (.bool na)).setCell ⟨w.heap.size, 2, none⟩ (.int .i64 ea)).setCell ⟨w.heap.size, 3, none⟩ (.string sa))).setCell ⟨w.heap.size + 1, 0, none⟩ (.int .i64 kb)).setCell ⟨w.heap.size + 1, 1, none⟩ (.bool nb)).setCell ⟨w.heap.size + 1, 2, none⟩ (.int .i64 eb)).setCell ⟨w.heap.size + 1, 3, none⟩ (.string sb))).setCell ⟨w.heap.size + 2, 0, none⟩ (.int .i64 kd)).setCell ⟨w.heap.size + 2, 1, none⟩ (.bool nd)).setCell ⟨w.heap.size + 2, 2, none⟩ (.int .i64 ed)).setCell ⟨w.heap.size + 2, 3, none⟩ (.string sd))).drew) := by
  obtain ⟨h1, h2, h3, h4, h5⟩ := h
  have q1 := h1.put (.int .i64 ka) (.bool na) (.int .i64 ea) (.string sa)
  have q2 := put_far h2 (show w.heap.size ≠ w.heap.size + 1 by omega) (.int .i64 ka) (.bool na) (.int .i64 ea) (.string sa)
  have q3 := put_far h3 (show w.heap.size ≠ w.heap.size + 2 by omega) (.int .i64 ka) (.bool na) (.int .i64 ea) (.string sa)
  have q4 := put_bel h4 (Nat.le_refl _) (.int .i64 ka) (.bool na) (.int .i64 ea) (.string sa)
  generalize (((((W).setCell ⟨w.heap.size, 0, none⟩ (.int .i64 ka)).setCell ⟨w.heap.size, 1, none⟩ (.bool na)).setCell ⟨w.heap.size, 2, none⟩ (.int .i64 ea)).setCell ⟨w.heap.size, 3, none⟩ (.string sa)) = X at *
  have r1 := put_far q1 (show w.heap.size + 1 ≠ w.heap.size by omega) (.int .i64 kb) (.bool nb) (.int .i64 eb) (.string sb)
  have r2 := q2.put (.int .i64 kb) (.bool nb) (.int .i64 eb) (.string sb)
  have r3 := put_far q3 (show w.heap.size + 1 ≠ w.heap.size + 2 by omega) (.int .i64 kb) (.bool nb) (.int .i64 eb) (.string sb)
  have r4 := put_bel q4 (show w.heap.size ≤ w.heap.size + 1 by omega) (.int .i64 kb) (.bool nb) (.int .i64 eb) (.string sb)
  clear q1 q2 q3 q4 h1 h2 h3 h4 h5
  generalize (((((X).setCell ⟨w.heap.size + 1, 0, none⟩ (.int .i64 kb)).setCell ⟨w.heap.size + 1, 1, none⟩ (.bool nb)).setCell ⟨w.heap.size + 1, 2, none⟩ (.int .i64 eb)).setCell ⟨w.heap.size + 1, 3, none⟩ (.string sb)) = Y at *
  have s1 := put_far r1 (show w.heap.size + 2 ≠ w.heap.size by omega) (.int .i64 kd) (.bool nd) (.int .i64 ed) (.string sd)
  have s2 := put_far r2 (show w.heap.size + 2 ≠ w.heap.size + 1 by omega) (.int .i64 kd) (.bool nd) (.int .i64 ed) (.string sd)
  have s3 := r3.put (.int .i64 kd) (.bool nd) (.int .i64 ed) (.string sd)
  have s4 := put_bel r4 (show w.heap.size ≤ w.heap.size + 2 by omega) (.int .i64 kd) (.bool nd) (.int .i64 ed) (.string sd)
  clear r1 r2 r3 r4
  generalize (((((Y).setCell ⟨w.heap.size + 2, 0, none⟩ (.int .i64 kd)).setCell ⟨w.heap.size + 2, 1, none⟩ (.bool nd)).setCell ⟨w.heap.size + 2, 2, none⟩ (.int .i64 ed)).setCell ⟨w.heap.size + 2, 3, none⟩ (.string sd)) = V at *
  exact ⟨s1, s2, s3, s4.drew⟩
theorem results_fmnn {fn : Func} {t1 t2 p q r : Tmp} {b c d : Nat} {x y z u x' y' z' u' x'' y'' z'' u'' : Value} (h : fn.results = #[.tmp t1, .tmp t2, .cell p 25, .cell q 25, .cell r 25]) (tmps : Array Value) (w : World) (hp : tmps[p]?.getD undef = .pointer (some ⟨b, 0, none⟩)) (hq : tmps[q]?.getD undef = .pointer (some ⟨c, 0, none⟩)) (hr : tmps[r]?.getD undef = .pointer (some ⟨d, 0, none⟩))
    (h1 : At4 w b x y z u) (h2 : At4 w c x' y' z' u') (h3 : At4 w d x'' y'' z'' u'') : (results fn tmps).run Tryz.prog w = .ok (.tuple #[tmps.getD t1 undef, tmps.getD t2 undef, .agg #[x, y, z, u], .agg #[x', y', z', u'], .agg #[x'', y'', z'', u'']]) w := by
  obtain ⟨a0, a1, a2, a3, -⟩ := h1
  obtain ⟨c0, c1, c2, c3, -⟩ := h2
  obtain ⟨d0, d1, d2, d3, -⟩ := h3
  unfold results
  rw [h]
  simp [hp, hq, hr, go_sem, a0, a1, a2, a3, c0, c1, c2, c3, d0, d1, d2, d3]
theorem field_rs (k : Int) (b : Bool) (e : Int) (s : ByteArray) (fl : Int) (w : World) : (Instr.field 29 (rsV k b e s fl) 0).run Tryz.prog w = .ok (numV k b e s) w := by kernel_rfl
/-- Three numbers in their boxes pa, pa + 1, pd, the answers' boxes, the cursor. -/
def FT3 (w : World) (cb pa pd : Nat) (ka : Int) (na : Bool) (ea : Int) (sa : ByteArray) (kb : Int) (nb : Bool) (eb : Int) (sb : ByteArray) (kd : Int) (nd : Bool) (ed : Int) (sd : ByteArray) (W : World) : Prop :=
  At4 W pa (.int .i64 ka) (.bool na) (.int .i64 ea) (.string sa) ∧ At4 W (pa + 1) (.int .i64 kb) (.bool nb) (.int .i64 eb) (.string sb) ∧ At4 W pd (.int .i64 kd) (.bool nd) (.int .i64 ed) (.string sd) ∧ A3 w W ∧ Cur cb W cb ∧ w.heap.size + 3 ≤ cb ∧ cb < pa ∧ pa + 1 < pd ∧ pd < W.heap.size
section
variable {w W W' : World} {cb pa pd : Nat} {ka : Int} {na : Bool} {ea : Int} {sa : ByteArray} {kb : Int} {nb : Bool} {eb : Int} {sb : ByteArray} {kd : Int} {nd : Bool} {ed : Int} {sd : ByteArray}
theorem FT3.draw (h : FT3 w cb pa pd ka na ea sa kb nb eb sb kd nd ed sd W) (hc : Cur cb W' cb) (hg : W.grownBy W' (some cb)) : FT3 w cb pa pd ka na ea sa kb nb eb sb kd nd ed sd W' := by
  obtain ⟨h1, h2, h3, h4, h5, l1, l2, l3, l4⟩ := h
  exact ⟨h1.grown hg (by omega) (by omega), h2.grown hg (by omega) (by omega), h3.grown hg (by omega) (by omega), h4.draw hg (by omega), hc, l1, l2, l3, Nat.lt_of_lt_of_le l4 hg.size⟩
theorem FT3.next (h : FT3 w cb pa pd ka na ea sa kb nb eb sb kd nd ed sd W) (hb : Below W.heap.size W W') : FT3 w cb pa pd ka na ea sa kb nb eb sb kd nd ed sd W' := by
  obtain ⟨h1, h2, h3, h4, h5, l1, l2, l3, l4⟩ := h
  exact ⟨h1.below hb (by omega), h2.below hb (by omega), h3.below hb (by omega), h4.next hb, cur_bel2 h5 hb, l1, l2, l3, Nat.lt_of_lt_of_le l4 hb.size⟩
theorem FT3.put (h : FT3 w cb pa pd ka na ea sa kb nb eb sb kd nd ed sd W) (k : Int) (b : Bool) (e : Int) (s : ByteArray) : FT3 w cb pa pd ka na ea sa kb nb eb sb k b e s (((((W).setCell ⟨pd, 0, none⟩ (.int .i64 k)).setCell ⟨pd, 1, none⟩ (.bool b)).setCell ⟨pd, 2, none⟩ (.int .i64 e)).setCell ⟨pd, 3, none⟩ (.string s)) := by
  obtain ⟨h1, h2, h3, h4, h5, l1, l2, l3, l4⟩ := h
  exact ⟨put_far h1 (by omega) _ _ _ _, put_far h2 (by omega) _ _ _ _, h3.put _ _ _ _, ⟨put_far h4.1 (by omega) _ _ _ _, put_far h4.2.1 (by omega) _ _ _ _, put_far h4.2.2.1 (by omega) _ _ _ _, put_bel h4.2.2.2.1 (by omega) _ _ _ _, by have := h4.2.2.2.2; simpa using this⟩, put_cur h5 (by omega) _ _ _ _, l1, l2, l3, by simpa using l4⟩
end
/-- Two numbers in their boxes pa, pa + 1, the answers' boxes, the cursor. -/
def G2 (w : World) (cb pa : Nat) (ka : Int) (na : Bool) (ea : Int) (sa : ByteArray) (kb : Int) (nb : Bool) (eb : Int) (sb : ByteArray) (W : World) : Prop :=
  At4 W pa (.int .i64 ka) (.bool na) (.int .i64 ea) (.string sa) ∧ At4 W (pa + 1) (.int .i64 kb) (.bool nb) (.int .i64 eb) (.string sb) ∧ A3 w W ∧ Cur cb W cb ∧ w.heap.size + 3 ≤ cb ∧ cb < pa ∧ pa + 1 < W.heap.size
theorem g2_new (w W : World) (cb : Nat) (hA : A3 w W) (hc : Cur cb W cb) (hcb : w.heap.size + 3 ≤ cb) (ka : Int) (na : Bool) (ea : Int) (sa : ByteArray) (kb : Int) (nb : Bool) (eb : Int) (sb : ByteArray) :
    G2 w cb W.heap.size ka na ea sa kb nb eb sb ((W.alloc (.cells #[.int .i64 ka, .bool na, .int .i64 ea, .string sa] 25)).alloc (.cells #[.int .i64 kb, .bool nb, .int .i64 eb, .string sb] 25)) := by
  have hlt := hc.lt.2
  have h1 := at4_new W (.int .i64 ka) (.bool na) (.int .i64 ea) (.string sa)
  have z1 := new_size W (.cells #[.int .i64 ka, .bool na, .int .i64 ea, .string sa] 25)
  have b1 : Below W.heap.size W (W.alloc (.cells #[.int .i64 ka, .bool na, .int .i64 ea, .string sa] 25)) := (Below.refl _ _).alloc (Nat.le_refl _) _
  generalize W.alloc (.cells #[.int .i64 ka, .bool na, .int .i64 ea, .string sa] 25) = w4 at *
  have h2 := at4_new w4 (.int .i64 kb) (.bool nb) (.int .i64 eb) (.string sb)
  have z2 := new_size w4 (.cells #[.int .i64 kb, .bool nb, .int .i64 eb, .string sb] 25)
  have b2 : Below w4.heap.size w4 (w4.alloc (.cells #[.int .i64 kb, .bool nb, .int .i64 eb, .string sb] 25)) := (Below.refl _ _).alloc (Nat.le_refl _) _
  rw [z1] at h2
  generalize w4.alloc (.cells #[.int .i64 kb, .bool nb, .int .i64 eb, .string sb] 25) = w5 at *
  have b3 : Below W.heap.size W w5 := b1.trans (b2.mono b1.size)
  exact ⟨h1.below b2 (by omega), h2, hA.next b3, cur_bel2 hc b3, hcb, hlt, by omega⟩
theorem f3_new (w W W' : World) (cb pa : Nat) (ka : Int) (na : Bool) (ea : Int) (sa : ByteArray) (kb : Int) (nb : Bool) (eb : Int) (sb : ByteArray) (h : G2 w cb pa ka na ea sa kb nb eb sb W) (hc : Cur cb W' cb) (hg : W.grownBy W' (some cb)) (kd : Int) (nd : Bool) (ed : Int) (sd : ByteArray) :
    FT3 w cb pa W'.heap.size ka na ea sa kb nb eb sb kd nd ed sd (W'.alloc (.cells #[.int .i64 kd, .bool nd, .int .i64 ed, .string sd] 25)) := by
  obtain ⟨h1, h2, h3, h4, l1, l2, l3⟩ := h
  have g := at4_new W' (.int .i64 kd) (.bool nd) (.int .i64 ed) (.string sd)
  have z1 := new_size W' (.cells #[.int .i64 kd, .bool nd, .int .i64 ed, .string sd] 25)
  have b1 : Below W'.heap.size W' (W'.alloc (.cells #[.int .i64 kd, .bool nd, .int .i64 ed, .string sd] 25)) := (Below.refl _ _).alloc (Nat.le_refl _) _
  have hz := hg.size
  generalize W'.alloc (.cells #[.int .i64 kd, .bool nd, .int .i64 ed, .string sd] 25) = V at *
  exact ⟨(h1.grown hg (by omega) (by omega)).below b1 (by omega), (h2.grown hg (by omega) (by omega)).below b1 (by omega), g, (h3.draw hg l1).next b1, cur_bel2 hc b1, l1, l2, by omega, by omega⟩
theorem mul_size (f m : Int) (hm : 1 ≤ m ∧ m ≤ 5) (na : Bool) (ea : Int) (sa : ByteArray) (nb : Bool) (eb : Int) (sb : ByteArray) (hA : numB f 1 na ea sa = true) (hB : numB f 1 nb eb sb = true) : (mulR f m 1 (!na) ea sa 1 nb eb sb).2.2.2.1.size ≤ 4611686018427387904 := by
  have hO : addO f m 1 (!na) ea sa 1 nb eb sb = true := by
    unfold addO
    rw [show numB f 1 (!na) ea sa = true from by rw [← hA]; unfold numB; rw [if_pos rfl, if_pos rfl], hB, decide_eq_true hm]
    rfl
  have hR := mulR_right f m 1 (!na) ea sa 1 nb eb sb hO
  generalize mulR f m 1 (!na) ea sa 1 nb eb sb = R at *
  exact numB_size f _ _ _ _ hR
set_option maxRecDepth 100000 in
set_option maxHeartbeats 4000000 in
theorem DrawFma_any (a : Option Addr) (len cap : Nat) (w : World) (hl : len ≤ 4096) (hb : Bytes w.heap.size w a len) :
    Calls Tryz.prog 15 #[.slice a len cap] w fun r w' => ∃ (f m : Int) (ka : Int) (na : Bool) (ea : Int) (sa : ByteArray) (kb : Int) (nb : Bool) (eb : Int) (sb : ByteArray) (kd : Int) (nd : Bool) (ed : Int) (sd : ByteArray), r = .returned (.tuple #[.int .i64 f, .int .i64 m, numV ka na ea sa, numV kb nb eb sb, numV kd nd ed sd]) ∧ (sa.size ≤ 340 ∧ sb.size ≤ 340 ∧ sd.size ≤ 4611686018427387904) ∧ Below w.heap.size w w' := by
  obtain ⟨hA, hsz⟩ := a3_new w
  have hB : Hid (Bytes (a3W w).heap.size (a3W w) a len) := bytes_bel hb hA.2.2.2.1
  have HA : Hid (A3 w (a3W w)) := hA
  have HSz : Hid ((a3W w).heap.size = w.heap.size + 3) := hsz
  clear hb hA hsz
  go_enter Tryz.func15, Tryz.ntmps15
  go_wp2_with fail
  refine (l1New_any a len cap _ hl hB.out).mono ?_
  rintro e w0 ⟨he, hc0, hb0⟩
  rw [HSz.out] at he hc0
  subst he
  have HA0 : Hid (A3 w w0) := HA.out.next hb0
  clear hb0 HA hB HSz
  go_wp2_with fail
  refine (l10DrawFormat_any _ _ _ hc0).mono ?_
  rintro e w1 ⟨f, rfl, hc1, hg1⟩
  have HA1 : Hid (A3 w w1) := HA0.out.draw hg1 (Nat.le_refl _)
  clear hg1 hc0 HA0
  go_wp2_with fail
  refine (l12DrawMode_any _ _ _ hc1).mono ?_
  rintro e w2 ⟨m, rfl, hc2, hg2⟩
  have HA2 : Hid (A3 w w2) := HA1.out.draw hg2 (Nat.le_refl _)
  clear hg2 hc1 HA1
  go_wp2_with fail
  refine (l13DrawTwo_any _ _ f _ hc2).mono ?_
  rintro e w3 ⟨ka, na, ea, sa, kb, nb, eb, sb, rfl, ⟨-, -, -, -, sz1, sz2⟩, hc3, hg3⟩
  have hA3 : A3 w w3 := HA2.out.draw hg3 (Nat.le_refl _)
  have HS2 : Hid (sa.size ≤ 340 ∧ sb.size ≤ 340) := ⟨sz1, sz2⟩
  have HG : Hid (G2 w (w.heap.size + 3) w3.heap.size ka na ea sa kb nb eb sb ((w3.alloc (.cells #[.int .i64 ka, .bool na, .int .i64 ea, .string sa] 25)).alloc (.cells #[.int .i64 kb, .bool nb, .int .i64 eb, .string sb] 25))) := g2_new w w3 _ hA3 hc3 (Nat.le_refl _) ka na ea sa kb nb eb sb
  clear hg3 hc2 hc3 HA2 sz1 sz2 hA3
  go_upto_region 5 with fail
  generalize ((w3.alloc (.cells #[.int .i64 ka, .bool na, .int .i64 ea, .string sa] 25)).alloc (.cells #[.int .i64 kb, .bool nb, .int .i64 eb, .string sb] 25)) = w4 at *
  generalize w3.heap.size = pa at *
  generalize hcb : w.heap.size + 3 = cb at *
  clear hcb
  go_wp2_with fail
  refine (l10DrawNum_any _ _ f _ HG.out.2.2.2.1).mono ?_
  rintro e w5 ⟨kd, nd, ed, sd, rfl, -, -, sz3, hc5, hg5⟩
  have HSs : Hid (sa.size ≤ 340 ∧ sb.size ≤ 340 ∧ sd.size ≤ 4611686018427387904) := ⟨HS2.out.1, HS2.out.2, by omega⟩
  have HF : Hid (FT3 w cb pa w5.heap.size ka na ea sa kb nb eb sb kd nd ed sd (w5.alloc (.cells #[.int .i64 kd, .bool nd, .int .i64 ed, .string sd] 25))) := f3_new w w4 w5 cb pa ka na ea sa kb nb eb sb HG.out hc5 hg5 kd nd ed sd
  clear hc5 hg5 HG HS2 sz3
  go_upto_region 6 with fail
  generalize (w5.alloc (.cells #[.int .i64 kd, .bool nd, .int .i64 ed, .string sd] 25)) = w6 at *
  generalize w5.heap.size = pd at *
  go_wp2_with fail
  refine (l1Once_any cb cb 3 _ HF.out.2.2.2.2.1 (by decide) (by decide)).mono ?_
  rintro x w7 ⟨b1, rfl, hc7, hg7⟩
  have HF7 : Hid (FT3 w cb pa pd ka na ea sa kb nb eb sb kd nd ed sd w7) := HF.out.draw hc7 hg7
  clear hc7 hg7 HF
  cases b1
  case false =>
    go_upto_region 8 with fail
    try clear a0 a1 a2 a3
    try clear c0 c1 c2 c3
    obtain ⟨⟨a0, a1, a2, a3, -⟩, ⟨c0, c1, c2, c3, -⟩, ⟨f0, f1, f2, f3, -⟩, ⟨⟨d0, d1, d2, d3, d4⟩, ⟨e0, e1, e2, e3, e4⟩, ⟨g0, g1, g2, g3, g4⟩, -⟩, -, m1, m2, m3, -⟩ := HF7.out
    have d40 := d4 0
    have d41 := d4 1
    have d42 := d4 2
    have d43 := d4 3
    have e40 := e4 0
    have e41 := e4 1
    have e42 := e4 2
    have e43 := e4 3
    have g40 := g4 0
    have g41 := g4 1
    have g42 := g4 2
    have g43 := g4 3
    have n0 : w.heap.size ≠ pa := by omega
    have n1 : pa ≠ w.heap.size := by omega
    have n2 : w.heap.size ≠ pa + 1 := by omega
    have n3 : pa + 1 ≠ w.heap.size := by omega
    have n4 : w.heap.size ≠ pd := by omega
    have n5 : pd ≠ w.heap.size := by omega
    have n6 : w.heap.size + 1 ≠ pa := by omega
    have n7 : pa ≠ w.heap.size + 1 := by omega
    have n8 : w.heap.size + 1 ≠ pa + 1 := by omega
    have n9 : pa + 1 ≠ w.heap.size + 1 := by omega
    have n10 : w.heap.size + 1 ≠ pd := by omega
    have n11 : pd ≠ w.heap.size + 1 := by omega
    have n12 : w.heap.size + 2 ≠ pa := by omega
    have n13 : pa ≠ w.heap.size + 2 := by omega
    have n14 : w.heap.size + 2 ≠ pa + 1 := by omega
    have n15 : pa + 1 ≠ w.heap.size + 2 := by omega
    have n16 : w.heap.size + 2 ≠ pd := by omega
    have n17 : pd ≠ w.heap.size + 2 := by omega
    clear d4 e4 g4 m1 m2 m3
    go_region
    have HP := HF7.out.2.2.2.1.fin ka na ea sa kb nb eb sb kd nd ed sd
    clear n0 n1 n2 n3 n4 n5 n6 n7 n8 n9 n10 n11 n12 n13 n14 n15 n16 n17 a0 a1 a2 a3 c0 c1 c2 c3 f0 f1 f2 f3 d0 d1 d2 d3 e0 e1 e2 e3 g0 g1 g2 g3 d40 d41 d42 d43 e40 e41 e42 e43 g40 g41 g42 g43
    go_wp2
    refine bodyPost_ret (results_fmnn rfl _ _ rfl rfl rfl HP.1 HP.2.1 HP.2.2.1) rfl ?_
    exact ⟨f, m, ka, na, ea, sa, kb, nb, eb, sb, kd, nd, ed, sd, rfl, HSs.out, HP.2.2.2⟩
  obtain ⟨a0, a1, a2, a3, -⟩ := HF7.out.1
  obtain ⟨c0, c1, c2, c3, -⟩ := HF7.out.2.1
  by_cases hka : ka = 1
  case neg =>
    have k1 : (ka == 1) = false := beq_eq_false_iff_ne.2 hka
    clear hka
    go_upto_region 8 with fail
    try clear a0 a1 a2 a3
    try clear c0 c1 c2 c3
    obtain ⟨⟨a0, a1, a2, a3, -⟩, ⟨c0, c1, c2, c3, -⟩, ⟨f0, f1, f2, f3, -⟩, ⟨⟨d0, d1, d2, d3, d4⟩, ⟨e0, e1, e2, e3, e4⟩, ⟨g0, g1, g2, g3, g4⟩, -⟩, -, m1, m2, m3, -⟩ := HF7.out
    have d40 := d4 0
    have d41 := d4 1
    have d42 := d4 2
    have d43 := d4 3
    have e40 := e4 0
    have e41 := e4 1
    have e42 := e4 2
    have e43 := e4 3
    have g40 := g4 0
    have g41 := g4 1
    have g42 := g4 2
    have g43 := g4 3
    have n0 : w.heap.size ≠ pa := by omega
    have n1 : pa ≠ w.heap.size := by omega
    have n2 : w.heap.size ≠ pa + 1 := by omega
    have n3 : pa + 1 ≠ w.heap.size := by omega
    have n4 : w.heap.size ≠ pd := by omega
    have n5 : pd ≠ w.heap.size := by omega
    have n6 : w.heap.size + 1 ≠ pa := by omega
    have n7 : pa ≠ w.heap.size + 1 := by omega
    have n8 : w.heap.size + 1 ≠ pa + 1 := by omega
    have n9 : pa + 1 ≠ w.heap.size + 1 := by omega
    have n10 : w.heap.size + 1 ≠ pd := by omega
    have n11 : pd ≠ w.heap.size + 1 := by omega
    have n12 : w.heap.size + 2 ≠ pa := by omega
    have n13 : pa ≠ w.heap.size + 2 := by omega
    have n14 : w.heap.size + 2 ≠ pa + 1 := by omega
    have n15 : pa + 1 ≠ w.heap.size + 2 := by omega
    have n16 : w.heap.size + 2 ≠ pd := by omega
    have n17 : pd ≠ w.heap.size + 2 := by omega
    clear d4 e4 g4 m1 m2 m3
    go_region
    have HP := HF7.out.2.2.2.1.fin ka na ea sa kb nb eb sb kd nd ed sd
    clear n0 n1 n2 n3 n4 n5 n6 n7 n8 n9 n10 n11 n12 n13 n14 n15 n16 n17 a0 a1 a2 a3 c0 c1 c2 c3 f0 f1 f2 f3 d0 d1 d2 d3 e0 e1 e2 e3 g0 g1 g2 g3 d40 d41 d42 d43 e40 e41 e42 e43 g40 g41 g42 g43
    go_wp2
    refine bodyPost_ret (results_fmnn rfl _ _ rfl rfl rfl HP.1 HP.2.1 HP.2.2.1) rfl ?_
    exact ⟨f, m, ka, na, ea, sa, kb, nb, eb, sb, kd, nd, ed, sd, rfl, HSs.out, HP.2.2.2⟩
  subst hka
  by_cases hkb : kb = 1
  case neg =>
    have k1 : (kb == 1) = false := beq_eq_false_iff_ne.2 hkb
    clear hkb
    go_upto_region 8 with fail
    try clear a0 a1 a2 a3
    try clear c0 c1 c2 c3
    obtain ⟨⟨a0, a1, a2, a3, -⟩, ⟨c0, c1, c2, c3, -⟩, ⟨f0, f1, f2, f3, -⟩, ⟨⟨d0, d1, d2, d3, d4⟩, ⟨e0, e1, e2, e3, e4⟩, ⟨g0, g1, g2, g3, g4⟩, -⟩, -, m1, m2, m3, -⟩ := HF7.out
    have d40 := d4 0
    have d41 := d4 1
    have d42 := d4 2
    have d43 := d4 3
    have e40 := e4 0
    have e41 := e4 1
    have e42 := e4 2
    have e43 := e4 3
    have g40 := g4 0
    have g41 := g4 1
    have g42 := g4 2
    have g43 := g4 3
    have n0 : w.heap.size ≠ pa := by omega
    have n1 : pa ≠ w.heap.size := by omega
    have n2 : w.heap.size ≠ pa + 1 := by omega
    have n3 : pa + 1 ≠ w.heap.size := by omega
    have n4 : w.heap.size ≠ pd := by omega
    have n5 : pd ≠ w.heap.size := by omega
    have n6 : w.heap.size + 1 ≠ pa := by omega
    have n7 : pa ≠ w.heap.size + 1 := by omega
    have n8 : w.heap.size + 1 ≠ pa + 1 := by omega
    have n9 : pa + 1 ≠ w.heap.size + 1 := by omega
    have n10 : w.heap.size + 1 ≠ pd := by omega
    have n11 : pd ≠ w.heap.size + 1 := by omega
    have n12 : w.heap.size + 2 ≠ pa := by omega
    have n13 : pa ≠ w.heap.size + 2 := by omega
    have n14 : w.heap.size + 2 ≠ pa + 1 := by omega
    have n15 : pa + 1 ≠ w.heap.size + 2 := by omega
    have n16 : w.heap.size + 2 ≠ pd := by omega
    have n17 : pd ≠ w.heap.size + 2 := by omega
    clear d4 e4 g4 m1 m2 m3
    go_region
    have HP := HF7.out.2.2.2.1.fin 1 na ea sa kb nb eb sb kd nd ed sd
    clear n0 n1 n2 n3 n4 n5 n6 n7 n8 n9 n10 n11 n12 n13 n14 n15 n16 n17 a0 a1 a2 a3 c0 c1 c2 c3 f0 f1 f2 f3 d0 d1 d2 d3 e0 e1 e2 e3 g0 g1 g2 g3 d40 d41 d42 d43 e40 e41 e42 e43 g40 g41 g42 g43
    go_wp2
    refine bodyPost_ret (results_fmnn rfl _ _ rfl rfl rfl HP.1 HP.2.1 HP.2.2.1) rfl ?_
    exact ⟨f, m, 1, na, ea, sa, kb, nb, eb, sb, kd, nd, ed, sd, rfl, HSs.out, HP.2.2.2⟩
  subst hkb
  go_wp2_with fail
  refine (sNumOk_any f 1 na ea sa _ (by have := HSs.out.1; omega)).mono ?_
  rintro x w8 ⟨rfl, hb8⟩
  have HF8 : Hid (FT3 w cb pa pd 1 na ea sa 1 nb eb sb kd nd ed sd w8) := HF7.out.next hb8
  clear hb8 HF7 a0 a1 a2 a3 c0 c1 c2 c3
  obtain ⟨oa, hoa⟩ : ∃ o, numB f 1 na ea sa = o := ⟨_, rfl⟩
  have HOa : Hid (numB f 1 na ea sa = oa) := hoa
  rw [hoa]
  clear hoa
  cases oa
  case false =>
    go_upto_region 8 with fail
    try clear a0 a1 a2 a3
    try clear c0 c1 c2 c3
    obtain ⟨⟨a0, a1, a2, a3, -⟩, ⟨c0, c1, c2, c3, -⟩, ⟨f0, f1, f2, f3, -⟩, ⟨⟨d0, d1, d2, d3, d4⟩, ⟨e0, e1, e2, e3, e4⟩, ⟨g0, g1, g2, g3, g4⟩, -⟩, -, m1, m2, m3, -⟩ := HF8.out
    have d40 := d4 0
    have d41 := d4 1
    have d42 := d4 2
    have d43 := d4 3
    have e40 := e4 0
    have e41 := e4 1
    have e42 := e4 2
    have e43 := e4 3
    have g40 := g4 0
    have g41 := g4 1
    have g42 := g4 2
    have g43 := g4 3
    have n0 : w.heap.size ≠ pa := by omega
    have n1 : pa ≠ w.heap.size := by omega
    have n2 : w.heap.size ≠ pa + 1 := by omega
    have n3 : pa + 1 ≠ w.heap.size := by omega
    have n4 : w.heap.size ≠ pd := by omega
    have n5 : pd ≠ w.heap.size := by omega
    have n6 : w.heap.size + 1 ≠ pa := by omega
    have n7 : pa ≠ w.heap.size + 1 := by omega
    have n8 : w.heap.size + 1 ≠ pa + 1 := by omega
    have n9 : pa + 1 ≠ w.heap.size + 1 := by omega
    have n10 : w.heap.size + 1 ≠ pd := by omega
    have n11 : pd ≠ w.heap.size + 1 := by omega
    have n12 : w.heap.size + 2 ≠ pa := by omega
    have n13 : pa ≠ w.heap.size + 2 := by omega
    have n14 : w.heap.size + 2 ≠ pa + 1 := by omega
    have n15 : pa + 1 ≠ w.heap.size + 2 := by omega
    have n16 : w.heap.size + 2 ≠ pd := by omega
    have n17 : pd ≠ w.heap.size + 2 := by omega
    clear d4 e4 g4 m1 m2 m3
    go_region
    have HP := HF8.out.2.2.2.1.fin 1 na ea sa 1 nb eb sb kd nd ed sd
    clear n0 n1 n2 n3 n4 n5 n6 n7 n8 n9 n10 n11 n12 n13 n14 n15 n16 n17 a0 a1 a2 a3 c0 c1 c2 c3 f0 f1 f2 f3 d0 d1 d2 d3 e0 e1 e2 e3 g0 g1 g2 g3 d40 d41 d42 d43 e40 e41 e42 e43 g40 g41 g42 g43
    go_wp2
    refine bodyPost_ret (results_fmnn rfl _ _ rfl rfl rfl HP.1 HP.2.1 HP.2.2.1) rfl ?_
    exact ⟨f, m, 1, na, ea, sa, 1, nb, eb, sb, kd, nd, ed, sd, rfl, HSs.out, HP.2.2.2⟩
  obtain ⟨a0, a1, a2, a3, -⟩ := HF8.out.1
  obtain ⟨c0, c1, c2, c3, -⟩ := HF8.out.2.1
  go_wp2_with fail
  refine (sNumOk_any f 1 nb eb sb _ (by have := HSs.out.2.1; omega)).mono ?_
  rintro x w9 ⟨rfl, hb9⟩
  have HF9 : Hid (FT3 w cb pa pd 1 na ea sa 1 nb eb sb kd nd ed sd w9) := HF8.out.next hb9
  clear hb9 HF8 a0 a1 a2 a3 c0 c1 c2 c3
  obtain ⟨ob, hob⟩ : ∃ o, numB f 1 nb eb sb = o := ⟨_, rfl⟩
  have HOb : Hid (numB f 1 nb eb sb = ob) := hob
  rw [hob]
  clear hob
  cases ob
  case false =>
    go_upto_region 8 with fail
    try clear a0 a1 a2 a3
    try clear c0 c1 c2 c3
    obtain ⟨⟨a0, a1, a2, a3, -⟩, ⟨c0, c1, c2, c3, -⟩, ⟨f0, f1, f2, f3, -⟩, ⟨⟨d0, d1, d2, d3, d4⟩, ⟨e0, e1, e2, e3, e4⟩, ⟨g0, g1, g2, g3, g4⟩, -⟩, -, m1, m2, m3, -⟩ := HF9.out
    have d40 := d4 0
    have d41 := d4 1
    have d42 := d4 2
    have d43 := d4 3
    have e40 := e4 0
    have e41 := e4 1
    have e42 := e4 2
    have e43 := e4 3
    have g40 := g4 0
    have g41 := g4 1
    have g42 := g4 2
    have g43 := g4 3
    have n0 : w.heap.size ≠ pa := by omega
    have n1 : pa ≠ w.heap.size := by omega
    have n2 : w.heap.size ≠ pa + 1 := by omega
    have n3 : pa + 1 ≠ w.heap.size := by omega
    have n4 : w.heap.size ≠ pd := by omega
    have n5 : pd ≠ w.heap.size := by omega
    have n6 : w.heap.size + 1 ≠ pa := by omega
    have n7 : pa ≠ w.heap.size + 1 := by omega
    have n8 : w.heap.size + 1 ≠ pa + 1 := by omega
    have n9 : pa + 1 ≠ w.heap.size + 1 := by omega
    have n10 : w.heap.size + 1 ≠ pd := by omega
    have n11 : pd ≠ w.heap.size + 1 := by omega
    have n12 : w.heap.size + 2 ≠ pa := by omega
    have n13 : pa ≠ w.heap.size + 2 := by omega
    have n14 : w.heap.size + 2 ≠ pa + 1 := by omega
    have n15 : pa + 1 ≠ w.heap.size + 2 := by omega
    have n16 : w.heap.size + 2 ≠ pd := by omega
    have n17 : pd ≠ w.heap.size + 2 := by omega
    clear d4 e4 g4 m1 m2 m3
    go_region
    have HP := HF9.out.2.2.2.1.fin 1 na ea sa 1 nb eb sb kd nd ed sd
    clear n0 n1 n2 n3 n4 n5 n6 n7 n8 n9 n10 n11 n12 n13 n14 n15 n16 n17 a0 a1 a2 a3 c0 c1 c2 c3 f0 f1 f2 f3 d0 d1 d2 d3 e0 e1 e2 e3 g0 g1 g2 g3 d40 d41 d42 d43 e40 e41 e42 e43 g40 g41 g42 g43
    go_wp2
    refine bodyPost_ret (results_fmnn rfl _ _ rfl rfl rfl HP.1 HP.2.1 HP.2.2.1) rfl ?_
    exact ⟨f, m, 1, na, ea, sa, 1, nb, eb, sb, kd, nd, ed, sd, rfl, HSs.out, HP.2.2.2⟩
  have HT : Hid (∀ X, Calls Tryz.prog 57 #[numV 1 na ea sa] X fun x w' => x = .returned (numV 1 (!na) ea sa) ∧ Below X.heap.size X w') := fun X => l13Turn_any 1 na ea sa X
  have hMu : ∀ X, Calls Tryz.prog 12 #[.int .i64 f, .int .i64 2, numV 1 (!na) ea sa, numV 1 nb eb sb] X fun x w' => x = .returned (rsD (mulR f 2 1 (!na) ea sa 1 nb eb sb).1 (mulR f 2 1 (!na) ea sa 1 nb eb sb).2) ∧ Below X.heap.size X w' := fun X => sMul_ok f 2 1 (!na) ea sa 1 nb eb sb X (by have := HSs.out.1; omega) (by have := HSs.out.2.1; omega)
  have hMs : (mulR f 2 1 (!na) ea sa 1 nb eb sb).2.2.2.1.size ≤ 4611686018427387904 := mul_size f 2 (by decide) na ea sa nb eb sb HOa.out HOb.out
  generalize mulR f 2 1 (!na) ea sa 1 nb eb sb = R at *
  obtain ⟨R0, F1, F2, F3, F4⟩ := R
  dsimp only at hMu hMs
  have HMu : Hid (∀ X, Calls Tryz.prog 12 #[.int .i64 f, .int .i64 2, numV 1 (!na) ea sa, numV 1 nb eb sb] X fun x w' => x = .returned (rsV F1 R0 F2 F3 F4) ∧ Below X.heap.size X w') := hMu
  have HSr : Hid (sa.size ≤ 340 ∧ sb.size ≤ 340 ∧ F3.size ≤ 4611686018427387904) := ⟨HSs.out.1, HSs.out.2.1, hMs⟩
  clear hMu hMs HSs HOa HOb
  generalize (!na) = nA at *
  go_upto_region 7 with fail
  have hfd := field_rs F1 R0 F2 F3 F4
  have HX0 : Hid (Below w9.heap.size w9 w9.drew) := (Below.refl _ _).drew
  refine wp_region_tail (C := fun W => Below w9.heap.size w9 W) 6 (by kernel_rfl) (by kernel_rfl) HX0.out ?_
  simp only [List.take_succ_cons, List.take_zero, List.drop_succ_cons, List.drop_zero]
  repeat (refine wpQuiet_step (fun K hK => ?_); go_simp; first | (refine hK _ ?_; clear hK K) | (apply Exists.intro; refine ⟨fun wx hC => ?_, hK _ ?_⟩; (first | exact rfl | ((with_reducible refine Calls.class_of (HT.out wx) ?_); exact (fun w' hb => bel1 hC hb)) | ((with_reducible refine Calls.class_of (HMu.out wx) ?_); exact (fun w' hb => bel1 hC hb)) | (obtain ⟨u0, u1, u2, u3, u4⟩ := (HF9.out.next hC).1; go_simp; exact rfl) | (obtain ⟨u0, u1, u2, u3, u4⟩ := (HF9.out.next hC).2.1; go_simp; exact rfl)); clear hK K))
  refine wpQuiet_nil ?_
  intro w10 hb10
  have HF10 : Hid (FT3 w cb pa pd 1 na ea sa 1 nb eb sb kd nd ed sd w10) := HF9.out.next hb10
  clear hb10 HF9 HX0 HT HMu hfd
  obtain ⟨f0, f1, f2, f3, f4⟩ := HF10.out.2.2.1
  have f40 := f4 0
  have f41 := f4 1
  have f42 := f4 2
  have f43 := f4 3
  have HF11 : Hid (FT3 w cb pa pd 1 na ea sa 1 nb eb sb F1 R0 F2 F3 (((((w10).setCell ⟨pd, 0, none⟩ (.int .i64 F1)).setCell ⟨pd, 1, none⟩ (.bool R0)).setCell ⟨pd, 2, none⟩ (.int .i64 F2)).setCell ⟨pd, 3, none⟩ (.string F3))) := HF10.out.put F1 R0 F2 F3
  have HSs := HSr
  clear f4 HSr
  go_upto_region 8 with fail
  clear f0 f1 f2 f3 f40 f41 f42 f43 HF10
  generalize (((((w10).setCell ⟨pd, 0, none⟩ (.int .i64 F1)).setCell ⟨pd, 1, none⟩ (.bool R0)).setCell ⟨pd, 2, none⟩ (.int .i64 F2)).setCell ⟨pd, 3, none⟩ (.string F3)) = w11 at *
  try clear a0 a1 a2 a3
  try clear c0 c1 c2 c3
  obtain ⟨⟨a0, a1, a2, a3, -⟩, ⟨c0, c1, c2, c3, -⟩, ⟨f0, f1, f2, f3, -⟩, ⟨⟨d0, d1, d2, d3, d4⟩, ⟨e0, e1, e2, e3, e4⟩, ⟨g0, g1, g2, g3, g4⟩, -⟩, -, m1, m2, m3, -⟩ := HF11.out
  have d40 := d4 0
  have d41 := d4 1
  have d42 := d4 2
  have d43 := d4 3
  have e40 := e4 0
  have e41 := e4 1
  have e42 := e4 2
  have e43 := e4 3
  have g40 := g4 0
  have g41 := g4 1
  have g42 := g4 2
  have g43 := g4 3
  have n0 : w.heap.size ≠ pa := by omega
  have n1 : pa ≠ w.heap.size := by omega
  have n2 : w.heap.size ≠ pa + 1 := by omega
  have n3 : pa + 1 ≠ w.heap.size := by omega
  have n4 : w.heap.size ≠ pd := by omega
  have n5 : pd ≠ w.heap.size := by omega
  have n6 : w.heap.size + 1 ≠ pa := by omega
  have n7 : pa ≠ w.heap.size + 1 := by omega
  have n8 : w.heap.size + 1 ≠ pa + 1 := by omega
  have n9 : pa + 1 ≠ w.heap.size + 1 := by omega
  have n10 : w.heap.size + 1 ≠ pd := by omega
  have n11 : pd ≠ w.heap.size + 1 := by omega
  have n12 : w.heap.size + 2 ≠ pa := by omega
  have n13 : pa ≠ w.heap.size + 2 := by omega
  have n14 : w.heap.size + 2 ≠ pa + 1 := by omega
  have n15 : pa + 1 ≠ w.heap.size + 2 := by omega
  have n16 : w.heap.size + 2 ≠ pd := by omega
  have n17 : pd ≠ w.heap.size + 2 := by omega
  clear d4 e4 g4 m1 m2 m3
  go_region
  have HP := HF11.out.2.2.2.1.fin 1 na ea sa 1 nb eb sb F1 R0 F2 F3
  clear n0 n1 n2 n3 n4 n5 n6 n7 n8 n9 n10 n11 n12 n13 n14 n15 n16 n17 a0 a1 a2 a3 c0 c1 c2 c3 f0 f1 f2 f3 d0 d1 d2 d3 e0 e1 e2 e3 g0 g1 g2 g3 d40 d41 d42 d43 e40 e41 e42 e43 g40 g41 g42 g43
  go_wp2
  refine bodyPost_ret (results_fmnn rfl _ _ rfl rfl rfl HP.1 HP.2.1 HP.2.2.1) rfl ?_
  exact ⟨f, m, 1, na, ea, sa, 1, nb, eb, sb, F1, R0, F2, F3, rfl, HSs.out, HP.2.2.2⟩
end Go.Proofs.YtndnoblcnjccdafGreatDoor
