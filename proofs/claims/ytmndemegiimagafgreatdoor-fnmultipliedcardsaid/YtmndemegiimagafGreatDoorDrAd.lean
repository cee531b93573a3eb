/-
  The draws of a format, a mode and two numbers, walked.
-/
import Derived.Test.YtmndemegiimagafGreatDoorDrawTo
import Derived.Test.YtmndemegiimagafGreatDoorDrawFt
import Derived.Test.YtmndemegiimagafGreatDoorRdl
namespace Go.Proofs.YtmndemegiimagafGreatDoor
open Go.RowKit
set_option linter.unusedVariables false
set_option maxRecDepth 100000
/-- The answers' boxes. -/
abbrev a2W (w : World) : World := (w.alloc (.cells #[.int .i64 0, .bool false, .int .i64 0, .string { data := #[] }] 25)).alloc (.cells #[.int .i64 0, .bool false, .int .i64 0, .string { data := #[] }] 25)
def A2 (w W : World) : Prop := At4 W w.heap.size (.int .i64 0) (.bool false) (.int .i64 0) (.string { data := #[] }) ∧ At4 W (w.heap.size + 1) (.int .i64 0) (.bool false) (.int .i64 0) (.string { data := #[] }) ∧ Below w.heap.size w W ∧ w.heap.size + 2 ≤ W.heap.size
theorem a2_new (w : World) : A2 w (a2W w) ∧ (a2W w).heap.size = w.heap.size + 2 := by
  unfold a2W
  have h1 := at4_new w (.int .i64 0) (.bool false) (.int .i64 0) (.string { data := #[] })
  have z1 := new_size w (.cells #[.int .i64 0, .bool false, .int .i64 0, .string { data := #[] }] 25)
  have b1 : Below w.heap.size w (w.alloc (.cells #[.int .i64 0, .bool false, .int .i64 0, .string { data := #[] }] 25)) := (Below.refl _ _).alloc (Nat.le_refl _) _
  generalize w.alloc (.cells #[.int .i64 0, .bool false, .int .i64 0, .string { data := #[] }] 25) = w1 at *
  have h2 := at4_new w1 (.int .i64 0) (.bool false) (.int .i64 0) (.string { data := #[] })
  have z2 := new_size w1 (.cells #[.int .i64 0, .bool false, .int .i64 0, .string { data := #[] }] 25)
  have b2 : Below w1.heap.size w1 (w1.alloc (.cells #[.int .i64 0, .bool false, .int .i64 0, .string { data := #[] }] 25)) := (Below.refl _ _).alloc (Nat.le_refl _) _
  rw [z1] at h2
  exact ⟨⟨h1.below b2 (by omega), h2, b1.trans (b2.mono b1.size), by omega⟩, by omega⟩
theorem A2.next {w W W' : World} (h : A2 w W) (hb : Below W.heap.size W W') : A2 w W' := ⟨h.1.below hb (by have := h.2.2.2; omega), h.2.1.below hb (by have := h.2.2.2; omega), h.2.2.1.trans (hb.mono h.2.2.1.size), Nat.le_trans h.2.2.2 hb.size⟩
theorem A2.draw {w W W' : World} {cb : Nat} (h : A2 w W) (hg : W.grownBy W' (some cb)) (hc : w.heap.size + 2 ≤ cb) : A2 w W' :=
  ⟨h.1.grown hg (by omega) (by have := h.2.2.2; omega), h.2.1.grown hg (by omega) (by have := h.2.2.2; omega), Below.grown h.2.2.1 hg h.2.2.1.size (fun q hq => by cases hq; omega), Nat.le_trans h.2.2.2 hg.size⟩
theorem A2.fin {w W : World} (h : A2 w W) (ka : Int) (na : Bool) (ea : Int) (sa : ByteArray) (kb : Int) (nb : Bool) (eb : Int) (sb : ByteArray) :
    At4 (((((((((W.setCell ⟨w.heap.size, 0, none⟩ (.int .i64 ka)).setCell ⟨w.heap.size, 1, none⟩ (.bool na)).setCell ⟨w.heap.size, 2, none⟩ (.int .i64 ea)).setCell ⟨w.heap.size, 3, none⟩ (.string sa)).setCell ⟨w.heap.size + 1, 0, none⟩ (.int .i64 kb)).setCell ⟨w.heap.size + 1, 1, none⟩ (.bool nb)).setCell ⟨w.heap.size + 1, 2, none⟩ (.int .i64 eb)).setCell ⟨w.heap.size + 1, 3, none⟩ (.string sb)).drew) w.heap.size (.int .i64 ka) (.bool na) (.int .i64 ea) (.string sa)
    ∧ At4 (((((((((W.setCell ⟨w.heap.size, 0, none⟩ (.int .i64 ka)).setCell ⟨w.heap.size, 1, none⟩ (.bool na)).setCell ⟨w.heap.size, 2, none⟩ (.int .i64 ea)).setCell ⟨w.heap.size, 3, none⟩ (.string sa)).setCell ⟨w.heap.size + 1, 0, none⟩ (.int .i64 kb)).setCell ⟨w.heap.size + 1, 1, none⟩ (.bool nb)).setCell ⟨w.heap.size + 1, 2, none⟩ (.int .i64 eb)).setCell ⟨w.heap.size + 1, 3, none⟩ (.string sb)).drew) (w.heap.size + 1) (.int .i64 kb) (.bool nb) (.int .i64 eb) (.string sb)
    ∧ Below w.heap.size w (((((((((W.setCell ⟨w.heap.size, 0, none⟩ (.int .i64 ka)).setCell ⟨w.heap.size, 1, none⟩ (.bool na)).setCell ⟨w.heap.size, 2, none⟩ (.int .i64 ea)).setCell ⟨w.heap.size, 3, none⟩ (.string sa)).setCell ⟨w.heap.size + 1, 0, none⟩ (.int .i64 kb)).setCell ⟨w.heap.size + 1, 1, none⟩ (.bool nb)).setCell ⟨w.heap.size + 1, 2, none⟩ (.int .i64 eb)).setCell ⟨w.heap.size + 1, 3, none⟩ (.string sb)).drew) := by
  obtain ⟨h1, h2, h3, h4⟩ := h
  have q1 := h1.put (.int .i64 ka) (.bool na) (.int .i64 ea) (.string sa)
  have q2 := (((h2.far (b' := w.heap.size) (by omega) 0 (.int .i64 ka)).far (b' := w.heap.size) (by omega) 1 (.bool na)).far (b' := w.heap.size) (by omega) 2 (.int .i64 ea)).far (b' := w.heap.size) (by omega) 3 (.string sa)
  have q3 : Below w.heap.size w ((((W.setCell ⟨w.heap.size, 0, none⟩ (.int .i64 ka)).setCell ⟨w.heap.size, 1, none⟩ (.bool na)).setCell ⟨w.heap.size, 2, none⟩ (.int .i64 ea)).setCell ⟨w.heap.size, 3, none⟩ (.string sa)) := (((h3.setCell (Nat.le_refl _) _).setCell (Nat.le_refl _) _).setCell (Nat.le_refl _) _).setCell (Nat.le_refl _) _
  generalize ((((W.setCell ⟨w.heap.size, 0, none⟩ (.int .i64 ka)).setCell ⟨w.heap.size, 1, none⟩ (.bool na)).setCell ⟨w.heap.size, 2, none⟩ (.int .i64 ea)).setCell ⟨w.heap.size, 3, none⟩ (.string sa)) = X at *
  have r1 := (((q1.far (b' := w.heap.size + 1) (by omega) 0 (.int .i64 kb)).far (b' := w.heap.size + 1) (by omega) 1 (.bool nb)).far (b' := w.heap.size + 1) (by omega) 2 (.int .i64 eb)).far (b' := w.heap.size + 1) (by omega) 3 (.string sb)
  have r2 := q2.put (.int .i64 kb) (.bool nb) (.int .i64 eb) (.string sb)
  have r3 : Below w.heap.size w ((((X.setCell ⟨w.heap.size + 1, 0, none⟩ (.int .i64 kb)).setCell ⟨w.heap.size + 1, 1, none⟩ (.bool nb)).setCell ⟨w.heap.size + 1, 2, none⟩ (.int .i64 eb)).setCell ⟨w.heap.size + 1, 3, none⟩ (.string sb)) := (((q3.setCell (Nat.le_succ _) _).setCell (Nat.le_succ _) _).setCell (Nat.le_succ _) _).setCell (Nat.le_succ _) _
  clear q1 q2 q3 h1 h2 h3 h4
  generalize ((((X.setCell ⟨w.heap.size + 1, 0, none⟩ (.int .i64 kb)).setCell ⟨w.heap.size + 1, 1, none⟩ (.bool nb)).setCell ⟨w.heap.size + 1, 2, none⟩ (.int .i64 eb)).setCell ⟨w.heap.size + 1, 3, none⟩ (.string sb)) = Y at *
  exact ⟨r1, r2, r3.drew⟩
theorem A2.fin0 {w W : World} (h : A2 w W) (ka : Int) (na : Bool) (ea : Int) (sa : ByteArray) (kb : Int) (nb : Bool) (eb : Int) (sb : ByteArray) :
    At4 (((((((((W.setCell ⟨w.heap.size, 0, none⟩ (.int .i64 ka)).setCell ⟨w.heap.size, 1, none⟩ (.bool na)).setCell ⟨w.heap.size, 2, none⟩ (.int .i64 ea)).setCell ⟨w.heap.size, 3, none⟩ (.string sa)).setCell ⟨w.heap.size + 1, 0, none⟩ (.int .i64 kb)).setCell ⟨w.heap.size + 1, 1, none⟩ (.bool nb)).setCell ⟨w.heap.size + 1, 2, none⟩ (.int .i64 eb)).setCell ⟨w.heap.size + 1, 3, none⟩ (.string sb))) w.heap.size (.int .i64 ka) (.bool na) (.int .i64 ea) (.string sa)
    ∧ At4 (((((((((W.setCell ⟨w.heap.size, 0, none⟩ (.int .i64 ka)).setCell ⟨w.heap.size, 1, none⟩ (.bool na)).setCell ⟨w.heap.size, 2, none⟩ (.int .i64 ea)).setCell ⟨w.heap.size, 3, none⟩ (.string sa)).setCell ⟨w.heap.size + 1, 0, none⟩ (.int .i64 kb)).setCell ⟨w.heap.size + 1, 1, none⟩ (.bool nb)).setCell ⟨w.heap.size + 1, 2, none⟩ (.int .i64 eb)).setCell ⟨w.heap.size + 1, 3, none⟩ (.string sb))) (w.heap.size + 1) (.int .i64 kb) (.bool nb) (.int .i64 eb) (.string sb)
    ∧ Below w.heap.size w (((((((((W.setCell ⟨w.heap.size, 0, none⟩ (.int .i64 ka)).setCell ⟨w.heap.size, 1, none⟩ (.bool na)).setCell ⟨w.heap.size, 2, none⟩ (.int .i64 ea)).setCell ⟨w.heap.size, 3, none⟩ (.string sa)).setCell ⟨w.heap.size + 1, 0, none⟩ (.int .i64 kb)).setCell ⟨w.heap.size + 1, 1, none⟩ (.bool nb)).setCell ⟨w.heap.size + 1, 2, none⟩ (.int .i64 eb)).setCell ⟨w.heap.size + 1, 3, none⟩ (.string sb))) := by
  obtain ⟨h1, h2, h3, h4⟩ := h
  have q1 := h1.put (.int .i64 ka) (.bool na) (.int .i64 ea) (.string sa)
  have q2 := (((h2.far (b' := w.heap.size) (by omega) 0 (.int .i64 ka)).far (b' := w.heap.size) (by omega) 1 (.bool na)).far (b' := w.heap.size) (by omega) 2 (.int .i64 ea)).far (b' := w.heap.size) (by omega) 3 (.string sa)
  have q3 : Below w.heap.size w ((((W.setCell ⟨w.heap.size, 0, none⟩ (.int .i64 ka)).setCell ⟨w.heap.size, 1, none⟩ (.bool na)).setCell ⟨w.heap.size, 2, none⟩ (.int .i64 ea)).setCell ⟨w.heap.size, 3, none⟩ (.string sa)) := (((h3.setCell (Nat.le_refl _) _).setCell (Nat.le_refl _) _).setCell (Nat.le_refl _) _).setCell (Nat.le_refl _) _
  generalize ((((W.setCell ⟨w.heap.size, 0, none⟩ (.int .i64 ka)).setCell ⟨w.heap.size, 1, none⟩ (.bool na)).setCell ⟨w.heap.size, 2, none⟩ (.int .i64 ea)).setCell ⟨w.heap.size, 3, none⟩ (.string sa)) = X at *
  have r1 := (((q1.far (b' := w.heap.size + 1) (by omega) 0 (.int .i64 kb)).far (b' := w.heap.size + 1) (by omega) 1 (.bool nb)).far (b' := w.heap.size + 1) (by omega) 2 (.int .i64 eb)).far (b' := w.heap.size + 1) (by omega) 3 (.string sb)
  have r2 := q2.put (.int .i64 kb) (.bool nb) (.int .i64 eb) (.string sb)
  have r3 : Below w.heap.size w ((((X.setCell ⟨w.heap.size + 1, 0, none⟩ (.int .i64 kb)).setCell ⟨w.heap.size + 1, 1, none⟩ (.bool nb)).setCell ⟨w.heap.size + 1, 2, none⟩ (.int .i64 eb)).setCell ⟨w.heap.size + 1, 3, none⟩ (.string sb)) := (((q3.setCell (Nat.le_succ _) _).setCell (Nat.le_succ _) _).setCell (Nat.le_succ _) _).setCell (Nat.le_succ _) _
  clear q1 q2 q3 h1 h2 h3 h4
  generalize ((((X.setCell ⟨w.heap.size + 1, 0, none⟩ (.int .i64 kb)).setCell ⟨w.heap.size + 1, 1, none⟩ (.bool nb)).setCell ⟨w.heap.size + 1, 2, none⟩ (.int .i64 eb)).setCell ⟨w.heap.size + 1, 3, none⟩ (.string sb)) = Y at *
  exact ⟨r1, r2, r3⟩
theorem results_fmn {fn : Func} {t1 t2 p q : Tmp} {b c : Nat} {x y z u x' y' z' u' : Value} (h : fn.results = #[.tmp t1, .tmp t2, .cell p 25, .cell q 25]) (tmps : Array Value) (w : World) (hp : tmps[p]?.getD undef = .pointer (some ⟨b, 0, none⟩)) (hq : tmps[q]?.getD undef = .pointer (some ⟨c, 0, none⟩))
    (h1 : At4 w b x y z u) (h2 : At4 w c x' y' z' u') : (results fn tmps).run Tryz.prog w = .ok (.tuple #[tmps.getD t1 undef, tmps.getD t2 undef, .agg #[x, y, z, u], .agg #[x', y', z', u']]) w := by
  obtain ⟨a0, a1, a2, a3, -⟩ := h1
  obtain ⟨c0, c1, c2, c3, -⟩ := h2
  unfold results
  rw [h]
  simp [hp, hq, go_sem, a0, a1, a2, a3, c0, c1, c2, c3]
set_option maxRecDepth 100000 in
set_option maxHeartbeats 2000000 in
theorem DrawAdd_any (a : Option Addr) (len cap : Nat) (w : World) (hl : len ≤ 4096) (hb : Bytes w.heap.size w a len) :
    Calls Tryz.prog 35 #[.slice a len cap] w fun r w' => ∃ (f m : Int) (ka : Int) (na : Bool) (ea : Int) (sa : ByteArray) (kb : Int) (nb : Bool) (eb : Int) (sb : ByteArray), r = .returned (.tuple #[.int .i64 f, .int .i64 m, numV ka na ea sa, numV kb nb eb sb]) ∧ (sa.size ≤ 340 ∧ sb.size ≤ 340) ∧ Below w.heap.size w w' := by
  obtain ⟨hA, hsz⟩ := a2_new w
  have hB : Hid (Bytes (a2W w).heap.size (a2W w) a len) := bytes_bel hb hA.2.2.1
  have HA : Hid (A2 w (a2W w)) := hA
  have HSz : Hid ((a2W w).heap.size = w.heap.size + 2) := hsz
  clear hb hA hsz
  go_enter Tryz.func35, Tryz.ntmps35
  go_wp2_with fail
  refine (l1New_any a len cap _ hl hB.out).mono ?_
  rintro e w0 ⟨he, hc0, hb0⟩
  rw [HSz.out] at he hc0
  subst he
  have HA0 : Hid (A2 w w0) := HA.out.next hb0
  clear hb0 HA hB HSz
  go_wp2_with fail
  refine (l10DrawFormat_any _ _ _ hc0).mono ?_
  rintro e w1 ⟨f, rfl, hc1, hg1⟩
  have HA1 : Hid (A2 w w1) := HA0.out.draw hg1 (Nat.le_refl _)
  clear hg1 hc0 HA0
  go_wp2_with fail
  refine (l12DrawMode_any _ _ _ hc1).mono ?_
  rintro e w2 ⟨m, rfl, hc2, hg2⟩
  have HA2 : Hid (A2 w w2) := HA1.out.draw hg2 (Nat.le_refl _)
  clear hg2 hc1 HA1
  go_wp2_with fail
  refine (l13DrawTwo_any _ _ f _ hc2).mono ?_
  rintro e w3 ⟨ka, na, ea, sa, kb, nb, eb, sb, rfl, ⟨-, -, -, -, sz1, sz2⟩, hc3, hg3⟩
  have hA3 : A2 w w3 := HA2.out.draw hg3 (Nat.le_refl _)
  have HSz : Hid (sa.size ≤ 340 ∧ sb.size ≤ 340) := ⟨sz1, sz2⟩
  clear hg3 hc2 hc3 HA2 sz1 sz2
  go_upto_region 5 with fail
  have h1 := at4_new w3 (.int .i64 ka) (.bool na) (.int .i64 ea) (.string sa)
  have z1 := new_size w3 (.cells #[.int .i64 ka, .bool na, .int .i64 ea, .string sa] 25)
  have b1 : Below w3.heap.size w3 (w3.alloc (.cells #[.int .i64 ka, .bool na, .int .i64 ea, .string sa] 25)) := (Below.refl _ _).alloc (Nat.le_refl _) _
  have hle := hA3.2.2.2
  have hA4 := hA3.next b1
  generalize w3.alloc (.cells #[.int .i64 ka, .bool na, .int .i64 ea, .string sa] 25) = w4 at *
  have h2 := at4_new w4 (.int .i64 kb) (.bool nb) (.int .i64 eb) (.string sb)
  have b2 : Below w4.heap.size w4 (w4.alloc (.cells #[.int .i64 kb, .bool nb, .int .i64 eb, .string sb] 25)) := (Below.refl _ _).alloc (Nat.le_refl _) _
  have hA5 := hA4.next b2
  have h1' := h1.below b2 (by omega)
  rw [z1] at h2
  generalize w4.alloc (.cells #[.int .i64 kb, .bool nb, .int .i64 eb, .string sb] 25) = w5 at *
  generalize w3.heap.size = pa at *
  have HA5 : Hid (A2 w w5) := hA5
  obtain ⟨a0, a1, a2, a3, -⟩ := h1'
  obtain ⟨c0, c1, c2, c3, -⟩ := h2
  obtain ⟨d0, d1, d2, d3, d4⟩ := hA5.1
  obtain ⟨e0, e1, e2, e3, e4⟩ := hA5.2.1
  have d40 := d4 0
  have d41 := d4 1
  have d42 := d4 2
  have d43 := d4 3
  have e40 := e4 0
  have e41 := e4 1
  have e42 := e4 2
  have e43 := e4 3
  have n0 : w.heap.size ≠ pa := by omega
  have n1 : w.heap.size ≠ pa + 1 := by omega
  have n2 : w.heap.size + 1 ≠ pa := by omega
  have n3 : w.heap.size + 1 ≠ pa + 1 := by omega
  have n4 : pa ≠ w.heap.size := by omega
  have n5 : pa + 1 ≠ w.heap.size := by omega
  have n6 : pa ≠ w.heap.size + 1 := by omega
  have n7 : pa + 1 ≠ w.heap.size + 1 := by omega
  clear d4 e4 h1 b1 b2 hA3 hA4 hA5 z1 hle
  go_region
  have HP := HA5.out.fin ka na ea sa kb nb eb sb
  clear n0 n1 n2 n3 n4 n5 n6 n7 a0 a1 a2 a3 c0 c1 c2 c3 d0 d1 d2 d3 e0 e1 e2 e3 d40 d41 d42 d43 e40 e41 e42 e43
  go_wp2
  refine bodyPost_ret (results_fmn rfl _ _ rfl rfl HP.1 HP.2.1) rfl ?_
  exact ⟨f, m, ka, na, ea, sa, kb, nb, eb, sb, rfl, HSz.out, HP.2.2⟩
set_option maxRecDepth 100000 in
set_option maxHeartbeats 2000000 in
theorem DrawMul_any (a : Option Addr) (len cap : Nat) (w : World) (hl : len ≤ 4096) (hb : Bytes w.heap.size w a len) :
    Calls Tryz.prog 10 #[.slice a len cap] w fun r w' => ∃ (f m : Int) (ka : Int) (na : Bool) (ea : Int) (sa : ByteArray) (kb : Int) (nb : Bool) (eb : Int) (sb : ByteArray), r = .returned (.tuple #[.int .i64 f, .int .i64 m, numV ka na ea sa, numV kb nb eb sb]) ∧ (sa.size ≤ 340 ∧ sb.size ≤ 340) ∧ Below w.heap.size w w' := by
  obtain ⟨hA, hsz⟩ := a2_new w
  have hB : Hid (Bytes (a2W w).heap.size (a2W w) a len) := bytes_bel hb hA.2.2.1
  have HA : Hid (A2 w (a2W w)) := hA
  clear hb hA hsz
  go_enter Tryz.func10, Tryz.ntmps10
  go_wp2_with fail
  refine (DrawAdd_any a len cap _ hl hB.out).mono ?_
  rintro e w1 ⟨f, m, ka, na, ea, sa, kb, nb, eb, sb, rfl, hs, hb1⟩
  have hA1 := HA.out.next hb1
  have HA1 : Hid (A2 w w1) := hA1
  have HSz : Hid (sa.size ≤ 340 ∧ sb.size ≤ 340) := hs
  obtain ⟨d0, d1, d2, d3, d4⟩ := hA1.1
  obtain ⟨e0, e1, e2, e3, e4⟩ := hA1.2.1
  have d40 := d4 0
  have d41 := d4 1
  have d42 := d4 2
  have d43 := d4 3
  have e40 := e4 0
  have e41 := e4 1
  have e42 := e4 2
  have e43 := e4 3
  clear d4 e4 hA1 HA hB hb1 hs
  go_wp2
  have HP := HA1.out.fin0 ka na ea sa kb nb eb sb
  refine bodyPost_ret (results_fmn rfl _ _ rfl rfl HP.1 HP.2.1) rfl ?_
  exact ⟨f, m, ka, na, ea, sa, kb, nb, eb, sb, rfl, HSz.out, HP.2.2⟩
end Go.Proofs.YtmndemegiimagafGreatDoor
