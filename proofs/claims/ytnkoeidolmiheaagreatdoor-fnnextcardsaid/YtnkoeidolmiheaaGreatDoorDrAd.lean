/-
  The draws of a format, a mode and two numbers, walked.
-/
import Derived.Test.YtnkoeidolmiheaaGreatDoorDrawNm
import Derived.Test.YtnkoeidolmiheaaGreatDoorDrawFt
import Derived.Test.YtnkoeidolmiheaaGreatDoorSmC
import Derived.Test.YtnkoeidolmiheaaGreatDoorRdl
namespace Go.Proofs.YtnkoeidolmiheaaGreatDoor
open Go.RowKit
set_option linter.unusedVariables false
set_option maxRecDepth 100000
theorem grown_bel2 {w w1 : World} (h : Below w.heap.size w w1) (r : Option Nat) : w.grownBy w1 r := ⟨h.os, h.tape, h.output, h.size, fun k hk _ => h.block k hk⟩
theorem cur_bel2 {B cb : Nat} {w w' : World} (h : Cur B w cb) (bel : Below w.heap.size w w') : Cur B w' cb := by
  obtain ⟨a, len, cap, i, h, hB, hcb, hlen, hi, hby, c0, c1, c2, f1, f2⟩ := h
  refine ⟨a, len, cap, i, h, hB, Nat.lt_of_lt_of_le hcb bel.size, hlen, hi, hby.grown (grown_bel2 bel (some cb)) hB, ?_, ?_, ?_, ?_, ?_⟩
  · exact (bel.cell (p := ⟨cb, 0, none⟩) hcb).trans c0
  · exact (bel.cell (p := ⟨cb, 1, none⟩) hcb).trans c1
  · exact (bel.cell (p := ⟨cb, 2, none⟩) hcb).trans c2
  · exact (bel.frozen (p := ⟨cb, 1, none⟩) hcb).trans f1
  · exact (bel.frozen (p := ⟨cb, 2, none⟩) hcb).trans f2
theorem i64_any (x : Int) : I64 (IntKind.i64.wrap x) := by rw [IntKind.wrap_i64]; unfold I64; omega
/-- Two numbers in their boxes pa, pb, the answers' boxes, the cursor. -/
def T2 (B cb : Nat) (w : World) (pa pb : Nat) (W : World) (ka : Int) (na : Bool) (ea : Int) (sa : ByteArray) (kb : Int) (nb : Bool) (eb : Int) (sb : ByteArray) : Prop :=
  At4 W pa (.int .i64 ka) (.bool na) (.int .i64 ea) (.string sa) ∧ At4 W pb (.int .i64 kb) (.bool nb) (.int .i64 eb) (.string sb) ∧ At4 W w.heap.size (.int .i64 0) (.bool false) (.int .i64 0) (.string { data := #[] }) ∧ At4 W (w.heap.size + 1) (.int .i64 0) (.bool false) (.int .i64 0) (.string { data := #[] }) ∧ Cur B W cb ∧ w.grownBy W (some cb) ∧ (cb < w.heap.size ∧ w.heap.size + 2 ≤ pa ∧ pa < pb ∧ pb < W.heap.size) ∧ I64 ka ∧ I64 ea ∧ I64 kb ∧ I64 eb ∧ sa.size ≤ 340 ∧ sb.size ≤ 340
section
variable {B cb : Nat} {w W W' : World} {pa pb : Nat} {ka : Int} {na : Bool} {ea : Int} {sa : ByteArray} {kb : Int} {nb : Bool} {eb : Int} {sb : ByteArray}
theorem T2.draw (h : T2 B cb w pa pb W ka na ea sa kb nb eb sb) (hc : Cur B W' cb) (hg : W.grownBy W' (some cb)) : T2 B cb w pa pb W' ka na ea sa kb nb eb sb := by
  obtain ⟨h1, h2, h3, h4, h5, h6, ⟨l1, l2, l3, l4⟩, h8⟩ := h
  exact ⟨h1.grown hg (by omega) (by omega), h2.grown hg (by omega) (by omega), h3.grown hg (by omega) (by omega), h4.grown hg (by omega) (by omega), hc, grown_trans h6 hg, ⟨l1, l2, l3, Nat.lt_of_lt_of_le l4 hg.size⟩, h8⟩
theorem T2.drew (h : T2 B cb w pa pb W ka na ea sa kb nb eb sb) : T2 B cb w pa pb W.drew ka na ea sa kb nb eb sb := by
  obtain ⟨h1, h2, h3, h4, h5, h6, h7⟩ := h
  exact ⟨h1, h2, h3, h4, h5, ⟨h6.os, h6.tape, h6.output, h6.size, h6.block⟩, h7⟩
theorem T2.b2 (h : T2 B cb w pa pb W ka na ea sa kb nb eb sb) (v : Int) (hv : I64 v) : T2 B cb w pa pb (W.setCell ⟨pb, 2, none⟩ (.int .i64 v)) ka na ea sa kb nb v sb := by
  obtain ⟨h1, h2, h3, h4, h5, h6, ⟨l1, l2, l3, l4⟩, i1, i2, i3, i4, h8⟩ := h
  exact ⟨h1.far (by omega) _ _, h2.put2 _, h3.far (by omega) _ _, h4.far (by omega) _ _, cur_far h5 (by omega) _ _, grown_far h6 (by omega) _ _, ⟨l1, l2, l3, by simpa using l4⟩, i1, i2, i3, hv, h8⟩
theorem T2.b3 (h : T2 B cb w pa pb W ka na ea sa kb nb eb sb) (v : ByteArray) (hv : v.size ≤ 340) : T2 B cb w pa pb (W.setCell ⟨pb, 3, none⟩ (.string v)) ka na ea sa kb nb eb v := by
  obtain ⟨h1, h2, h3, h4, h5, h6, ⟨l1, l2, l3, l4⟩, i1, i2, i3, i4, j1, j2⟩ := h
  exact ⟨h1.far (by omega) _ _, h2.set3 _, h3.far (by omega) _ _, h4.far (by omega) _ _, cur_far h5 (by omega) _ _, grown_far h6 (by omega) _ _, ⟨l1, l2, l3, by simpa using l4⟩, i1, i2, i3, i4, j1, hv⟩
theorem T2.turn (h : T2 B cb w pa pb W ka na ea sa kb nb eb sb) (b' : Bool) : T2 B cb w pa pb ((((W.setCell ⟨pb, 0, none⟩ (.int .i64 ka)).setCell ⟨pb, 1, none⟩ (.bool b')).setCell ⟨pb, 2, none⟩ (.int .i64 ea)).setCell ⟨pb, 3, none⟩ (.string sa)) ka na ea sa ka b' ea sa := by
  obtain ⟨h1, h2, h3, h4, h5, h6, ⟨l1, l2, l3, l4⟩, i1, i2, i3, i4, j1, j2⟩ := h
  exact ⟨(((h1.far (by omega) _ _).far (by omega) _ _).far (by omega) _ _).far (by omega) _ _, h2.put _ _ _ _, (((h3.far (by omega) _ _).far (by omega) _ _).far (by omega) _ _).far (by omega) _ _, (((h4.far (by omega) _ _).far (by omega) _ _).far (by omega) _ _).far (by omega) _ _,
    cur_far (cur_far (cur_far (cur_far h5 (by omega) _ _) (by omega) _ _) (by omega) _ _) (by omega) _ _, grown_far (grown_far (grown_far (grown_far h6 (by omega) _ _) (by omega) _ _) (by omega) _ _) (by omega) _ _, ⟨l1, l2, l3, by simpa using l4⟩, i1, i2, i1, i2, j1, j1⟩
theorem T2.fin (h : T2 B cb w pa pb W ka na ea sa kb nb eb sb) : At4 (((((((((W.setCell ⟨w.heap.size, 0, none⟩ (.int .i64 ka)).setCell ⟨w.heap.size, 1, none⟩ (.bool na)).setCell ⟨w.heap.size, 2, none⟩ (.int .i64 ea)).setCell ⟨w.heap.size, 3, none⟩ (.string sa)).setCell ⟨(w.heap.size + 1), 0, none⟩ (.int .i64 kb)).setCell ⟨(w.heap.size + 1), 1, none⟩ (.bool nb)).setCell ⟨(w.heap.size + 1), 2, none⟩ (.int .i64 eb)).setCell ⟨(w.heap.size + 1), 3, none⟩ (.string sb)).drew) w.heap.size (.int .i64 ka) (.bool na) (.int .i64 ea) (.string sa) ∧ At4 (((((((((W.setCell ⟨w.heap.size, 0, none⟩ (.int .i64 ka)).setCell ⟨w.heap.size, 1, none⟩ (.bool na)).setCell ⟨w.heap.size, 2, none⟩ (.int .i64 ea)).setCell ⟨w.heap.size, 3, none⟩ (.string sa)).setCell ⟨(w.heap.size + 1), 0, none⟩ (.int .i64 kb)).setCell ⟨(w.heap.size + 1), 1, none⟩ (.bool nb)).setCell ⟨(w.heap.size + 1), 2, none⟩ (.int .i64 eb)).setCell ⟨(w.heap.size + 1), 3, none⟩ (.string sb)).drew) (w.heap.size + 1) (.int .i64 kb) (.bool nb) (.int .i64 eb) (.string sb) ∧ Cur B (((((((((W.setCell ⟨w.heap.size, 0, none⟩ (.int .i64 ka)).setCell ⟨w.heap.size, 1, none⟩ (.bool na)).setCell ⟨w.heap.size, 2, none⟩ (.int .i64 ea)).setCell ⟨w.heap.size, 3, none⟩ (.string sa)).setCell ⟨(w.heap.size + 1), 0, none⟩ (.int .i64 kb)).setCell ⟨(w.heap.size + 1), 1, none⟩ (.bool nb)).setCell ⟨(w.heap.size + 1), 2, none⟩ (.int .i64 eb)).setCell ⟨(w.heap.size + 1), 3, none⟩ (.string sb)).drew) cb ∧ w.grownBy (((((((((W.setCell ⟨w.heap.size, 0, none⟩ (.int .i64 ka)).setCell ⟨w.heap.size, 1, none⟩ (.bool na)).setCell ⟨w.heap.size, 2, none⟩ (.int .i64 ea)).setCell ⟨w.heap.size, 3, none⟩ (.string sa)).setCell ⟨(w.heap.size + 1), 0, none⟩ (.int .i64 kb)).setCell ⟨(w.heap.size + 1), 1, none⟩ (.bool nb)).setCell ⟨(w.heap.size + 1), 2, none⟩ (.int .i64 eb)).setCell ⟨(w.heap.size + 1), 3, none⟩ (.string sb)).drew) (some cb) ∧ I64 ka ∧ I64 ea ∧ I64 kb ∧ I64 eb ∧ sa.size ≤ 340 ∧ sb.size ≤ 340 := by
  obtain ⟨h1, h2, h3, h4, h5, h6, ⟨l1, l2, l3, l4⟩, i1⟩ := h
  have q1 := h3.put (.int .i64 ka) (.bool na) (.int .i64 ea) (.string sa)
  have q2 := (((h4.far (b' := w.heap.size) (by omega) 0 (.int .i64 ka)).far (b' := w.heap.size) (by omega) 1 (.bool na)).far (b' := w.heap.size) (by omega) 2 (.int .i64 ea)).far (b' := w.heap.size) (by omega) 3 (.string sa)
  have q3 := cur_far (cur_far (cur_far (cur_far h5 l1 0 (.int .i64 ka)) l1 1 (.bool na)) l1 2 (.int .i64 ea)) l1 3 (.string sa)
  have q4 := grown_far (grown_far (grown_far (grown_far h6 (Nat.le_refl _) 0 (.int .i64 ka)) (Nat.le_refl _) 1 (.bool na)) (Nat.le_refl _) 2 (.int .i64 ea)) (Nat.le_refl _) 3 (.string sa)
  clear h1 h2 h3 h4 h5 h6 l4
  generalize ((((W.setCell ⟨w.heap.size, 0, none⟩ (.int .i64 ka)).setCell ⟨w.heap.size, 1, none⟩ (.bool na)).setCell ⟨w.heap.size, 2, none⟩ (.int .i64 ea)).setCell ⟨w.heap.size, 3, none⟩ (.string sa)) = X at *
  have l5 : cb < w.heap.size + 1 := by omega
  have r1 := (((q1.far (b' := w.heap.size + 1) (by omega) 0 (.int .i64 kb)).far (b' := w.heap.size + 1) (by omega) 1 (.bool nb)).far (b' := w.heap.size + 1) (by omega) 2 (.int .i64 eb)).far (b' := w.heap.size + 1) (by omega) 3 (.string sb)
  have r2 := q2.put (.int .i64 kb) (.bool nb) (.int .i64 eb) (.string sb)
  have r3 := cur_far (cur_far (cur_far (cur_far q3 l5 0 (.int .i64 kb)) l5 1 (.bool nb)) l5 2 (.int .i64 eb)) l5 3 (.string sb)
  have r4 := grown_far (grown_far (grown_far (grown_far q4 (Nat.le_succ _) 0 (.int .i64 kb)) (Nat.le_succ _) 1 (.bool nb)) (Nat.le_succ _) 2 (.int .i64 eb)) (Nat.le_succ _) 3 (.string sb)
  clear q1 q2 q3 q4
  generalize ((((X.setCell ⟨(w.heap.size + 1), 0, none⟩ (.int .i64 kb)).setCell ⟨(w.heap.size + 1), 1, none⟩ (.bool nb)).setCell ⟨(w.heap.size + 1), 2, none⟩ (.int .i64 eb)).setCell ⟨(w.heap.size + 1), 3, none⟩ (.string sb)) = Y at *
  exact ⟨r1, r2, r3, ⟨r4.os, r4.tape, r4.output, r4.size, r4.block⟩, i1⟩
end
theorem results_num2 {fn : Func} {p q : Tmp} {b c : Nat} {x y z u x' y' z' u' : Value} (h : fn.results = #[.cell p 25, .cell q 25]) (tmps : Array Value) (w : World) (hp : tmps[p]?.getD undef = .pointer (some ⟨b, 0, none⟩)) (hq : tmps[q]?.getD undef = .pointer (some ⟨c, 0, none⟩))
    (h1 : At4 w b x y z u) (h2 : At4 w c x' y' z' u') : (results fn tmps).run Tryz.prog w = .ok (.tuple #[.agg #[x, y, z, u], .agg #[x', y', z', u']]) w := by
  obtain ⟨a0, a1, a2, a3, -⟩ := h1
  obtain ⟨c0, c1, c2, c3, -⟩ := h2
  unfold results
  rw [h]
  go_simp
set_option maxRecDepth 100000 in
set_option maxHeartbeats 2000000 in
theorem l13DrawTwo_any (B cb : Nat) (f : Int) (w : World) (hc : Cur B w cb) :
    Calls Tryz.prog 95 #[.pointer (some ⟨cb, 0, none⟩), .int .i64 f] w fun r w' => ∃ (ka : Int) (na : Bool) (ea : Int) (sa : ByteArray) (kb : Int) (nb : Bool) (eb : Int) (sb : ByteArray), r = .returned (.tuple #[numV ka na ea sa, numV kb nb eb sb]) ∧ (I64 ka ∧ I64 ea ∧ I64 kb ∧ I64 eb ∧ sa.size ≤ 340 ∧ sb.size ≤ 340) ∧ Cur B w' cb ∧ w.grownBy w' (some cb) := by
  have hcl := hc.lt
  go_enter Tryz.func95, Tryz.ntmps95
  go_wp2_with fail
  refine (l10DrawNum_any B cb f _ (cur_alloc (cur_alloc hc _) _)).mono ?_
  rintro r w1 ⟨ka, na, ea, sa, rfl, ia, ja, za, hc1, hg1⟩
  go_wp2_with fail
  refine (l10DrawNum_any B cb f _ (cur_alloc hc1 _)).mono ?_
  rintro r w2 ⟨kb, nb, eb, sb, rfl, ib, jb, zb, hc2, hg2⟩
  have HT : Hid (T2 B cb w w1.heap.size w2.heap.size (w2.alloc (.cells #[.int .i64 kb, .bool nb, .int .i64 eb, .string sb] 25)) ka na ea sa kb nb eb sb) := by
    have s0 : ((w.alloc (.cells #[.int .i64 0, .bool false, .int .i64 0, .string { data := #[] }] 25)).alloc (.cells #[.int .i64 0, .bool false, .int .i64 0, .string { data := #[] }] 25)).heap.size = w.heap.size + 2 := by simp
    have s1 := hg1.size
    have s2 := hg2.size
    have s3 : (w1.alloc (.cells #[.int .i64 ka, .bool na, .int .i64 ea, .string sa] 25)).heap.size = w1.heap.size + 1 := by simp
    have z0 := (at4_new w (.int .i64 0) (.bool false) (.int .i64 0) (.string { data := #[] })).alloc (by simp) (.cells #[.int .i64 0, .bool false, .int .i64 0, .string { data := #[] }] 25)
    have z1 := at4_new (w.alloc (.cells #[.int .i64 0, .bool false, .int .i64 0, .string { data := #[] }] 25)) (.int .i64 0) (.bool false) (.int .i64 0) (.string { data := #[] })
    rw [show (w.alloc (.cells #[.int .i64 0, .bool false, .int .i64 0, .string { data := #[] }] 25)).heap.size = w.heap.size + 1 by simp] at z1
    have l := hcl.2
    refine ⟨((at4_new w1 (.int .i64 ka) (.bool na) (.int .i64 ea) (.string sa)).grown hg2 (by omega) (by omega)).alloc (by omega) _, at4_new w2 _ _ _ _, (((z0.grown hg1 (by omega) (by omega)).alloc (by omega) _).grown hg2 (by omega) (by omega)).alloc (by omega) _, (((z1.grown hg1 (by omega) (by omega)).alloc (by omega) _).grown hg2 (by omega) (by omega)).alloc (by omega) _,
      cur_alloc hc2 _, grown_trans (grown_trans (grown_trans (grown_trans (grown_trans (World.grownBy_alloc _ _ _) (World.grownBy_alloc _ _ _)) hg1) (World.grownBy_alloc _ _ _)) hg2) (World.grownBy_alloc _ _ _), ⟨l, by omega, by omega, by simp⟩, ia, ja, ib, jb, za, zb⟩
  go_upto_region 3 with fail
  generalize w2.alloc (.cells #[.int .i64 kb, .bool nb, .int .i64 eb, .string sb] 25) = W3 at *
  generalize w1.heap.size = pa at *
  generalize w2.heap.size = pb at *
  clear hg1 hg2 hc1 hc2 ia ja za ib jb zb hc
  obtain ⟨⟨a0, a1, a2, a3, a4⟩, ⟨c0, c1, c2, c3, c4⟩, -⟩ := HT.out
  by_cases hk : ka = 1
  · subst hk
    go_wp2_with fail
    refine (l1Once_any B cb 6 _ HT.out.2.2.2.2.1 (by decide) (by decide)).mono ?_
    rintro e w4 ⟨b4, rfl, hc4, hg4⟩
    have HT4 : Hid (T2 B cb w pa pb w4 1 na ea sa kb nb eb sb) := HT.out.draw hc4 hg4
    clear hc4 hg4 HT a0 a1 a2 a3 a4 c0 c1 c2 c3 c4
    cases b4
    · go_upto_region 8 with fail
      by_cases hkb : kb = 1
      · subst hkb
        have HZ : Hid (T2 B cb w pa pb w4 1 na ea sa 1 nb eb sb) := HT4
        clear HT4
        generalize w4 = WZ at *
        generalize nb = nq at *
        generalize eb = eq at *
        generalize sb = sq at *
        obtain ⟨⟨a0, a1, a2, a3, a4⟩, ⟨c0, c1, c2, c3, c4⟩, -⟩ := HZ.out
        clear a4 c4
        go_wp2_with fail
        refine (l1Once_any B cb 5 _ HZ.out.2.2.2.2.1 (by decide) (by decide)).mono ?_
        rintro e w9 ⟨b9, rfl, hc9, hg9⟩
        have HT9 : Hid (T2 B cb w pa pb w9 1 na ea sa 1 nq eq sq) := HZ.out.draw hc9 hg9
        clear hc9 hg9 HZ a0 a1 a2 a3 c0 c1 c2 c3
        cases b9
        · obtain ⟨⟨a0, a1, a2, a3, -⟩, ⟨c0, c1, c2, c3, -⟩, ⟨d0, d1, d2, d3, d4⟩, ⟨e0, e1, e2, e3, e4⟩, -⟩ := HT9.out
          have d40 := d4 0
          have d41 := d4 1
          have d42 := d4 2
          have d43 := d4 3
          have e40 := e4 0
          have e41 := e4 1
          have e42 := e4 2
          have e43 := e4 3
          clear d4 e4
          obtain ⟨-, m2, m3, -⟩ := HT9.out.2.2.2.2.2.2.1
          have n0 : w.heap.size ≠ pa := by omega
          have n1 : w.heap.size ≠ pb := by omega
          have n2 : w.heap.size + 1 ≠ pa := by omega
          have n3 : w.heap.size + 1 ≠ pb := by omega
          have n4 : pa ≠ w.heap.size := by omega
          have n5 : pb ≠ w.heap.size := by omega
          have n6 : pa ≠ w.heap.size + 1 := by omega
          have n7 : pb ≠ w.heap.size + 1 := by omega
          clear m2 m3
          go_upto_region 10 with fail
          go_region
          have HP := HT9.out.fin
          clear n0 n1 n2 n3 n4 n5 n6 n7 a0 a1 a2 a3 c0 c1 c2 c3 d0 d1 d2 d3 e0 e1 e2 e3 d40 d41 d42 d43 e40 e41 e42 e43
          go_wp2
          refine bodyPost_ret (results_num2 rfl _ _ rfl rfl HP.1 HP.2.1) rfl ?_
          exact ⟨_, _, _, _, _, _, _, _, rfl, HP.2.2.2.2, HP.2.2.1, HP.2.2.2.1⟩
        · obtain ⟨⟨a0, a1, a2, a3, -⟩, ⟨c0, c1, c2, c3, c4⟩, -⟩ := HT9.out
          have c42 := c4 2
          clear c4
          go_upto_region 9 with fail
          clear a0 a1 a3 c0 c1 c3
          go_region_with (first
              | (go_at_call 76; refine (l1From_any B cb (-20) 20 _ HT9.out.drew.2.2.2.2.1 (by decide) (by decide) (by decide)).mono ?_; rintro r wA ⟨x, rfl, x0, x1, hcA, hgA⟩; have HTA : Hid (T2 B cb w pa pb wA 1 na ea sa 1 nq eq sq) := HT9.out.drew.draw hcA hgA; obtain ⟨⟨-, -, p2, -, -⟩, ⟨-, -, r2, -, r4⟩, -⟩ := HTA.out; have r42 := r4 2; clear r4 hcA hgA))
          all_goals
            have HTB : Hid (T2 B cb w pa pb (wA.setCell ⟨pb, 2, none⟩ (.int .i64 (IntKind.i64.wrap (ea + x)))) 1 na ea sa 1 nq (IntKind.i64.wrap (ea + x)) sq) := HTA.out.b2 _ (i64_any _)
            generalize IntKind.i64.wrap (ea + x) = ev at *
            generalize wA.setCell ⟨pb, 2, none⟩ (.int .i64 ev) = WB at *
            clear HT9 HTA a2 c2 c42 p2 r2 r42 x0 x1
            obtain ⟨⟨a0, a1, a2, a3, -⟩, ⟨c0, c1, c2, c3, -⟩, ⟨d0, d1, d2, d3, d4⟩, ⟨e0, e1, e2, e3, e4⟩, -⟩ := HTB.out
            have d40 := d4 0
            have d41 := d4 1
            have d42 := d4 2
            have d43 := d4 3
            have e40 := e4 0
            have e41 := e4 1
            have e42 := e4 2
            have e43 := e4 3
            clear d4 e4
            obtain ⟨-, m2, m3, -⟩ := HTB.out.2.2.2.2.2.2.1
            have n0 : w.heap.size ≠ pa := by omega
            have n1 : w.heap.size ≠ pb := by omega
            have n2 : w.heap.size + 1 ≠ pa := by omega
            have n3 : w.heap.size + 1 ≠ pb := by omega
            have n4 : pa ≠ w.heap.size := by omega
            have n5 : pb ≠ w.heap.size := by omega
            have n6 : pa ≠ w.heap.size + 1 := by omega
            have n7 : pb ≠ w.heap.size + 1 := by omega
            clear m2 m3
            go_upto_region 10 with fail
            go_region
            have HP := HTB.out.fin
            clear n0 n1 n2 n3 n4 n5 n6 n7 a0 a1 a2 a3 c0 c1 c2 c3 d0 d1 d2 d3 e0 e1 e2 e3 d40 d41 d42 d43 e40 e41 e42 e43
            go_wp2
            refine bodyPost_ret (results_num2 rfl _ _ rfl rfl HP.1 HP.2.1) rfl ?_
            exact ⟨_, _, _, _, _, _, _, _, rfl, HP.2.2.2.2, HP.2.2.1, HP.2.2.2.1⟩

      · have hk2 : (kb == 1) = false := by simpa using hkb
        obtain ⟨⟨a0, a1, a2, a3, a4⟩, ⟨c0, c1, c2, c3, c4⟩, -⟩ := HT4.out
        clear a4 c4
        go_upto_region 10 with fail
        clear a0 a1 a2 a3 c0 c1 c2 c3
        obtain ⟨⟨a0, a1, a2, a3, -⟩, ⟨c0, c1, c2, c3, -⟩, ⟨d0, d1, d2, d3, d4⟩, ⟨e0, e1, e2, e3, e4⟩, -⟩ := HT4.out
        have d40 := d4 0
        have d41 := d4 1
        have d42 := d4 2
        have d43 := d4 3
        have e40 := e4 0
        have e41 := e4 1
        have e42 := e4 2
        have e43 := e4 3
        clear d4 e4
        obtain ⟨-, m2, m3, -⟩ := HT4.out.2.2.2.2.2.2.1
        have n0 : w.heap.size ≠ pa := by omega
        have n1 : w.heap.size ≠ pb := by omega
        have n2 : w.heap.size + 1 ≠ pa := by omega
        have n3 : w.heap.size + 1 ≠ pb := by omega
        have n4 : pa ≠ w.heap.size := by omega
        have n5 : pb ≠ w.heap.size := by omega
        have n6 : pa ≠ w.heap.size + 1 := by omega
        have n7 : pb ≠ w.heap.size + 1 := by omega
        clear m2 m3
        go_region
        have HP := HT4.out.fin
        clear n0 n1 n2 n3 n4 n5 n6 n7 a0 a1 a2 a3 c0 c1 c2 c3 d0 d1 d2 d3 e0 e1 e2 e3 d40 d41 d42 d43 e40 e41 e42 e43
        go_wp2
        refine bodyPost_ret (results_num2 rfl _ _ rfl rfl HP.1 HP.2.1) rfl ?_
        exact ⟨_, _, _, _, _, _, _, _, rfl, HP.2.2.2.2, HP.2.2.1, HP.2.2.2.1⟩

    · obtain ⟨⟨a0, a1, a2, a3, a4⟩, ⟨c0, c1, c2, c3, c4⟩, -⟩ := HT4.out
      have c40 := c4 0
      have c41 := c4 1
      have c42 := c4 2
      have c43 := c4 3
      have HTu : Hid (∀ X, Calls Tryz.prog 106 #[numV 1 na ea sa] X fun x w' => x = .returned (numV 1 (!na) ea sa) ∧ Below X.heap.size X w') := fun X => by
        have := l13Turn_any 1 na ea sa X
        rw [if_pos (.inl rfl)] at this
        exact this
      go_wp2_with fail
      refine (HTu.out _).mono ?_
      rintro e w5 ⟨rfl, hb5⟩
      have HT5 : Hid (T2 B cb w pa pb w5 1 na ea sa kb nb eb sb) := HT4.out.draw (cur_bel2 HT4.out.2.2.2.2.1 hb5) (grown_bel2 hb5 _)
      have HT6 : Hid (T2 B cb w pa pb ((((w5.setCell ⟨pb, 0, none⟩ (.int .i64 1)).setCell ⟨pb, 1, none⟩ (.bool (!na))).setCell ⟨pb, 2, none⟩ (.int .i64 ea)).setCell ⟨pb, 3, none⟩ (.string sa)) 1 na ea sa 1 (!na) ea sa) := HT5.out.turn (!na)
      clear hb5 HT4 HTu a0 a1 a2 a3 a4 c0 c1 c2 c3 c4 c40 c41 c42 c43
      obtain ⟨-, ⟨c0, c1, c2, c3, c4⟩, -⟩ := HT5.out
      have c40 := c4 0
      have c41 := c4 1
      have c42 := c4 2
      have c43 := c4 3
      clear c4
      go_upto_region 5 with fail
      generalize (((w5.setCell ⟨pb, 0, none⟩ (.int .i64 1)).setCell ⟨pb, 1, none⟩ (.bool (!na))).setCell ⟨pb, 2, none⟩ (.int .i64 ea)).setCell ⟨pb, 3, none⟩ (.string sa) = W6 at *
      clear HT5 c0 c1 c2 c3 c40 c41 c42 c43
      go_wp2_with fail
      refine (l1Once_any B cb 2 _ HT6.out.2.2.2.2.1 (by decide) (by decide)).mono ?_
      rintro e w7 ⟨b7, rfl, hc7, hg7⟩
      have HT7 : Hid (T2 B cb w pa pb w7 1 na ea sa 1 (!na) ea sa) := HT6.out.draw hc7 hg7
      clear hc7 hg7 HT6
      obtain ⟨-, ⟨c0, c1, c2, c3, c4⟩, -⟩ := HT7.out
      generalize (!na) = nq at *
      cases b7
      · clear c0 c1 c2 c3 c4
        go_upto_region 8 with fail
        have HZ : Hid (T2 B cb w pa pb w7 1 na ea sa 1 nq ea sa) := HT7
        clear HT7
        obtain ⟨⟨a0, a1, a2, a3, a4⟩, ⟨c0, c1, c2, c3, c4⟩, -⟩ := HZ.out
        clear a4 c4
        go_wp2_with fail
        refine (l1Once_any B cb 5 _ HZ.out.2.2.2.2.1 (by decide) (by decide)).mono ?_
        rintro e w9 ⟨b9, rfl, hc9, hg9⟩
        have HT9 : Hid (T2 B cb w pa pb w9 1 na ea sa 1 nq ea sa) := HZ.out.draw hc9 hg9
        clear hc9 hg9 HZ a0 a1 a2 a3 c0 c1 c2 c3
        cases b9
        · obtain ⟨⟨a0, a1, a2, a3, -⟩, ⟨c0, c1, c2, c3, -⟩, ⟨d0, d1, d2, d3, d4⟩, ⟨e0, e1, e2, e3, e4⟩, -⟩ := HT9.out
          have d40 := d4 0
          have d41 := d4 1
          have d42 := d4 2
          have d43 := d4 3
          have e40 := e4 0
          have e41 := e4 1
          have e42 := e4 2
          have e43 := e4 3
          clear d4 e4
          obtain ⟨-, m2, m3, -⟩ := HT9.out.2.2.2.2.2.2.1
          have n0 : w.heap.size ≠ pa := by omega
          have n1 : w.heap.size ≠ pb := by omega
          have n2 : w.heap.size + 1 ≠ pa := by omega
          have n3 : w.heap.size + 1 ≠ pb := by omega
          have n4 : pa ≠ w.heap.size := by omega
          have n5 : pb ≠ w.heap.size := by omega
          have n6 : pa ≠ w.heap.size + 1 := by omega
          have n7 : pb ≠ w.heap.size + 1 := by omega
          clear m2 m3
          go_upto_region 10 with fail
          go_region
          have HP := HT9.out.fin
          clear n0 n1 n2 n3 n4 n5 n6 n7 a0 a1 a2 a3 c0 c1 c2 c3 d0 d1 d2 d3 e0 e1 e2 e3 d40 d41 d42 d43 e40 e41 e42 e43
          go_wp2
          refine bodyPost_ret (results_num2 rfl _ _ rfl rfl HP.1 HP.2.1) rfl ?_
          exact ⟨_, _, _, _, _, _, _, _, rfl, HP.2.2.2.2, HP.2.2.1, HP.2.2.2.1⟩
        · obtain ⟨⟨a0, a1, a2, a3, -⟩, ⟨c0, c1, c2, c3, c4⟩, -⟩ := HT9.out
          have c42 := c4 2
          clear c4
          go_upto_region 9 with fail
          clear a0 a1 a3 c0 c1 c3
          go_region_with (first
              | (go_at_call 76; refine (l1From_any B cb (-20) 20 _ HT9.out.drew.2.2.2.2.1 (by decide) (by decide) (by decide)).mono ?_; rintro r wA ⟨x, rfl, x0, x1, hcA, hgA⟩; have HTA : Hid (T2 B cb w pa pb wA 1 na ea sa 1 nq ea sa) := HT9.out.drew.draw hcA hgA; obtain ⟨⟨-, -, p2, -, -⟩, ⟨-, -, r2, -, r4⟩, -⟩ := HTA.out; have r42 := r4 2; clear r4 hcA hgA))
          all_goals
            have HTB : Hid (T2 B cb w pa pb (wA.setCell ⟨pb, 2, none⟩ (.int .i64 (IntKind.i64.wrap (ea + x)))) 1 na ea sa 1 nq (IntKind.i64.wrap (ea + x)) sa) := HTA.out.b2 _ (i64_any _)
            generalize IntKind.i64.wrap (ea + x) = ev at *
            generalize wA.setCell ⟨pb, 2, none⟩ (.int .i64 ev) = WB at *
            clear HT9 HTA a2 c2 c42 p2 r2 r42 x0 x1
            obtain ⟨⟨a0, a1, a2, a3, -⟩, ⟨c0, c1, c2, c3, -⟩, ⟨d0, d1, d2, d3, d4⟩, ⟨e0, e1, e2, e3, e4⟩, -⟩ := HTB.out
            have d40 := d4 0
            have d41 := d4 1
            have d42 := d4 2
            have d43 := d4 3
            have e40 := e4 0
            have e41 := e4 1
            have e42 := e4 2
            have e43 := e4 3
            clear d4 e4
            obtain ⟨-, m2, m3, -⟩ := HTB.out.2.2.2.2.2.2.1
            have n0 : w.heap.size ≠ pa := by omega
            have n1 : w.heap.size ≠ pb := by omega
            have n2 : w.heap.size + 1 ≠ pa := by omega
            have n3 : w.heap.size + 1 ≠ pb := by omega
            have n4 : pa ≠ w.heap.size := by omega
            have n5 : pb ≠ w.heap.size := by omega
            have n6 : pa ≠ w.heap.size + 1 := by omega
            have n7 : pb ≠ w.heap.size + 1 := by omega
            clear m2 m3
            go_upto_region 10 with fail
            go_region
            have HP := HTB.out.fin
            clear n0 n1 n2 n3 n4 n5 n6 n7 a0 a1 a2 a3 c0 c1 c2 c3 d0 d1 d2 d3 e0 e1 e2 e3 d40 d41 d42 d43 e40 e41 e42 e43
            go_wp2
            refine bodyPost_ret (results_num2 rfl _ _ rfl rfl HP.1 HP.2.1) rfl ?_
            exact ⟨_, _, _, _, _, _, _, _, rfl, HP.2.2.2.2, HP.2.2.1, HP.2.2.2.1⟩

      · by_cases hl : 1 < sa.size
        · have hl2 : ((1 : Int) < (sa.size : Int)) = True := by simp; omega
          have hz := HT7.out.2.2.2.2.2.2.2.2.2.2.2.2
          have hw : IntKind.i64.wrap ((sa.size : Int) - 1) = ((sa.size - 1 : Nat) : Int) := by rw [IntKind.wrap_i64]; omega
          have hk1 : (0 : Int) ≤ ((sa.size - 1 : Nat) : Int) := by omega
          have hk2 : ((sa.size - 1 : Nat) : Int) ≤ (sa.size : Int) := by omega
          generalize hm : sa.size - 1 = m at *
          have c42 := c4 2
          have c43 := c4 3
          have HZ : Hid (T2 B cb w pa pb ((w7.setCell ⟨pb, 3, none⟩ (.string (sa.extract 0 m))).setCell ⟨pb, 2, none⟩ (.int .i64 (wrap64 (ea + 1)))) 1 na ea sa 1 nq (wrap64 (ea + 1)) (sa.extract 0 m)) := (HT7.out.b3 _ (by rw [ByteArray.size_extract]; omega)).b2 _ (by first | exact i64_any _ | (unfold wrap64 I64; omega))
          clear c0 c1 c4 hz hm
          go_upto_region 8 with fail
          generalize (w7.setCell ⟨pb, 3, none⟩ (.string (sa.extract 0 m))).setCell ⟨pb, 2, none⟩ (.int .i64 (wrap64 (ea + 1))) = WZ at *
          generalize wrap64 (ea + 1) = eq at *
          generalize sa.extract 0 m = sq at *
          clear HT7 c2 c3 c42 c43 hl hl2 hw hk1 hk2
          obtain ⟨⟨a0, a1, a2, a3, a4⟩, ⟨c0, c1, c2, c3, c4⟩, -⟩ := HZ.out
          clear a4 c4
          go_wp2_with fail
          refine (l1Once_any B cb 5 _ HZ.out.2.2.2.2.1 (by decide) (by decide)).mono ?_
          rintro e w9 ⟨b9, rfl, hc9, hg9⟩
          have HT9 : Hid (T2 B cb w pa pb w9 1 na ea sa 1 nq eq sq) := HZ.out.draw hc9 hg9
          clear hc9 hg9 HZ a0 a1 a2 a3 c0 c1 c2 c3
          cases b9
          · obtain ⟨⟨a0, a1, a2, a3, -⟩, ⟨c0, c1, c2, c3, -⟩, ⟨d0, d1, d2, d3, d4⟩, ⟨e0, e1, e2, e3, e4⟩, -⟩ := HT9.out
            have d40 := d4 0
            have d41 := d4 1
            have d42 := d4 2
            have d43 := d4 3
            have e40 := e4 0
            have e41 := e4 1
            have e42 := e4 2
            have e43 := e4 3
            clear d4 e4
            obtain ⟨-, m2, m3, -⟩ := HT9.out.2.2.2.2.2.2.1
            have n0 : w.heap.size ≠ pa := by omega
            have n1 : w.heap.size ≠ pb := by omega
            have n2 : w.heap.size + 1 ≠ pa := by omega
            have n3 : w.heap.size + 1 ≠ pb := by omega
            have n4 : pa ≠ w.heap.size := by omega
            have n5 : pb ≠ w.heap.size := by omega
            have n6 : pa ≠ w.heap.size + 1 := by omega
            have n7 : pb ≠ w.heap.size + 1 := by omega
            clear m2 m3
            go_upto_region 10 with fail
            go_region
            have HP := HT9.out.fin
            clear n0 n1 n2 n3 n4 n5 n6 n7 a0 a1 a2 a3 c0 c1 c2 c3 d0 d1 d2 d3 e0 e1 e2 e3 d40 d41 d42 d43 e40 e41 e42 e43
            go_wp2
            refine bodyPost_ret (results_num2 rfl _ _ rfl rfl HP.1 HP.2.1) rfl ?_
            exact ⟨_, _, _, _, _, _, _, _, rfl, HP.2.2.2.2, HP.2.2.1, HP.2.2.2.1⟩
          · obtain ⟨⟨a0, a1, a2, a3, -⟩, ⟨c0, c1, c2, c3, c4⟩, -⟩ := HT9.out
            have c42 := c4 2
            clear c4
            go_upto_region 9 with fail
            clear a0 a1 a3 c0 c1 c3
            go_region_with (first
                | (go_at_call 76; refine (l1From_any B cb (-20) 20 _ HT9.out.drew.2.2.2.2.1 (by decide) (by decide) (by decide)).mono ?_; rintro r wA ⟨x, rfl, x0, x1, hcA, hgA⟩; have HTA : Hid (T2 B cb w pa pb wA 1 na ea sa 1 nq eq sq) := HT9.out.drew.draw hcA hgA; obtain ⟨⟨-, -, p2, -, -⟩, ⟨-, -, r2, -, r4⟩, -⟩ := HTA.out; have r42 := r4 2; clear r4 hcA hgA))
            all_goals
              have HTB : Hid (T2 B cb w pa pb (wA.setCell ⟨pb, 2, none⟩ (.int .i64 (IntKind.i64.wrap (ea + x)))) 1 na ea sa 1 nq (IntKind.i64.wrap (ea + x)) sq) := HTA.out.b2 _ (i64_any _)
              generalize IntKind.i64.wrap (ea + x) = ev at *
              generalize wA.setCell ⟨pb, 2, none⟩ (.int .i64 ev) = WB at *
              clear HT9 HTA a2 c2 c42 p2 r2 r42 x0 x1
              obtain ⟨⟨a0, a1, a2, a3, -⟩, ⟨c0, c1, c2, c3, -⟩, ⟨d0, d1, d2, d3, d4⟩, ⟨e0, e1, e2, e3, e4⟩, -⟩ := HTB.out
              have d40 := d4 0
              have d41 := d4 1
              have d42 := d4 2
              have d43 := d4 3
              have e40 := e4 0
              have e41 := e4 1
              have e42 := e4 2
              have e43 := e4 3
              clear d4 e4
              obtain ⟨-, m2, m3, -⟩ := HTB.out.2.2.2.2.2.2.1
              have n0 : w.heap.size ≠ pa := by omega
              have n1 : w.heap.size ≠ pb := by omega
              have n2 : w.heap.size + 1 ≠ pa := by omega
              have n3 : w.heap.size + 1 ≠ pb := by omega
              have n4 : pa ≠ w.heap.size := by omega
              have n5 : pb ≠ w.heap.size := by omega
              have n6 : pa ≠ w.heap.size + 1 := by omega
              have n7 : pb ≠ w.heap.size + 1 := by omega
              clear m2 m3
              go_upto_region 10 with fail
              go_region
              have HP := HTB.out.fin
              clear n0 n1 n2 n3 n4 n5 n6 n7 a0 a1 a2 a3 c0 c1 c2 c3 d0 d1 d2 d3 e0 e1 e2 e3 d40 d41 d42 d43 e40 e41 e42 e43
              go_wp2
              refine bodyPost_ret (results_num2 rfl _ _ rfl rfl HP.1 HP.2.1) rfl ?_
              exact ⟨_, _, _, _, _, _, _, _, rfl, HP.2.2.2.2, HP.2.2.1, HP.2.2.2.1⟩
        · have hl2 : ((1 : Int) < (sa.size : Int)) = False := by simp; omega
          clear c0 c1 c2 c4
          go_upto_region 8 with fail
          have HZ : Hid (T2 B cb w pa pb w7 1 na ea sa 1 nq ea sa) := HT7
          clear HT7 c3 hl hl2
          obtain ⟨⟨a0, a1, a2, a3, a4⟩, ⟨c0, c1, c2, c3, c4⟩, -⟩ := HZ.out
          clear a4 c4
          go_wp2_with fail
          refine (l1Once_any B cb 5 _ HZ.out.2.2.2.2.1 (by decide) (by decide)).mono ?_
          rintro e w9 ⟨b9, rfl, hc9, hg9⟩
          have HT9 : Hid (T2 B cb w pa pb w9 1 na ea sa 1 nq ea sa) := HZ.out.draw hc9 hg9
          clear hc9 hg9 HZ a0 a1 a2 a3 c0 c1 c2 c3
          cases b9
          · obtain ⟨⟨a0, a1, a2, a3, -⟩, ⟨c0, c1, c2, c3, -⟩, ⟨d0, d1, d2, d3, d4⟩, ⟨e0, e1, e2, e3, e4⟩, -⟩ := HT9.out
            have d40 := d4 0
            have d41 := d4 1
            have d42 := d4 2
            have d43 := d4 3
            have e40 := e4 0
            have e41 := e4 1
            have e42 := e4 2
            have e43 := e4 3
            clear d4 e4
            obtain ⟨-, m2, m3, -⟩ := HT9.out.2.2.2.2.2.2.1
            have n0 : w.heap.size ≠ pa := by omega
            have n1 : w.heap.size ≠ pb := by omega
            have n2 : w.heap.size + 1 ≠ pa := by omega
            have n3 : w.heap.size + 1 ≠ pb := by omega
            have n4 : pa ≠ w.heap.size := by omega
            have n5 : pb ≠ w.heap.size := by omega
            have n6 : pa ≠ w.heap.size + 1 := by omega
            have n7 : pb ≠ w.heap.size + 1 := by omega
            clear m2 m3
            go_upto_region 10 with fail
            go_region
            have HP := HT9.out.fin
            clear n0 n1 n2 n3 n4 n5 n6 n7 a0 a1 a2 a3 c0 c1 c2 c3 d0 d1 d2 d3 e0 e1 e2 e3 d40 d41 d42 d43 e40 e41 e42 e43
            go_wp2
            refine bodyPost_ret (results_num2 rfl _ _ rfl rfl HP.1 HP.2.1) rfl ?_
            exact ⟨_, _, _, _, _, _, _, _, rfl, HP.2.2.2.2, HP.2.2.1, HP.2.2.2.1⟩
          · obtain ⟨⟨a0, a1, a2, a3, -⟩, ⟨c0, c1, c2, c3, c4⟩, -⟩ := HT9.out
            have c42 := c4 2
            clear c4
            go_upto_region 9 with fail
            clear a0 a1 a3 c0 c1 c3
            go_region_with (first
                | (go_at_call 76; refine (l1From_any B cb (-20) 20 _ HT9.out.drew.2.2.2.2.1 (by decide) (by decide) (by decide)).mono ?_; rintro r wA ⟨x, rfl, x0, x1, hcA, hgA⟩; have HTA : Hid (T2 B cb w pa pb wA 1 na ea sa 1 nq ea sa) := HT9.out.drew.draw hcA hgA; obtain ⟨⟨-, -, p2, -, -⟩, ⟨-, -, r2, -, r4⟩, -⟩ := HTA.out; have r42 := r4 2; clear r4 hcA hgA))
            all_goals
              have HTB : Hid (T2 B cb w pa pb (wA.setCell ⟨pb, 2, none⟩ (.int .i64 (IntKind.i64.wrap (ea + x)))) 1 na ea sa 1 nq (IntKind.i64.wrap (ea + x)) sa) := HTA.out.b2 _ (i64_any _)
              generalize IntKind.i64.wrap (ea + x) = ev at *
              generalize wA.setCell ⟨pb, 2, none⟩ (.int .i64 ev) = WB at *
              clear HT9 HTA a2 c2 c42 p2 r2 r42 x0 x1
              obtain ⟨⟨a0, a1, a2, a3, -⟩, ⟨c0, c1, c2, c3, -⟩, ⟨d0, d1, d2, d3, d4⟩, ⟨e0, e1, e2, e3, e4⟩, -⟩ := HTB.out
              have d40 := d4 0
              have d41 := d4 1
              have d42 := d4 2
              have d43 := d4 3
              have e40 := e4 0
              have e41 := e4 1
              have e42 := e4 2
              have e43 := e4 3
              clear d4 e4
              obtain ⟨-, m2, m3, -⟩ := HTB.out.2.2.2.2.2.2.1
              have n0 : w.heap.size ≠ pa := by omega
              have n1 : w.heap.size ≠ pb := by omega
              have n2 : w.heap.size + 1 ≠ pa := by omega
              have n3 : w.heap.size + 1 ≠ pb := by omega
              have n4 : pa ≠ w.heap.size := by omega
              have n5 : pb ≠ w.heap.size := by omega
              have n6 : pa ≠ w.heap.size + 1 := by omega
              have n7 : pb ≠ w.heap.size + 1 := by omega
              clear m2 m3
              go_upto_region 10 with fail
              go_region
              have HP := HTB.out.fin
              clear n0 n1 n2 n3 n4 n5 n6 n7 a0 a1 a2 a3 c0 c1 c2 c3 d0 d1 d2 d3 e0 e1 e2 e3 d40 d41 d42 d43 e40 e41 e42 e43
              go_wp2
              refine bodyPost_ret (results_num2 rfl _ _ rfl rfl HP.1 HP.2.1) rfl ?_
              exact ⟨_, _, _, _, _, _, _, _, rfl, HP.2.2.2.2, HP.2.2.1, HP.2.2.2.1⟩

  · have hk' : (ka == 1) = false := by simpa using hk
    clear a1 a2 a3 a4 c0 c1 c2 c3 c4
    go_upto_region 10 with fail
    clear a0
    obtain ⟨⟨a0, a1, a2, a3, -⟩, ⟨c0, c1, c2, c3, -⟩, ⟨d0, d1, d2, d3, d4⟩, ⟨e0, e1, e2, e3, e4⟩, -⟩ := HT.out
    have d40 := d4 0
    have d41 := d4 1
    have d42 := d4 2
    have d43 := d4 3
    have e40 := e4 0
    have e41 := e4 1
    have e42 := e4 2
    have e43 := e4 3
    clear d4 e4
    obtain ⟨-, m2, m3, -⟩ := HT.out.2.2.2.2.2.2.1
    have n0 : w.heap.size ≠ pa := by omega
    have n1 : w.heap.size ≠ pb := by omega
    have n2 : w.heap.size + 1 ≠ pa := by omega
    have n3 : w.heap.size + 1 ≠ pb := by omega
    have n4 : pa ≠ w.heap.size := by omega
    have n5 : pb ≠ w.heap.size := by omega
    have n6 : pa ≠ w.heap.size + 1 := by omega
    have n7 : pb ≠ w.heap.size + 1 := by omega
    clear m2 m3
    go_region
    have HP := HT.out.fin
    clear n0 n1 n2 n3 n4 n5 n6 n7 a0 a1 a2 a3 c0 c1 c2 c3 d0 d1 d2 d3 e0 e1 e2 e3 d40 d41 d42 d43 e40 e41 e42 e43
    go_wp2
    refine bodyPost_ret (results_num2 rfl _ _ rfl rfl HP.1 HP.2.1) rfl ?_
    exact ⟨_, _, _, _, _, _, _, _, rfl, HP.2.2.2.2, HP.2.2.1, HP.2.2.2.1⟩
end Go.Proofs.YtnkoeidolmiheaaGreatDoor
namespace Go.Proofs.YtnkoeidolmiheaaGreatDoor
open Go.RowKit
set_option linter.unusedVariables false
set_option maxRecDepth 100000
/-- The answers' boxes. -/
abbrev a2W (w : World) : World := (w.alloc (.cells #[.int .i64 0, .bool false, .int .i64 0, .string { data := #[] }] 25)).alloc (.cells #[.int .i64 0, .bool false, .int .i64 0, .string { data := #[] }] 25)
def A2 (w W : World) : Prop := At4 W w.heap.size (.int .i64 0) (.bool false) (.int .i64 0) (.string { data := #[] }) ∧ At4 W (w.heap.size + 1) (.int .i64 0) (.bool false) (.int .i64 0) (.string { data := #[] }) ∧ Below w.heap.size w W ∧ w.heap.size + 2 ≤ W.heap.size
theorem a2_new (w : World) : A2 w (a2W w) ∧ (a2W w).heap.size = w.heap.size + 2 := by
  unfold a2W
  have h1 := at4_new w (.int .i64 0) (.bool false) (.int .i64 0) (.string { data := #[] })
  have z1 := new_size w (.cells #[.int .i64 0, .bool false, .int .i64 0, .string { data := #[] }] 25)
  have b1 : Below w.heap.size w (w.alloc (.cells #[.int .i64 0, .bool false, .int .i64 0, .string { data := #[] }] 25)) := (Below.refl _ _).alloc (Nat.le_refl _) _
  generalize w.alloc (.cells #[.int .i64 0, .bool false, .int .i64 0, .string { data := #[] }] 25) = w1 at *
  have h2 := at4_new w1 (.int .i64 0) (.bool false) (.int .i64 0) (.string { data := #[] })
  have z2 := new_size w1 (.cells #[.int .i64 0, .bool false, .int .i64 0, .string { data := #[] }] 25)
  have b2 : Below w1.heap.size w1 (w1.alloc (.cells #[.int .i64 0, .bool false, .int .i64 0, .string { data := #[] }] 25)) := (Below.refl _ _).alloc (Nat.le_refl _) _
  rw [z1] at h2
  exact ⟨⟨h1.below b2 (by omega), h2, b1.trans (b2.mono b1.size), by omega⟩, by omega⟩
theorem A2.next {w W W' : World} (h : A2 w W) (hb : Below W.heap.size W W') : A2 w W' := ⟨h.1.below hb (by have := h.2.2.2; omega), h.2.1.below hb (by have := h.2.2.2; omega), h.2.2.1.trans (hb.mono h.2.2.1.size), Nat.le_trans h.2.2.2 hb.size⟩
theorem A2.draw {w W W' : World} {cb : Nat} (h : A2 w W) (hg : W.grownBy W' (some cb)) (hc : w.heap.size + 2 ≤ cb) : A2 w W' :=
  ⟨h.1.grown hg (by omega) (by have := h.2.2.2; omega), h.2.1.grown hg (by omega) (by have := h.2.2.2; omega), Below.grown h.2.2.1 hg h.2.2.1.size (fun q hq => by cases hq; omega), Nat.le_trans h.2.2.2 hg.size⟩
theorem A2.fin {w W : World} (h : A2 w W) (ka : Int) (na : Bool) (ea : Int) (sa : ByteArray) (kb : Int) (nb : Bool) (eb : Int) (sb : ByteArray) :
    At4 (((((((((W.setCell ⟨w.heap.size, 0, none⟩ (.int .i64 ka)).setCell ⟨w.heap.size, 1, none⟩ (.bool na)).setCell ⟨w.heap.size, 2, none⟩ (.int .i64 ea)).setCell ⟨w.heap.size, 3, none⟩ (.string sa)).setCell ⟨w.heap.size + 1, 0, none⟩ (.int .i64 kb)).setCell ⟨w.heap.size + 1, 1, none⟩ (.bool nb)).setCell ⟨w.heap.size + 1, 2, none⟩ (.int .i64 eb)).setCell ⟨w.heap.size + 1, 3, none⟩ (.string sb)).drew) w.heap.size (.int .i64 ka) (.bool na) (.int .i64 ea) (.string sa)
    ∧ At4 (((((((((W.setCell ⟨w.heap.size, 0, none⟩ (.int .i64 ka)).setCell ⟨w.heap.size, 1, none⟩ (.bool na)).setCell ⟨w.heap.size, 2, none⟩ (.int .i64 ea)).setCell ⟨w.heap.size, 3, none⟩ (.string sa)).setCell ⟨w.heap.size + 1, 0, none⟩ (.int .i64 kb)).setCell ⟨w.heap.size + 1, 1, none⟩ (.bool nb)).setCell ⟨w.heap.size + 1, 2, none⟩ (.int .i64 eb)).setCell ⟨w.heap.size + 1, 3, none⟩ (.string sb)).drew) (w.heap.size + 1) (.int .i64 kb) (.bool nb) (.int .i64 eb) (.string sb)
    ∧ Below w.heap.size w (((((((((W.setCell ⟨w.heap.size, 0, none⟩ (.int .i64 ka)).setCell ⟨w.heap.size, 1, none⟩ (.bool na)).setCell ⟨w.heap.size, 2, none⟩ (.int .i64 ea)).setCell ⟨w.heap.size, 3, none⟩ (.string sa)).setCell ⟨w.heap.size + 1, 0, none⟩ (.int .i64 kb)).setCell ⟨w.heap.size + 1, 1, none⟩ (.bool nb)).setCell ⟨w.heap.size + 1, 2, none⟩ (.int .i64 eb)).setCell ⟨w.heap.size + 1, 3, none⟩ (.string sb)).drew) := by
  obtain ⟨h1, h2, h3, h4⟩ := h
  have q1 := h1.put (.int .i64 ka) (.bool na) (.int .i64 ea) (.string sa)
  have q2 := (((h2.far (b' := w.heap.size) (by omega) 0 (.int .i64 ka)).far (b' := w.heap.size) (by omega) 1 (.bool na)).far (b' := w.heap.size) (by omega) 2 (.int .i64 ea)).far (b' := w.heap.size) (by omega) 3 (.string sa)
  have q3 : Below w.heap.size w ((((W.setCell ⟨w.heap.size, 0, none⟩ (.int .i64 ka)).setCell ⟨w.heap.size, 1, none⟩ (.bool na)).setCell ⟨w.heap.size, 2, none⟩ (.int .i64 ea)).setCell ⟨w.heap.size, 3, none⟩ (.string sa)) := (((h3.setCell (Nat.le_refl _) _).setCell (Nat.le_refl _) _).setCell (Nat.le_refl _) _).setCell (Nat.le_refl _) _
  generalize ((((W.setCell ⟨w.heap.size, 0, none⟩ (.int .i64 ka)).setCell ⟨w.heap.size, 1, none⟩ (.bool na)).setCell ⟨w.heap.size, 2, none⟩ (.int .i64 ea)).setCell ⟨w.heap.size, 3, none⟩ (.string sa)) = X at *
  have r1 := (((q1.far (b' := w.heap.size + 1) (by omega) 0 (.int .i64 kb)).far (b' := w.heap.size + 1) (by omega) 1 (.bool nb)).far (b' := w.heap.size + 1) (by omega) 2 (.int .i64 eb)).far (b' := w.heap.size + 1) (by omega) 3 (.string sb)
  have r2 := q2.put (.int .i64 kb) (.bool nb) (.int .i64 eb) (.string sb)
  have r3 : Below w.heap.size w ((((X.setCell ⟨w.heap.size + 1, 0, none⟩ (.int .i64 kb)).setCell ⟨w.heap.size + 1, 1, none⟩ (.bool nb)).setCell ⟨w.heap.size + 1, 2, none⟩ (.int .i64 eb)).setCell ⟨w.heap.size + 1, 3, none⟩ (.string sb)) := (((q3.setCell (Nat.le_succ _) _).setCell (Nat.le_succ _) _).setCell (Nat.le_succ _) _).setCell (Nat.le_succ _) _
  clear q1 q2 q3 h1 h2 h3 h4
  generalize ((((X.setCell ⟨w.heap.size + 1, 0, none⟩ (.int .i64 kb)).setCell ⟨w.heap.size + 1, 1, none⟩ (.bool nb)).setCell ⟨w.heap.size + 1, 2, none⟩ (.int .i64 eb)).setCell ⟨w.heap.size + 1, 3, none⟩ (.string sb)) = Y at *
  exact ⟨r1, r2, r3.drew⟩
theorem A2.fin0 {w W : World} (h : A2 w W) (ka : Int) (na : Bool) (ea : Int) (sa : ByteArray) (kb : Int) (nb : Bool) (eb : Int) (sb : ByteArray) :
    At4 (((((((((W.setCell ⟨w.heap.size, 0, none⟩ (.int .i64 ka)).setCell ⟨w.heap.size, 1, none⟩ (.bool na)).setCell ⟨w.heap.size, 2, none⟩ (.int .i64 ea)).setCell ⟨w.heap.size, 3, none⟩ (.string sa)).setCell ⟨w.heap.size + 1, 0, none⟩ (.int .i64 kb)).setCell ⟨w.heap.size + 1, 1, none⟩ (.bool nb)).setCell ⟨w.heap.size + 1, 2, none⟩ (.int .i64 eb)).setCell ⟨w.heap.size + 1, 3, none⟩ (.string sb))) w.heap.size (.int .i64 ka) (.bool na) (.int .i64 ea) (.string sa)
    ∧ At4 (((((((((W.setCell ⟨w.heap.size, 0, none⟩ (.int .i64 ka)).setCell ⟨w.heap.size, 1, none⟩ (.bool na)).setCell ⟨w.heap.size, 2, none⟩ (.int .i64 ea)).setCell ⟨w.heap.size, 3, none⟩ (.string sa)).setCell ⟨w.heap.size + 1, 0, none⟩ (.int .i64 kb)).setCell ⟨w.heap.size + 1, 1, none⟩ (.bool nb)).setCell ⟨w.heap.size + 1, 2, none⟩ (.int .i64 eb)).setCell ⟨w.heap.size + 1, 3, none⟩ (.string sb))) (w.heap.size + 1) (.int .i64 kb) (.bool nb) (.int .i64 eb) (.string sb)
    ∧ Below w.heap.size w (((((((((W.setCell ⟨w.heap.size, 0, none⟩ (.int .i64 ka)).setCell ⟨w.heap.size, 1, none⟩ (.bool na)).setCell ⟨w.heap.size, 2, none⟩ (.int .i64 ea)).setCell ⟨w.heap.size, 3, none⟩ (.string sa)).setCell ⟨w.heap.size + 1, 0, none⟩ (.int .i64 kb)).setCell ⟨w.heap.size + 1, 1, none⟩ (.bool nb)).setCell ⟨w.heap.size + 1, 2, none⟩ (.int .i64 eb)).setCell ⟨w.heap.size + 1, 3, none⟩ (.string sb))) := by
  obtain ⟨h1, h2, h3, h4⟩ := h
  have q1 := h1.put (.int .i64 ka) (.bool na) (.int .i64 ea) (.string sa)
  have q2 := (((h2.far (b' := w.heap.size) (by omega) 0 (.int .i64 ka)).far (b' := w.heap.size) (by omega) 1 (.bool na)).far (b' := w.heap.size) (by omega) 2 (.int .i64 ea)).far (b' := w.heap.size) (by omega) 3 (.string sa)
  have q3 : Below w.heap.size w ((((W.setCell ⟨w.heap.size, 0, none⟩ (.int .i64 ka)).setCell ⟨w.heap.size, 1, none⟩ (.bool na)).setCell ⟨w.heap.size, 2, none⟩ (.int .i64 ea)).setCell ⟨w.heap.size, 3, none⟩ (.string sa)) := (((h3.setCell (Nat.le_refl _) _).setCell (Nat.le_refl _) _).setCell (Nat.le_refl _) _).setCell (Nat.le_refl _) _
  generalize ((((W.setCell ⟨w.heap.size, 0, none⟩ (.int .i64 ka)).setCell ⟨w.heap.size, 1, none⟩ (.bool na)).setCell ⟨w.heap.size, 2, none⟩ (.int .i64 ea)).setCell ⟨w.heap.size, 3, none⟩ (.string sa)) = X at *
  have r1 := (((q1.far (b' := w.heap.size + 1) (by omega) 0 (.int .i64 kb)).far (b' := w.heap.size + 1) (by omega) 1 (.bool nb)).far (b' := w.heap.size + 1) (by omega) 2 (.int .i64 eb)).far (b' := w.heap.size + 1) (by omega) 3 (.string sb)
  have r2 := q2.put (.int .i64 kb) (.bool nb) (.int .i64 eb) (.string sb)
  have r3 : Below w.heap.size w ((((X.setCell ⟨w.heap.size + 1, 0, none⟩ (.int .i64 kb)).setCell ⟨w.heap.size + 1, 1, none⟩ (.bool nb)).setCell ⟨w.heap.size + 1, 2, none⟩ (.int .i64 eb)).setCell ⟨w.heap.size + 1, 3, none⟩ (.string sb)) := (((q3.setCell (Nat.le_succ _) _).setCell (Nat.le_succ _) _).setCell (Nat.le_succ _) _).setCell (Nat.le_succ _) _
  clear q1 q2 q3 h1 h2 h3 h4
  generalize ((((X.setCell ⟨w.heap.size + 1, 0, none⟩ (.int .i64 kb)).setCell ⟨w.heap.size + 1, 1, none⟩ (.bool nb)).setCell ⟨w.heap.size + 1, 2, none⟩ (.int .i64 eb)).setCell ⟨w.heap.size + 1, 3, none⟩ (.string sb)) = Y at *
  exact ⟨r1, r2, r3⟩
theorem results_fmn {fn : Func} {t1 t2 p q : Tmp} {b c : Nat} {x y z u x' y' z' u' : Value} (h : fn.results = #[.tmp t1, .tmp t2, .cell p 25, .cell q 25]) (tmps : Array Value) (w : World) (hp : tmps[p]?.getD undef = .pointer (some ⟨b, 0, none⟩)) (hq : tmps[q]?.getD undef = .pointer (some ⟨c, 0, none⟩))
    (h1 : At4 w b x y z u) (h2 : At4 w c x' y' z' u') : (results fn tmps).run Tryz.prog w = .ok (.tuple #[tmps.getD t1 undef, tmps.getD t2 undef, .agg #[x, y, z, u], .agg #[x', y', z', u']]) w := by
  obtain ⟨a0, a1, a2, a3, -⟩ := h1
  obtain ⟨c0, c1, c2, c3, -⟩ := h2
  unfold results
  rw [h]
  simp [hp, hq, go_sem, a0, a1, a2, a3, c0, c1, c2, c3]
set_option maxRecDepth 100000 in
set_option maxHeartbeats 2000000 in
theorem DrawAdd_any (a : Option Addr) (len cap : Nat) (w : World) (hl : len ≤ 4096) (hb : Bytes w.heap.size w a len) :
    Calls Tryz.prog 75 #[.slice a len cap] w fun r w' => ∃ (f m : Int) (ka : Int) (na : Bool) (ea : Int) (sa : ByteArray) (kb : Int) (nb : Bool) (eb : Int) (sb : ByteArray), r = .returned (.tuple #[.int .i64 f, .int .i64 m, numV ka na ea sa, numV kb nb eb sb]) ∧ (sa.size ≤ 340 ∧ sb.size ≤ 340) ∧ Below w.heap.size w w' := by
  obtain ⟨hA, hsz⟩ := a2_new w
  have hB : Hid (Bytes (a2W w).heap.size (a2W w) a len) := bytes_bel hb hA.2.2.1
  have HA : Hid (A2 w (a2W w)) := hA
  have HSz : Hid ((a2W w).heap.size = w.heap.size + 2) := hsz
  clear hb hA hsz
  go_enter Tryz.func75, Tryz.ntmps75
  go_wp2_with fail
  refine (l1New_any a len cap _ hl hB.out).mono ?_
  rintro e w0 ⟨he, hc0, hb0⟩
  rw [HSz.out] at he hc0
  subst he
  have HA0 : Hid (A2 w w0) := HA.out.next hb0
  clear hb0 HA hB HSz
  go_wp2_with fail
  refine (l10DrawFormat_any _ _ _ hc0).mono ?_
  rintro e w1 ⟨f, rfl, hc1, hg1⟩
  have HA1 : Hid (A2 w w1) := HA0.out.draw hg1 (Nat.le_refl _)
  clear hg1 hc0 HA0
  go_wp2_with fail
  refine (l12DrawMode_any _ _ _ hc1).mono ?_
  rintro e w2 ⟨m, rfl, hc2, hg2⟩
  have HA2 : Hid (A2 w w2) := HA1.out.draw hg2 (Nat.le_refl _)
  clear hg2 hc1 HA1
  go_wp2_with fail
  refine (l13DrawTwo_any _ _ f _ hc2).mono ?_
  rintro e w3 ⟨ka, na, ea, sa, kb, nb, eb, sb, rfl, ⟨-, -, -, -, sz1, sz2⟩, hc3, hg3⟩
  have hA3 : A2 w w3 := HA2.out.draw hg3 (Nat.le_refl _)
  have HSz : Hid (sa.size ≤ 340 ∧ sb.size ≤ 340) := ⟨sz1, sz2⟩
  clear hg3 hc2 hc3 HA2 sz1 sz2
  go_upto_region 5 with fail
  have h1 := at4_new w3 (.int .i64 ka) (.bool na) (.int .i64 ea) (.string sa)
  have z1 := new_size w3 (.cells #[.int .i64 ka, .bool na, .int .i64 ea, .string sa] 25)
  have b1 : Below w3.heap.size w3 (w3.alloc (.cells #[.int .i64 ka, .bool na, .int .i64 ea, .string sa] 25)) := (Below.refl _ _).alloc (Nat.le_refl _) _
  have hle := hA3.2.2.2
  have hA4 := hA3.next b1
  generalize w3.alloc (.cells #[.int .i64 ka, .bool na, .int .i64 ea, .string sa] 25) = w4 at *
  have h2 := at4_new w4 (.int .i64 kb) (.bool nb) (.int .i64 eb) (.string sb)
  have b2 : Below w4.heap.size w4 (w4.alloc (.cells #[.int .i64 kb, .bool nb, .int .i64 eb, .string sb] 25)) := (Below.refl _ _).alloc (Nat.le_refl _) _
  have hA5 := hA4.next b2
  have h1' := h1.below b2 (by omega)
  rw [z1] at h2
  generalize w4.alloc (.cells #[.int .i64 kb, .bool nb, .int .i64 eb, .string sb] 25) = w5 at *
  generalize w3.heap.size = pa at *
  have HA5 : Hid (A2 w w5) := hA5
  obtain ⟨a0, a1, a2, a3, -⟩ := h1'
  obtain ⟨c0, c1, c2, c3, -⟩ := h2
  obtain ⟨d0, d1, d2, d3, d4⟩ := hA5.1
  obtain ⟨e0, e1, e2, e3, e4⟩ := hA5.2.1
  have d40 := d4 0
  have d41 := d4 1
  have d42 := d4 2
  have d43 := d4 3
  have e40 := e4 0
  have e41 := e4 1
  have e42 := e4 2
  have e43 := e4 3
  have n0 : w.heap.size ≠ pa := by omega
  have n1 : w.heap.size ≠ pa + 1 := by omega
  have n2 : w.heap.size + 1 ≠ pa := by omega
  have n3 : w.heap.size + 1 ≠ pa + 1 := by omega
  have n4 : pa ≠ w.heap.size := by omega
  have n5 : pa + 1 ≠ w.heap.size := by omega
  have n6 : pa ≠ w.heap.size + 1 := by omega
  have n7 : pa + 1 ≠ w.heap.size + 1 := by omega
  clear d4 e4 h1 b1 b2 hA3 hA4 hA5 z1 hle
  go_region
  have HP := HA5.out.fin ka na ea sa kb nb eb sb
  clear n0 n1 n2 n3 n4 n5 n6 n7 a0 a1 a2 a3 c0 c1 c2 c3 d0 d1 d2 d3 e0 e1 e2 e3 d40 d41 d42 d43 e40 e41 e42 e43
  go_wp2
  refine bodyPost_ret (results_fmn rfl _ _ rfl rfl HP.1 HP.2.1) rfl ?_
  exact ⟨f, m, ka, na, ea, sa, kb, nb, eb, sb, rfl, HSz.out, HP.2.2⟩
end Go.Proofs.YtnkoeidolmiheaaGreatDoor
