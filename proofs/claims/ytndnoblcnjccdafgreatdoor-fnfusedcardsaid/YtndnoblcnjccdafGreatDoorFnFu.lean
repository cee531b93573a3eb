/-
  FnFused: the law's own walk.
-/
import Derived.Test.YtndnoblcnjccdafGreatDoorMuB
import Derived.Test.YtndnoblcnjccdafGreatDoorDrFm
import Derived.Test.YtndnoblcnjccdafGreatDoorFup
import Derived.Test.YtndnoblcnjccdafGreatDoorTur
import Derived.Test.YtndnoblcnjccdafGreatDoorQta
import Derived.Test.YtndnoblcnjccdafGreatDoorSpr
import Derived.Test.YtndnoblcnjccdafGreatDoorSpn
namespace Go.Proofs.YtndnoblcnjccdafGreatDoor
open Go.RowKit
set_option linter.unusedVariables false
set_option maxRecDepth 100000
/-- The three numbers in their blocks. -/
def MV (w : World) (p : Nat) (ka : Int) (na : Bool) (ea : Int) (sa : ByteArray) (kb : Int) (nb : Bool) (eb : Int) (sb : ByteArray) (kc : Int) (nc : Bool) (ec : Int) (sc : ByteArray) (W : World) : Prop :=
  At4r W p (.int .i64 ka) (.bool na) (.int .i64 ea) (.string sa) ∧ At4r W (p + 1) (.int .i64 kb) (.bool nb) (.int .i64 eb) (.string sb) ∧ At4r W (p + 2) (.int .i64 kc) (.bool nc) (.int .i64 ec) (.string sc) ∧ Below w.heap.size w W
section
variable {w W W' : World} {p : Nat} {ka : Int} {na : Bool} {ea : Int} {sa : ByteArray} {kb : Int} {nb : Bool} {eb : Int} {sb : ByteArray} {kc : Int} {nc : Bool} {ec : Int} {sc : ByteArray}
theorem mv_new (w0 : World) (hw : Below w.heap.size w w0) (ka : Int) (na : Bool) (ea : Int) (sa : ByteArray) (kb : Int) (nb : Bool) (eb : Int) (sb : ByteArray) (kc : Int) (nc : Bool) (ec : Int) (sc : ByteArray) : MV w w0.heap.size ka na ea sa kb nb eb sb kc nc ec sc (((w0.alloc (.cells #[.int .i64 ka, .bool na, .int .i64 ea, .string sa] 25)).alloc (.cells #[.int .i64 kb, .bool nb, .int .i64 eb, .string sb] 25)).alloc (.cells #[.int .i64 kc, .bool nc, .int .i64 ec, .string sc] 25)) := by
  obtain ⟨h1, h2, h3⟩ := mu_new w0 hw ka na ea sa kb nb eb sb
  have z1 : ((w0.alloc (.cells #[.int .i64 ka, .bool na, .int .i64 ea, .string sa] 25)).alloc (.cells #[.int .i64 kb, .bool nb, .int .i64 eb, .string sb] 25)).heap.size = w0.heap.size + 2 := by simp
  generalize (w0.alloc (.cells #[.int .i64 ka, .bool na, .int .i64 ea, .string sa] 25)).alloc (.cells #[.int .i64 kb, .bool nb, .int .i64 eb, .string sb] 25) = w2 at *
  have g := at4r_new w2 (.int .i64 kc) (.bool nc) (.int .i64 ec) (.string sc)
  have b2 : Below w2.heap.size w2 (w2.alloc (.cells #[.int .i64 kc, .bool nc, .int .i64 ec, .string sc] 25)) := (Below.refl _ _).alloc (Nat.le_refl _) _
  rw [z1] at g
  exact ⟨h1.next b2, h2.next b2, g, h3.trans (b2.mono h3.size)⟩
theorem MV.next (h : MV w p ka na ea sa kb nb eb sb kc nc ec sc W) (hb : Below W.heap.size W W') : MV w p ka na ea sa kb nb eb sb kc nc ec sc W' :=
  ⟨h.1.next hb, h.2.1.next hb, h.2.2.1.next hb, h.2.2.2.trans (hb.mono h.2.2.2.size)⟩
end
/-- What a region that lays one Result keeps. -/
def LY (u : World) (b : Option Nat) (W : World) : Prop := Below u.heap.size u W ∧ ∀ p, b = some p → At5 W p (.int .i64 0) (.bool false) (.int .i64 0) (.string { data := #[] }) (.int .i64 0) ∧ u.heap.size ≤ p
theorem LY.next {u W W' : World} {b : Option Nat} (h : LY u b W) (hb : Below W.heap.size W W') : LY u b W' :=
  ⟨h.1.trans (hb.mono h.1.size), fun p q => ⟨(h.2 p q).1.below hb (h.2 p q).1.lt, (h.2 p q).2⟩⟩
theorem LY.lay {u W : World} (h : LY u none W) : LY u (some W.heap.size) (W.alloc (.cells #[.int .i64 0, .bool false, .int .i64 0, .string { data := #[] }, .int .i64 0] 29)) :=
  ⟨h.1.alloc h.1.size _, fun p q => by cases q; exact ⟨at5_new W _ _ _ _ _, h.1.size⟩⟩
theorem is48 (s : ByteArray) (h : s ≠ { data := #[48] }) : (s.toList == [48]) = false := beq_eq_false_iff_ne.2 (fun e => h (by rw [ByteArray.toList_eq] at e; apply ByteArray.ext; exact Array.ext' e))
set_option maxRecDepth 100000 in
set_option maxHeartbeats 4000000 in
theorem fnFused_any (a0 : Option Addr) (len0 cap0 : Nat) (w : World) (hbig : ¬ 4096 < len0) (hb : Bytes w.heap.size w a0 len0) :
    Calls Tryz.prog 4 #[.slice a0 len0 cap0] w fun e w' => e = .returned (.bool true) ∧ Below w.heap.size w w' := by
  have hB : Hid (Bytes w.heap.size w a0 len0) := hb
  clear hb
  go_enter Tryz.func4, Tryz.ntmps4
  go_wp2_with fail
  refine (big_no _ _ _ _ hbig).mono ?_
  rintro e w' ⟨rfl, hw⟩
  obtain rfl := hw.symm
  go_wp2_with fail
  refine (DrawFma_any _ _ _ _ (by omega) hB.out).mono ?_
  rintro e w1 ⟨f, m, ka, na, ea, sa, kb, nb, eb, sb, kc, nc, ec, sc, rfl, ⟨hsa, hsb, hsc⟩, hb1⟩
  have HI : Hid (∀ X, Calls Tryz.prog 16 #[.int .i64 f, .int .i64 m, numV ka na ea sa, numV kb nb eb sb, numV kc nc ec sc] X fun x w' => x = .returned (rsD (fmaR f m ka na ea sa kb nb eb sb kc nc ec sc).1 (fmaR f m ka na ea sa kb nb eb sb kc nc ec sc).2) ∧ Below X.heap.size X w') := fun X => iFma_any f m ka na ea sa kb nb eb sb kc nc ec sc X (by omega) (by omega) hsc
  have HJ : Hid (∀ X, Calls Tryz.prog 16 #[.int .i64 f, .int .i64 m, numV kb nb eb sb, numV ka na ea sa, numV kc nc ec sc] X fun x w' => x = .returned (rsD (fmaR f m ka na ea sa kb nb eb sb kc nc ec sc).1 (fmaR f m ka na ea sa kb nb eb sb kc nc ec sc).2) ∧ Below X.heap.size X w') := fun X => by
    rw [fmaR_comm f m ka na ea sa kb nb eb sb kc nc ec sc]
    exact iFma_any f m kb nb eb sb ka na ea sa kc nc ec sc X (by omega) (by omega) hsc
  have HS : Hid (∀ X, Calls Tryz.prog 17 #[.int .i64 f, .int .i64 m, numV ka na ea sa, numV kb nb eb sb, numV kc nc ec sc] X fun x w' => x = .returned (rsD (fmaR f m ka na ea sa kb nb eb sb kc nc ec sc).1 (fmaR f m ka na ea sa kb nb eb sb kc nc ec sc).2) ∧ Below X.heap.size X w') := fun X => sFma_ok f m ka na ea sa kb nb eb sb kc nc ec sc X (by omega) (by omega) hsc
  have HR : Hid (fmaO f m ka na ea sa kb nb eb sb kc nc ec sc = true → numB f (fmaR f m ka na ea sa kb nb eb sb kc nc ec sc).2.1 (fmaR f m ka na ea sa kb nb eb sb kc nc ec sc).1 (fmaR f m ka na ea sa kb nb eb sb kc nc ec sc).2.2.1 (fmaR f m ka na ea sa kb nb eb sb kc nc ec sc).2.2.2.1 = true) := fun hO => fmaR_right f m ka na ea sa kb nb eb sb kc nc ec sc hO
  have HN : Hid (fmaO f m ka na ea sa kb nb eb sb kc nc ec sc = false → fmaR f m ka na ea sa kb nb eb sb kc nc ec sc = (false, (0, 0, { data := #[] }, 0))) := fun hO => fma_none f m ka na ea sa kb nb eb sb kc nc ec sc hO
  have HU : Hid (fmaO f m ka na ea sa kb nb eb sb kc nc ec sc = true → ∃ (H1 : Int) (H0 : Bool) (H2 : Int) (H3 : ByteArray) (H4 : Int) (G1 : Int) (G0 : Bool) (G2 : Int) (G3 : ByteArray) (G4 : Int),
      (∀ X, Calls Tryz.prog 16 #[.int .i64 f, .int .i64 m, numV ka na ea sa, numV 1 false 0 { data := #[49] }, numV kc nc ec sc] X fun x w' => x = .returned (rsV H1 H0 H2 H3 H4) ∧ Below X.heap.size X w')
      ∧ (∀ X, Calls Tryz.prog 18 #[.int .i64 f, .int .i64 m, numV ka na ea sa, numV kc nc ec sc] X fun x w' => x = .returned (rsV H1 H0 H2 H3 H4) ∧ Below X.heap.size X w')
      ∧ (∀ X, Calls Tryz.prog 11 #[.int .i64 f, .int .i64 m, numV ka na ea sa, numV kb nb eb sb] X fun x w' => x = .returned (rsV G1 G0 G2 G3 G4) ∧ Below X.heap.size X w')
      ∧ (G1 = 1 → G4 = 0 → G3 ≠ { data := #[48] } → ∃ (Z0 : Bool) (Z2 : Int), ∀ X, Calls Tryz.prog 16 #[.int .i64 f, .int .i64 m, numV ka na ea sa, numV kb nb eb sb, numV 1 (!G0) G2 G3] X fun x w' => x = .returned (rsV 1 Z0 Z2 { data := #[48] } 0) ∧ Below X.heap.size X w')) := by
    intro hO
    have hO2 := hO
    unfold fmaO at hO2
    simp only [Bool.and_eq_true, decide_eq_true_eq] at hO2
    obtain ⟨hmo, hA, hB2, hC⟩ := hO2
    have hOm : addO f m ka na ea sa kb nb eb sb = true := by unfold addO; rw [hA, hB2, decide_eq_true hmo]; rfl
    have e1 := fmaR_one f m hmo ka na ea sa kc nc ec sc hA hC
    have q1 : ∀ X, Calls Tryz.prog 16 #[.int .i64 f, .int .i64 m, numV ka na ea sa, numV 1 false 0 { data := #[49] }, numV kc nc ec sc] X fun x w' => x = .returned (rsD (addR f m ka na ea sa kc nc ec sc).1 (addR f m ka na ea sa kc nc ec sc).2) ∧ Below X.heap.size X w' := fun X => by
      rw [← e1]
      exact iFma_any f m ka na ea sa 1 false 0 { data := #[49] } kc nc ec sc X (by omega) (by decide) hsc
    have q2 : ∀ X, Calls Tryz.prog 18 #[.int .i64 f, .int .i64 m, numV ka na ea sa, numV kc nc ec sc] X fun x w' => x = .returned (rsD (addR f m ka na ea sa kc nc ec sc).1 (addR f m ka na ea sa kc nc ec sc).2) ∧ Below X.heap.size X w' := fun X => iAdd_any f m ka na ea sa kc nc ec sc X (by omega) hsc
    have q3 : ∀ X, Calls Tryz.prog 11 #[.int .i64 f, .int .i64 m, numV ka na ea sa, numV kb nb eb sb] X fun x w' => x = .returned (rsD (mulR f m ka na ea sa kb nb eb sb).1 (mulR f m ka na ea sa kb nb eb sb).2) ∧ Below X.heap.size X w' := fun X => iMul_any f m ka na ea sa kb nb eb sb X (by omega) (by omega)
    have q4 := fma_turned f m ka na ea sa kb nb eb sb hOm
    clear e1
    generalize addR f m ka na ea sa kc nc ec sc = H at *
    obtain ⟨H0, H1, H2, H3, H4⟩ := H
    generalize mulR f m ka na ea sa kb nb eb sb = G at *
    obtain ⟨G0, G1, G2, G3, G4⟩ := G
    dsimp only at q1 q2 q3 q4
    refine ⟨H1, H0, H2, H3, H4, G1, G0, G2, G3, G4, q1, q2, q3, fun h1 h4 h3 => ?_⟩
    subst h1 h4
    obtain ⟨hN, g', E', he⟩ := q4 G0 G2 G3 rfl h3
    refine ⟨g', E', fun X => ?_⟩
    have := iFma_any f m ka na ea sa kb nb eb sb 1 (!G0) G2 G3 X (by omega) (by omega) (numB_size f 1 (!G0) G2 G3 hN)
    rw [he] at this
    exact this
  generalize fmaR f m ka na ea sa kb nb eb sb kc nc ec sc = R at *
  obtain ⟨R0, F1, F2, F3, F4⟩ := R
  generalize fmaO f m ka na ea sa kb nb eb sb kc nc ec sc = O at *
  have HI' : Hid (∀ X, Calls Tryz.prog 16 #[.int .i64 f, .int .i64 m, numV ka na ea sa, numV kb nb eb sb, numV kc nc ec sc] X fun x w' => x = .returned (rsV F1 R0 F2 F3 F4) ∧ Below X.heap.size X w') := HI
  have HJ' : Hid (∀ X, Calls Tryz.prog 16 #[.int .i64 f, .int .i64 m, numV kb nb eb sb, numV ka na ea sa, numV kc nc ec sc] X fun x w' => x = .returned (rsV F1 R0 F2 F3 F4) ∧ Below X.heap.size X w') := HJ
  have HS' : Hid (∀ X, Calls Tryz.prog 17 #[.int .i64 f, .int .i64 m, numV ka na ea sa, numV kb nb eb sb, numV kc nc ec sc] X fun x w' => x = .returned (rsV F1 R0 F2 F3 F4) ∧ Below X.heap.size X w') := HS
  have HRh : Hid (O = true → numB f F1 R0 F2 F3 = true) := HR
  have HNh : Hid (O = false → (R0, F1, F2, F3, F4) = (false, 0, 0, { data := #[] }, 0)) := HN
  clear HI HJ HS HR HN
  have HM1 : Hid (MV w w1.heap.size ka na ea sa kb nb eb sb kc nc ec sc (((w1.alloc (.cells #[.int .i64 ka, .bool na, .int .i64 ea, .string sa] 25)).alloc (.cells #[.int .i64 kb, .bool nb, .int .i64 eb, .string sb] 25)).alloc (.cells #[.int .i64 kc, .bool nc, .int .i64 ec, .string sc] 25))) := mv_new w1 hb1 ka na ea sa kb nb eb sb kc nc ec sc
  clear hb1 hB hbig hsa hsb hsc
  go_wp2_with fail
  refine (HI'.out _).mono ?_
  rintro x w3 ⟨rfl, hb3⟩
  have HM3 : Hid (MV w w1.heap.size ka na ea sa kb nb eb sb kc nc ec sc w3) := HM1.out.next hb3
  have hb4 : Below w3.heap.size w3 (w3.alloc (.cells #[.int .i64 F1, .bool R0, .int .i64 F2, .string F3, .int .i64 F4] 29)) := (Below.refl _ _).alloc (Nat.le_refl _) _
  have HM4 : Hid (MV w w1.heap.size ka na ea sa kb nb eb sb kc nc ec sc (w3.alloc (.cells #[.int .i64 F1, .bool R0, .int .i64 F2, .string F3, .int .i64 F4] 29)) ∧ At5 (w3.alloc (.cells #[.int .i64 F1, .bool R0, .int .i64 F2, .string F3, .int .i64 F4] 29)) w3.heap.size (.int .i64 F1) (.bool R0) (.int .i64 F2) (.string F3) (.int .i64 F4)) := ⟨HM3.out.next hb4, at5_new w3 _ _ _ _ _⟩
  clear hb3 hb4 HM3 HM1 HI'
  go_upto_region 5 with fail
  generalize (w3.alloc (.cells #[.int .i64 F1, .bool R0, .int .i64 F2, .string F3, .int .i64 F4] 29)) = w4 at *
  generalize w1.heap.size = p at *
  generalize w3.heap.size = q at *
  have HX0 : Hid (Below w4.heap.size w4 w4.drew) := (Below.refl _ _).drew
  refine wp_region_class (C := fun W => Below w4.heap.size w4 W) (by kernel_rfl) (by kernel_rfl) HX0.out ?_
  have hne := neq_res_same F1 R0 F2 F3 F4
  repeat (first | go_big_quiet_skip | (refine wpQuiet_step ?_; intro K hK; go_simp; first | go_big_quiet_on | (apply Exists.intro; refine ⟨fun wx hC => ?_, ?_⟩; (first | exact rfl | ((with_reducible refine Calls.class_of (HS'.out wx) ?_); exact fun w' hb => bel1 hC hb) | ((with_reducible refine Calls.class_of (HJ'.out wx) ?_); exact fun w' hb => bel1 hC hb) | (obtain ⟨a0, a1, a2, a3, a4⟩ := (HM4.out.1.next hC).1.cells; go_simp; exact rfl) | (obtain ⟨a0, a1, a2, a3, a4⟩ := (HM4.out.1.next hC).2.1.cells; go_simp; exact rfl) | (obtain ⟨a0, a1, a2, a3, a4⟩ := (HM4.out.1.next hC).2.2.1.cells; go_simp; exact rfl) | (obtain ⟨a0, a1, a2, a3, a4, a5⟩ := (HM4.out.2.below hC HM4.out.2.lt).cells; go_simp; exact rfl)); go_big_quiet_on)))
  refine wpQuiet_nil ?_
  intro w5 hb5
  have HM5 : Hid (MV w p ka na ea sa kb nb eb sb kc nc ec sc w5 ∧ At5 w5 q (.int .i64 F1) (.bool R0) (.int .i64 F2) (.string F3) (.int .i64 F4)) := ⟨HM4.out.1.next hb5, HM4.out.2.below hb5 HM4.out.2.lt⟩
  clear hb5 HM4 HX0 HS' HJ' hne
  obtain ⟨r0, r1, r2, r3, r4, r5⟩ := HM5.out.2.cells
  cases O with
  | false =>
    have hN := HNh.out rfl
    obtain ⟨rfl, rfl, rfl, rfl, rfl⟩ := hN
    have heq := eql_res_same 0 false 0 { data := #[] } 0
    have hbd : ∀ w : World, (Instr.build 29 #[]).run Tryz.prog w = .ok (rsV 0 false 0 { data := #[] } 0) w := fun w => run_build w _ _ _ (by kernel_rfl)
    clear HNh HRh HU
    go_wp2
    go_ret
    exact ⟨rfl, HM5.out.1.2.2.2⟩
  | true =>
    have hk0 := numB_kind f F1 R0 F2 F3 (HRh.out rfl)
    have hR := HRh.out rfl
    have HNo : Hid (∀ X, Calls Tryz.prog 14 #[.int .i64 f, numV F1 R0 F2 F3] X fun x w' => x = .returned (.bool true) ∧ Below X.heap.size X w') := fun X => by
      have := iNumOk_any f F1 R0 F2 F3 X (numB_size f F1 R0 F2 F3 hR)
      rwa [hR] at this
    obtain ⟨H1, H0, H2, H3, H4, G1, G0, G2, G3, G4, q1, q2, q3, q4⟩ := HU.out rfl
    have HQ1 : Hid (∀ X, Calls Tryz.prog 16 #[.int .i64 f, .int .i64 m, numV ka na ea sa, numV 1 false 0 { data := #[49] }, numV kc nc ec sc] X fun x w' => x = .returned (rsV H1 H0 H2 H3 H4) ∧ Below X.heap.size X w') := q1
    have HQ2 : Hid (∀ X, Calls Tryz.prog 18 #[.int .i64 f, .int .i64 m, numV ka na ea sa, numV kc nc ec sc] X fun x w' => x = .returned (rsV H1 H0 H2 H3 H4) ∧ Below X.heap.size X w') := q2
    have HQ3 : Hid (∀ X, Calls Tryz.prog 11 #[.int .i64 f, .int .i64 m, numV ka na ea sa, numV kb nb eb sb] X fun x w' => x = .returned (rsV G1 G0 G2 G3 G4) ∧ Below X.heap.size X w') := q3
    have HQ4 : Hid (G1 = 1 → G4 = 0 → G3 ≠ { data := #[48] } → ∃ (Z0 : Bool) (Z2 : Int), ∀ X, Calls Tryz.prog 16 #[.int .i64 f, .int .i64 m, numV ka na ea sa, numV kb nb eb sb, numV 1 (!G0) G2 G3] X fun x w' => x = .returned (rsV 1 Z0 Z2 { data := #[48] } 0) ∧ Below X.heap.size X w') := q4
    clear hR HRh HNh HU q1 q2 q3 q4
    have hbn : ∀ w : World, (Instr.build 25 #[(0, .int .i64 1), (3, .string { data := #[49] })]).run Tryz.prog w = .ok (numV 1 false 0 { data := #[49] }) w := fun w => run_build w _ _ _ (by kernel_rfl)
    have hb6 : Below w5.heap.size w5 (w5.alloc (.cells #[.int .i64 1, .bool false, .int .i64 0, .string { data := #[49] }] 25)) := (Below.refl _ _).alloc (Nat.le_refl _) _
    have HM6 : Hid (MV w p ka na ea sa kb nb eb sb kc nc ec sc (w5.alloc (.cells #[.int .i64 1, .bool false, .int .i64 0, .string { data := #[49] }] 25)) ∧ At5 (w5.alloc (.cells #[.int .i64 1, .bool false, .int .i64 0, .string { data := #[49] }] 25)) q (.int .i64 F1) (.bool R0) (.int .i64 F2) (.string F3) (.int .i64 F4) ∧ At4r (w5.alloc (.cells #[.int .i64 1, .bool false, .int .i64 0, .string { data := #[49] }] 25)) w5.heap.size (.int .i64 1) (.bool false) (.int .i64 0) (.string { data := #[49] })) := ⟨HM5.out.1.next hb6, HM5.out.2.below hb6 HM5.out.2.lt, at4r_new w5 _ _ _ _⟩
    clear hb6
    go_upto_region 10 with fail
    clear r0 r1 r2 r3 r4 r5 hk0 HM5 hbn
    generalize (w5.alloc (.cells #[.int .i64 1, .bool false, .int .i64 0, .string { data := #[49] }] 25)) = w6 at *
    generalize w5.heap.size = t at *
    have HX5 : Hid (Below w6.heap.size w6 w6.drew) := (Below.refl _ _).drew
    refine wp_region_class (C := fun W => Below w6.heap.size w6 W) (by kernel_rfl) (by kernel_rfl) HX5.out ?_
    have hne := neq_res_same H1 H0 H2 H3 H4
    repeat (first | go_big_quiet_skip | (refine wpQuiet_step ?_; intro K hK; go_simp; first | go_big_quiet_on | (apply Exists.intro; refine ⟨fun wx hC => ?_, ?_⟩; (first | exact rfl | ((with_reducible refine Calls.class_of (HQ1.out wx) ?_); exact fun w' hb => bel1 hC hb) | ((with_reducible refine Calls.class_of (HQ2.out wx) ?_); exact fun w' hb => bel1 hC hb) | (obtain ⟨a0, a1, a2, a3, a4⟩ := (HM6.out.1.next hC).1.cells; go_simp; exact rfl) | (obtain ⟨a0, a1, a2, a3, a4⟩ := (HM6.out.1.next hC).2.2.1.cells; go_simp; exact rfl) | (obtain ⟨a0, a1, a2, a3, a4⟩ := (HM6.out.2.2.next hC).cells; go_simp; exact rfl)); go_big_quiet_on)))
    refine wpQuiet_nil ?_
    intro w7 hb7
    have HM7 : Hid (MV w p ka na ea sa kb nb eb sb kc nc ec sc w7 ∧ At5 w7 q (.int .i64 F1) (.bool R0) (.int .i64 F2) (.string F3) (.int .i64 F4)) := ⟨HM6.out.1.next hb7, HM6.out.2.1.below hb7 HM6.out.2.1.lt⟩
    clear hb7 HM6 HX5 HQ1 HQ2 hne
    obtain ⟨c0, c1, c2, c3, c4⟩ := HM7.out.1.1.cells
    obtain ⟨d0, d1, d2, d3, d4⟩ := HM7.out.1.2.1.cells
    go_wp2_with fail
    refine (HQ3.out _).mono ?_
    rintro x w8 ⟨rfl, hb8⟩
    have HM8 : Hid (MV w p ka na ea sa kb nb eb sb kc nc ec sc w8 ∧ At5 w8 q (.int .i64 F1) (.bool R0) (.int .i64 F2) (.string F3) (.int .i64 F4)) := ⟨HM7.out.1.next hb8, HM7.out.2.below hb8 HM7.out.2.lt⟩
    have hb9 : Below w8.heap.size w8 (w8.alloc (.cells #[.int .i64 G1, .bool G0, .int .i64 G2, .string G3, .int .i64 G4] 29)) := (Below.refl _ _).alloc (Nat.le_refl _) _
    have HM9 : Hid ((MV w p ka na ea sa kb nb eb sb kc nc ec sc (w8.alloc (.cells #[.int .i64 G1, .bool G0, .int .i64 G2, .string G3, .int .i64 G4] 29)) ∧ At5 (w8.alloc (.cells #[.int .i64 G1, .bool G0, .int .i64 G2, .string G3, .int .i64 G4] 29)) q (.int .i64 F1) (.bool R0) (.int .i64 F2) (.string F3) (.int .i64 F4)) ∧ At5 (w8.alloc (.cells #[.int .i64 G1, .bool G0, .int .i64 G2, .string G3, .int .i64 G4] 29)) w8.heap.size (.int .i64 G1) (.bool G0) (.int .i64 G2) (.string G3) (.int .i64 G4)) := ⟨⟨HM8.out.1.next hb9, HM8.out.2.below hb9 HM8.out.2.lt⟩, at5_new w8 _ _ _ _ _⟩
    clear hb8 hb9 HM8 HM7 HQ3 c0 c1 c2 c3 c4 d0 d1 d2 d3 d4
    go_upto_region 13 with fail
    generalize (w8.alloc (.cells #[.int .i64 G1, .bool G0, .int .i64 G2, .string G3, .int .i64 G4] 29)) = w9 at *
    generalize w8.heap.size = u at *
    obtain ⟨g0, g1, g2, g3, g4, g5⟩ := HM9.out.2.cells
    go_wp2_with fail
    refine (finite_any G1 G0 G2 G3 _).mono ?_
    rintro x w10 ⟨rfl, hb10⟩
    have HM10 : Hid ((MV w p ka na ea sa kb nb eb sb kc nc ec sc w10 ∧ At5 w10 q (.int .i64 F1) (.bool R0) (.int .i64 F2) (.string F3) (.int .i64 F4)) ∧ At5 w10 u (.int .i64 G1) (.bool G0) (.int .i64 G2) (.string G3) (.int .i64 G4)) := ⟨⟨HM9.out.1.1.next hb10, HM9.out.1.2.below hb10 HM9.out.1.2.lt⟩, HM9.out.2.below hb10 HM9.out.2.lt⟩
    clear hb10 HM9 g0 g1 g2 g3 g4 g5
    obtain ⟨g0, g1, g2, g3, g4, g5⟩ := HM10.out.2.cells
    obtain ⟨r0, r1, r2, r3, r4, r5⟩ := HM10.out.1.2.cells
    by_cases h1 : G1 = 1
    case neg =>
      rw [decide_eq_false h1]
      clear h1 HQ4
      go_wp2_with fail
      refine (HNo.out _).mono ?_
      rintro x w11 ⟨rfl, hb11⟩
      have HM11 : Hid (MV w p ka na ea sa kb nb eb sb kc nc ec sc w11) := HM10.out.1.1.next hb11
      clear hb11 HM10
      go_wp2
      go_ret
      exact ⟨rfl, HM11.out.2.2.2⟩
    rw [decide_eq_true h1]
    by_cases h4 : G4 = 0
    case neg =>
      have c4 : (G4 == 0) = false := beq_eq_false_iff_ne.2 h4
      clear h1 HQ4
      go_wp2_with fail
      refine (HNo.out _).mono ?_
      rintro x w11 ⟨rfl, hb11⟩
      have HM11 : Hid (MV w p ka na ea sa kb nb eb sb kc nc ec sc w11) := HM10.out.1.1.next hb11
      clear hb11 HM10
      go_wp2
      go_ret
      exact ⟨rfl, HM11.out.2.2.2⟩
    by_cases h3 : G3 = { data := #[48] }
    case pos =>
      subst h3 h4
      clear h1 HQ4
      go_wp2_with fail
      refine (HNo.out _).mono ?_
      rintro x w11 ⟨rfl, hb11⟩
      have HM11 : Hid (MV w p ka na ea sa kb nb eb sb kc nc ec sc w11) := HM10.out.1.1.next hb11
      clear hb11 HM10
      go_wp2
      go_ret
      exact ⟨rfl, HM11.out.2.2.2⟩
    obtain ⟨Z0, Z2, q4⟩ := HQ4.out h1 h4 h3
    have HZ : Hid (∀ X, Calls Tryz.prog 16 #[.int .i64 f, .int .i64 m, numV ka na ea sa, numV kb nb eb sb, numV 1 (!G0) G2 G3] X fun x w' => x = .returned (rsV 1 Z0 Z2 { data := #[48] } 0) ∧ Below X.heap.size X w') := q4
    subst h1 h4
    have HTu : Hid (∀ X, Calls Tryz.prog 19 #[numV 1 G0 G2 G3] X fun x w' => x = .returned (numV 1 (!G0) G2 G3) ∧ Below X.heap.size X w') := fun X => turned_any 1 G0 G2 G3 X
    have c3 := is48 G3 h3
    clear q4 HQ4 h3
    generalize (!G0) = Gn at *
    go_upto_region 15 with fail
    clear g0 g1 g2 g3 g4 g5 r0 r1 r2 r3 r4 r5 c3
    have HX8 : Hid (LY w10 none w10.drew) := ⟨(Below.refl _ _).drew, (fun p h => by cases h)⟩
    refine wp_region_laid (C := LY w10) 9 8 11 _ (.cells #[.int .i64 0, .bool false, .int .i64 0, .string { data := #[] }, .int .i64 0] 29) rfl rfl rfl rfl ?_ (fun W hW => hW.lay) (by kernel_rfl) (by kernel_rfl) HX8.out ?_
    · intro a W
      go_simp
    simp only [List.take_succ_cons, List.take_zero, List.drop_succ_cons, List.drop_zero]
    repeat (refine wpQuietF_step (fun K hK => ?_); go_simp; first | (refine hK _ ?_; clear hK K) | (apply Exists.intro; refine ⟨fun bb wx hC => ?_, hK _ ?_⟩; (first | exact rfl | ((with_reducible refine Calls.class_of (HTu.out wx) ?_); exact fun w' hb => LY.next hC hb) | ((with_reducible refine Calls.class_of (HZ.out wx) ?_); exact fun w' hb => LY.next hC hb) | (obtain ⟨a0, a1, a2, a3, a4⟩ := (HM10.out.1.1.next hC.1).1.cells; go_simp; exact rfl) | (obtain ⟨a0, a1, a2, a3, a4⟩ := (HM10.out.1.1.next hC.1).2.1.cells; go_simp; exact rfl) | (obtain ⟨a0, a1, a2, a3, a4, a5⟩ := (HM10.out.2.below hC.1 HM10.out.2.lt).cells; go_simp; exact rfl)); clear hK K))
    refine wpQuietF_nil ?_
    intro p1 v3 hC3
    obtain ⟨hA3, hp3⟩ := hC3.2 p1 rfl
    have hq := HM10.out.1.2.lt
    have HA3 : Hid (At5 v3 p1 (.int .i64 0) (.bool false) (.int .i64 0) (.string { data := #[] }) (.int .i64 0)) := hA3
    have HM11 : Hid (Below w.heap.size w (v3.setRow p1 #[.int .i64 1, .bool Z0, .int .i64 Z2, .string { data := #[48] }, .int .i64 0]) ∧ At5 (v3.setRow p1 #[.int .i64 1, .bool Z0, .int .i64 Z2, .string { data := #[48] }, .int .i64 0]) q (.int .i64 F1) (.bool R0) (.int .i64 F2) (.string F3) (.int .i64 F4) ∧ At5 (v3.setRow p1 #[.int .i64 1, .bool Z0, .int .i64 Z2, .string { data := #[48] }, .int .i64 0]) p1 (.int .i64 1) (.bool Z0) (.int .i64 Z2) (.string { data := #[48] }) (.int .i64 0)) :=
      ⟨bel_row (HM10.out.1.1.next hC3.1).2.2.2 (Nat.le_trans HM10.out.1.1.2.2.2.size hp3) _, (setRow_other v3 p1 q _ (by omega)).trans (HM10.out.1.2.below hC3.1 hq), hA3.row _ _ _ _ _⟩
    clear hC3 hA3 hp3 hq HX8 HM10 HTu HZ
    simp only [Act.put]
    go_wp2_with (refine wpList_store_row rfl 29 (.tmp 11) (.tmp 97) rfl p1 #[.int .i64 1, .bool Z0, .int .i64 Z2, .string { data := #[48] }, .int .i64 0] rfl rfl _ _ HA3.out (by kernel_rfl) rfl (one5 _ _ _ _ _) (Hid.out ?_))
    generalize v3.setRow p1 #[.int .i64 1, .bool Z0, .int .i64 Z2, .string { data := #[48] }, .int .i64 0] = v4 at *
    clear HA3
    obtain ⟨r0, r1, r2, r3, r4, r5⟩ := HM11.out.2.1.cells
    unfold Hid
    go_wp2_with fail
    refine (HNo.out _).mono ?_
    rintro x w12 ⟨rfl, hb12⟩
    have HM12 : Hid (Below w.heap.size w w12 ∧ At5 w12 p1 (.int .i64 1) (.bool Z0) (.int .i64 Z2) (.string { data := #[48] }) (.int .i64 0)) := ⟨HM11.out.1.trans (hb12.mono HM11.out.1.size), HM11.out.2.2.below hb12 HM11.out.2.2.lt⟩
    clear hb12 HM11 r0 r1 r2 r3 r4 r5 HNo
    obtain ⟨r0, r1, r2, r3, r4, r5⟩ := HM12.out.2.cells
    go_wp2
    go_ret
    exact ⟨rfl, HM12.out.1⟩
theorem fnFused_all (a0 : Option Addr) (len0 cap0 : Nat) (w : World) (hb : Bytes w.heap.size w a0 len0) :
    Calls Tryz.prog 4 #[.slice a0 len0 cap0] w fun e w' => e = .returned (.bool true) ∧ Below w.heap.size w w' := by
  by_cases hbig : 4096 < len0
  · clear hb
    go_enter Tryz.func4, Tryz.ntmps4
    go_wp2_with fail
    refine (big_yes _ _ _ _ hbig).mono ?_
    rintro e w' ⟨rfl, rfl⟩
    go_wp2
    go_ret
    exact ⟨rfl, Below.refl _ _⟩
  exact fnFused_any a0 len0 cap0 w hbig hb
end Go.Proofs.YtndnoblcnjccdafGreatDoor
