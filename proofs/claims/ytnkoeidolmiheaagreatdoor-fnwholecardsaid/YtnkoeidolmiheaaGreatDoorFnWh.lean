/-
  FnWhole: the law's own walk.
-/
import Derived.Test.YtnkoeidolmiheaaGreatDoorMuB
import Derived.Test.YtnkoeidolmiheaaGreatDoorDrWh
import Derived.Test.YtnkoeidolmiheaaGreatDoorWhp
import Derived.Test.YtnkoeidolmiheaaGreatDoorDvs
import Derived.Test.YtnkoeidolmiheaaGreatDoorOrt
namespace Go.Proofs.YtnkoeidolmiheaaGreatDoor
open Go.RowKit
set_option linter.unusedVariables false
set_option maxRecDepth 100000
/-- The number in its block. -/
def M1 (w : World) (p : Nat) (ka : Int) (na : Bool) (ea : Int) (sa : ByteArray) (W : World) : Prop := At4r W p (.int .i64 ka) (.bool na) (.int .i64 ea) (.string sa) ∧ Below w.heap.size w W
theorem m1_new {w : World} (w0 : World) (hw : Below w.heap.size w w0) (ka : Int) (na : Bool) (ea : Int) (sa : ByteArray) : M1 w w0.heap.size ka na ea sa (w0.alloc (.cells #[.int .i64 ka, .bool na, .int .i64 ea, .string sa] 25)) :=
  ⟨at4r_new w0 _ _ _ _, hw.alloc hw.size _⟩
theorem M1.next {w W W' : World} {p : Nat} {ka : Int} {na : Bool} {ea : Int} {sa : ByteArray} (h : M1 w p ka na ea sa W) (hb : Below W.heap.size W W') : M1 w p ka na ea sa W' := ⟨h.1.next hb, h.2.trans (hb.mono h.2.size)⟩
set_option maxRecDepth 100000 in
set_option maxHeartbeats 4000000 in
theorem fnWhole_any (a0 : Option Addr) (len0 cap0 : Nat) (w : World) (hbig : ¬ 4096 < len0) (hb : Bytes w.heap.size w a0 len0) :
    Calls Tryz.prog 5 #[.slice a0 len0 cap0] w fun e w' => e = .returned (.bool true) ∧ Below w.heap.size w w' := by
  have hB : Hid (Bytes w.heap.size w a0 len0) := hb
  clear hb
  go_enter Tryz.func5, Tryz.ntmps5
  go_wp2_with fail
  refine (big_no _ _ _ _ hbig).mono ?_
  rintro e w' ⟨rfl, hw⟩
  obtain rfl := hw.symm
  go_wp2_with fail
  refine (DrawWhole_any _ _ _ _ (by omega) hB.out).mono ?_
  rintro e w1 ⟨f, m, ka, na, ea, sa, rfl, hsa, hb1⟩
  have HI : Hid (∀ X, Calls Tryz.prog 23 #[.int .i64 f, .int .i64 m, numV ka na ea sa] X fun x w' => x = .returned (rsD (whR f m ka na ea sa).1 (whR f m ka na ea sa).2) ∧ Below X.heap.size X w') := fun X => iWhole_any f m ka na ea sa X (by omega)
  have HS : Hid (∀ X, Calls Tryz.prog 24 #[.int .i64 f, .int .i64 m, numV ka na ea sa] X fun x w' => x = .returned (rsD (whR f m ka na ea sa).1 (whR f m ka na ea sa).2) ∧ Below X.heap.size X w') := fun X => sWhole_any f m ka na ea sa X (by omega)
  have HN : Hid (rightB f m 1 (fun _ => ka) (fun _ => na) (fun _ => ea) (fun _ => sa) = false → whR f m ka na ea sa = (false, (0, 0, { data := #[] }, 0))) := fun h => wh_none f m ka na ea sa h
  have HK : Hid (rightB f m 1 (fun _ => ka) (fun _ => na) (fun _ => ea) (fun _ => sa) = true → (whR f m ka na ea sa).2.1 ≠ 0) := fun h => (wh_kind f m ka na ea sa h).1
  have HU : Hid (rightB f m 1 (fun _ => ka) (fun _ => na) (fun _ => ea) (fun _ => sa) = true → ka = 1 → ∃ (F2 : Int) (F3 : ByteArray) (U1 : Int) (U0 : Bool) (U2 : Int) (U3 : ByteArray) (U4 : Int) (V1 : Int) (V0 : Bool) (V2 : Int) (V3 : ByteArray) (V4 : Int) (c1 c2 : Int),
      whR f m ka na ea sa = (na, (1, F2, F3, 0)) ∧ 0 ≤ F2
      ∧ (∀ X, Calls Tryz.prog 23 #[.int .i64 f, .int .i64 m, numV 1 na F2 F3] X fun x w' => x = .returned (rsV 1 na F2 F3 0) ∧ Below X.heap.size X w')
      ∧ (∀ X, Calls Tryz.prog 25 #[.int .i64 f, .int .i64 4, numV 1 na ea sa, numV 1 false 0 { data := #[49] }] X fun x w' => x = .returned (rsV U1 U0 U2 U3 U4) ∧ Below X.heap.size X w')
      ∧ (∀ X, Calls Tryz.prog 26 #[.int .i64 f, .int .i64 3, numV 1 na ea sa, numV 1 false 0 { data := #[49] }] X fun x w' => x = .returned (rsV V1 V0 V2 V3 V4) ∧ Below X.heap.size X w')
      ∧ (∀ X, Calls Tryz.prog 13 #[.int .i64 f, numV 1 na F2 F3, numV U1 U0 U2 U3] X fun x w' => x = .returned (.int .i64 c1) ∧ Below X.heap.size X w')
      ∧ (∀ X, Calls Tryz.prog 13 #[.int .i64 f, numV 1 na F2 F3, numV V1 V0 V2 V3] X fun x w' => x = .returned (.int .i64 c2) ∧ Below X.heap.size X w')
      ∧ (c1 = 0 ∨ c1 = -1) ∧ (c2 = 0 ∨ c2 = 1)) := by
    intro hO hk
    subst hk
    obtain ⟨-, hm, hA⟩ := wh_kind f m 1 na ea sa hO
    obtain ⟨F2, F3, e1, h0, hN, e2, r1, r2, k1, k2⟩ := wh_fin f m hm na ea sa hA
    have q1 : ∀ X, Calls Tryz.prog 25 #[.int .i64 f, .int .i64 4, numV 1 na ea sa, numV 1 false 0 { data := #[49] }] X fun x w' => x = .returned (rsD (addR f 4 1 na ea sa 1 false 0 { data := #[49] }).1 (addR f 4 1 na ea sa 1 false 0 { data := #[49] }).2) ∧ Below X.heap.size X w' := fun X => iAdd_any f 4 1 na ea sa 1 false 0 { data := #[49] } X (by omega) (by decide)
    have q2 : ∀ X, Calls Tryz.prog 26 #[.int .i64 f, .int .i64 3, numV 1 na ea sa, numV 1 false 0 { data := #[49] }] X fun x w' => x = .returned (rsD (subR f 3 1 na ea sa 1 false 0 { data := #[49] }).1 (subR f 3 1 na ea sa 1 false 0 { data := #[49] }).2) ∧ Below X.heap.size X w' := fun X => iSub_any f 3 1 na ea sa 1 false 0 { data := #[49] } X (by omega) (by decide)
    have zF := numB_size f 1 na F2 F3 hN
    generalize addR f 4 1 na ea sa 1 false 0 { data := #[49] } = U at *
    generalize subR f 3 1 na ea sa 1 false 0 { data := #[49] } = V at *
    obtain ⟨U0, U1, U2, U3, U4⟩ := U
    obtain ⟨V0, V1, V2, V3, V4⟩ := V
    unfold Rgr at r1 r2
    dsimp only at q1 q2 r1 r2 k1 k2
    have zU := numB_size f U1 U0 U2 U3 r1
    have zV := numB_size f V1 V0 V2 V3 r2
    refine ⟨F2, F3, U1, U0, U2, U3, U4, V1, V0, V2, V3, V4, _, _, e1, h0, fun X => ?_, q1, q2, fun X => sCompare_any f 1 na F2 F3 U1 U0 U2 U3 X zF zU, fun X => sCompare_any f 1 na F2 F3 V1 V0 V2 V3 X zF zV, k1, k2⟩
    have := iWhole_any f m 1 na F2 F3 X zF
    rw [e2] at this
    exact this
  generalize whR f m ka na ea sa = R at *
  obtain ⟨R0, F1, F2, F3, F4⟩ := R
  generalize rightB f m 1 (fun _ => ka) (fun _ => na) (fun _ => ea) (fun _ => sa) = O at *
  have HI' : Hid (∀ X, Calls Tryz.prog 23 #[.int .i64 f, .int .i64 m, numV ka na ea sa] X fun x w' => x = .returned (rsV F1 R0 F2 F3 F4) ∧ Below X.heap.size X w') := HI
  have HS' : Hid (∀ X, Calls Tryz.prog 24 #[.int .i64 f, .int .i64 m, numV ka na ea sa] X fun x w' => x = .returned (rsV F1 R0 F2 F3 F4) ∧ Below X.heap.size X w') := HS
  have HNh : Hid (O = false → (R0, F1, F2, F3, F4) = (false, 0, 0, { data := #[] }, 0)) := HN
  have HKh : Hid (O = true → F1 ≠ 0) := HK
  clear HI HS HN HK
  have HM1 : Hid (M1 w w1.heap.size ka na ea sa (w1.alloc (.cells #[.int .i64 ka, .bool na, .int .i64 ea, .string sa] 25))) := m1_new w1 hb1 ka na ea sa
  clear hb1 hB hbig hsa
  go_wp2_with fail
  refine (HI'.out _).mono ?_
  rintro x w3 ⟨rfl, hb3⟩
  have HM3 : Hid (M1 w w1.heap.size ka na ea sa w3) := HM1.out.next hb3
  have hb4 : Below w3.heap.size w3 (w3.alloc (.cells #[.int .i64 F1, .bool R0, .int .i64 F2, .string F3, .int .i64 F4] 29)) := (Below.refl _ _).alloc (Nat.le_refl _) _
  have HM4 : Hid (M1 w w1.heap.size ka na ea sa (w3.alloc (.cells #[.int .i64 F1, .bool R0, .int .i64 F2, .string F3, .int .i64 F4] 29)) ∧ At5 (w3.alloc (.cells #[.int .i64 F1, .bool R0, .int .i64 F2, .string F3, .int .i64 F4] 29)) w3.heap.size (.int .i64 F1) (.bool R0) (.int .i64 F2) (.string F3) (.int .i64 F4)) := ⟨HM3.out.next hb4, at5_new w3 _ _ _ _ _⟩
  clear hb3 hb4 HM3 HM1 HI'
  go_upto_region 5 with fail
  generalize (w3.alloc (.cells #[.int .i64 F1, .bool R0, .int .i64 F2, .string F3, .int .i64 F4] 29)) = w4 at *
  generalize w1.heap.size = p at *
  generalize w3.heap.size = q at *
  have HX0 : Hid (Below w4.heap.size w4 w4.drew) := (Below.refl _ _).drew
  refine wp_region_class (C := fun W => Below w4.heap.size w4 W) (by kernel_rfl) (by kernel_rfl) HX0.out ?_
  have hne := neq_res_same F1 R0 F2 F3 F4
  repeat (first | go_big_quiet_skip | (refine wpQuiet_step ?_; intro K hK; go_simp; first | go_big_quiet_on | (apply Exists.intro; refine ⟨fun wx hC => ?_, ?_⟩; (first | exact rfl | ((with_reducible refine Calls.class_of (HS'.out wx) ?_); exact fun w' hb => bel1 hC hb) | (obtain ⟨a0, a1, a2, a3, a4⟩ := (HM4.out.1.next hC).1.cells; go_simp; exact rfl) | (obtain ⟨a0, a1, a2, a3, a4, a5⟩ := (HM4.out.2.below hC HM4.out.2.lt).cells; go_simp; exact rfl)); go_big_quiet_on)))
  refine wpQuiet_nil ?_
  intro w5 hb5
  have HM5 : Hid (M1 w p ka na ea sa w5 ∧ At5 w5 q (.int .i64 F1) (.bool R0) (.int .i64 F2) (.string F3) (.int .i64 F4)) := ⟨HM4.out.1.next hb5, HM4.out.2.below hb5 HM4.out.2.lt⟩
  clear hb5 HM4 HX0 HS' hne
  obtain ⟨r0, r1, r2, r3, r4, r5⟩ := HM5.out.2.cells
  obtain ⟨c0, c1, c2, c3, c4⟩ := HM5.out.1.1.cells
  cases O with
  | false =>
    have hN := HNh.out rfl
    obtain ⟨rfl, rfl, rfl, rfl, rfl⟩ := hN
    have heq := eql_res_same 0 false 0 { data := #[] } 0
    have hbd : ∀ w : World, (Instr.build 29 #[]).run Tryz.prog w = .ok (rsV 0 false 0 { data := #[] } 0) w := fun w => run_build w _ _ _ (by kernel_rfl)
    clear HNh HKh HU
    go_wp2
    go_ret
    exact ⟨rfl, HM5.out.1.2⟩
  | true =>
    have hk0 := HKh.out rfl
    have hk0b : (F1 == 0) = false := beq_eq_false_iff_ne.2 hk0
    clear HNh HKh
    go_wp2_with fail
    refine (finite_any ka na ea sa _).mono ?_
    rintro x w6 ⟨rfl, hb6⟩
    have HM6 : Hid (M1 w p ka na ea sa w6 ∧ At5 w6 q (.int .i64 F1) (.bool R0) (.int .i64 F2) (.string F3) (.int .i64 F4)) := ⟨HM5.out.1.next hb6, HM5.out.2.below hb6 HM5.out.2.lt⟩
    clear hb6 HM5 r0 r1 r2 r3 r4 r5 c0 c1 c2 c3 c4
    obtain ⟨r0, r1, r2, r3, r4, r5⟩ := HM6.out.2.cells
    by_cases hka : ka = 1
    case neg =>
      rw [decide_eq_false hka]
      clear hka HU
      go_wp2
      go_ret
      exact ⟨rfl, HM6.out.1.2⟩
    rw [decide_eq_true hka]
    obtain ⟨G2, G3, U1, U0, U2, U3, U4, V1, V0, V2, V3, V4, c1, c2, hR, h0, q1, q2, q3, q4, q5, k1, k2⟩ := HU.out trivial hka
    obtain ⟨rfl, rfl, rfl, rfl, rfl⟩ : R0 = na ∧ F1 = 1 ∧ F2 = G2 ∧ F3 = G3 ∧ F4 = 0 := by simpa only [Prod.mk.injEq] using hR
    subst hka
    have HQ1 : Hid (∀ X, Calls Tryz.prog 23 #[.int .i64 f, .int .i64 m, numV 1 R0 F2 F3] X fun x w' => x = .returned (rsV 1 R0 F2 F3 0) ∧ Below X.heap.size X w') := q1
    have HQ2 : Hid (∀ X, Calls Tryz.prog 25 #[.int .i64 f, .int .i64 4, numV 1 R0 ea sa, numV 1 false 0 { data := #[49] }] X fun x w' => x = .returned (rsV U1 U0 U2 U3 U4) ∧ Below X.heap.size X w') := q2
    have HQ3 : Hid (∀ X, Calls Tryz.prog 26 #[.int .i64 f, .int .i64 3, numV 1 R0 ea sa, numV 1 false 0 { data := #[49] }] X fun x w' => x = .returned (rsV V1 V0 V2 V3 V4) ∧ Below X.heap.size X w') := q3
    have HQ4 : Hid (∀ X, Calls Tryz.prog 13 #[.int .i64 f, numV 1 R0 F2 F3, numV U1 U0 U2 U3] X fun x w' => x = .returned (.int .i64 c1) ∧ Below X.heap.size X w') := q4
    have HQ5 : Hid (∀ X, Calls Tryz.prog 13 #[.int .i64 f, numV 1 R0 F2 F3, numV V1 V0 V2 V3] X fun x w' => x = .returned (.int .i64 c2) ∧ Below X.heap.size X w') := q5
    have HK12 : Hid ((c1 = 0 ∨ c1 = -1) ∧ (c2 = 0 ∨ c2 = 1) ∧ 0 ≤ F2) := ⟨k1, k2, h0⟩
    clear hR h0 q1 q2 q3 q4 q5 k1 k2 HU hk0 hk0b
    have hbn : ∀ w : World, (Instr.build 25 #[(0, .int .i64 1), (3, .string { data := #[49] })]).run Tryz.prog w = .ok (numV 1 false 0 { data := #[49] }) w := fun w => run_build w _ _ _ (by kernel_rfl)
    have hb7 : Below w6.heap.size w6 (w6.alloc (.cells #[.int .i64 1, .bool false, .int .i64 0, .string { data := #[49] }] 25)) := (Below.refl _ _).alloc (Nat.le_refl _) _
    have HM7 : Hid (M1 w p 1 R0 ea sa (w6.alloc (.cells #[.int .i64 1, .bool false, .int .i64 0, .string { data := #[49] }] 25)) ∧ At5 (w6.alloc (.cells #[.int .i64 1, .bool false, .int .i64 0, .string { data := #[49] }] 25)) q (.int .i64 1) (.bool R0) (.int .i64 F2) (.string F3) (.int .i64 0) ∧ At4r (w6.alloc (.cells #[.int .i64 1, .bool false, .int .i64 0, .string { data := #[49] }] 25)) w6.heap.size (.int .i64 1) (.bool false) (.int .i64 0) (.string { data := #[49] })) := ⟨HM6.out.1.next hb7, HM6.out.2.below hb7 HM6.out.2.lt, at4r_new w6 _ _ _ _⟩
    clear hb7
    go_upto_region 10 with fail
    clear r0 r1 r2 r3 r4 r5 HM6 hbn
    generalize (w6.alloc (.cells #[.int .i64 1, .bool false, .int .i64 0, .string { data := #[49] }] 25)) = w7 at *
    generalize w6.heap.size = t at *
    obtain ⟨c0, c1', c2', c3, c4⟩ := HM7.out.1.1.cells
    obtain ⟨d0, d1, d2, d3, d4⟩ := HM7.out.2.2.cells
    go_wp2_with fail
    refine (HQ2.out _).mono ?_
    rintro x w8 ⟨rfl, hb8⟩
    have HM8 : Hid (M1 w p 1 R0 ea sa w8 ∧ At5 w8 q (.int .i64 1) (.bool R0) (.int .i64 F2) (.string F3) (.int .i64 0) ∧ At4r w8 t (.int .i64 1) (.bool false) (.int .i64 0) (.string { data := #[49] })) := ⟨HM7.out.1.next hb8, HM7.out.2.1.below hb8 HM7.out.2.1.lt, HM7.out.2.2.next hb8⟩
    have hb9 : Below w8.heap.size w8 (w8.alloc (.cells #[.int .i64 U1, .bool U0, .int .i64 U2, .string U3, .int .i64 U4] 29)) := (Below.refl _ _).alloc (Nat.le_refl _) _
    have HM9 : Hid ((M1 w p 1 R0 ea sa (w8.alloc (.cells #[.int .i64 U1, .bool U0, .int .i64 U2, .string U3, .int .i64 U4] 29)) ∧ At5 (w8.alloc (.cells #[.int .i64 U1, .bool U0, .int .i64 U2, .string U3, .int .i64 U4] 29)) q (.int .i64 1) (.bool R0) (.int .i64 F2) (.string F3) (.int .i64 0) ∧ At4r (w8.alloc (.cells #[.int .i64 U1, .bool U0, .int .i64 U2, .string U3, .int .i64 U4] 29)) t (.int .i64 1) (.bool false) (.int .i64 0) (.string { data := #[49] })) ∧ At5 (w8.alloc (.cells #[.int .i64 U1, .bool U0, .int .i64 U2, .string U3, .int .i64 U4] 29)) w8.heap.size (.int .i64 U1) (.bool U0) (.int .i64 U2) (.string U3) (.int .i64 U4)) := ⟨⟨HM8.out.1.next hb9, HM8.out.2.1.below hb9 HM8.out.2.1.lt, HM8.out.2.2.next hb9⟩, at5_new w8 _ _ _ _ _⟩
    clear hb8 hb9 HM8 HM7 HQ2 c0 c1' c2' c3 c4 d0 d1 d2 d3 d4
    go_upto_region 11 with fail
    generalize (w8.alloc (.cells #[.int .i64 U1, .bool U0, .int .i64 U2, .string U3, .int .i64 U4] 29)) = w9 at *
    generalize w8.heap.size = u at *
    obtain ⟨c0, c1', c2', c3, c4⟩ := HM9.out.1.1.1.cells
    obtain ⟨d0, d1, d2, d3, d4⟩ := HM9.out.1.2.2.cells
    go_wp2_with fail
    refine (HQ3.out _).mono ?_
    rintro x w10 ⟨rfl, hb10⟩
    have HM10 : Hid ((Below w.heap.size w w10 ∧ At5 w10 q (.int .i64 1) (.bool R0) (.int .i64 F2) (.string F3) (.int .i64 0)) ∧ At5 w10 u (.int .i64 U1) (.bool U0) (.int .i64 U2) (.string U3) (.int .i64 U4)) := ⟨⟨(HM9.out.1.1.next hb10).2, HM9.out.1.2.1.below hb10 HM9.out.1.2.1.lt⟩, HM9.out.2.below hb10 HM9.out.2.lt⟩
    have hb11 : Below w10.heap.size w10 (w10.alloc (.cells #[.int .i64 V1, .bool V0, .int .i64 V2, .string V3, .int .i64 V4] 29)) := (Below.refl _ _).alloc (Nat.le_refl _) _
    have HM11 : Hid (((Below w.heap.size w (w10.alloc (.cells #[.int .i64 V1, .bool V0, .int .i64 V2, .string V3, .int .i64 V4] 29)) ∧ At5 (w10.alloc (.cells #[.int .i64 V1, .bool V0, .int .i64 V2, .string V3, .int .i64 V4] 29)) q (.int .i64 1) (.bool R0) (.int .i64 F2) (.string F3) (.int .i64 0)) ∧ At5 (w10.alloc (.cells #[.int .i64 V1, .bool V0, .int .i64 V2, .string V3, .int .i64 V4] 29)) u (.int .i64 U1) (.bool U0) (.int .i64 U2) (.string U3) (.int .i64 U4)) ∧ At5 (w10.alloc (.cells #[.int .i64 V1, .bool V0, .int .i64 V2, .string V3, .int .i64 V4] 29)) w10.heap.size (.int .i64 V1) (.bool V0) (.int .i64 V2) (.string V3) (.int .i64 V4)) := ⟨⟨⟨HM10.out.1.1.trans (hb11.mono HM10.out.1.1.size), HM10.out.1.2.below hb11 HM10.out.1.2.lt⟩, HM10.out.2.below hb11 HM10.out.2.lt⟩, at5_new w10 _ _ _ _ _⟩
    clear hb10 hb11 HM10 HM9 HQ3 c0 c1' c2' c3 c4 d0 d1 d2 d3 d4
    go_upto_region 12 with fail
    generalize (w10.alloc (.cells #[.int .i64 V1, .bool V0, .int .i64 V2, .string V3, .int .i64 V4] 29)) = w11 at *
    generalize w10.heap.size = v at *
    obtain ⟨k1, k2, h0⟩ := HK12.out
    have g0 : F2 ≥ 0 := h0
    have g1 : ¬ F2 < 0 := by omega
    have g2 : decide (0 ≤ F2) = true := decide_eq_true h0
    clear HK12
    have heq := eql_res_same 1 R0 F2 F3 0
    have HX5 : Hid (Below w11.heap.size w11 w11.drew) := (Below.refl _ _).drew
    rcases k1 with rfl | rfl <;> rcases k2 with rfl | rfl
    all_goals
      refine wp_region_class (C := fun W => Below w11.heap.size w11 W) (by kernel_rfl) (by kernel_rfl) HX5.out ?_
      repeat (first | go_big_quiet_skip | (refine wpQuiet_step ?_; intro K hK; go_simp; first | go_big_quiet_on | (apply Exists.intro; refine ⟨fun wx hC => ?_, ?_⟩; (first | exact rfl | ((with_reducible refine Calls.class_of (HQ1.out wx) ?_); exact fun w' hb => bel1 hC hb) | ((with_reducible refine Calls.class_of (HQ4.out wx) ?_); exact fun w' hb => bel1 hC hb) | ((with_reducible refine Calls.class_of (HQ5.out wx) ?_); exact fun w' hb => bel1 hC hb) | (obtain ⟨a0, a1, a2, a3, a4, a5⟩ := (HM11.out.1.1.2.below hC HM11.out.1.1.2.lt).cells; go_simp; exact rfl) | (obtain ⟨a0, a1, a2, a3, a4, a5⟩ := (HM11.out.1.2.below hC HM11.out.1.2.lt).cells; go_simp; exact rfl) | (obtain ⟨a0, a1, a2, a3, a4, a5⟩ := (HM11.out.2.below hC HM11.out.2.lt).cells; go_simp; exact rfl)); go_big_quiet_on)))
      refine wpQuiet_nil ?_
      intro w12 hb12
      have hbe := HM11.out.1.1.1.trans (hb12.mono HM11.out.1.1.1.size)
      clear HM11 HQ1 HQ4 HQ5 hb12
      go_wp2
      go_ret
      exact ⟨rfl, hbe⟩
theorem fnWhole_all (a0 : Option Addr) (len0 cap0 : Nat) (w : World) (hb : Bytes w.heap.size w a0 len0) :
    Calls Tryz.prog 5 #[.slice a0 len0 cap0] w fun e w' => e = .returned (.bool true) ∧ Below w.heap.size w w' := by
  by_cases hbig : 4096 < len0
  · clear hb
    go_enter Tryz.func5, Tryz.ntmps5
    go_wp2_with fail
    refine (big_yes _ _ _ _ hbig).mono ?_
    rintro e w' ⟨rfl, rfl⟩
    go_wp2
    go_ret
    exact ⟨rfl, Below.refl _ _⟩
  exact fnWhole_any a0 len0 cap0 w hbig hb
end Go.Proofs.YtnkoeidolmiheaaGreatDoor
