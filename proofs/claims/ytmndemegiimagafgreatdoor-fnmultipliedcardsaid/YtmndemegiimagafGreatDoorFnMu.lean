/-
  FnMultiplied: the law's own walk.
-/
import Derived.Test.YtmndemegiimagafGreatDoorDrAd
import Derived.Test.YtmndemegiimagafGreatDoorEqR
import Derived.Test.YtmndemegiimagafGreatDoorMuP
import Derived.Test.YtmndemegiimagafGreatDoorSpn
import Derived.Test.YtmndemegiimagafGreatDoorBx4r
import Derived.Test.YtmndemegiimagafGreatDoorQtl
namespace Go.Proofs.YtmndemegiimagafGreatDoor
open Go.RowKit
set_option linter.unusedVariables false
set_option maxRecDepth 100000
theorem numB_kind (f k : Int) (b : Bool) (e : Int) (s : ByteArray) (h : numB f k b e s = true) : k ≠ 0 := by
  intro hk
  subst hk
  unfold numB at h
  by_cases hp : limP f = 0
  · rw [if_pos hp] at h; cases h
  · rw [if_neg hp, if_neg (by decide), if_neg (by decide), if_neg (by decide)] at h; cases h
theorem numB_size (f k : Int) (b : Bool) (e : Int) (s : ByteArray) (h : numB f k b e s = true) : s.size ≤ 4611686018427387904 := by
  unfold numB at h
  by_cases hp : limP f = 0
  · rw [if_pos hp] at h; cases h
  rw [if_neg hp] at h
  have hl : limP f ≤ 34 := by unfold limP; split <;> (try split) <;> omega
  by_cases h1 : k = 1
  · rw [if_pos h1] at h
    unfold natB at h
    simp only [Bool.and_eq_true, decide_eq_true_eq] at h
    have := h.1.1.1.2
    omega
  · rw [if_neg h1] at h
    have hE : s.toList.isEmpty = true := by
      by_cases h2 : k = 2
      · rw [if_pos h2] at h; simp only [Bool.and_eq_true] at h; exact h.2
      · rw [if_neg h2] at h
        by_cases h3 : k = 3 ∨ k = 4
        · rw [if_pos h3] at h; simp only [Bool.and_eq_true] at h; exact h.2.1
        · rw [if_neg h3] at h; cases h
    have e : s.toList.length = s.size := by rw [ByteArray.toList_eq, Array.length_toList]; rfl
    rw [List.isEmpty_iff.1 hE] at e
    rw [← e]
    decide
/-- A product that is finite or an infinity has the sign of the two. -/
theorem mulR_sign (f mode : Int) (ka : Int) (na : Bool) (ea : Int) (sa : ByteArray) (kb : Int) (nb : Bool) (eb : Int) (sb : ByteArray) (hO : addO f mode ka na ea sa kb nb eb sb = true)
    (hk : (mulR f mode ka na ea sa kb nb eb sb).2.1 = 1 ∨ (mulR f mode ka na ea sa kb nb eb sb).2.1 = 2) : (mulR f mode ka na ea sa kb nb eb sb).1 = !(na == nb) := by
  unfold mulR at hk ⊢
  rw [hO, if_pos rfl] at hk ⊢
  cases hS : spB 2 (tw2 ka kb) with
  | true => rw [hS, if_pos rfl] at hk; rcases hk with h | h <;> cases h
  | false =>
    rw [hS, if_neg (by decide)] at hk
    rw [if_neg (by decide)]
    unfold mulX at hk ⊢
    by_cases hkk : ka = 1 ∧ kb = 1
    · rw [if_pos hkk]
    · rw [if_neg hkk] at hk ⊢
      cases hz : (z0B ka sa || z0B kb sb) with
      | true => rw [hz, if_pos rfl] at hk; rcases hk with h | h <;> cases h
      | false => rw [if_neg (by decide)]
theorem finite_any (k : Int) (b : Bool) (e : Int) (s : ByteArray) (w : World) : Calls Tryz.prog 13 #[numV k b e s] w fun x w' => x = .returned (.bool (decide (k = 1))) ∧ Below w.heap.size w w' := by
  go_enter Tryz.func13, Tryz.ntmps13
  go_wp2
  go_ret
  exact ⟨rfl, (Below.refl _ _).alloc (Nat.le_refl _) _⟩
/-- The two numbers in their blocks. -/
def MU (w : World) (p : Nat) (ka : Int) (na : Bool) (ea : Int) (sa : ByteArray) (kb : Int) (nb : Bool) (eb : Int) (sb : ByteArray) (W : World) : Prop :=
  At4r W p (.int .i64 ka) (.bool na) (.int .i64 ea) (.string sa) ∧ At4r W (p + 1) (.int .i64 kb) (.bool nb) (.int .i64 eb) (.string sb) ∧ Below w.heap.size w W
section
variable {w W W' : World} {p : Nat} {ka : Int} {na : Bool} {ea : Int} {sa : ByteArray} {kb : Int} {nb : Bool} {eb : Int} {sb : ByteArray}
theorem mu_new (w0 : World) (hw : Below w.heap.size w w0) (ka : Int) (na : Bool) (ea : Int) (sa : ByteArray) (kb : Int) (nb : Bool) (eb : Int) (sb : ByteArray) : MU w w0.heap.size ka na ea sa kb nb eb sb ((w0.alloc (.cells #[.int .i64 ka, .bool na, .int .i64 ea, .string sa] 25)).alloc (.cells #[.int .i64 kb, .bool nb, .int .i64 eb, .string sb] 25)) := by
  have h1 := at4r_new w0 (.int .i64 ka) (.bool na) (.int .i64 ea) (.string sa)
  have z1 : (w0.alloc (.cells #[.int .i64 ka, .bool na, .int .i64 ea, .string sa] 25)).heap.size = w0.heap.size + 1 := by simp
  have b1 : Below w0.heap.size w0 (w0.alloc (.cells #[.int .i64 ka, .bool na, .int .i64 ea, .string sa] 25)) := (Below.refl _ _).alloc (Nat.le_refl _) _
  generalize w0.alloc (.cells #[.int .i64 ka, .bool na, .int .i64 ea, .string sa] 25) = w1 at *
  have h2 := at4r_new w1 (.int .i64 kb) (.bool nb) (.int .i64 eb) (.string sb)
  have b2 : Below w1.heap.size w1 (w1.alloc (.cells #[.int .i64 kb, .bool nb, .int .i64 eb, .string sb] 25)) := (Below.refl _ _).alloc (Nat.le_refl _) _
  rw [z1] at h2
  exact ⟨h1.next b2, h2, hw.trans ((b1.trans (b2.mono b1.size)).mono hw.size)⟩
theorem MU.next (h : MU w p ka na ea sa kb nb eb sb W) (hb : Below W.heap.size W W') : MU w p ka na ea sa kb nb eb sb W' :=
  ⟨h.1.next hb, h.2.1.next hb, h.2.2.trans (hb.mono h.2.2.size)⟩
end
set_option maxRecDepth 100000 in
set_option maxHeartbeats 2000000 in
theorem fnMultiplied_any (a0 : Option Addr) (len0 cap0 : Nat) (w : World) (hbig : ¬ 4096 < len0) (hb : Bytes w.heap.size w a0 len0) :
    Calls Tryz.prog 3 #[.slice a0 len0 cap0] w fun e w' => e = .returned (.bool true) ∧ Below w.heap.size w w' := by
  have hB : Hid (Bytes w.heap.size w a0 len0) := hb
  clear hb
  go_enter Tryz.func3, Tryz.ntmps3
  go_wp2_with fail
  refine (big_no _ _ _ _ hbig).mono ?_
  rintro e w' ⟨rfl, hw⟩
  obtain rfl := hw.symm
  go_wp2_with fail
  refine (DrawMul_any _ _ _ _ (by omega) hB.out).mono ?_
  rintro e w1 ⟨f, m, ka, na, ea, sa, kb, nb, eb, sb, rfl, ⟨hsa, hsb⟩, hb1⟩
  have HI : Hid (∀ X, Calls Tryz.prog 11 #[.int .i64 f, .int .i64 m, numV ka na ea sa, numV kb nb eb sb] X fun x w' => x = .returned (rsD (mulR f m ka na ea sa kb nb eb sb).1 (mulR f m ka na ea sa kb nb eb sb).2) ∧ Below X.heap.size X w') := fun X => iMul_any f m ka na ea sa kb nb eb sb X (by omega) (by omega)
  have HJ : Hid (∀ X, Calls Tryz.prog 11 #[.int .i64 f, .int .i64 m, numV kb nb eb sb, numV ka na ea sa] X fun x w' => x = .returned (rsD (mulR f m ka na ea sa kb nb eb sb).1 (mulR f m ka na ea sa kb nb eb sb).2) ∧ Below X.heap.size X w') := fun X => by
    rw [mulR_comm f m ka na ea sa kb nb eb sb]
    exact iMul_any f m kb nb eb sb ka na ea sa X (by omega) (by omega)
  have HS : Hid (∀ X, Calls Tryz.prog 12 #[.int .i64 f, .int .i64 m, numV ka na ea sa, numV kb nb eb sb] X fun x w' => x = .returned (rsD (mulR f m ka na ea sa kb nb eb sb).1 (mulR f m ka na ea sa kb nb eb sb).2) ∧ Below X.heap.size X w') := fun X => sMul_ok f m ka na ea sa kb nb eb sb X (by omega) (by omega)
  have H1 : Hid (∀ X, Calls Tryz.prog 11 #[.int .i64 f, .int .i64 m, numV ka na ea sa, numV 1 false 0 { data := #[49] }] X fun x w' => x = .returned (rsD (mulR f m ka na ea sa 1 false 0 { data := #[49] }).1 (mulR f m ka na ea sa 1 false 0 { data := #[49] }).2) ∧ Below X.heap.size X w') := fun X => iMul_any f m ka na ea sa 1 false 0 { data := #[49] } X (by omega) (by decide)
  have HO1 : Hid (addO f m ka na ea sa kb nb eb sb = true → ka = 1 → mulR f m ka na ea sa 1 false 0 { data := #[49] } = (na, (1, ea, sa, 0))) := fun hO hk => by
    unfold addO at hO
    simp only [Bool.and_eq_true, decide_eq_true_eq] at hO
    subst hk
    exact mulR_one f m hO.1 na ea sa hO.2.1
  have HR := mulR_right f m ka na ea sa kb nb eb sb
  have HG := mulR_sign f m ka na ea sa kb nb eb sb
  have HN : addO f m ka na ea sa kb nb eb sb = false → mulR f m ka na ea sa kb nb eb sb = (false, (0, 0, { data := #[] }, 0)) := fun hO => by unfold mulR; rw [hO]; rfl
  generalize mulR f m ka na ea sa 1 false 0 { data := #[49] } = R1 at *
  obtain ⟨S0, G1, G2, G3, G4⟩ := R1
  generalize mulR f m ka na ea sa kb nb eb sb = R at *
  obtain ⟨R0, F1, F2, F3, F4⟩ := R
  generalize addO f m ka na ea sa kb nb eb sb = O at *
  dsimp only at HI HJ HS H1 HR HG HN
  have HM1 : Hid (MU w w1.heap.size ka na ea sa kb nb eb sb ((w1.alloc (.cells #[.int .i64 ka, .bool na, .int .i64 ea, .string sa] 25)).alloc (.cells #[.int .i64 kb, .bool nb, .int .i64 eb, .string sb] 25))) := mu_new w1 hb1 ka na ea sa kb nb eb sb
  clear hb1 hB hbig
  have HRh : Hid (O = true → numB f F1 R0 F2 F3 = true) := HR
  have HGh : Hid (O = true → F1 = 1 ∨ F1 = 2 → R0 = !(na == nb)) := HG
  have HNh : Hid (O = false → (R0, F1, F2, F3, F4) = (false, 0, 0, { data := #[] }, 0)) := HN
  clear HR HG HN
  go_wp2_with fail
  refine (HI.out _).mono ?_
  rintro x w3 ⟨rfl, hb3⟩
  have HM3 : Hid (MU w w1.heap.size ka na ea sa kb nb eb sb w3) := HM1.out.next hb3
  have hb4 : Below w3.heap.size w3 (w3.alloc (.cells #[.int .i64 F1, .bool R0, .int .i64 F2, .string F3, .int .i64 F4] 29)) := (Below.refl _ _).alloc (Nat.le_refl _) _
  have HM4 : Hid (MU w w1.heap.size ka na ea sa kb nb eb sb (w3.alloc (.cells #[.int .i64 F1, .bool R0, .int .i64 F2, .string F3, .int .i64 F4] 29)) ∧ At5 (w3.alloc (.cells #[.int .i64 F1, .bool R0, .int .i64 F2, .string F3, .int .i64 F4] 29)) w3.heap.size (.int .i64 F1) (.bool R0) (.int .i64 F2) (.string F3) (.int .i64 F4)) := ⟨HM3.out.next hb4, at5_new w3 _ _ _ _ _⟩
  clear hb3 hb4 HM3 HM1 HI
  go_upto_region 5 with fail
  generalize (w3.alloc (.cells #[.int .i64 F1, .bool R0, .int .i64 F2, .string F3, .int .i64 F4] 29)) = w4 at *
  generalize w1.heap.size = p at *
  generalize w3.heap.size = q at *
  have HX0 : Hid (Below w4.heap.size w4 w4.drew) := (Below.refl _ _).drew
  refine wp_region_class (C := fun W => Below w4.heap.size w4 W) (by kernel_rfl) (by kernel_rfl) HX0.out ?_
  have hne := neq_res_same F1 R0 F2 F3 F4
  repeat (first | go_big_quiet_skip | (refine wpQuiet_step ?_; intro K hK; go_simp; first | go_big_quiet_on | (apply Exists.intro; refine ⟨fun wx hC => ?_, ?_⟩; (first | exact rfl | ((with_reducible refine Calls.class_of (HS.out wx) ?_); exact fun w' hb => bel1 hC hb) | ((with_reducible refine Calls.class_of (HJ.out wx) ?_); exact fun w' hb => bel1 hC hb) | (obtain ⟨a0, a1, a2, a3, a4⟩ := (HM4.out.1.next hC).1.cells; go_simp; exact rfl) | (obtain ⟨a0, a1, a2, a3, a4⟩ := (HM4.out.1.next hC).2.1.cells; go_simp; exact rfl) | (obtain ⟨a0, a1, a2, a3, a4, a5⟩ := (HM4.out.2.below hC HM4.out.2.lt).cells; go_simp; exact rfl)); go_big_quiet_on)))
  refine wpQuiet_nil ?_
  intro w5 hb5
  have HM5 : Hid (MU w p ka na ea sa kb nb eb sb w5 ∧ At5 w5 q (.int .i64 F1) (.bool R0) (.int .i64 F2) (.string F3) (.int .i64 F4)) := ⟨HM4.out.1.next hb5, HM4.out.2.below hb5 HM4.out.2.lt⟩
  clear hb5 HM4 HX0 HS HJ hne
  obtain ⟨r0, r1, r2, r3, r4, r5⟩ := HM5.out.2.cells
  cases O with
  | false =>
    have hN := HNh.out rfl
    obtain ⟨rfl, rfl, rfl, rfl, rfl⟩ := hN
    have heq := eql_res_same 0 false 0 { data := #[] } 0
    have hbd : ∀ w : World, (Instr.build 29 #[]).run Tryz.prog w = .ok (rsV 0 false 0 { data := #[] } 0) w := fun w => run_build w _ _ _ (by kernel_rfl)
    clear HNh HRh HGh HO1 H1
    go_wp2
    go_ret
    exact ⟨rfl, HM5.out.1.2.2⟩
  | true =>
    have hk0 := numB_kind f F1 R0 F2 F3 (HRh.out rfl)
    have hR := HRh.out rfl
    have HNo : Hid (∀ X, Calls Tryz.prog 14 #[.int .i64 f, numV F1 R0 F2 F3] X fun x w' => x = .returned (.bool true) ∧ Below X.heap.size X w') := fun X => by
      have := iNumOk_any f F1 R0 F2 F3 X (numB_size f F1 R0 F2 F3 hR)
      rwa [hR] at this
    clear hR HRh HNh
    obtain ⟨c0, c1, c2, c3, c4⟩ := HM5.out.1.1.cells
    have hbn : ∀ w : World, (Instr.build 25 #[(0, .int .i64 1), (3, .string { data := #[49] })]).run Tryz.prog w = .ok (numV 1 false 0 { data := #[49] }) w := fun w => run_build w _ _ _ (by kernel_rfl)
    go_wp2_with fail
    refine (H1.out _).mono ?_
    rintro x w6 ⟨rfl, hb6⟩
    have HM6 : Hid (MU w p ka na ea sa kb nb eb sb w6 ∧ At5 w6 q (.int .i64 F1) (.bool R0) (.int .i64 F2) (.string F3) (.int .i64 F4)) := ⟨HM5.out.1.next hb6, HM5.out.2.below hb6 HM5.out.2.lt⟩
    have hb7 : Below w6.heap.size w6 (w6.alloc (.cells #[.int .i64 G1, .bool S0, .int .i64 G2, .string G3, .int .i64 G4] 29)) := (Below.refl _ _).alloc (Nat.le_refl _) _
    have HM7 : Hid ((MU w p ka na ea sa kb nb eb sb (w6.alloc (.cells #[.int .i64 G1, .bool S0, .int .i64 G2, .string G3, .int .i64 G4] 29)) ∧ At5 (w6.alloc (.cells #[.int .i64 G1, .bool S0, .int .i64 G2, .string G3, .int .i64 G4] 29)) q (.int .i64 F1) (.bool R0) (.int .i64 F2) (.string F3) (.int .i64 F4)) ∧ At5 (w6.alloc (.cells #[.int .i64 G1, .bool S0, .int .i64 G2, .string G3, .int .i64 G4] 29)) w6.heap.size (.int .i64 G1) (.bool S0) (.int .i64 G2) (.string G3) (.int .i64 G4)) := ⟨⟨HM6.out.1.next hb7, HM6.out.2.below hb7 HM6.out.2.lt⟩, at5_new w6 _ _ _ _ _⟩
    clear hb6 hb7 HM6 HM5 H1 hbn c0 c1 c2 c3 c4 r0 r1 r2 r3 r4 r5 hk0
    go_upto_region 10 with fail
    generalize (w6.alloc (.cells #[.int .i64 G1, .bool S0, .int .i64 G2, .string G3, .int .i64 G4] 29)) = w7 at *
    generalize w6.heap.size = t at *
    obtain ⟨c0, c1, c2, c3, c4⟩ := HM7.out.1.1.1.cells
    go_wp2_with fail
    refine (finite_any ka na ea sa _).mono ?_
    rintro x w8 ⟨rfl, hb8⟩
    have HM8 : Hid ((MU w p ka na ea sa kb nb eb sb w8 ∧ At5 w8 q (.int .i64 F1) (.bool R0) (.int .i64 F2) (.string F3) (.int .i64 F4)) ∧ At5 w8 t (.int .i64 G1) (.bool S0) (.int .i64 G2) (.string G3) (.int .i64 G4)) := ⟨⟨HM7.out.1.1.next hb8, HM7.out.1.2.below hb8 HM7.out.1.2.lt⟩, HM7.out.2.below hb8 HM7.out.2.lt⟩
    clear hb8 HM7 c0 c1 c2 c3 c4
    obtain ⟨c0, c1, c2, c3, c4⟩ := HM8.out.1.1.1.cells
    obtain ⟨g0, g1, g2, g3, g4, g5⟩ := HM8.out.2.cells
    obtain ⟨r0, r1, r2, r3, r4, r5⟩ := HM8.out.1.2.cells
    by_cases hka : ka = 1
    · subst hka
      have hO := HO1.out trivial rfl
      obtain ⟨rfl, rfl, rfl, rfl, rfl⟩ := hO
      have hnn := neq_num_same 1 na ea sa
      rw [decide_eq_true (rfl : (1 : Int) = 1)]
      clear HO1
      go_wp2_with fail
      clear c0 c1 c2 c3 c4 g0 g1 g2 g3 g4 g5 r0 r1 r2 r3 r4 r5 hnn
      refine (HNo.out _).mono ?_
      rintro x w9 ⟨rfl, hb9⟩
      have HM9 : Hid (MU w p 1 na ea sa kb nb eb sb w9 ∧ At5 w9 q (.int .i64 F1) (.bool R0) (.int .i64 F2) (.string F3) (.int .i64 F4)) := ⟨HM8.out.1.1.next hb9, HM8.out.1.2.below hb9 HM8.out.1.2.lt⟩
      obtain ⟨c0, c1, c2, c3, c4⟩ := HM9.out.1.1.cells
      obtain ⟨d0, d1, d2, d3, d4⟩ := HM9.out.1.2.1.cells
      obtain ⟨r0, r1, r2, r3, r4, r5⟩ := HM9.out.2.cells
      clear hb9 HM8 HNo
      by_cases hF : F1 = 1 ∨ F1 = 2
      · have hR0 := HGh.out trivial hF
        clear HGh
        subst hR0
        rcases hF with rfl | rfl
        · go_wp2
          go_ret
          exact ⟨by cases na <;> cases nb <;> rfl, HM9.out.1.2.2⟩
        · go_wp2
          go_ret
          exact ⟨by cases na <;> cases nb <;> rfl, HM9.out.1.2.2⟩
      · have hF1 : F1 ≠ 1 := fun h => hF (.inl h)
        have hF2 : F1 ≠ 2 := fun h => hF (.inr h)
        clear HGh hF
        go_wp2
        go_ret
        exact ⟨rfl, HM9.out.1.2.2⟩
    · rw [decide_eq_false hka]
      clear HO1
      go_wp2_with fail
      clear c0 c1 c2 c3 c4 g0 g1 g2 g3 g4 g5 r0 r1 r2 r3 r4 r5 hka
      refine (HNo.out _).mono ?_
      rintro x w9 ⟨rfl, hb9⟩
      have HM9 : Hid (MU w p ka na ea sa kb nb eb sb w9 ∧ At5 w9 q (.int .i64 F1) (.bool R0) (.int .i64 F2) (.string F3) (.int .i64 F4)) := ⟨HM8.out.1.1.next hb9, HM8.out.1.2.below hb9 HM8.out.1.2.lt⟩
      obtain ⟨c0, c1, c2, c3, c4⟩ := HM9.out.1.1.cells
      obtain ⟨d0, d1, d2, d3, d4⟩ := HM9.out.1.2.1.cells
      obtain ⟨r0, r1, r2, r3, r4, r5⟩ := HM9.out.2.cells
      clear hb9 HM8 HNo
      by_cases hF : F1 = 1 ∨ F1 = 2
      · have hR0 := HGh.out trivial hF
        clear HGh
        subst hR0
        rcases hF with rfl | rfl
        · go_wp2
          go_ret
          exact ⟨by cases na <;> cases nb <;> rfl, HM9.out.1.2.2⟩
        · go_wp2
          go_ret
          exact ⟨by cases na <;> cases nb <;> rfl, HM9.out.1.2.2⟩
      · have hF1 : F1 ≠ 1 := fun h => hF (.inl h)
        have hF2 : F1 ≠ 2 := fun h => hF (.inr h)
        clear HGh hF
        go_wp2
        go_ret
        exact ⟨rfl, HM9.out.1.2.2⟩
theorem fnMultiplied_all (a0 : Option Addr) (len0 cap0 : Nat) (w : World) (hb : Bytes w.heap.size w a0 len0) :
    Calls Tryz.prog 3 #[.slice a0 len0 cap0] w fun e w' => e = .returned (.bool true) ∧ Below w.heap.size w w' := by
  by_cases hbig : 4096 < len0
  · clear hb
    go_enter Tryz.func3, Tryz.ntmps3
    go_wp2_with fail
    refine (big_yes _ _ _ _ hbig).mono ?_
    rintro e w' ⟨rfl, rfl⟩
    go_wp2
    go_ret
    exact ⟨rfl, Below.refl _ _⟩
  exact fnMultiplied_any a0 len0 cap0 w hbig hb
end Go.Proofs.YtmndemegiimagafGreatDoor
