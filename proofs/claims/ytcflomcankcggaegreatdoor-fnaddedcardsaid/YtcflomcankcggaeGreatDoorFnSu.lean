/-
  FnSubtracted: the law's own walk.
-/
import Derived.Test.YtcflomcankcggaeGreatDoorMuB
import Derived.Test.YtcflomcankcggaeGreatDoorExg
import Derived.Test.YtcflomcankcggaeGreatDoorOrt
namespace Go.Proofs.YtcflomcankcggaeGreatDoor
open Go.RowKit
set_option linter.unusedVariables false
set_option maxRecDepth 100000
theorem subR_ok (f mode : Int) (ka : Int) (na : Bool) (ea : Int) (sa : ByteArray) (kb : Int) (nb : Bool) (eb : Int) (sb : ByteArray) (h : (subR f mode ka na ea sa kb nb eb sb).2.1 ≠ 0) : (1 ≤ mode ∧ mode ≤ 5) ∧ numB f ka na ea sa = true ∧ numB f kb nb eb sb = true := by
  unfold subR at h
  cases hO : addO f mode ka na ea sa kb (tuB kb nb) eb sb with
  | false => unfold addR at h; rw [hO] at h; exact absurd rfl h
  | true =>
    unfold addO at hO
    simp only [Bool.and_eq_true, decide_eq_true_eq] at hO
    have h3 := hO.2.2
    rw [numB_tu] at h3
    exact ⟨hO.1, hO.2.1, h3⟩
set_option maxRecDepth 100000 in
set_option maxHeartbeats 2000000 in
theorem fnSubtracted_any (a0 : Option Addr) (len0 cap0 : Nat) (w : World) (hbig : ¬ 4096 < len0) (hb : Bytes w.heap.size w a0 len0) :
    Calls Tryz.prog 4 #[.slice a0 len0 cap0] w fun e w' => e = .returned (.bool true) ∧ Below w.heap.size w w' := by
  have hB : Hid (Bytes w.heap.size w a0 len0) := hb
  clear hb
  go_enter Tryz.func4, Tryz.ntmps4
  go_wp2_with fail
  refine (big_no _ _ _ _ hbig).mono ?_
  rintro e w' ⟨rfl, hw⟩
  obtain rfl := hw.symm
  go_wp2_with fail
  refine (DrawSub_any _ _ _ _ (by omega) hB.out).mono ?_
  rintro e w1 ⟨f, m, ka, na, ea, sa, kb, nb, eb, sb, rfl, ⟨hsa, hsb⟩, hb1⟩
  have HI : Hid (∀ X, Calls Tryz.prog 10 #[.int .i64 f, .int .i64 m, numV ka na ea sa, numV kb nb eb sb] X fun x w' => x = .returned (rsD (subR f m ka na ea sa kb nb eb sb).1 (subR f m ka na ea sa kb nb eb sb).2) ∧ Below X.heap.size X w') := fun X => iSub_any f m ka na ea sa kb nb eb sb X (by omega) (by omega)
  have HS : Hid (∀ X, Calls Tryz.prog 15 #[.int .i64 f, .int .i64 m, numV ka na ea sa, numV kb nb eb sb] X fun x w' => x = .returned (rsD (subR f m ka na ea sa kb nb eb sb).1 (subR f m ka na ea sa kb nb eb sb).2) ∧ Below X.heap.size X w') := fun X => sSub_ok f m ka na ea sa kb nb eb sb X (by omega) (by omega)
  have HK := subR_ok f m ka na ea sa kb nb eb sb
  have HBk := sub_back f m
  obtain ⟨R, hR⟩ : ∃ R, subR f m ka na ea sa kb nb eb sb = R := ⟨_, rfl⟩
  rw [hR] at HI HS HK
  obtain ⟨R0, F1, F2, F3, F4⟩ := R
  dsimp only at HI HS HK
  have HA : Hid (F1 = 1 → ka = 1 → kb = 1 → F4 = 0 → ∃ g E S, (∀ X, Calls Tryz.prog 7 #[.int .i64 f, .int .i64 m, numV 1 R0 F2 F3, numV 1 nb eb sb] X fun x w' => x = .returned (rsV 1 g E S 0) ∧ Below X.heap.size X w') ∧ (∀ X, Calls Tryz.prog 13 #[.int .i64 f, numV 1 g E S, numV 1 na ea sa] X fun x w' => x = .returned (.int .i64 0) ∧ Below X.heap.size X w')) := by
    intro h1 h2 h3 h4
    subst h1 h2 h3 h4
    obtain ⟨hm, hA, hBb⟩ := HK (by decide)
    obtain ⟨g, E, S, he, hc⟩ := HBk hm na ea sa nb eb sb hA hBb R0 1 F2 F3 hR
    have hRr : numB f 1 R0 F2 F3 = true := by
      have hu : tuB 1 nb = !nb := if_pos (.inl rfl)
      have hB' : numB f 1 (!nb) eb sb = true := by rw [← hu, numB_tu]; exact hBb
      obtain ⟨hf, ea1, -, ca⟩ := right_two f 1 na ea sa hA (by decide) (by decide)
      obtain ⟨-, eb1, -, cb⟩ := right_two f 1 nb eb sb hBb (by decide) (by decide)
      obtain ⟨q1, l1, x1, y1⟩ := ca rfl
      obtain ⟨q2, l2, x2, y2⟩ := cb rfl
      have hL := lims f hf
      unfold subR at hR
      rw [hu, addR_fin f m hm na ea sa (!nb) eb sb hA hB'] at hR
      exact sumX_right0 f m na ea (dl sa) (!nb) eb (dl sb) hf q1 q2 (by omega) (by omega) R0 1 F2 F3 hR
    have zF := numB_size f 1 R0 F2 F3 hRr
    have zS : S.size ≤ 4611686018427387904 := by
      obtain ⟨hf, -, -, cr⟩ := right_two f 1 R0 F2 F3 hRr (by decide) (by decide)
      obtain ⟨-, -, -, cb⟩ := right_two f 1 nb eb sb hBb (by decide) (by decide)
      obtain ⟨q1, l1, x1, y1⟩ := cr rfl
      obtain ⟨q2, l2, x2, y2⟩ := cb rfl
      have hL := lims f hf
      have he2 := he
      rw [addR_fin f m hm R0 F2 F3 nb eb sb hRr hBb] at he2
      exact numB_size f 1 g E S (sumX_right0 f m R0 F2 (dl F3) nb eb (dl sb) hf q1 q2 (by omega) (by omega) g 1 E S he2)
    refine ⟨g, E, S, fun X => ?_, fun X => ?_⟩
    · have := iAdd_any f m 1 R0 F2 F3 1 nb eb sb X zF (by omega)
      rw [he] at this
      exact this
    · have := sCompare_any f 1 g E S 1 na ea sa X zS (by omega)
      rw [hc] at this
      exact this
  clear HBk hR HK
  have HM1 : Hid (MU w w1.heap.size ka na ea sa kb nb eb sb ((w1.alloc (.cells #[.int .i64 ka, .bool na, .int .i64 ea, .string sa] 25)).alloc (.cells #[.int .i64 kb, .bool nb, .int .i64 eb, .string sb] 25))) := mu_new w1 hb1 ka na ea sa kb nb eb sb
  clear hb1 hB hbig
  go_wp2_with fail
  refine (HI.out _).mono ?_
  rintro x w3 ⟨rfl, hb3⟩
  have HM3 : Hid (MU w w1.heap.size ka na ea sa kb nb eb sb w3) := HM1.out.next hb3
  have hb4 : Below w3.heap.size w3 (w3.alloc (.cells #[.int .i64 F1, .bool R0, .int .i64 F2, .string F3, .int .i64 F4] 29)) := (Below.refl _ _).alloc (Nat.le_refl _) _
  have HM4 : Hid (MU w w1.heap.size ka na ea sa kb nb eb sb (w3.alloc (.cells #[.int .i64 F1, .bool R0, .int .i64 F2, .string F3, .int .i64 F4] 29)) ∧ At5 (w3.alloc (.cells #[.int .i64 F1, .bool R0, .int .i64 F2, .string F3, .int .i64 F4] 29)) w3.heap.size (.int .i64 F1) (.bool R0) (.int .i64 F2) (.string F3) (.int .i64 F4)) := ⟨HM3.out.next hb4, at5_new w3 _ _ _ _ _⟩
  clear hb3 hb4 HM3 HM1 HI
  go_upto_region 5 with fail
  generalize (w3.alloc (.cells #[.int .i64 F1, .bool R0, .int .i64 F2, .string F3, .int .i64 F4] 29)) = w4 at *
  generalize w1.heap.size = p at *
  generalize w3.heap.size = q at *
  have HX0 : Hid (Below w4.heap.size w4 w4.drew) := (Below.refl _ _).drew
  refine wp_region_class (C := fun W => Below w4.heap.size w4 W) (by kernel_rfl) (by kernel_rfl) HX0.out ?_
  have hne := neq_res_same F1 R0 F2 F3 F4
  repeat (first | go_big_quiet_skip | (refine wpQuiet_step ?_; intro K hK; go_simp; first | go_big_quiet_on | (apply Exists.intro; refine ⟨fun wx hC => ?_, ?_⟩; (first | exact rfl | ((with_reducible refine Calls.class_of (HS.out wx) ?_); exact fun w' hb => bel1 hC hb) | (obtain ⟨a0, a1, a2, a3, a4⟩ := (HM4.out.1.next hC).1.cells; go_simp; exact rfl) | (obtain ⟨a0, a1, a2, a3, a4⟩ := (HM4.out.1.next hC).2.1.cells; go_simp; exact rfl) | (obtain ⟨a0, a1, a2, a3, a4, a5⟩ := (HM4.out.2.below hC HM4.out.2.lt).cells; go_simp; exact rfl)); go_big_quiet_on)))
  refine wpQuiet_nil ?_
  intro w5 hb5
  have HM5 : Hid (MU w p ka na ea sa kb nb eb sb w5 ∧ At5 w5 q (.int .i64 F1) (.bool R0) (.int .i64 F2) (.string F3) (.int .i64 F4)) := ⟨HM4.out.1.next hb5, HM4.out.2.below hb5 HM4.out.2.lt⟩
  clear hb5 HM4 HX0 HS hne
  obtain ⟨c0, c1, c2, c3, c4⟩ := HM5.out.1.1.cells
  go_wp2_with fail
  refine (finite_any ka na ea sa _).mono ?_
  rintro x w6 ⟨rfl, hb6⟩
  have HM6 : Hid (MU w p ka na ea sa kb nb eb sb w6 ∧ At5 w6 q (.int .i64 F1) (.bool R0) (.int .i64 F2) (.string F3) (.int .i64 F4)) := ⟨HM5.out.1.next hb6, HM5.out.2.below hb6 HM5.out.2.lt⟩
  clear hb6 HM5 c0 c1 c2 c3 c4
  by_cases hka : ka = 1
  case neg =>
    rw [decide_eq_false hka]
    clear hka HA
    go_wp2
    go_ret
    exact ⟨rfl, HM6.out.1.2.2⟩
  rw [decide_eq_true hka]
  have HKa : Hid (ka = 1) := hka
  clear hka
  obtain ⟨c0, c1, c2, c3, c4⟩ := HM6.out.1.2.1.cells
  go_wp2_with fail
  refine (finite_any kb nb eb sb _).mono ?_
  rintro x w7 ⟨rfl, hb7⟩
  have HM7 : Hid (MU w p ka na ea sa kb nb eb sb w7 ∧ At5 w7 q (.int .i64 F1) (.bool R0) (.int .i64 F2) (.string F3) (.int .i64 F4)) := ⟨HM6.out.1.next hb7, HM6.out.2.below hb7 HM6.out.2.lt⟩
  clear hb7 HM6 c0 c1 c2 c3 c4
  by_cases hkb : kb = 1
  case neg =>
    rw [decide_eq_false hkb]
    clear hkb HA
    go_wp2
    go_ret
    exact ⟨rfl, HM7.out.1.2.2⟩
  rw [decide_eq_true hkb]
  have HKb : Hid (kb = 1) := hkb
  clear hkb
  obtain ⟨r0, r1, r2, r3, r4, r5⟩ := HM7.out.2.cells
  go_wp2_with fail
  refine (finite_any F1 R0 F2 F3 _).mono ?_
  rintro x w8 ⟨rfl, hb8⟩
  have HM8 : Hid (MU w p ka na ea sa kb nb eb sb w8 ∧ At5 w8 q (.int .i64 F1) (.bool R0) (.int .i64 F2) (.string F3) (.int .i64 F4)) := ⟨HM7.out.1.next hb8, HM7.out.2.below hb8 HM7.out.2.lt⟩
  clear hb8 HM7 r0 r1 r2 r3 r4 r5
  by_cases hF1 : F1 = 1
  case neg =>
    rw [decide_eq_false hF1]
    clear hF1 HA
    go_wp2
    go_ret
    exact ⟨rfl, HM8.out.1.2.2⟩
  rw [decide_eq_true hF1]
  obtain ⟨r0, r1, r2, r3, r4, r5⟩ := HM8.out.2.cells
  by_cases hF4 : F4 = 0
  case neg =>
    clear hF1 HA
    go_wp2
    go_ret
    exact ⟨rfl, HM8.out.1.2.2⟩
  obtain ⟨g, E, S, hAd, hCm⟩ := HA.out hF1 HKa.out HKb.out hF4
  have HAd : Hid (∀ X, Calls Tryz.prog 7 #[.int .i64 f, .int .i64 m, numV 1 R0 F2 F3, numV 1 nb eb sb] X fun x w' => x = .returned (rsV 1 g E S 0) ∧ Below X.heap.size X w') := hAd
  have HCm : Hid (∀ X, Calls Tryz.prog 13 #[.int .i64 f, numV 1 g E S, numV 1 na ea sa] X fun x w' => x = .returned (.int .i64 0) ∧ Below X.heap.size X w') := hCm
  have e1 := HKa.out
  have e2 := HKb.out
  subst e1 e2 hF1 hF4
  clear HA HKa HKb hAd hCm
  obtain ⟨c0, c1, c2, c3, c4⟩ := HM8.out.1.2.1.cells
  go_wp2_with fail
  refine (HAd.out _).mono ?_
  rintro x w9 ⟨rfl, hb9⟩
  have HM9 : Hid (MU w p 1 na ea sa 1 nb eb sb w9) := HM8.out.1.next hb9
  have hb10 : Below w9.heap.size w9 (w9.alloc (.cells #[.int .i64 1, .bool g, .int .i64 E, .string S, .int .i64 0] 29)) := (Below.refl _ _).alloc (Nat.le_refl _) _
  have HM10 : Hid (MU w p 1 na ea sa 1 nb eb sb (w9.alloc (.cells #[.int .i64 1, .bool g, .int .i64 E, .string S, .int .i64 0] 29)) ∧ At5 (w9.alloc (.cells #[.int .i64 1, .bool g, .int .i64 E, .string S, .int .i64 0] 29)) w9.heap.size (.int .i64 1) (.bool g) (.int .i64 E) (.string S) (.int .i64 0)) := ⟨HM9.out.next hb10, at5_new w9 _ _ _ _ _⟩
  clear hb9 hb10 HM9 HM8 HAd c0 c1 c2 c3 c4 r0 r1 r2 r3 r4 r5
  go_upto_region 10 with fail
  generalize (w9.alloc (.cells #[.int .i64 1, .bool g, .int .i64 E, .string S, .int .i64 0] 29)) = w10 at *
  generalize w9.heap.size = t at *
  obtain ⟨c0, c1, c2, c3, c4⟩ := HM10.out.1.1.cells
  obtain ⟨r0, r1, r2, r3, r4, r5⟩ := HM10.out.2.cells
  go_wp2_with fail
  refine (HCm.out _).mono ?_
  rintro x w11 ⟨rfl, hb11⟩
  have HM11 : Hid (MU w p 1 na ea sa 1 nb eb sb w11) := HM10.out.1.next hb11
  clear hb11 HM10
  go_wp2
  go_ret
  exact ⟨rfl, HM11.out.2.2⟩
theorem fnSubtracted_all (a0 : Option Addr) (len0 cap0 : Nat) (w : World) (hb : Bytes w.heap.size w a0 len0) :
    Calls Tryz.prog 4 #[.slice a0 len0 cap0] w fun e w' => e = .returned (.bool true) ∧ Below w.heap.size w w' := by
  by_cases hbig : 4096 < len0
  · clear hb
    go_enter Tryz.func4, Tryz.ntmps4
    go_wp2_with fail
    refine (big_yes _ _ _ _ hbig).mono ?_
    rintro e w' ⟨rfl, rfl⟩
    go_wp2
    go_ret
    exact ⟨rfl, Below.refl _ _⟩
  exact fnSubtracted_any a0 len0 cap0 w hbig hb
end Go.Proofs.YtcflomcankcggaeGreatDoor
