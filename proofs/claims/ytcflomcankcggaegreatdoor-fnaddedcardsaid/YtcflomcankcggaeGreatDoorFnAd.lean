/-
  FnAdded: the law's own walk.
-/
import Derived.Test.YtcflomcankcggaeGreatDoorFnSu
import Derived.Test.YtcflomcankcggaeGreatDoorExh
namespace Go.Proofs.YtcflomcankcggaeGreatDoor
open Go.RowKit
set_option linter.unusedVariables false
set_option maxRecDepth 100000
theorem turned_any (k : Int) (b : Bool) (e : Int) (s : ByteArray) (w : World) : Calls Tryz.prog 11 #[numV k b e s] w fun x w' => x = .returned (numV k (tuB k b) e s) ∧ Below w.heap.size w w' := by
  by_cases h1 : k = 1
  · subst h1
    rw [show tuB 1 b = !b from if_pos (.inl rfl)]
    go_enter Tryz.func11, Tryz.ntmps11
    go_wp2
    have hP := at4_new (w.alloc (.cells #[.int .i64 1, .bool (!b), .int .i64 e, .string s] 25)) (.int .i64 1) (.bool (!b)) (.int .i64 e) (.string s)
    rw [show (w.alloc (.cells #[.int .i64 1, .bool (!b), .int .i64 e, .string s] 25)).heap.size = w.heap.size + 1 by simp] at hP
    refine bodyPost_ret (results_num rfl _ _ rfl hP.1 hP.2.1 hP.2.2.1 hP.2.2.2.1) rfl ?_
    exact ⟨rfl, bel_two _ _ _⟩
  · by_cases h2 : k = 2
    · subst h2
      rw [show tuB 2 b = !b from if_pos (.inr rfl)]
      go_enter Tryz.func11, Tryz.ntmps11
      go_wp2
      have hP := at4_new (w.alloc (.cells #[.int .i64 2, .bool (!b), .int .i64 e, .string s] 25)) (.int .i64 2) (.bool (!b)) (.int .i64 e) (.string s)
      rw [show (w.alloc (.cells #[.int .i64 2, .bool (!b), .int .i64 e, .string s] 25)).heap.size = w.heap.size + 1 by simp] at hP
      refine bodyPost_ret (results_num rfl _ _ rfl hP.1 hP.2.1 hP.2.2.1 hP.2.2.2.1) rfl ?_
      exact ⟨rfl, bel_two _ _ _⟩
    · rw [show tuB k b = b from if_neg (fun h => h.elim h1 h2)]
      have c1 : (k == 1) = false := beq_eq_false_iff_ne.2 h1
      have c2 : (k == 2) = false := beq_eq_false_iff_ne.2 h2
      clear h1 h2
      go_enter Tryz.func11, Tryz.ntmps11
      go_wp2
      have hP := at4_new (w.alloc (.cells #[.int .i64 k, .bool b, .int .i64 e, .string s] 25)) (.int .i64 k) (.bool b) (.int .i64 e) (.string s)
      rw [show (w.alloc (.cells #[.int .i64 k, .bool b, .int .i64 e, .string s] 25)).heap.size = w.heap.size + 1 by simp] at hP
      refine bodyPost_ret (results_num rfl _ _ rfl hP.1 hP.2.1 hP.2.2.1 hP.2.2.2.1) rfl ?_
      exact ⟨rfl, bel_two _ _ _⟩
set_option maxRecDepth 100000 in
set_option maxHeartbeats 2000000 in
theorem fnAdded_any (a0 : Option Addr) (len0 cap0 : Nat) (w : World) (hbig : ¬ 4096 < len0) (hb : Bytes w.heap.size w a0 len0) :
    Calls Tryz.prog 3 #[.slice a0 len0 cap0] w fun e w' => e = .returned (.bool true) ∧ Below w.heap.size w w' := by
  have hB : Hid (Bytes w.heap.size w a0 len0) := hb
  clear hb
  go_enter Tryz.func3, Tryz.ntmps3
  go_wp2_with fail
  refine (big_no _ _ _ _ hbig).mono ?_
  rintro e w' ⟨rfl, hw⟩
  obtain rfl := hw.symm
  go_wp2_with fail
  refine (DrawAdd_any _ _ _ _ (by omega) hB.out).mono ?_
  rintro e w1 ⟨f, m, ka, na, ea, sa, kb, nb, eb, sb, rfl, ⟨hsa, hsb⟩, hb1⟩
  have HI : Hid (∀ X, Calls Tryz.prog 7 #[.int .i64 f, .int .i64 m, numV ka na ea sa, numV kb nb eb sb] X fun x w' => x = .returned (rsD (addR f m ka na ea sa kb nb eb sb).1 (addR f m ka na ea sa kb nb eb sb).2) ∧ Below X.heap.size X w') := fun X => iAdd_any f m ka na ea sa kb nb eb sb X (by omega) (by omega)
  have HJ : Hid (∀ X, Calls Tryz.prog 7 #[.int .i64 f, .int .i64 m, numV kb nb eb sb, numV ka na ea sa] X fun x w' => x = .returned (rsD (addR f m ka na ea sa kb nb eb sb).1 (addR f m ka na ea sa kb nb eb sb).2) ∧ Below X.heap.size X w') := fun X => by
    rw [addR_comm f m ka na ea sa kb nb eb sb]
    exact iAdd_any f m kb nb eb sb ka na ea sa X (by omega) (by omega)
  have HS : Hid (∀ X, Calls Tryz.prog 8 #[.int .i64 f, .int .i64 m, numV ka na ea sa, numV kb nb eb sb] X fun x w' => x = .returned (rsD (addR f m ka na ea sa kb nb eb sb).1 (addR f m ka na ea sa kb nb eb sb).2) ∧ Below X.heap.size X w') := fun X => sAdd_ok f m ka na ea sa kb nb eb sb X (by omega) (by omega)
  have HR : addO f m ka na ea sa kb nb eb sb = true → numB f (addR f m ka na ea sa kb nb eb sb).2.1 (addR f m ka na ea sa kb nb eb sb).1 (addR f m ka na ea sa kb nb eb sb).2.2.1 (addR f m ka na ea sa kb nb eb sb).2.2.2.1 = true := fun hO => addR_right f m ka na ea sa kb nb eb sb hO
  have HTu : Hid (∀ X, Calls Tryz.prog 11 #[numV kb nb eb sb] X fun x w' => x = .returned (numV kb (tuB kb nb) eb sb) ∧ Below X.heap.size X w') := fun X => turned_any kb nb eb sb X
  have HSu : Hid (∀ X, Calls Tryz.prog 10 #[.int .i64 f, .int .i64 m, numV ka na ea sa, numV kb (tuB kb nb) eb sb] X fun x w' => x = .returned (rsD (addR f m ka na ea sa kb nb eb sb).1 (addR f m ka na ea sa kb nb eb sb).2) ∧ Below X.heap.size X w') := fun X => by
    rw [← subR_turned f m ka na ea sa kb nb eb sb]
    exact iSub_any f m ka na ea sa kb (tuB kb nb) eb sb X (by omega) (by omega)
  have HZ : Hid (addO f m ka na ea sa kb nb eb sb = true → ka = 1 → (∀ X, Calls Tryz.prog 10 #[.int .i64 f, .int .i64 m, numV 1 na ea sa, numV 1 na ea sa] X fun x w' => x = .returned (rsV 1 (decide (m = 3)) ea { data := #[48] } 0) ∧ Below X.heap.size X w') ∧ ∃ g E S, (∀ X, Calls Tryz.prog 7 #[.int .i64 f, .int .i64 m, numV 1 na ea sa, numV 1 false 0 { data := #[48] }] X fun x w' => x = .returned (rsV 1 g E S 0) ∧ Below X.heap.size X w') ∧ (∀ X, Calls Tryz.prog 13 #[.int .i64 f, numV 1 g E S, numV 1 na ea sa] X fun x w' => x = .returned (.int .i64 0) ∧ Below X.heap.size X w')) := by
    intro hO hk
    subst hk
    unfold addO at hO
    simp only [Bool.and_eq_true, decide_eq_true_eq] at hO
    obtain ⟨hmo, hA, -⟩ := hO
    refine ⟨fun X => ?_, ?_⟩
    · have := iSub_any f m 1 na ea sa 1 na ea sa X (by omega) (by omega)
      rw [sub_self f m hmo na ea sa hA] at this
      exact this
    · obtain ⟨g, E, S, he, hc⟩ := add_nought f m hmo na ea sa hA
      have hr := addR_right f m 1 na ea sa 1 false 0 { data := #[48] } (by
        unfold addO
        obtain ⟨hf, -, -, -⟩ := right_two f 1 na ea sa hA (by decide) (by decide)
        rw [hA, decide_eq_true hmo]
        rcases hf with rfl | rfl <;> rfl)
      rw [he] at hr
      have zS := numB_size f 1 g E S hr
      refine ⟨g, E, S, fun X => ?_, fun X => ?_⟩
      · have := iAdd_any f m 1 na ea sa 1 false 0 { data := #[48] } X (by omega) (by decide)
        rw [he] at this
        exact this
      · have := sCompare_any f 1 g E S 1 na ea sa X zS (by omega)
        rw [hc] at this
        exact this
  have HN : addO f m ka na ea sa kb nb eb sb = false → addR f m ka na ea sa kb nb eb sb = (false, (0, 0, { data := #[] }, 0)) := fun hO => by unfold addR; rw [hO]; rfl
  generalize addR f m ka na ea sa kb nb eb sb = R at *
  obtain ⟨R0, F1, F2, F3, F4⟩ := R
  generalize addO f m ka na ea sa kb nb eb sb = O at *
  dsimp only at HI HJ HS HSu HR HN
  have HM1 : Hid (MU w w1.heap.size ka na ea sa kb nb eb sb ((w1.alloc (.cells #[.int .i64 ka, .bool na, .int .i64 ea, .string sa] 25)).alloc (.cells #[.int .i64 kb, .bool nb, .int .i64 eb, .string sb] 25))) := mu_new w1 hb1 ka na ea sa kb nb eb sb
  clear hb1 hB hbig
  have HRh : Hid (O = true → numB f F1 R0 F2 F3 = true) := HR
  have HNh : Hid (O = false → (R0, F1, F2, F3, F4) = (false, 0, 0, { data := #[] }, 0)) := HN
  clear HR HN
  go_wp2_with fail
  refine (HI.out _).mono ?_
  rintro x w3 ⟨rfl, hb3⟩
  have HM3 : Hid (MU w w1.heap.size ka na ea sa kb nb eb sb w3) := HM1.out.next hb3
  have hb4 : Below w3.heap.size w3 (w3.alloc (.cells #[.int .i64 F1, .bool R0, .int .i64 F2, .string F3, .int .i64 F4] 29)) := (Below.refl _ _).alloc (Nat.le_refl _) _
  have HM4 : Hid (MU w w1.heap.size ka na ea sa kb nb eb sb (w3.alloc (.cells #[.int .i64 F1, .bool R0, .int .i64 F2, .string F3, .int .i64 F4] 29)) ∧ At5 (w3.alloc (.cells #[.int .i64 F1, .bool R0, .int .i64 F2, .string F3, .int .i64 F4] 29)) w3.heap.size (.int .i64 F1) (.bool R0) (.int .i64 F2) (.string F3) (.int .i64 F4)) := ⟨HM3.out.next hb4, at5_new w3 _ _ _ _ _⟩
  clear hb3 hb4 HM3 HM1 HI
  go_upto_region 5 with fail
  generalize (w3.alloc (.cells #[.int .i64 F1, .bool R0, .int .i64 F2, .string F3, .int .i64 F4] 29)) = w4 at *
  generalize w1.heap.size = p at *
  generalize w3.heap.size = q at *
  have HX0 : Hid (Below w4.heap.size w4 w4.drew) := (Below.refl _ _).drew
  refine wp_region_class (C := fun W => Below w4.heap.size w4 W) (by kernel_rfl) (by kernel_rfl) HX0.out ?_
  have hne := neq_res_same F1 R0 F2 F3 F4
  repeat (first | go_big_quiet_skip | (refine wpQuiet_step ?_; intro K hK; go_simp; first | go_big_quiet_on | (apply Exists.intro; refine ⟨fun wx hC => ?_, ?_⟩; (first | exact rfl | ((with_reducible refine Calls.class_of (HS.out wx) ?_); exact fun w' hb => bel1 hC hb) | ((with_reducible refine Calls.class_of (HJ.out wx) ?_); exact fun w' hb => bel1 hC hb) | (obtain ⟨a0, a1, a2, a3, a4⟩ := (HM4.out.1.next hC).1.cells; go_simp; exact rfl) | (obtain ⟨a0, a1, a2, a3, a4⟩ := (HM4.out.1.next hC).2.1.cells; go_simp; exact rfl) | (obtain ⟨a0, a1, a2, a3, a4, a5⟩ := (HM4.out.2.below hC HM4.out.2.lt).cells; go_simp; exact rfl)); go_big_quiet_on)))
  refine wpQuiet_nil ?_
  intro w5 hb5
  have HM5 : Hid (MU w p ka na ea sa kb nb eb sb w5 ∧ At5 w5 q (.int .i64 F1) (.bool R0) (.int .i64 F2) (.string F3) (.int .i64 F4)) := ⟨HM4.out.1.next hb5, HM4.out.2.below hb5 HM4.out.2.lt⟩
  clear hb5 HM4 HX0 HS HJ
  obtain ⟨r0, r1, r2, r3, r4, r5⟩ := HM5.out.2.cells
  cases O with
  | false =>
    have hN := HNh.out rfl
    obtain ⟨rfl, rfl, rfl, rfl, rfl⟩ := hN
    have heq := eql_res_same 0 false 0 { data := #[] } 0
    have hbd : ∀ w : World, (Instr.build 29 #[]).run Tryz.prog w = .ok (rsV 0 false 0 { data := #[] } 0) w := fun w => run_build w _ _ _ (by kernel_rfl)
    clear HNh HRh HZ HTu HSu hne
    go_wp2
    go_ret
    exact ⟨rfl, HM5.out.1.2.2⟩
  | true =>
    have hk0 := numB_kind f F1 R0 F2 F3 (HRh.out rfl)
    have hR := HRh.out rfl
    have HNo : Hid (∀ X, Calls Tryz.prog 9 #[.int .i64 f, numV F1 R0 F2 F3] X fun x w' => x = .returned (.bool true) ∧ Below X.heap.size X w') := fun X => by
      have := iNumOk_any f F1 R0 F2 F3 X (numB_size f F1 R0 F2 F3 hR)
      rwa [hR] at this
    clear hR HRh HNh
    go_upto_region 9 with fail
    clear r0 r1 r2 r3 r4 r5 hk0
    have HX5 : Hid (Below w5.heap.size w5 w5.drew) := (Below.refl _ _).drew
    refine wp_region_class (C := fun W => Below w5.heap.size w5 W) (by kernel_rfl) (by kernel_rfl) HX5.out ?_
    repeat (first | go_big_quiet_skip | (refine wpQuiet_step ?_; intro K hK; go_simp; first | go_big_quiet_on | (apply Exists.intro; refine ⟨fun wx hC => ?_, ?_⟩; (first | exact rfl | ((with_reducible refine Calls.class_of (HNo.out wx) ?_); exact fun w' hb => bel1 hC hb) | ((with_reducible refine Calls.class_of (HTu.out wx) ?_); exact fun w' hb => bel1 hC hb) | ((with_reducible refine Calls.class_of (HSu.out wx) ?_); exact fun w' hb => bel1 hC hb) | (obtain ⟨a0, a1, a2, a3, a4⟩ := (HM5.out.1.next hC).1.cells; go_simp; exact rfl) | (obtain ⟨a0, a1, a2, a3, a4⟩ := (HM5.out.1.next hC).2.1.cells; go_simp; exact rfl) | (obtain ⟨a0, a1, a2, a3, a4, a5⟩ := (HM5.out.2.below hC HM5.out.2.lt).cells; go_simp; exact rfl)); go_big_quiet_on)))
    refine wpQuiet_nil ?_
    intro w6 hb6
    have HM6 : Hid (MU w p ka na ea sa kb nb eb sb w6) := HM5.out.1.next hb6
    clear hb6 HM5 HX5 HNo HTu HSu hne
    obtain ⟨c0, c1, c2, c3, c4⟩ := HM6.out.1.cells
    go_wp2_with fail
    refine (finite_any ka na ea sa _).mono ?_
    rintro x w7 ⟨rfl, hb7⟩
    have HM7 : Hid (MU w p ka na ea sa kb nb eb sb w7) := HM6.out.next hb7
    clear hb7 HM6 c0 c1 c2 c3 c4
    by_cases hka : ka = 1
    case neg =>
      rw [decide_eq_false hka]
      clear hka HZ
      go_wp2
      go_ret
      exact ⟨rfl, HM7.out.2.2⟩
    rw [decide_eq_true hka]
    obtain ⟨hSl, g, E, S, hAd, hCm⟩ := HZ.out trivial hka
    subst hka
    have HSl : Hid (∀ X, Calls Tryz.prog 10 #[.int .i64 f, .int .i64 m, numV 1 na ea sa, numV 1 na ea sa] X fun x w' => x = .returned (rsV 1 (decide (m = 3)) ea { data := #[48] } 0) ∧ Below X.heap.size X w') := hSl
    have HAd : Hid (∀ X, Calls Tryz.prog 7 #[.int .i64 f, .int .i64 m, numV 1 na ea sa, numV 1 false 0 { data := #[48] }] X fun x w' => x = .returned (rsV 1 g E S 0) ∧ Below X.heap.size X w') := hAd
    have HCm : Hid (∀ X, Calls Tryz.prog 13 #[.int .i64 f, numV 1 g E S, numV 1 na ea sa] X fun x w' => x = .returned (.int .i64 0) ∧ Below X.heap.size X w') := hCm
    clear hSl hAd hCm HZ
    obtain ⟨z, hz⟩ : ∃ z, decide (m = 3) = z := ⟨_, rfl⟩
    rw [hz] at HSl
    have HZz : Hid (decide (m = 3) = z) := hz
    clear hz
    obtain ⟨c0, c1, c2, c3, c4⟩ := HM7.out.1.cells
    go_wp2_with fail
    refine (HSl.out _).mono ?_
    rintro x w8 ⟨rfl, hb8⟩
    have HM8 : Hid (MU w p 1 na ea sa kb nb eb sb w8) := HM7.out.next hb8
    have hb9 : Below w8.heap.size w8 (w8.alloc (.cells #[.int .i64 1, .bool z, .int .i64 ea, .string { data := #[48] }, .int .i64 0] 29)) := (Below.refl _ _).alloc (Nat.le_refl _) _
    have HM9 : Hid (MU w p 1 na ea sa kb nb eb sb (w8.alloc (.cells #[.int .i64 1, .bool z, .int .i64 ea, .string { data := #[48] }, .int .i64 0] 29)) ∧ At5 (w8.alloc (.cells #[.int .i64 1, .bool z, .int .i64 ea, .string { data := #[48] }, .int .i64 0] 29)) w8.heap.size (.int .i64 1) (.bool z) (.int .i64 ea) (.string { data := #[48] }) (.int .i64 0)) := ⟨HM8.out.next hb9, at5_new w8 _ _ _ _ _⟩
    clear hb8 hb9 HM8 HM7 HSl c0 c1 c2 c3 c4
    go_upto_region 14 with fail
    generalize (w8.alloc (.cells #[.int .i64 1, .bool z, .int .i64 ea, .string { data := #[48] }, .int .i64 0] 29)) = w9 at *
    generalize w8.heap.size = t at *
    have hbn : ∀ w : World, (Instr.build 25 #[(0, .int .i64 1), (3, .string { data := #[48] })]).run Tryz.prog w = .ok (numV 1 false 0 { data := #[48] }) w := fun w => run_build w _ _ _ (by kernel_rfl)
    obtain ⟨c0, c1, c2, c3, c4⟩ := HM9.out.1.1.cells
    go_wp2_with fail
    refine (HAd.out _).mono ?_
    rintro x w10 ⟨rfl, hb10⟩
    have HM10 : Hid (MU w p 1 na ea sa kb nb eb sb w10 ∧ At5 w10 t (.int .i64 1) (.bool z) (.int .i64 ea) (.string { data := #[48] }) (.int .i64 0)) := ⟨HM9.out.1.next hb10, HM9.out.2.below hb10 HM9.out.2.lt⟩
    have hb11 : Below w10.heap.size w10 (w10.alloc (.cells #[.int .i64 1, .bool g, .int .i64 E, .string S, .int .i64 0] 29)) := (Below.refl _ _).alloc (Nat.le_refl _) _
    have HM11 : Hid ((MU w p 1 na ea sa kb nb eb sb (w10.alloc (.cells #[.int .i64 1, .bool g, .int .i64 E, .string S, .int .i64 0] 29)) ∧ At5 (w10.alloc (.cells #[.int .i64 1, .bool g, .int .i64 E, .string S, .int .i64 0] 29)) t (.int .i64 1) (.bool z) (.int .i64 ea) (.string { data := #[48] }) (.int .i64 0)) ∧ At5 (w10.alloc (.cells #[.int .i64 1, .bool g, .int .i64 E, .string S, .int .i64 0] 29)) w10.heap.size (.int .i64 1) (.bool g) (.int .i64 E) (.string S) (.int .i64 0)) := ⟨⟨HM10.out.1.next hb11, HM10.out.2.below hb11 HM10.out.2.lt⟩, at5_new w10 _ _ _ _ _⟩
    clear hb10 hb11 HM10 HM9 HAd c0 c1 c2 c3 c4 hbn
    go_upto_region 15 with fail
    generalize (w10.alloc (.cells #[.int .i64 1, .bool g, .int .i64 E, .string S, .int .i64 0] 29)) = w11 at *
    generalize w10.heap.size = u at *
    obtain ⟨c0, c1, c2, c3, c4⟩ := HM11.out.1.1.1.cells
    obtain ⟨z0, z1, z2, z3, z4, z5⟩ := HM11.out.1.2.cells
    obtain ⟨o0, o1, o2, o3, o4, o5⟩ := HM11.out.2.cells
    by_cases hm3 : m = 3
    · have ez := HZz.out
      rw [decide_eq_true hm3] at ez
      subst ez hm3
      clear HZz
      go_wp2_with fail
      refine (HCm.out _).mono ?_
      rintro x w12 ⟨rfl, hb12⟩
      have HM12 : Hid (MU w p 1 na ea sa kb nb eb sb w12) := HM11.out.1.1.next hb12
      clear hb12 HM11
      go_wp2
      go_ret
      exact ⟨rfl, HM12.out.2.2⟩
    · have ez := HZz.out
      rw [decide_eq_false hm3] at ez
      subst ez
      have cm : (m == 3) = false := beq_eq_false_iff_ne.2 hm3
      clear HZz
      go_wp2_with fail
      refine (HCm.out _).mono ?_
      rintro x w12 ⟨rfl, hb12⟩
      have HM12 : Hid (MU w p 1 na ea sa kb nb eb sb w12) := HM11.out.1.1.next hb12
      clear hb12 HM11
      go_wp2
      go_ret
      exact ⟨rfl, HM12.out.2.2⟩
theorem fnAdded_all (a0 : Option Addr) (len0 cap0 : Nat) (w : World) (hb : Bytes w.heap.size w a0 len0) :
    Calls Tryz.prog 3 #[.slice a0 len0 cap0] w fun e w' => e = .returned (.bool true) ∧ Below w.heap.size w w' := by
  by_cases hbig : 4096 < len0
  · clear hb
    go_enter Tryz.func3, Tryz.ntmps3
    go_wp2_with fail
    refine (big_yes _ _ _ _ hbig).mono ?_
    rintro e w' ⟨rfl, rfl⟩
    go_wp2
    go_ret
    exact ⟨rfl, Below.refl _ _⟩
  exact fnAdded_any a0 len0 cap0 w hbig hb
end Go.Proofs.YtcflomcankcggaeGreatDoor
