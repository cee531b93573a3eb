/-
  Order of the model: Total; walked.
-/
import Derived.Test.YtnkoeidolmiheaaGreatDoorOrt
namespace Go.Proofs.YtnkoeidolmiheaaGreatDoor
open Go.RowKit
set_option linter.unusedVariables false
set_option maxRecDepth 100000
theorem At4q.lay {w : World} {b : Nat} {x y z u : Value} (h : At4q w b x y z u) : ∀ o, (w.alloc o).cell? ⟨b, 0, none⟩ = some x ∧ (w.alloc o).cell? ⟨b, 1, none⟩ = some y ∧ (w.alloc o).cell? ⟨b, 2, none⟩ = some z ∧ (w.alloc o).cell? ⟨b, 3, none⟩ = some u := fun o => by
  obtain ⟨a, b, c, d, -⟩ := (h.next ((Below.refl _ _).alloc (Nat.le_refl _) o)).cells
  exact ⟨a, b, c, d⟩
theorem l15Sgn_any (a b : Int) (w : World) : Calls Tryz.prog 155 #[.int .i64 (a - b)] w fun e w' => e = .returned (.int .i64 (cI a b)) ∧ w' = w := by
  by_cases h1 : a < b
  · have h : a - b < 0 := by omega
    rw [cI_lt a b h1]
    clear h1
    generalize a - b = x at *
    go_enter Tryz.func155, Tryz.ntmps155
    go_wp2
    go_ret
    exact ⟨rfl, rfl⟩
  · by_cases h2 : b < a
    · have h : 0 < a - b := by omega
      have h' : ¬ a - b < 0 := by omega
      rw [cI_gt a b h2]
      clear h1 h2
      generalize a - b = x at *
      go_enter Tryz.func155, Tryz.ntmps155
      go_wp2
      go_ret
      exact ⟨rfl, rfl⟩
    · obtain rfl : a = b := by omega
      rw [cI_same, show a - a = 0 by omega]
      clear h1 h2
      go_enter Tryz.func155, Tryz.ntmps155
      go_wp2
      go_ret
      exact ⟨rfl, rfl⟩
theorem l15Rank_any (k : Int) (b : Bool) (e : Int) (s : ByteArray) (w : World) : Calls Tryz.prog 156 #[numV k b e s] w fun x w' => x = .returned (.int .i64 (kpl k)) ∧ Below w.heap.size w w' := by
  have HB : Hid (Below w.heap.size w (w.alloc (.cells #[.int .i64 k, .bool b, .int .i64 e, .string s] 25))) := (Below.refl _ _).alloc (Nat.le_refl _) _
  by_cases h1 : k = 1
  · subst h1
    go_enter Tryz.func156, Tryz.ntmps156
    go_wp2
    go_ret
    exact ⟨rfl, HB.out⟩
  by_cases h2 : k = 2
  · subst h2
    go_enter Tryz.func156, Tryz.ntmps156
    go_wp2
    go_ret
    exact ⟨rfl, HB.out⟩
  by_cases h4 : k = 4
  · subst h4
    go_enter Tryz.func156, Tryz.ntmps156
    go_wp2
    go_ret
    exact ⟨rfl, HB.out⟩
  have E : Hid (kpl k = 3) := by show _ = _; unfold kpl; rw [if_neg h1, if_neg h2, if_neg h4]
  have q1 : (k == 1) = false := beq_eq_false_iff_ne.2 h1
  have q2 : (k == 2) = false := beq_eq_false_iff_ne.2 h2
  have q4 : (k == 4) = false := beq_eq_false_iff_ne.2 h4
  rw [E.out]
  clear h1 h2 h4 E
  go_enter Tryz.func156, Tryz.ntmps156
  go_wp2
  go_ret
  exact ⟨rfl, HB.out⟩
theorem kpl_bd (k : Int) : 0 ≤ kpl k ∧ kpl k ≤ 3 := by unfold kpl; split <;> (try split) <;> (try split) <;> omega
theorem cI_bd (x y : Int) : cI x y = 0 ∨ cI x y = 1 ∨ cI x y = -1 := by unfold cI; split <;> (try split) <;> omega
theorem cB_bd (a b : List UInt8) : Lib.compareBytes a b = 0 ∨ Lib.compareBytes a b = 1 ∨ Lib.compareBytes a b = -1 := by
  induction a generalizing b with
  | nil => cases b <;> simp [Lib.compareBytes]
  | cons x r ih =>
    cases b with
    | nil => simp [Lib.compareBytes]
    | cons y t =>
      show (if x < y then (-1 : Int) else if y < x then 1 else Lib.compareBytes r t) = 0 ∨ (if x < y then (-1 : Int) else if y < x then 1 else Lib.compareBytes r t) = 1 ∨ (if x < y then (-1 : Int) else if y < x then 1 else Lib.compareBytes r t) = -1
      by_cases h1 : x < y
      · rw [if_pos h1]; omega
      · rw [if_neg h1]
        by_cases h2 : y < x
        · rw [if_pos h2]; omega
        · rw [if_neg h2]; exact ih t
theorem orI_bd (x y : Int) (hx : x = 0 ∨ x = 1 ∨ x = -1) (hy : y = 0 ∨ y = 1 ∨ y = -1) : orI x y = 0 ∨ orI x y = 1 ∨ orI x y = -1 := by
  unfold orI
  by_cases h : x = 0
  · rw [if_pos h]; exact hy
  · rw [if_neg h]; exact hx
theorem csz_bd (ka ea : Int) (sa : ByteArray) (kb eb : Int) (sb : ByteArray) : cszI ka ea sa kb eb sb = 0 ∨ cszI ka ea sa kb eb sb = 1 ∨ cszI ka ea sa kb eb sb = -1 := by
  exact orI_bd _ _ (cI_bd _ _) (cB_bd _ _)
theorem kpl_same (ka kb : Int) (h1 : 1 ≤ ka ∧ ka ≤ 4) (h2 : 1 ≤ kb ∧ kb ≤ 4) (h : cI (kpl ka) (kpl kb) = 0) : ka = kb := by
  have : kpl ka = kpl kb := by
    unfold cI at h
    by_cases c1 : kpl ka < kpl kb
    · rw [if_pos c1] at h; cases h
    · rw [if_neg c1] at h
      by_cases c2 : kpl kb < kpl ka
      · rw [if_pos c2] at h; cases h
      · omega
  unfold kpl at this
  split at this <;> split at this <;> (try split at this) <;> (try split at this) <;> (try split at this) <;> (try split at this) <;> omega
/-- The comparison by value of finite ones without signs is that of sizes. -/
theorem mc_fin (ea : Int) (sa : ByteArray) (eb : Int) (sb : ByteArray) : mcV 1 false ea sa 1 false eb sb = cszI 1 ea sa 1 eb sb := by
  unfold mcV
  cases h : (nouB 1 sa && nouB 1 sb)
  · show cmpU false 1 ea sa 1 eb sb = _
    unfold cmpU
    rw [if_neg (by decide), show cI (kpl 1) (kpl 1) = 0 from rfl]; rfl
  · have hh := Bool.and_eq_true_iff.1 h
    rw [nou_two 1 ea sa 1 eb sb hh.1 hh.2]; rfl
set_option maxRecDepth 100000 in
set_option maxHeartbeats 2000000 in
theorem l15Total_any (f : Int) (ka : Int) (na : Bool) (ea : Int) (sa : ByteArray) (kb : Int) (nb : Bool) (eb : Int) (sb : ByteArray) (w : World) (hA : numB f ka na ea sa = true) (hB : numB f kb nb eb sb = true) :
    Calls Tryz.prog 102 #[numV ka na ea sa, numV kb nb eb sb] w fun r w' => r = .returned (.int .i64 (cmpR true ka na ea sa kb nb eb sb)) ∧ Below w.heap.size w w' := by
  obtain ⟨hN0, hb0, -⟩ := n2o_new w ka na ea sa kb nb eb sb
  have HN : Hid (N2o w.heap.size ka na ea sa kb nb eb sb ((w.alloc (.cells #[.int .i64 ka, .bool na, .int .i64 ea, .string sa] 25)).alloc (.cells #[.int .i64 kb, .bool nb, .int .i64 eb, .string sb] 25)) ∧ Below w.heap.size w ((w.alloc (.cells #[.int .i64 ka, .bool na, .int .i64 ea, .string sa] 25)).alloc (.cells #[.int .i64 kb, .bool nb, .int .i64 eb, .string sb] 25))) := ⟨hN0, hb0⟩
  clear hN0 hb0
  by_cases hn : na = nb
  case neg =>
    have E : Hid (cmpR true ka na ea sa kb nb eb sb = if na then -1 else 1) := by
      show _ = _
      cases na <;> cases nb <;> first | rfl | exact absurd rfl hn
    rw [E.out]
    clear hA hB E
    cases na <;> cases nb <;> first | exact absurd rfl hn | skip
    all_goals
      clear hn
      go_enter Tryz.func102, Tryz.ntmps102
      go_wp2
      go_ret
      exact ⟨rfl, HN.out.2⟩
  subst hn
  obtain ⟨T, hT⟩ : ∃ T, cmpU true ka ea sa kb eb sb = T := ⟨_, rfl⟩
  have E : Hid (cmpR true ka na ea sa kb na eb sb = if na then -T else T) := by
    show _ = _
    rw [← hT]
    cases na
    · rfl
    · show cmpU true kb eb sb ka ea sa = _
      rw [cmpU_turn]; rfl
  rw [E.out]
  clear E
  have hTb : T = 0 ∨ T = 1 ∨ T = -1 := by
    rw [← hT]
    unfold cmpU
    rw [if_pos rfl]
    exact orI_bd _ _ (orI_bd _ _ (cI_bd _ _) (csz_bd _ _ _ _ _ _)) (cI_bd _ _)
  have wT : IntKind.i64.wrap (-T) = -T := by rw [IntKind.wrap_i64]; omega
  obtain ⟨-, kA, lA, eA, oA, -⟩ := numB_bd f ka na ea sa hA
  obtain ⟨-, kB, lB, eB, oB, -⟩ := numB_bd f kb na eb sb hB
  have HRa : Hid (∀ X, Calls Tryz.prog 156 #[numV ka na ea sa] X fun x w' => x = .returned (.int .i64 (kpl ka)) ∧ Below X.heap.size X w') := fun X => l15Rank_any ka na ea sa X
  have HRb : Hid (∀ X, Calls Tryz.prog 156 #[numV kb na eb sb] X fun x w' => x = .returned (.int .i64 (kpl kb)) ∧ Below X.heap.size X w') := fun X => l15Rank_any kb na eb sb X
  have HSg : Hid (∀ X, Calls Tryz.prog 155 #[.int .i64 (kpl ka - kpl kb)] X fun e w' => e = .returned (.int .i64 (cI (kpl ka) (kpl kb))) ∧ w' = X) := fun X => l15Sgn_any _ _ X
  have HSe : Hid (∀ X, Calls Tryz.prog 155 #[.int .i64 (ea - eb)] X fun e w' => e = .returned (.int .i64 (cI ea eb)) ∧ w' = X) := fun X => l15Sgn_any _ _ X
  have wk : IntKind.i64.wrap (kpl ka - kpl kb) = kpl ka - kpl kb := by have := kpl_bd ka; have := kpl_bd kb; rw [IntKind.wrap_i64]; omega
  have we : IntKind.i64.wrap (ea - eb) = ea - eb := by rw [IntKind.wrap_i64]; omega
  by_cases hr : cI (kpl ka) (kpl kb) = 0
  case neg =>
    have hrb : (cI (kpl ka) (kpl kb) == 0) = false := beq_eq_false_iff_ne.2 hr
    have E1 : cI (kpl ka) (kpl kb) = T := by
      rw [← hT]; unfold cmpU orI; rw [if_pos rfl, if_neg hr, if_neg hr]
    rw [E1] at HSg hrb
    clear hT hr E1 hA hB oA oB hTb eA eB HSe
    generalize kpl ka = PA at *
    generalize kpl kb = PB at *
    go_enter Tryz.func102, Tryz.ntmps102
    go_upto_region 5 with fail
    generalize (w.alloc (.cells #[.int .i64 ka, .bool na, .int .i64 ea, .string sa] 25)).alloc (.cells #[.int .i64 kb, .bool na, .int .i64 eb, .string sb] 25) = w0 at *
    have HX0 : Hid (Below w0.heap.size w0 w0.drew) := (Below.refl _ _).drew
    refine wp_region_class (C := fun W => Below w0.heap.size w0 W) (by kernel_rfl) (by kernel_rfl) HX0.out ?_
    repeat (refine wpQuiet_step (fun K hK => ?_); go_simp; first | (refine hK _ ?_; clear hK K) | (apply Exists.intro; refine ⟨fun wx hC => ?_, hK _ ?_⟩; (first | exact rfl | ((with_reducible refine Calls.class_of (HRa.out wx) ?_); exact (fun w' hb => bel1 hC hb)) | ((with_reducible refine Calls.class_of (HRb.out wx) ?_); exact (fun w' hb => bel1 hC hb)) | ((with_reducible refine (HSg.out wx).mono ?_); exact (fun _ _ h => ⟨h.1, by rw [h.2]; exact hC⟩)) | (obtain ⟨q0, q1, q2, q3, q4⟩ := (HN.out.1.next hC).1.cells; go_simp; exact rfl) | (obtain ⟨q0, q1, q2, q3, q4⟩ := (HN.out.1.next hC).2.cells; go_simp; exact rfl)); clear hK K))
    refine wpQuiet_nil ?_
    intro w1 hb1
    have HN1 : Hid (N2o w.heap.size ka na ea sa kb na eb sb w1 ∧ Below w.heap.size w w1) := ⟨HN.out.1.next hb1, HN.out.2.trans (hb1.mono HN.out.2.size)⟩
    clear hb1 HN HX0 HRa HRb HSg
    obtain ⟨c0, c1, c2, c3, c4⟩ := HN1.out.1.1.cells
    obtain ⟨d0, d1, d2, d3, d4⟩ := HN1.out.1.2.cells
    cases na
    all_goals
      go_wp2
      go_ret
      exact ⟨rfl, HN1.out.2⟩
  obtain rfl := kpl_same ka kb kA kB hr
  clear HSg wk
  have w00 : IntKind.i64.wrap 0 = 0 := by decide
  have HSg : Hid (∀ X, Calls Tryz.prog 155 #[.int .i64 0] X fun e w' => e = .returned (.int .i64 0) ∧ w' = X) := fun X => l15Sgn_any 0 0 X
  by_cases hk : ka = 1
  case neg =>
    have hkb : (ka == 1) = false := beq_eq_false_iff_ne.2 hk
    have E1 : T = 0 := by
      obtain ⟨z1, z2, z3⟩ := oth_two f ka na ea sa ka na eb sb hA hB hk hk
      rw [← hT]; unfold cmpU; rw [if_pos rfl, hr, z1, z2, z3]; rfl
    subst E1
    clear hT hr hk hA hB oA oB hTb eA eB HSe
    generalize kpl ka = PA at *
    go_enter Tryz.func102, Tryz.ntmps102
    go_upto_region 5 with fail
    generalize (w.alloc (.cells #[.int .i64 ka, .bool na, .int .i64 ea, .string sa] 25)).alloc (.cells #[.int .i64 ka, .bool na, .int .i64 eb, .string sb] 25) = w0 at *
    have HX0 : Hid (Below w0.heap.size w0 w0.drew) := (Below.refl _ _).drew
    refine wp_region_class (C := fun W => Below w0.heap.size w0 W) (by kernel_rfl) (by kernel_rfl) HX0.out ?_
    repeat (refine wpQuiet_step (fun K hK => ?_); go_simp; first | (refine hK _ ?_; clear hK K) | (apply Exists.intro; refine ⟨fun wx hC => ?_, hK _ ?_⟩; (first | exact rfl | ((with_reducible refine Calls.class_of (HRa.out wx) ?_); exact (fun w' hb => bel1 hC hb)) | ((with_reducible refine Calls.class_of (HRb.out wx) ?_); exact (fun w' hb => bel1 hC hb)) | ((with_reducible refine (HSg.out wx).mono ?_); exact (fun _ _ h => ⟨h.1, by rw [h.2]; exact hC⟩)) | (obtain ⟨q0, q1, q2, q3, q4⟩ := (HN.out.1.next hC).1.cells; go_simp; exact rfl) | (obtain ⟨q0, q1, q2, q3, q4⟩ := (HN.out.1.next hC).2.cells; go_simp; exact rfl)); clear hK K))
    refine wpQuiet_nil ?_
    intro w1 hb1
    have HN1 : Hid (N2o w.heap.size ka na ea sa ka na eb sb w1 ∧ Below w.heap.size w w1) := ⟨HN.out.1.next hb1, HN.out.2.trans (hb1.mono HN.out.2.size)⟩
    clear hb1 HN HX0 HRa HRb HSg
    obtain ⟨c0, c1, c2, c3, c4⟩ := HN1.out.1.1.cells
    obtain ⟨d0, d1, d2, d3, d4⟩ := HN1.out.1.2.cells
    cases na
    all_goals
      go_wp2
      go_ret
      exact ⟨rfl, HN1.out.2⟩
  subst hk
  have HC : Hid (∀ X, Calls Tryz.prog 66 #[numV 1 false ea sa, numV 1 false eb sb] X fun r w' => r = .returned (.int .i64 (cszI 1 ea sa 1 eb sb)) ∧ Below X.heap.size X w') := fun X => by
    rw [← mc_fin]
    exact l15Cmp_any f 1 false ea sa 1 false eb sb X hA hB (.inl rfl) (.inl rfl)
  by_cases hz : cszI 1 ea sa 1 eb sb = 0
  case neg =>
    have hzb : (cszI 1 ea sa 1 eb sb == 0) = false := beq_eq_false_iff_ne.2 hz
    have E1 : cszI 1 ea sa 1 eb sb = T := by
      rw [← hT]; unfold cmpU; rw [if_pos rfl, hr]
      show _ = orI (cszI 1 ea sa 1 eb sb) _
      unfold orI; rw [if_neg hz]
    rw [E1] at HC hzb
    clear hT hr hz E1 hA hB oA oB hTb eA eB HSe
    generalize kpl 1 = PA at *
    go_enter Tryz.func102, Tryz.ntmps102
    go_upto_region 5 with fail
    generalize (w.alloc (.cells #[.int .i64 1, .bool na, .int .i64 ea, .string sa] 25)).alloc (.cells #[.int .i64 1, .bool na, .int .i64 eb, .string sb] 25) = w0 at *
    have HX0 : Hid (Below w0.heap.size w0 w0.drew) := (Below.refl _ _).drew
    refine wp_region_class (C := fun W => Below w0.heap.size w0 W) (by kernel_rfl) (by kernel_rfl) HX0.out ?_
    repeat (refine wpQuiet_step (fun K hK => ?_); go_simp; first | (refine hK _ ?_; clear hK K) | (apply Exists.intro; refine ⟨fun wx hC => ?_, hK _ ?_⟩; (first | exact rfl | ((with_reducible refine Calls.class_of (HRa.out wx) ?_); exact (fun w' hb => bel1 hC hb)) | ((with_reducible refine Calls.class_of (HRb.out wx) ?_); exact (fun w' hb => bel1 hC hb)) | ((with_reducible refine (HSg.out wx).mono ?_); exact (fun _ _ h => ⟨h.1, by rw [h.2]; exact hC⟩)) | (obtain ⟨q0, q1, q2, q3, q4⟩ := (HN.out.1.next hC).1.cells; go_simp; exact rfl) | (obtain ⟨q0, q1, q2, q3, q4⟩ := (HN.out.1.next hC).2.cells; go_simp; exact rfl)); clear hK K))
    refine wpQuiet_nil ?_
    intro w1 hb1
    have HN1 : Hid (N2o w.heap.size 1 na ea sa 1 na eb sb w1 ∧ Below w.heap.size w w1) := ⟨HN.out.1.next hb1, HN.out.2.trans (hb1.mono HN.out.2.size)⟩
    clear hb1 HN HX0 HRa HRb HSg
    obtain ⟨c0, c1, c2, c3, c4⟩ := HN1.out.1.1.cells
    obtain ⟨d0, d1, d2, d3, d4⟩ := HN1.out.1.2.cells
    have g0 := fun o => (HN1.out.1.2.lay o).1
    have g1 := fun o => (HN1.out.1.2.lay o).2.1
    have g2 := fun o => (HN1.out.1.2.lay o).2.2.1
    have g3 := fun o => (HN1.out.1.2.lay o).2.2.2
    go_wp2_with fail
    refine (HC.out _).mono ?_
    have HN2 : Hid (N2o w.heap.size 1 na ea sa 1 na eb sb (n2W w1 1 false ea sa 1 false eb sb) ∧ Below w.heap.size w (n2W w1 1 false ea sa 1 false eb sb)) := by
      have h := (n2o_new w1 1 false ea sa 1 false eb sb).2.1
      exact ⟨HN1.out.1.next h, HN1.out.2.trans (h.mono HN1.out.2.size)⟩
    rintro x w2 ⟨rfl, hb2⟩
    have HN3 : Hid (N2o w.heap.size 1 na ea sa 1 na eb sb w2 ∧ Below w.heap.size w w2) := ⟨HN2.out.1.next hb2, HN2.out.2.trans (hb2.mono HN2.out.2.size)⟩
    clear hb2 HN2 HN1 HC c0 c1 c2 c3 c4 d0 d1 d2 d3 d4 g0 g1 g2 g3
    obtain ⟨c0, c1, c2, c3, c4⟩ := HN3.out.1.1.cells
    obtain ⟨d0, d1, d2, d3, d4⟩ := HN3.out.1.2.cells
    cases na
    all_goals
      go_wp2
      go_ret
      exact ⟨rfl, HN3.out.2⟩
  have E1 : cI ea eb = T := by
    rw [← hT]; unfold cmpU; rw [if_pos rfl, hr, hz]; rfl
  rw [hz] at HC
  rw [E1] at HSe
  clear hT hr hz E1 hA hB oA oB hTb eA eB
  generalize kpl 1 = PA at *
  go_enter Tryz.func102, Tryz.ntmps102
  go_upto_region 5 with fail
  generalize (w.alloc (.cells #[.int .i64 1, .bool na, .int .i64 ea, .string sa] 25)).alloc (.cells #[.int .i64 1, .bool na, .int .i64 eb, .string sb] 25) = w0 at *
  have HX0 : Hid (Below w0.heap.size w0 w0.drew) := (Below.refl _ _).drew
  refine wp_region_class (C := fun W => Below w0.heap.size w0 W) (by kernel_rfl) (by kernel_rfl) HX0.out ?_
  repeat (refine wpQuiet_step (fun K hK => ?_); go_simp; first | (refine hK _ ?_; clear hK K) | (apply Exists.intro; refine ⟨fun wx hC => ?_, hK _ ?_⟩; (first | exact rfl | ((with_reducible refine Calls.class_of (HRa.out wx) ?_); exact (fun w' hb => bel1 hC hb)) | ((with_reducible refine Calls.class_of (HRb.out wx) ?_); exact (fun w' hb => bel1 hC hb)) | ((with_reducible refine (HSg.out wx).mono ?_); exact (fun _ _ h => ⟨h.1, by rw [h.2]; exact hC⟩)) | (obtain ⟨q0, q1, q2, q3, q4⟩ := (HN.out.1.next hC).1.cells; go_simp; exact rfl) | (obtain ⟨q0, q1, q2, q3, q4⟩ := (HN.out.1.next hC).2.cells; go_simp; exact rfl)); clear hK K))
  refine wpQuiet_nil ?_
  intro w1 hb1
  have HN1 : Hid (N2o w.heap.size 1 na ea sa 1 na eb sb w1 ∧ Below w.heap.size w w1) := ⟨HN.out.1.next hb1, HN.out.2.trans (hb1.mono HN.out.2.size)⟩
  clear hb1 HN HX0 HRa HRb HSg
  obtain ⟨c0, c1, c2, c3, c4⟩ := HN1.out.1.1.cells
  obtain ⟨d0, d1, d2, d3, d4⟩ := HN1.out.1.2.cells
  have g0 := fun o => (HN1.out.1.2.lay o).1
  have g1 := fun o => (HN1.out.1.2.lay o).2.1
  have g2 := fun o => (HN1.out.1.2.lay o).2.2.1
  have g3 := fun o => (HN1.out.1.2.lay o).2.2.2
  go_wp2_with fail
  refine (HC.out _).mono ?_
  have HN2 : Hid (N2o w.heap.size 1 na ea sa 1 na eb sb (n2W w1 1 false ea sa 1 false eb sb) ∧ Below w.heap.size w (n2W w1 1 false ea sa 1 false eb sb)) := by
    have h := (n2o_new w1 1 false ea sa 1 false eb sb).2.1
    exact ⟨HN1.out.1.next h, HN1.out.2.trans (h.mono HN1.out.2.size)⟩
  rintro x w2 ⟨rfl, hb2⟩
  have HN3 : Hid (N2o w.heap.size 1 na ea sa 1 na eb sb w2 ∧ Below w.heap.size w w2) := ⟨HN2.out.1.next hb2, HN2.out.2.trans (hb2.mono HN2.out.2.size)⟩
  clear hb2 HN2 HN1 HC c0 c1 c2 c3 c4 d0 d1 d2 d3 d4 g0 g1 g2 g3
  obtain ⟨c0, c1, c2, c3, c4⟩ := HN3.out.1.1.cells
  obtain ⟨d0, d1, d2, d3, d4⟩ := HN3.out.1.2.cells
  go_wp2_with fail
  refine (HSe.out _).mono ?_
  rintro x w3 ⟨rfl, rfl⟩
  cases na
  all_goals
    go_wp2
    go_ret
    exact ⟨rfl, HN3.out.2⟩
theorem sTotal_any (f : Int) (ka : Int) (na : Bool) (ea : Int) (sa : ByteArray) (kb : Int) (nb : Bool) (eb : Int) (sb : ByteArray) (w : World) (hsa : sa.size ≤ 4611686018427387904) (hsb : sb.size ≤ 4611686018427387904) :
    Calls Tryz.prog 31 #[.int .i64 f, numV ka na ea sa, numV kb nb eb sb] w fun x w' => x = .returned (.int .i64 (ttR f ka na ea sa kb nb eb sb)) ∧ Below w.heap.size w w' := by
  have HA : Hid (∀ X, Calls Tryz.prog 43 #[.int .i64 f, numV ka na ea sa] X fun x w' => x = .returned (.bool (numB f ka na ea sa)) ∧ Below X.heap.size X w') := fun X => sNumOk_any f ka na ea sa X hsa
  have HB : Hid (∀ X, Calls Tryz.prog 43 #[.int .i64 f, numV kb nb eb sb] X fun x w' => x = .returned (.bool (numB f kb nb eb sb)) ∧ Below X.heap.size X w') := fun X => sNumOk_any f kb nb eb sb X hsb
  obtain ⟨hN0, hb0, -⟩ := n2o_new w ka na ea sa kb nb eb sb
  have HN : Hid (N2o w.heap.size ka na ea sa kb nb eb sb ((w.alloc (.cells #[.int .i64 ka, .bool na, .int .i64 ea, .string sa] 25)).alloc (.cells #[.int .i64 kb, .bool nb, .int .i64 eb, .string sb] 25)) ∧ Below w.heap.size w ((w.alloc (.cells #[.int .i64 ka, .bool na, .int .i64 ea, .string sa] 25)).alloc (.cells #[.int .i64 kb, .bool nb, .int .i64 eb, .string sb] 25))) := ⟨hN0, hb0⟩
  clear hN0 hb0
  obtain ⟨RV, hRV⟩ : ∃ v, ttR f ka na ea sa kb nb eb sb = v := ⟨_, rfl⟩
  have HE : Hid ((if numB f ka na ea sa && numB f kb nb eb sb then cmpR true ka na ea sa kb nb eb sb else 3) = RV) := hRV
  have HC : Hid (numB f ka na ea sa = true → numB f kb nb eb sb = true → ∀ X, Calls Tryz.prog 102 #[numV ka na ea sa, numV kb nb eb sb] X fun r w' => r = .returned (.int .i64 (cmpR true ka na ea sa kb nb eb sb)) ∧ Below X.heap.size X w') := fun a b X => l15Total_any f ka na ea sa kb nb eb sb X a b
  rw [hRV]
  clear hRV hsa hsb
  generalize cmpR true ka na ea sa kb nb eb sb = MC at *
  generalize numB f ka na ea sa = RA at *
  generalize numB f kb nb eb sb = RB at *
  cases RA with
  | false =>
    have E : 3 = RV := HE.out
    subst E
    clear HE HC
    go_enter Tryz.func31, Tryz.ntmps31
    go_wp2_with fail
    refine (HA.out _).mono ?_
    rintro x w1 ⟨rfl, hb1⟩
    have HN1 : Hid (N2o w.heap.size ka na ea sa kb nb eb sb w1 ∧ Below w.heap.size w w1) := ⟨HN.out.1.next hb1, HN.out.2.trans (hb1.mono HN.out.2.size)⟩
    clear hb1 HN
    try clear c0 c1 c2 c3 c4 d0 d1 d2 d3 d4
    obtain ⟨c0, c1, c2, c3, c4⟩ := HN1.out.1.1.cells
    obtain ⟨d0, d1, d2, d3, d4⟩ := HN1.out.1.2.cells
    go_wp2
    go_ret
    exact ⟨rfl, HN1.out.2⟩
  | true =>
    cases RB with
    | false =>
      have E : 3 = RV := HE.out
      subst E
      clear HE HC
      go_enter Tryz.func31, Tryz.ntmps31
      go_wp2_with fail
      refine (HA.out _).mono ?_
      rintro x w1 ⟨rfl, hb1⟩
      have HN1 : Hid (N2o w.heap.size ka na ea sa kb nb eb sb w1 ∧ Below w.heap.size w w1) := ⟨HN.out.1.next hb1, HN.out.2.trans (hb1.mono HN.out.2.size)⟩
      clear hb1 HN
      try clear c0 c1 c2 c3 c4 d0 d1 d2 d3 d4
      obtain ⟨c0, c1, c2, c3, c4⟩ := HN1.out.1.1.cells
      obtain ⟨d0, d1, d2, d3, d4⟩ := HN1.out.1.2.cells
      go_wp2_with fail
      refine (HB.out _).mono ?_
      rintro x w2 ⟨rfl, hb2⟩
      have HN2 : Hid (N2o w.heap.size ka na ea sa kb nb eb sb w2 ∧ Below w.heap.size w w2) := ⟨HN1.out.1.next hb2, HN1.out.2.trans (hb2.mono HN1.out.2.size)⟩
      clear hb2 HN1
      try clear c0 c1 c2 c3 c4 d0 d1 d2 d3 d4
      obtain ⟨c0, c1, c2, c3, c4⟩ := HN2.out.1.1.cells
      obtain ⟨d0, d1, d2, d3, d4⟩ := HN2.out.1.2.cells
      go_wp2
      go_ret
      exact ⟨rfl, HN2.out.2⟩
    | true =>
      have E : MC = RV := HE.out
      subst E
      have HC1 : Hid (∀ X, Calls Tryz.prog 102 #[numV ka na ea sa, numV kb nb eb sb] X fun r w' => r = .returned (.int .i64 MC) ∧ Below X.heap.size X w') := HC.out rfl rfl
      clear HE HC
      go_enter Tryz.func31, Tryz.ntmps31
      go_wp2_with fail
      refine (HA.out _).mono ?_
      rintro x w1 ⟨rfl, hb1⟩
      have HN1 : Hid (N2o w.heap.size ka na ea sa kb nb eb sb w1 ∧ Below w.heap.size w w1) := ⟨HN.out.1.next hb1, HN.out.2.trans (hb1.mono HN.out.2.size)⟩
      clear hb1 HN
      try clear c0 c1 c2 c3 c4 d0 d1 d2 d3 d4
      obtain ⟨c0, c1, c2, c3, c4⟩ := HN1.out.1.1.cells
      obtain ⟨d0, d1, d2, d3, d4⟩ := HN1.out.1.2.cells
      go_wp2_with fail
      refine (HB.out _).mono ?_
      rintro x w2 ⟨rfl, hb2⟩
      have HN2 : Hid (N2o w.heap.size ka na ea sa kb nb eb sb w2 ∧ Below w.heap.size w w2) := ⟨HN1.out.1.next hb2, HN1.out.2.trans (hb2.mono HN1.out.2.size)⟩
      clear hb2 HN1
      try clear c0 c1 c2 c3 c4 d0 d1 d2 d3 d4
      obtain ⟨c0, c1, c2, c3, c4⟩ := HN2.out.1.1.cells
      obtain ⟨d0, d1, d2, d3, d4⟩ := HN2.out.1.2.cells
      go_wp2_with fail
      refine (HC1.out _).mono ?_
      rintro x w3 ⟨rfl, hb3⟩
      have HN3 : Hid (N2o w.heap.size ka na ea sa kb nb eb sb w3 ∧ Below w.heap.size w w3) := ⟨HN2.out.1.next hb3, HN2.out.2.trans (hb3.mono HN2.out.2.size)⟩
      clear hb3 HN2
      try clear c0 c1 c2 c3 c4 d0 d1 d2 d3 d4
      obtain ⟨c0, c1, c2, c3, c4⟩ := HN3.out.1.1.cells
      obtain ⟨d0, d1, d2, d3, d4⟩ := HN3.out.1.2.cells
      go_wp2
      go_ret
      exact ⟨rfl, HN3.out.2⟩
end Go.Proofs.YtnkoeidolmiheaaGreatDoor
