/-
  FnOrdered: the law's own walk.
-/
import Derived.Test.YtnkoeidolmiheaaGreatDoorDrRm
import Derived.Test.YtnkoeidolmiheaaGreatDoorDrCm
import Derived.Test.YtnkoeidolmiheaaGreatDoorOpp
import Derived.Test.YtnkoeidolmiheaaGreatDoorEqN
import Derived.Test.YtnkoeidolmiheaaGreatDoorGrs
import Derived.Test.YtnkoeidolmiheaaGreatDoorOrt
namespace Go.Proofs.YtnkoeidolmiheaaGreatDoor
open Go.RowKit
set_option linter.unusedVariables false
set_option maxRecDepth 100000
set_option maxRecDepth 100000 in
set_option maxHeartbeats 4000000 in
theorem fnOrdered_any (a0 : Option Addr) (len0 cap0 : Nat) (w : World) (hbig : ¬ 4096 < len0) (hb : Bytes w.heap.size w a0 len0) (hT : KTab w) :
    Calls Tryz.prog 6 #[.slice a0 len0 cap0] w fun e w' => e = .returned (.bool true) ∧ Below w.heap.size w w' := by
  have hB : Hid (Bytes w.heap.size w a0 len0) := hb
  have HT : Hid (KTab w) := hT
  clear hb hT
  go_enter Tryz.func6, Tryz.ntmps6
  go_wp2_with fail
  refine (big_no _ _ _ _ hbig).mono ?_
  rintro e w' ⟨rfl, hw⟩
  obtain rfl := hw.symm
  go_wp2_with fail
  refine (DrawCompare_any _ _ _ _ (by omega) hB.out).mono ?_
  rintro e w1 ⟨f, ka, na, ea, sa, kb, nb, eb, sb, rfl, ⟨hsa, hsb⟩, hb1⟩
  have zA : sa.size ≤ 4611686018427387904 := by omega
  have zB : sb.size ≤ 4611686018427387904 := by omega
  -- the facts
  obtain ⟨c, c', t, t', g, g', sq, hc, hc', ht, ht', hg, hg', hsq⟩ : ∃ (c c' t t' : Int) (g g' : R5o) (sq : Bool), cpR f ka na ea sa kb nb eb sb = c ∧ cpR f kb nb eb sb ka na ea sa = c' ∧ ttR f ka na ea sa kb nb eb sb = t ∧ ttR f kb nb eb sb ka na ea sa = t' ∧ gtR f ka na ea sa kb nb eb sb = g ∧ gtR f kb nb eb sb ka na ea sa = g' ∧ sameR f ka na ea sa kb nb eb sb = sq := ⟨_, _, _, _, _, _, _, rfl, rfl, rfl, rfl, rfl, rfl, rfl⟩
  have HC1 : Hid (∀ X, KTab X → Calls Tryz.prog 28 #[.int .i64 f, numV ka na ea sa, numV kb nb eb sb] X fun x w' => x = .returned (.int .i64 c) ∧ Below X.heap.size X w') := fun X hX => by rw [← hc]; exact iCompare_any f ka na ea sa kb nb eb sb X zA zB hX
  have HC2 : Hid (∀ X, Calls Tryz.prog 13 #[.int .i64 f, numV ka na ea sa, numV kb nb eb sb] X fun x w' => x = .returned (.int .i64 c) ∧ Below X.heap.size X w') := fun X => by rw [← hc]; exact sCompare_any f ka na ea sa kb nb eb sb X zA zB
  have HC3 : Hid (∀ X, KTab X → Calls Tryz.prog 28 #[.int .i64 f, numV kb nb eb sb, numV ka na ea sa] X fun x w' => x = .returned (.int .i64 c') ∧ Below X.heap.size X w') := fun X hX => by rw [← hc']; exact iCompare_any f kb nb eb sb ka na ea sa X zB zA hX
  have HT1 : Hid (∀ X, KTab X → Calls Tryz.prog 29 #[.int .i64 f, numV ka na ea sa, numV kb nb eb sb] X fun x w' => x = .returned (.int .i64 t) ∧ Below X.heap.size X w') := fun X hX => by rw [← ht]; exact iTotal_any f ka na ea sa kb nb eb sb X zA zB hX
  have HT2 : Hid (∀ X, Calls Tryz.prog 31 #[.int .i64 f, numV ka na ea sa, numV kb nb eb sb] X fun x w' => x = .returned (.int .i64 t) ∧ Below X.heap.size X w') := fun X => by rw [← ht]; exact sTotal_any f ka na ea sa kb nb eb sb X zA zB
  have HT3 : Hid (∀ X, KTab X → Calls Tryz.prog 29 #[.int .i64 f, numV kb nb eb sb, numV ka na ea sa] X fun x w' => x = .returned (.int .i64 t') ∧ Below X.heap.size X w') := fun X hX => by rw [← ht']; exact iTotal_any f kb nb eb sb ka na ea sa X zB zA hX
  have HG1 : Hid (∀ X, KTab X → Calls Tryz.prog 30 #[.int .i64 f, numV ka na ea sa, numV kb nb eb sb] X fun x w' => x = .returned (rsD g.1 g.2) ∧ Below X.heap.size X w') := fun X hX => by rw [← hg, ← gt_same]; exact iGreater_any f ka na ea sa kb nb eb sb X zA zB hX
  have HG2 : Hid (∀ X, Calls Tryz.prog 32 #[.int .i64 f, numV ka na ea sa, numV kb nb eb sb] X fun x w' => x = .returned (rsD g.1 g.2) ∧ Below X.heap.size X w') := fun X => by rw [← hg]; exact sGreater_any f ka na ea sa kb nb eb sb X zA zB
  have HG3 : Hid (∀ X, KTab X → Calls Tryz.prog 30 #[.int .i64 f, numV kb nb eb sb, numV ka na ea sa] X fun x w' => x = .returned (rsD g'.1 g'.2) ∧ Below X.heap.size X w') := fun X hX => by rw [← hg', ← gt_same]; exact iGreater_any f kb nb eb sb ka na ea sa X zB zA hX
  have HSq : Hid (∀ X, Calls Tryz.prog 33 #[.int .i64 f, numV ka na ea sa, numV kb nb eb sb] X fun x w' => x = .returned (.bool sq) ∧ Below X.heap.size X w') := fun X => by rw [← hsq]; exact iSame_any f ka na ea sa kb nb eb sb X zA zB
  have HEq : Hid (∀ X, (binOp .eql 25 (.agg #[.int .i64 ka, .bool na, .int .i64 ea, .string sa]) (.agg #[.int .i64 kb, .bool nb, .int .i64 eb, .string sb])).run Tryz.prog X = .ok (.bool (decide (ka = kb ∧ na = nb ∧ ea = eb ∧ sa = sb))) X) := fun X => eql_num_any ka na ea sa kb nb eb sb X
  have HF : Hid ((c = 3 ∧ t = 3 ∧ g = (false, (0, 0, { data := #[] }, 0)) ∧ c' = 3 ∧ sq = false)
      ∨ (t' = -t ∧ (t = 0 ∨ t = 1 ∨ t = -1) ∧ (decide (ka = kb ∧ na = nb ∧ ea = eb ∧ sa = sb) = (t == 0)) ∧ g' = g
        ∧ ((c = 2 ∧ c' = 2)
          ∨ ((c = 0 ∨ c = 1 ∨ c = -1) ∧ c' = -c ∧ (c = 0 ∨ c = t)
            ∧ ∃ x1 x2 z : _, (∀ X, KTab X → Calls Tryz.prog 28 #[.int .i64 f, numV g.2.1 g.1 g.2.2.1 g.2.2.2.1, numV ka na ea sa] X fun x w' => x = .returned (.int .i64 x1) ∧ Below X.heap.size X w')
              ∧ (∀ X, KTab X → Calls Tryz.prog 28 #[.int .i64 f, numV g.2.1 g.1 g.2.2.1 g.2.2.2.1, numV kb nb eb sb] X fun x w' => x = .returned (.int .i64 x2) ∧ Below X.heap.size X w')
              ∧ (x1 = 0 ∨ x1 = 1) ∧ (x2 = 0 ∨ x2 = 1)
              ∧ (∀ X, (binOp .eql 25 (.agg #[.int .i64 g.2.1, .bool g.1, .int .i64 g.2.2.1, .string g.2.2.2.1]) (.agg #[.int .i64 ka, .bool na, .int .i64 ea, .string sa])).run Tryz.prog X = .ok (.bool z) X)
              ∧ (z = true ∨ (z = false ∧ ∀ X, (binOp .eql 25 (.agg #[.int .i64 g.2.1, .bool g.1, .int .i64 g.2.2.1, .string g.2.2.2.1]) (.agg #[.int .i64 kb, .bool nb, .int .i64 eb, .string sb])).run Tryz.prog X = .ok (.bool true) X)))))) := by
    cases hO : (numB f ka na ea sa && numB f kb nb eb sb) with
    | false =>
      obtain ⟨q1, q2, q3, q4, q5⟩ := ord_none f ka na ea sa kb nb eb sb hO
      exact .inl ⟨by rw [← hc, q1], by rw [← ht, q2], by rw [← hg, q3], by rw [← hc', q4], by rw [← hsq, q5]⟩
    | true =>
      obtain ⟨hA, hBn⟩ := Bool.and_eq_true_iff.1 hO
      obtain ⟨q1, q2, q3, q4, q5⟩ := ord_some f ka na ea sa kb nb eb sb hA hBn
      rw [hc, hc', ht, hg] at q5
      rw [ht, ht'] at q1
      rw [ht] at q2 q3
      rw [hg, hg'] at q4
      refine .inr ⟨q1, q2, ?_, q4, ?_⟩
      · by_cases hz : t = 0
        · rw [decide_eq_true (q3.1 hz), hz]; rfl
        · rw [decide_eq_false (fun q => hz (q3.2 q)), beq_eq_false_iff_ne.2 hz]
      · rcases q5 with q5 | ⟨r1, r2, r3, r4⟩
        · exact .inl q5
        · refine .inr ⟨r1, r2, r3, ?_⟩
          rcases r4 with ⟨rfl, s2, s3⟩ | ⟨rfl, s2, s3⟩
          · refine ⟨0, c, true, fun X hX => ?_, fun X hX => HC1.out X hX, .inl rfl, s3, fun X => ?_, .inl rfl⟩
            · have := iCompare_any f ka na ea sa ka na ea sa X zA zA hX
              rw [s2] at this
              exact this
            · have := eql_num_any ka na ea sa ka na ea sa X
              rw [decide_eq_true ⟨rfl, rfl, rfl, rfl⟩] at this
              exact this
          · have hbb : ∀ X : World, (binOp .eql 25 (.agg #[.int .i64 kb, .bool nb, .int .i64 eb, .string sb]) (.agg #[.int .i64 kb, .bool nb, .int .i64 eb, .string sb])).run Tryz.prog X = .ok (.bool true) X := fun X => by
              have := eql_num_any kb nb eb sb kb nb eb sb X
              rw [decide_eq_true ⟨rfl, rfl, rfl, rfl⟩] at this
              exact this
            refine ⟨c', 0, _, fun X hX => HC3.out X hX, fun X hX => ?_, s3, .inl rfl, fun X => eql_num_any kb nb eb sb ka na ea sa X, ?_⟩
            · have := iCompare_any f kb nb eb sb kb nb eb sb X zB zB hX
              rw [s2] at this
              exact this
            · cases hd : decide (kb = ka ∧ nb = na ∧ eb = ea ∧ sb = sa) with
              | true => exact .inl rfl
              | false => exact .inr ⟨rfl, hbb⟩
  clear hc hc' ht ht' hg hg' hsq
  obtain ⟨G0, G1, G2, G3, G4⟩ := g
  generalize decide (ka = kb ∧ na = nb ∧ ea = eb ∧ sa = sb) = dz at *
  have HG1' : Hid (∀ X, KTab X → Calls Tryz.prog 30 #[.int .i64 f, numV ka na ea sa, numV kb nb eb sb] X fun x w' => x = .returned (rsV G1 G0 G2 G3 G4) ∧ Below X.heap.size X w') := HG1
  have HG2' : Hid (∀ X, Calls Tryz.prog 32 #[.int .i64 f, numV ka na ea sa, numV kb nb eb sb] X fun x w' => x = .returned (rsV G1 G0 G2 G3 G4) ∧ Below X.heap.size X w') := HG2
  clear HG1 HG2
  have HM1 : Hid (MU w w1.heap.size ka na ea sa kb nb eb sb ((w1.alloc (.cells #[.int .i64 ka, .bool na, .int .i64 ea, .string sa] 25)).alloc (.cells #[.int .i64 kb, .bool nb, .int .i64 eb, .string sb] 25))) := mu_new w1 hb1 ka na ea sa kb nb eb sb
  have HK : Hid (∀ X, Below w.heap.size w X → KTab X) := fun X hX => HT.out.next hX
  clear hb1 hB hbig hsa hsb zA zB HT
  go_wp2_with fail
  refine (HC1.out _ (HK.out _ HM1.out.2.2)).mono ?_
  rintro x w3 ⟨rfl, hb3⟩
  have HM3 : Hid (MU w w1.heap.size ka na ea sa kb nb eb sb w3) := HM1.out.next hb3
  clear hb3 HM1 HC1
  generalize w1.heap.size = p at *
  obtain ⟨c0, c1, c2, c3, c4⟩ := HM3.out.1.cells
  obtain ⟨d0, d1, d2, d3, d4⟩ := HM3.out.2.1.cells
  go_wp2_with fail
  refine (HT1.out _ (HK.out _ HM3.out.2.2)).mono ?_
  rintro x w4 ⟨rfl, hb4⟩
  have HM4 : Hid (MU w p ka na ea sa kb nb eb sb w4) := HM3.out.next hb4
  clear hb4 HM3 HT1 c0 c1 c2 c3 c4 d0 d1 d2 d3 d4
  obtain ⟨c0, c1, c2, c3, c4⟩ := HM4.out.1.cells
  obtain ⟨d0, d1, d2, d3, d4⟩ := HM4.out.2.1.cells
  go_wp2_with fail
  refine (HG1'.out _ (HK.out _ HM4.out.2.2)).mono ?_
  rintro x w5 ⟨rfl, hb5⟩
  have HM5 : Hid (MU w p ka na ea sa kb nb eb sb w5) := HM4.out.next hb5
  have hb6 : Below w5.heap.size w5 (w5.alloc (.cells #[.int .i64 G1, .bool G0, .int .i64 G2, .string G3, .int .i64 G4] 29)) := (Below.refl _ _).alloc (Nat.le_refl _) _
  have HM6 : Hid (MU w p ka na ea sa kb nb eb sb (w5.alloc (.cells #[.int .i64 G1, .bool G0, .int .i64 G2, .string G3, .int .i64 G4] 29)) ∧ At5 (w5.alloc (.cells #[.int .i64 G1, .bool G0, .int .i64 G2, .string G3, .int .i64 G4] 29)) w5.heap.size (.int .i64 G1) (.bool G0) (.int .i64 G2) (.string G3) (.int .i64 G4)) := ⟨HM5.out.next hb6, at5_new w5 _ _ _ _ _⟩
  clear hb5 hb6 HM5 HM4 HG1' c0 c1 c2 c3 c4 d0 d1 d2 d3 d4
  go_upto_region 7 with fail
  generalize (w5.alloc (.cells #[.int .i64 G1, .bool G0, .int .i64 G2, .string G3, .int .i64 G4] 29)) = w6 at *
  generalize w5.heap.size = q at *
  have HX0 : Hid (Below w6.heap.size w6 w6.drew) := (Below.refl _ _).drew
  refine wp_region_class (C := fun W => Below w6.heap.size w6 W) (by kernel_rfl) (by kernel_rfl) HX0.out ?_
  have hne := neq_res_same G1 G0 G2 G3 G4
  repeat (first | go_big_quiet_skip | (refine wpQuiet_step ?_; intro K hK; go_simp; first | go_big_quiet_on | (apply Exists.intro; refine ⟨fun wx hC => ?_, ?_⟩; (first | exact rfl | ((with_reducible refine Calls.class_of (HC2.out wx) ?_); exact fun w' hb => bel1 hC hb) | ((with_reducible refine Calls.class_of (HT2.out wx) ?_); exact fun w' hb => bel1 hC hb) | ((with_reducible refine Calls.class_of (HG2'.out wx) ?_); exact fun w' hb => bel1 hC hb) | (obtain ⟨a0, a1, a2, a3, a4⟩ := (HM6.out.1.next hC).1.cells; go_simp; exact rfl) | (obtain ⟨a0, a1, a2, a3, a4⟩ := (HM6.out.1.next hC).2.1.cells; go_simp; exact rfl) | (obtain ⟨a0, a1, a2, a3, a4, a5⟩ := (HM6.out.2.below hC HM6.out.2.lt).cells; go_simp; exact rfl)); go_big_quiet_on)))
  refine wpQuiet_nil ?_
  intro w7 hb7
  have HM7 : Hid (MU w p ka na ea sa kb nb eb sb w7 ∧ At5 w7 q (.int .i64 G1) (.bool G0) (.int .i64 G2) (.string G3) (.int .i64 G4)) := ⟨HM6.out.1.next hb7, HM6.out.2.below hb7 HM6.out.2.lt⟩
  clear hb7 HM6 HX0 HC2 HT2 HG2' hne
  rcases HF.out with ⟨rfl, rfl, hgz, rfl, rfl⟩ | ⟨rfl, ht3, hdz, rfl, hcc⟩
  · obtain ⟨rfl, rfl, rfl, rfl, rfl⟩ : G0 = false ∧ G1 = 0 ∧ G2 = 0 ∧ G3 = { data := #[] } ∧ G4 = 0 := by simpa only [Prod.mk.injEq] using hgz
    clear hgz HF HG3 HT3 HEq
    have heq := eql_res_same 0 false 0 { data := #[] } 0
    have hbd : ∀ w : World, (Instr.build 29 #[]).run Tryz.prog w = .ok (rsV 0 false 0 { data := #[] } 0) w := fun w => run_build w _ _ _ (by kernel_rfl)
    obtain ⟨c0, c1, c2, c3, c4⟩ := HM7.out.1.1.cells
    obtain ⟨d0, d1, d2, d3, d4⟩ := HM7.out.1.2.1.cells
    obtain ⟨r0, r1, r2, r3, r4, r5⟩ := HM7.out.2.cells
    go_wp2_with fail
    refine (HC3.out _ (HK.out _ HM7.out.1.2.2)).mono ?_
    rintro x w8 ⟨rfl, hb8⟩
    have HM8 : Hid (MU w p ka na ea sa kb nb eb sb w8) := HM7.out.1.next hb8
    clear hb8 HM7 HC3 c0 c1 c2 c3 c4 d0 d1 d2 d3 d4 r0 r1 r2 r3 r4 r5
    obtain ⟨c0, c1, c2, c3, c4⟩ := HM8.out.1.cells
    obtain ⟨d0, d1, d2, d3, d4⟩ := HM8.out.2.1.cells
    go_wp2_with fail
    refine (HSq.out _).mono ?_
    rintro x w9 ⟨rfl, hb9⟩
    have hbe := HM8.out.2.2.trans (hb9.mono HM8.out.2.2.size)
    clear hb9 HM8 HSq c0 c1 c2 c3 c4 d0 d1 d2 d3 d4
    go_wp2
    go_ret
    exact ⟨rfl, hbe⟩
  · have HHc : Hid (_) := hcc
    clear HF HSq hcc
    have hc3 : ¬ c = 3 := by rcases HHc.out with h | h <;> omega
    have hc3b : (c == 3) = false := beq_eq_false_iff_ne.2 hc3
    have wt : IntKind.i64.wrap (-t) = -t := by rw [IntKind.wrap_i64]; omega
    have hne := neq_res_same G1 G0 G2 G3 G4
    have HG3' : Hid (∀ X, KTab X → Calls Tryz.prog 30 #[.int .i64 f, numV kb nb eb sb, numV ka na ea sa] X fun x w' => x = .returned (rsV G1 G0 G2 G3 G4) ∧ Below X.heap.size X w') := HG3
    have hEq := HEq.out
    rw [hdz] at hEq
    clear HG3 HEq hdz ht3 hc3
    generalize htz : (t == 0) = tz at *
    go_upto_region 11 with fail
    have HX0 : Hid (Below w7.heap.size w7 w7.drew) := (Below.refl _ _).drew
    have HKc : Hid (∀ W, Below w7.heap.size w7 W → KTab W) := fun W hC => HK.out W (HM7.out.1.next hC).2.2
    cases tz
    all_goals
      refine wp_region_class (C := fun W => Below w7.heap.size w7 W) (by kernel_rfl) (by kernel_rfl) HX0.out ?_
      repeat (first | go_big_quiet_skip | (refine wpQuiet_step ?_; intro K hK; go_simp; first | go_big_quiet_on | (apply Exists.intro; refine ⟨fun wx hC => ?_, ?_⟩; (first | exact rfl | ((with_reducible refine Calls.class_of (HT3.out wx (HKc.out wx hC)) ?_); exact fun w' hb => bel1 hC hb) | ((with_reducible refine Calls.class_of (HG3'.out wx (HKc.out wx hC)) ?_); exact fun w' hb => bel1 hC hb) | (obtain ⟨a0, a1, a2, a3, a4⟩ := (HM7.out.1.next hC).1.cells; go_simp; exact rfl) | (obtain ⟨a0, a1, a2, a3, a4⟩ := (HM7.out.1.next hC).2.1.cells; go_simp; exact rfl) | (obtain ⟨a0, a1, a2, a3, a4, a5⟩ := (HM7.out.2.below hC HM7.out.2.lt).cells; go_simp; exact rfl)); go_big_quiet_on)))
      refine wpQuiet_nil ?_
      intro w8 hb8
      have HM8 : Hid (MU w p ka na ea sa kb nb eb sb w8 ∧ At5 w8 q (.int .i64 G1) (.bool G0) (.int .i64 G2) (.string G3) (.int .i64 G4)) := ⟨HM7.out.1.next hb8, HM7.out.2.below hb8 HM7.out.2.lt⟩
      clear hb8 HM7 HX0 HT3 HG3' hne hEq HKc
      obtain ⟨c0, c1, c2, c3, c4⟩ := HM8.out.1.1.cells
      obtain ⟨d0, d1, d2, d3, d4⟩ := HM8.out.1.2.1.cells
      rcases HHc.out with ⟨rfl, rfl⟩ | ⟨hc5, rfl, hct, x1, x2, z, g1, g2, g3, g4, g5, g6⟩
      · clear HHc
        go_wp2_with fail
        refine (HC3.out _ (HK.out _ HM8.out.1.2.2)).mono ?_
        rintro x w9 ⟨rfl, hb9⟩
        have hbe := HM8.out.1.2.2.trans (hb9.mono HM8.out.1.2.2.size)
        clear hb9 HM8 HC3 c0 c1 c2 c3 c4 d0 d1 d2 d3 d4
        go_wp2
        go_ret
        exact ⟨rfl, hbe⟩
      · clear HHc
        have hc2 : ¬ c = 2 := by omega
        have hc2b : (c == 2) = false := beq_eq_false_iff_ne.2 hc2
        have wc : IntKind.i64.wrap (-c) = -c := by rw [IntKind.wrap_i64]; omega
        have HQ1 : Hid (∀ X, KTab X → Calls Tryz.prog 28 #[.int .i64 f, numV G1 G0 G2 G3, numV ka na ea sa] X fun x w' => x = .returned (.int .i64 x1) ∧ Below X.heap.size X w') := g1
        have HQ2 : Hid (∀ X, KTab X → Calls Tryz.prog 28 #[.int .i64 f, numV G1 G0 G2 G3, numV kb nb eb sb] X fun x w' => x = .returned (.int .i64 x2) ∧ Below X.heap.size X w') := g2
        have hE1 : ∀ X, (binOp .eql 25 (.agg #[.int .i64 G1, .bool G0, .int .i64 G2, .string G3]) (.agg #[.int .i64 ka, .bool na, .int .i64 ea, .string sa])).run Tryz.prog X = .ok (.bool z) X := g5
        have HZ : Hid (z = true ∨ (z = false ∧ ∀ X, (binOp .eql 25 (.agg #[.int .i64 G1, .bool G0, .int .i64 G2, .string G3]) (.agg #[.int .i64 kb, .bool nb, .int .i64 eb, .string sb])).run Tryz.prog X = .ok (.bool true) X)) := g6
        have HX12 : Hid ((x1 = 0 ∨ x1 = 1) ∧ (x2 = 0 ∨ x2 = 1)) := ⟨g3, g4⟩
        have hcd : c = 0 ∨ (c == 0) = false ∧ c = t := by
          by_cases h : c = 0
          · exact .inl h
          · exact .inr ⟨beq_eq_false_iff_ne.2 h, by omega⟩
        clear g1 g2 g3 g4 g5 g6 hct hc5 hc2
        go_wp2_with fail
        refine (HC3.out _ (HK.out _ HM8.out.1.2.2)).mono ?_
        rintro x w9 ⟨rfl, hb9⟩
        have HM9 : Hid (MU w p ka na ea sa kb nb eb sb w9 ∧ At5 w9 q (.int .i64 G1) (.bool G0) (.int .i64 G2) (.string G3) (.int .i64 G4)) := ⟨HM8.out.1.next hb9, HM8.out.2.below hb9 HM8.out.2.lt⟩
        clear hb9 HM8 HC3 c0 c1 c2 c3 c4 d0 d1 d2 d3 d4
        obtain ⟨c0, c1, c2, c3, c4⟩ := HM9.out.1.1.cells
        obtain ⟨r0, r1, r2, r3, r4, r5⟩ := HM9.out.2.cells
        rcases hcd with rfl | ⟨hcz, rfl⟩
        all_goals
          go_wp2_with fail
          refine (HQ1.out _ (HK.out _ HM9.out.1.2.2)).mono ?_
          rintro x w10 ⟨rfl, hb10⟩
          have HM10 : Hid (MU w p ka na ea sa kb nb eb sb w10 ∧ At5 w10 q (.int .i64 G1) (.bool G0) (.int .i64 G2) (.string G3) (.int .i64 G4)) := ⟨HM9.out.1.next hb10, HM9.out.2.below hb10 HM9.out.2.lt⟩
          clear hb10 HM9 HQ1 c0 c1 c2 c3 c4 r0 r1 r2 r3 r4 r5
          obtain ⟨d0, d1, d2, d3, d4⟩ := HM10.out.1.2.1.cells
          obtain ⟨r0, r1, r2, r3, r4, r5⟩ := HM10.out.2.cells
          obtain ⟨k1, k2⟩ := HX12.out
          have g0 : x1 ≥ 0 := by omega
          have g1 : ¬ x1 < 0 := by omega
          have g2 : decide (0 ≤ x1) = true := decide_eq_true (by omega)
          have h0 : x2 ≥ 0 := by omega
          have h1 : ¬ x2 < 0 := by omega
          have h2 : decide (0 ≤ x2) = true := decide_eq_true (by omega)
          clear k1 k2 HX12
          go_wp2_with fail
          refine (HQ2.out _ (HK.out _ HM10.out.1.2.2)).mono ?_
          rintro x w11 ⟨rfl, hb11⟩
          have HM11 : Hid (MU w p ka na ea sa kb nb eb sb w11 ∧ At5 w11 q (.int .i64 G1) (.bool G0) (.int .i64 G2) (.string G3) (.int .i64 G4)) := ⟨HM10.out.1.next hb11, HM10.out.2.below hb11 HM10.out.2.lt⟩
          clear hb11 HM10 HQ2 d0 d1 d2 d3 d4 r0 r1 r2 r3 r4 r5
          obtain ⟨c0, c1, c2, c3, c4⟩ := HM11.out.1.1.cells
          obtain ⟨d0, d1, d2, d3, d4⟩ := HM11.out.1.2.1.cells
          obtain ⟨r0, r1, r2, r3, r4, r5⟩ := HM11.out.2.cells
          rcases HZ.out with rfl | ⟨rfl, hE2⟩
          all_goals
            clear HZ
            go_wp2
            go_ret
            exact ⟨rfl, HM11.out.1.2.2⟩
theorem fnOrdered_all (a0 : Option Addr) (len0 cap0 : Nat) (w : World) (hb : Bytes w.heap.size w a0 len0) (hT : KTab w) :
    Calls Tryz.prog 6 #[.slice a0 len0 cap0] w fun e w' => e = .returned (.bool true) ∧ Below w.heap.size w w' := by
  by_cases hbig : 4096 < len0
  · clear hb
    go_enter Tryz.func6, Tryz.ntmps6
    go_wp2_with fail
    refine (big_yes _ _ _ _ hbig).mono ?_
    rintro e w' ⟨rfl, rfl⟩
    go_wp2
    go_ret
    exact ⟨rfl, Below.refl _ _⟩
  exact fnOrdered_any a0 len0 cap0 w hbig hb hT
end Go.Proofs.YtnkoeidolmiheaaGreatDoor
