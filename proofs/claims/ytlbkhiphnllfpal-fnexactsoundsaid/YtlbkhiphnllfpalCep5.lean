/-
  What Cell of the program tells, walked.
-/
import Derived.Test.YtlbkhiphnllfpalCep4
namespace Go.Proofs.Ytlbkhiphnllfpal
open Go.RowKit
set_option linter.unusedVariables false
/-- A cell that is out of the bounds is not reached; one within them has what the scan tells. -/
theorem cel_miss (a u t D Y : Int) (hp : prm a u t = true) (hr : rgd u D = true) (h : ¬ (-(bnd a u t D) - 2 ≤ Y ∧ Y ≤ bnd a u t D)) : cel a (10 ^ u.toNat) (10 ^ t.toNat) D Y = (3, 0) := by
  have : ¬ (cnE (9 * 10 ^ u.toNat) (10 * a * 10 ^ t.toNat) D Y 2 ≠ []) := fun hh => h ((bnd_reach a u t D Y hp hr).1 hh)
  unfold cel
  split
  · rw [if_pos (Classical.not_not.1 this)]
  · rfl
theorem cel_hit (a u t D Y : Int) (hp : prm a u t = true) (hr : rgd u D = true) (h : -(bnd a u t D) - 2 ≤ Y ∧ Y ≤ bnd a u t D) : cel a (10 ^ u.toNat) (10 ^ t.toNat) D Y = scn a (10 ^ u.toNat) (10 ^ t.toNat) (cnE (9 * 10 ^ u.toNat) (10 * a * 10 ^ t.toNat) D Y 2) (a.toNat + 1) 0 := by
  have := (bnd_reach a u t D Y hp hr).2 h
  have hb := bnd_bd a u t D hp hr
  unfold cel
  rw [if_pos (by omega), if_neg this]
theorem scn_pair (a U T : Int) (l : List Pt) (f k : Nat) : scn a U T l f k = (0, (scn a U T l f k).2) ∨ scn a U T l f k = (4, 0) := by
  rcases scn_out a U T l f k with ⟨h1, h2⟩ | ⟨h1, _⟩
  · right; exact Prod.ext h1 h2
  · left; exact Prod.ext h1 rfl
set_option maxHeartbeats 2000000 in
theorem iCell_any (a u t D Y : Int) (w : World) :
    Calls Try.prog 6 #[.int .i64 a, .int .i64 u, .int .i64 t, .int .i64 D, .int .i64 Y] w fun e w' => e = .returned (.tuple #[.int .i64 (sCel a u t D Y).1, .int .i64 (sCel a u t D Y).2]) ∧ Below w.heap.size w w' := by
  have HB : Hid (∀ o, Below w.heap.size w (w.alloc o)) := fun o => (Below.refl _ _).alloc (Nat.le_refl _) _
  have HK : Hid (∀ W, Calls Try.prog 12 #[.agg #[.int .i64 a, .int .i64 u, .int .i64 t]] W fun e w' => e = .returned (.bool (prm a u t)) ∧ Below W.heap.size W w') := fun W => known_any a u t W
  have HR0 : Hid (sCel a u t D Y = if prm a u t then (if rgd u D then cel a (10 ^ u.toNat) (10 ^ t.toNat) D Y else (2, 0)) else (1, 0)) := rfl
  cases hp : prm a u t with
  | false =>
    rw [hp] at HK HR0
    have HR : Hid (sCel a u t D Y = (1, 0)) := HR0.out
    clear hp HR0
    generalize sCel a u t D Y = R at *
    go_enter Try.func6, Try.ntmps6
    go_wp2_with fail
    refine (HK.out _).mono ?_
    rintro e w1 ⟨rfl, hb1⟩
    go_wp2
    go_ret2
    exact ⟨by have h := HR.out; subst h; rfl, bel1 (HB.out _) hb1⟩
  | true =>
    obtain ⟨ha, hu, ht⟩ := prm_parts a u t hp
    have HS : Hid (∀ W, Calls Try.prog 13 #[.agg #[.int .i64 a, .int .i64 u, .int .i64 t], .int .i64 D] W fun e w' => e = .returned (.bool (rgd u D)) ∧ Below W.heap.size W w') := fun W => seesDivisor_any a u t D W hu
    rw [hp] at HK HR0
    cases hr : rgd u D with
    | false =>
      rw [hr] at HS HR0
      have HR : Hid (sCel a u t D Y = (2, 0)) := HR0.out
      clear hp hr HR0
      generalize sCel a u t D Y = R at *
      go_enter Try.func6, Try.ntmps6
      go_wp2_with fail
      refine (HK.out _).mono ?_
      rintro e w1 ⟨rfl, hb1⟩
      obtain ⟨q0, q1, q2⟩ := At3.below (at3_new _ _ _ _ _) hb1
      go_wp2_with fail
      refine (HS.out _).mono ?_
      rintro e w2 ⟨rfl, hb2⟩
      go_wp2
      go_ret2
      exact ⟨by have h := HR.out; subst h; rfl, bel2 (HB.out _) hb1 hb2⟩
    | true =>
      have H1 : Hid (∀ W, Calls Try.prog 14 #[.agg #[.int .i64 a, .int .i64 u, .int .i64 t], .int .i64 D] W fun e w' => e = .returned (.int .i64 (bnd a u t D)) ∧ Below W.heap.size W w') := fun W => bound_any a u t D W ha hu ht hr
      have H2 : Hid (∀ W, Calls Try.prog 15 #[.agg #[.int .i64 a, .int .i64 u, .int .i64 t], .int .i64 D] W fun e w' => e = .returned (.int .i64 (-(bnd a u t D) - 2)) ∧ Below W.heap.size W w') := fun W => least_any a u t D W ha hu ht hr
      have hbb := bnd_bd a u t D hp hr
      rw [hr] at HS HR0
      have HR1 : Hid (sCel a u t D Y = cel a (10 ^ u.toNat) (10 ^ t.toNat) D Y) := HR0.out
      by_cases hY1 : bnd a u t D < Y
      · have HR : Hid (sCel a u t D Y = (3, 0)) := by show _ = _; rw [HR1.out]; exact cel_miss a u t D Y hp hr (by omega)
        clear hp hr HR0 HR1
        generalize sCel a u t D Y = R at *
        generalize bnd a u t D = b at *
        go_enter Try.func6, Try.ntmps6
        go_wp2_with fail
        refine (HK.out _).mono ?_
        rintro e w1 ⟨rfl, hb1⟩
        have hs1 := At3.below (at3_new _ _ _ _ _) hb1
        obtain ⟨q0, q1, q2⟩ := id hs1
        go_wp2_with fail
        refine (HS.out _).mono ?_
        rintro e w2 ⟨rfl, hb2⟩
        have hs2 := hs1.below hb2
        obtain ⟨q3, q4, q5⟩ := id hs2
        go_wp2_with fail
        refine (H1.out _).mono ?_
        rintro e w3 ⟨rfl, hb3⟩
        go_wp2
        go_ret2
        exact ⟨by have h := HR.out; subst h; rfl, bel1 (bel2 (HB.out _) hb1 hb2) hb3⟩
      · by_cases hY2 : Y < -(bnd a u t D) - 2
        · have HR : Hid (sCel a u t D Y = (3, 0)) := by show _ = _; rw [HR1.out]; exact cel_miss a u t D Y hp hr (by omega)
          clear hp hr HR0 HR1
          generalize sCel a u t D Y = R at *
          generalize bnd a u t D = b at *
          go_enter Try.func6, Try.ntmps6
          go_wp2_with fail
          refine (HK.out _).mono ?_
          rintro e w1 ⟨rfl, hb1⟩
          have hs1 := At3.below (at3_new _ _ _ _ _) hb1
          obtain ⟨q0, q1, q2⟩ := id hs1
          go_wp2_with fail
          refine (HS.out _).mono ?_
          rintro e w2 ⟨rfl, hb2⟩
          have hs2 := hs1.below hb2
          obtain ⟨q3, q4, q5⟩ := id hs2
          go_wp2_with fail
          refine (H1.out _).mono ?_
          rintro e w3 ⟨rfl, hb3⟩
          have hs3 := hs2.below hb3
          obtain ⟨q6, q7, q8⟩ := id hs3
          go_wp2_with fail
          refine (H2.out _).mono ?_
          rintro e w4 ⟨rfl, hb4⟩
          go_wp2
          go_ret2
          exact ⟨by have h := HR.out; subst h; rfl, bel2 (bel2 (HB.out _) hb1 hb2) hb3 hb4⟩
        · have hR2 : sCel a u t D Y = scn a (10 ^ u.toNat) (10 ^ t.toNat) (cnE (9 * 10 ^ u.toNat) (10 * a * 10 ^ t.toNat) D Y 2) (a.toNat + 1) 0 := by rw [HR1.out]; exact cel_hit a u t D Y hp hr (by omega)
          have HD : Hid (∀ W, Calls Try.prog 16 #[.agg #[.int .i64 a, .int .i64 u, .int .i64 t], .agg #[.int .i64 D, .int .i64 Y]] W fun e w' => e = .returned (.tuple #[.int .i64 (sCel a u t D Y).2, .bool (decide ((sCel a u t D Y).1 = 0))]) ∧ Below W.heap.size W w') := fun W => by
            rw [hR2]
            exact digitOf_any a u t D Y _ _ W ha hu ht (rgd_bd u D hu hr) (by omega) rfl rfl
          have HP : Hid (sCel a u t D Y = (0, (sCel a u t D Y).2) ∨ sCel a u t D Y = (4, 0)) := by rw [hR2]; exact scn_pair _ _ _ _ _ _
          clear hp hr HR0 HR1 hR2
          generalize sCel a u t D Y = R at *
          generalize bnd a u t D = b at *
          rcases HP.out with hR | hR
          · have HR : Hid (R = (0, R.2)) := hR
            have hd : decide (R.1 = 0) = true := by rw [hR]; rfl
            rw [hd] at HD
            clear hR HP hd
            go_enter Try.func6, Try.ntmps6
            go_wp2_with fail
            refine (HK.out _).mono ?_
            rintro e w1 ⟨rfl, hb1⟩
            have hs1 := At3.below (at3_new _ _ _ _ _) hb1
            obtain ⟨q0, q1, q2⟩ := id hs1
            go_wp2_with fail
            refine (HS.out _).mono ?_
            rintro e w2 ⟨rfl, hb2⟩
            have hs2 := hs1.below hb2
            obtain ⟨q3, q4, q5⟩ := id hs2
            go_wp2_with fail
            refine (H1.out _).mono ?_
            rintro e w3 ⟨rfl, hb3⟩
            have hs3 := hs2.below hb3
            obtain ⟨q6, q7, q8⟩ := id hs3
            go_wp2_with fail
            refine (H2.out _).mono ?_
            rintro e w4 ⟨rfl, hb4⟩
            have hs4 := hs3.below hb4
            obtain ⟨q9, q10, q11⟩ := id hs4
            go_wp2_with fail
            refine (HD.out _).mono ?_
            rintro e w5 ⟨rfl, hb5⟩
            go_wp2
            go_ret2
            exact ⟨by rw [show R.1 = 0 from congrArg Prod.fst HR.out]; rfl, bel1 (bel2 (bel2 (HB.out _) hb1 hb2) hb3 hb4) hb5⟩
          · have HR : Hid (R = (4, 0)) := hR
            have hd : decide (R.1 = 0) = false := by rw [hR]; rfl
            rw [hd] at HD
            clear hR HP hd
            go_enter Try.func6, Try.ntmps6
            go_wp2_with fail
            refine (HK.out _).mono ?_
            rintro e w1 ⟨rfl, hb1⟩
            have hs1 := At3.below (at3_new _ _ _ _ _) hb1
            obtain ⟨q0, q1, q2⟩ := id hs1
            go_wp2_with fail
            refine (HS.out _).mono ?_
            rintro e w2 ⟨rfl, hb2⟩
            have hs2 := hs1.below hb2
            obtain ⟨q3, q4, q5⟩ := id hs2
            go_wp2_with fail
            refine (H1.out _).mono ?_
            rintro e w3 ⟨rfl, hb3⟩
            have hs3 := hs2.below hb3
            obtain ⟨q6, q7, q8⟩ := id hs3
            go_wp2_with fail
            refine (H2.out _).mono ?_
            rintro e w4 ⟨rfl, hb4⟩
            have hs4 := hs3.below hb4
            obtain ⟨q9, q10, q11⟩ := id hs4
            go_wp2_with fail
            refine (HD.out _).mono ?_
            rintro e w5 ⟨rfl, hb5⟩
            go_wp2
            go_ret2
            exact ⟨by have h := HR.out; subst h; rfl, bel1 (bel2 (bel2 (HB.out _) hb1 hb2) hb3 hb4) hb5⟩
end Go.Proofs.Ytlbkhiphnllfpal
