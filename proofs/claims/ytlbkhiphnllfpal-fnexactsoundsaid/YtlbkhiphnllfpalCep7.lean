/-
  What Sound of the program tells, walked.
-/
import Derived.Test.YtlbkhiphnllfpalCep6
namespace Go.Proofs.Ytlbkhiphnllfpal
open Go.RowKit Go.Maps
set_option linter.unusedVariables false
set_option maxRecDepth 100000 in
set_option maxHeartbeats 4000000 in
theorem iSound_any (a u t : Int) (w : World) :
    Calls Try.prog 8 #[.int .i64 a, .int .i64 u, .int .i64 t] w fun e w' => e = .returned (.tuple #[.int .i64 (sSnd a u t).1, .int .i64 (sSnd a u t).2.1, .int .i64 (sSnd a u t).2.2]) ∧ Below w.heap.size w w' := by
  have HB : Hid (∀ o, Below w.heap.size w (w.alloc o)) := fun o => (Below.refl _ _).alloc (Nat.le_refl _) _
  have HK : Hid (∀ W, Calls Try.prog 12 #[.agg #[.int .i64 a, .int .i64 u, .int .i64 t]] W fun e w' => e = .returned (.bool (prm a u t)) ∧ Below W.heap.size W w') := fun W => known_any a u t W
  cases hp : prm a u t with
  | false =>
    have HR : Hid (sSnd a u t = (1, 0, 0)) := by show _ = _; unfold sSnd; rw [hp]; rfl
    rw [hp] at HK
    clear hp
    generalize sSnd a u t = R at *
    go_enter Try.func8, Try.ntmps8
    go_wp2_with fail
    refine (HK.out _).mono ?_
    rintro e w1 ⟨rfl, hb1⟩
    go_wp2
    go_ret3
    exact ⟨by have h := HR.out; subst h; rfl, bel1 (HB.out _) hb1⟩
  | true =>
    obtain ⟨ha, hu, ht⟩ := prm_parts a u t hp
    have HR : Hid (sSnd a u t = sdD a u t (10 ^ u.toNat - 10 ^ (u - 1).toNat : Int).toNat (10 ^ (u - 1).toNat)) := by show _ = _; unfold sSnd; rw [hp]; rfl
    have hU := pow12 u hu
    have hV : 1 ≤ (10 : Int) ^ (u - 1).toNat ∧ (10 : Int) ^ (u - 1).toNat < (10 : Int) ^ u.toNat := by
      rcases (show u = 1 ∨ u = 2 by omega) with rfl | rfl <;> simp
    have H1 : Hid (∀ W D, rgd u D = true → Calls Try.prog 14 #[.agg #[.int .i64 a, .int .i64 u, .int .i64 t], .int .i64 D] W fun e w' => e = .returned (.int .i64 (bnd a u t D)) ∧ Below W.heap.size W w') := fun W D hr => bound_any a u t D W ha hu ht hr
    have H2 : Hid (∀ W D, rgd u D = true → Calls Try.prog 15 #[.agg #[.int .i64 a, .int .i64 u, .int .i64 t], .int .i64 D] W fun e w' => e = .returned (.int .i64 (-(bnd a u t D) - 2)) ∧ Below W.heap.size W w') := fun W D hr => least_any a u t D W ha hu ht hr
    have HC : Hid (∀ W D, rgd u D = true → Calls Try.prog 20 #[.agg #[.int .i64 a, .int .i64 u, .int .i64 t], .int .i64 D] W fun e w' => ∃ m n M, e = .returned (.map (some m)) ∧ w'.ownsMap Try.prog 37 (plainElem (H := Unit) Try.prog 2) m n M ∧ ColM M a (10 ^ u.toNat) (10 ^ t.toNat) D (-(bnd a u t D) - 2) (bnd a u t D + 1) ∧ Below W.heap.size W w') := fun W D hr => columnOf_any a u t D _ _ W hp hr rfl rfl
    have HSD : Hid (∀ W D, Calls Try.prog 13 #[.agg #[.int .i64 a, .int .i64 u, .int .i64 t], .int .i64 D] W fun e w' => e = .returned (.bool (rgd u D)) ∧ Below W.heap.size W w') := fun W D => seesDivisor_any a u t D W hu
    have HP1 : Hid (∀ W, Calls Try.prog 19 #[.int .i64 (u - 1)] W fun e w' => e = .returned (.int .i64 (10 ^ (u - 1).toNat)) ∧ w' = W) := fun W => tenPower_01 u hu W
    have HRg : Hid (∀ (D : Int) (j : Nat), D = 10 ^ (u - 1).toNat + (j : Int) → D < 10 ^ u.toNat → rgd u D = true) := fun D j h1 h2 => rgd_yes u D j hu h1 h2
    have HRn : Hid (∀ D : Int, ¬ D < 10 ^ u.toNat → rgd u D = false) := fun D h => decide_eq_false (fun hh => by omega)
    have HBd : Hid (∀ D, rgd u D = true → 0 ≤ bnd a u t D ∧ bnd a u t D ≤ 900000) := fun D hr => bnd_bd a u t D hp hr
    have HsD : Hid (∀ f D, sdD a u t (f + 1) D = match sdY a (10 ^ u.toNat) (10 ^ t.toNat) D (2 * bnd a u t D + 3).toNat (-(bnd a u t D) - 2) with
      | some Y => (4, D, Y)
      | none => sdD a u t f (D + 1)) := fun f D => rfl
    have Hs0 : Hid (∀ D, sdD a u t 0 D = (0, 0, 0)) := fun D => rfl
    have H4 : Hid (∀ D Y, rgd u D = true → (-(bnd a u t D) - 2 ≤ Y ∧ Y ≤ bnd a u t D) → ((cel a (10 ^ u.toNat) (10 ^ t.toNat) D Y).1 = 4 ∨ (cel a (10 ^ u.toNat) (10 ^ t.toNat) D Y).1 = 0)) := fun D Y hr hY => by
      rw [cel_hit a u t D Y hp hr hY]
      rcases scn_out a (10 ^ u.toNat) (10 ^ t.toNat) (cnE (9 * 10 ^ u.toNat) (10 * a * 10 ^ t.toNat) D Y 2) (a.toNat + 1) 0 with h | h
      · exact .inl h.1
      · exact .inr h.1
    rw [hp] at HK
    clear hp
    generalize sSnd a u t = R at *
    generalize (10 : Int) ^ (u - 1).toNat = V at *
    generalize (10 : Int) ^ u.toNat = U at *
    generalize (10 : Int) ^ t.toNat = T at *
    go_enter Try.func8, Try.ntmps8
    go_wp2_with fail
    refine (HK.out _).mono ?_
    rintro e w1 ⟨rfl, hb1⟩
    have HS1 : Hid (At3 w1 w.heap.size (.int .i64 a) (.int .i64 u) (.int .i64 t)) := At3.below (at3_new _ _ _ _ _) hb1
    have hB1 : Below w.heap.size w w1 := bel1 (HB.out _) hb1
    clear hb1 HB HK
    go_wp2_with fail
    refine (HP1.out _).mono ?_
    rintro e w' ⟨rfl, hw⟩
    obtain rfl := hw.symm
    go_wp2
    go_loopw [10] (fun d wr => ∃ j : Nat, V + (j : Int) ≤ U ∧ d = .int .i64 (V + (j : Int)) ∧ Hid (R = sdD a u t (U - V - (j : Int)).toNat (V + (j : Int))) ∧ Hid (At3 wr w.heap.size (.int .i64 a) (.int .i64 u) (.int .i64 t)) ∧ Below w.heap.size w wr) (fun d _ => (U - intOf d).toNat)
    case atStart => exact ⟨0, by omega, Ln.val_int (by omega), by show R = _; rw [HR.out]; congr 1 <;> omega, HS1, hB1⟩
    case round =>
      clear HR HP1 HS1 hB1
      obtain ⟨j, hj, rfl, HR, HS, hbel⟩ := hrel
      have hsz := hbel.size
      obtain ⟨q0, q1, q2⟩ := HS.out
      by_cases hlt : V + (j : Int) < U
      · obtain ⟨D, hD⟩ : ∃ D, D = V + (j : Int) := ⟨_, rfl⟩
        rw [← hD] at hlt HR ⊢
        have hrg := HRg.out D j hD hlt
        have hbd := HBd.out D hrg
        have HR2 : Hid (R = match sdY a U T D (2 * bnd a u t D + 3).toNat (-(bnd a u t D) - 2) with
          | some Y => (4, D, Y)
          | none => sdD a u t (U - V - ((j + 1 : Nat) : Int)).toNat (D + 1)) := by
          show R = _
          rw [HR.out, show (U - V - (j : Int)).toNat = (U - V - ((j + 1 : Nat) : Int)).toNat + 1 by omega, HsD.out]
        have HCD : Hid (∀ W, Calls Try.prog 20 #[.agg #[.int .i64 a, .int .i64 u, .int .i64 t], .int .i64 D] W fun e w' => ∃ m n M, e = .returned (.map (some m)) ∧ w'.ownsMap Try.prog 37 (plainElem (H := Unit) Try.prog 2) m n M ∧ ColM M a U T D (-(bnd a u t D) - 2) (bnd a u t D + 1) ∧ Below W.heap.size W w') := fun W => HC.out W D hrg
        have HBD : Hid (∀ W, Calls Try.prog 14 #[.agg #[.int .i64 a, .int .i64 u, .int .i64 t], .int .i64 D] W fun e w' => e = .returned (.int .i64 (bnd a u t D)) ∧ Below W.heap.size W w') := fun W => H1.out W D hrg
        have HLD : Hid (∀ W, Calls Try.prog 15 #[.agg #[.int .i64 a, .int .i64 u, .int .i64 t], .int .i64 D] W fun e w' => e = .returned (.int .i64 (-(bnd a u t D) - 2)) ∧ Below W.heap.size W w') := fun W => H2.out W D hrg
        have HSY : Hid (∀ W, Calls Try.prog 13 #[.agg #[.int .i64 a, .int .i64 u, .int .i64 t], .int .i64 D] W fun e w' => e = .returned (.bool true) ∧ Below W.heap.size W w') := fun W => by rw [← hrg]; exact HSD.out W D
        have H4D : Hid (∀ Y, (-(bnd a u t D) - 2 ≤ Y ∧ Y ≤ bnd a u t D) → ((cel a U T D Y).1 = 4 ∨ (cel a U T D Y).1 = 0)) := fun Y hY => H4.out D Y hrg hY
        have HsY : Hid (∀ f Y, sdY a U T D (f + 1) Y = if (cel a U T D Y).1 = 4 then some Y else sdY a U T D f (Y + 1)) := fun f Y => rfl
        have HsY0 : Hid (∀ Y, sdY a U T D 0 Y = none) := fun Y => rfl
        have HDj : Hid (D = V + (j : Int)) := hD
        have hDb : 1 ≤ D ∧ D ≤ 99 := by omega
        have hDw : (Lit.int .i64 D).wf = true := WalkArith.wf_i64 (by omega)
        clear HR hD H1 H2 HC H4 HRg
        generalize bnd a u t D = b at *
        go_wp2_with fail
        refine (HSY.out _).mono ?_
        rintro e w2 ⟨rfl, hb2⟩
        have HS2 := HS.out.below hb2
        obtain ⟨q3, q4, q5⟩ := id HS2
        have hB2 : Below w.heap.size w w2 := bel1 hbel hb2
        clear hb2 HS q0 q1 q2 hbel hsz
        go_wp2_with fail
        refine (HCD.out _).mono ?_
        rintro e w3 ⟨m, n, M, rfl, hown, hcol, hb3⟩
        have HS3 := HS2.below hb3
        obtain ⟨q6, q7, q8⟩ := id HS3
        have hB3 : Below w.heap.size w w3 := bel1 hB2 hb3
        clear hb3 HS2 q3 q4 q5 hB2
        go_wp2_with fail
        refine (HLD.out _).mono ?_
        rintro e w4 ⟨rfl, hb4⟩
        have HS4 : Hid (At3 w4 w.heap.size (.int .i64 a) (.int .i64 u) (.int .i64 t)) := HS3.below hb4
        have HO4 : Hid (w4.ownsMap Try.prog 37 (plainElem (H := Unit) Try.prog 2) m n M) := own_map_below hown hb4
        have HCol : Hid (ColM M a U T D (-b - 2) (b + 1)) := hcol
        have hB4 : Below w.heap.size w w4 := bel1 hB3 hb4
        clear hb4 HS3 q6 q7 q8 hown hcol hB3
        go_wp2
        go_loopw [12] (fun y wr' => ∃ i : Nat, (i : Int) ≤ 2 * b + 3 ∧ y = .int .i64 (-b - 2 + (i : Int)) ∧ Hid (sdY a U T D (2 * b + 3).toNat (-b - 2) = sdY a U T D (2 * b + 3 - (i : Int)).toNat (-b - 2 + (i : Int))) ∧ Hid (At3 wr' w.heap.size (.int .i64 a) (.int .i64 u) (.int .i64 t)) ∧ Hid (wr'.ownsMap Try.prog 37 (plainElem (H := Unit) Try.prog 2) m n M) ∧ Below w.heap.size w wr') (fun y _ => (b + 1 - intOf y).toNat)
        case atStart => exact ⟨0, by omega, Ln.val_int (by omega), by show _ = _; congr 1 <;> omega, HS4, HO4, hB4⟩
        case round =>
          clear HS4 HO4 hB4
          obtain ⟨i, hi2, rfl, HS', HS, HO, hbel⟩ := hrel
          obtain ⟨q0, q1, q2⟩ := HS.out
          by_cases hit : (i : Int) < 2 * b + 3
          · obtain ⟨Y, hY⟩ : ∃ Y, Y = -b - 2 + (i : Int) := ⟨_, rfl⟩
            have hYb : -b - 2 ≤ Y ∧ Y ≤ b := by omega
            have HS2 : Hid (sdY a U T D (2 * b + 3).toNat (-b - 2) = if (cel a U T D Y).1 = 4 then some Y else sdY a U T D (2 * b + 3 - ((i + 1 : Nat) : Int)).toNat (Y + 1)) := by
              show _ = _
              rw [HS'.out, ← hY, show (2 * b + 3 - (i : Int)).toNat = (2 * b + 3 - ((i + 1 : Nat) : Int)).toNat + 1 by omega, HsY.out]
            have hYw : (Lit.int .i64 Y).wf = true := WalkArith.wf_i64 (by omega)
            have HKy := key_cell D Y hDw hYw
            have HHas : Maps.has M (kc D Y) = decide ((cel a U T D Y).1 = 0) := by
              rw [HCol.out Y hYw]; exact decide_eq_decide.2 ⟨fun h => h.2, fun h => ⟨by omega, h⟩⟩
            have h4 := H4D.out Y hYb
            rw [← hY]
            have HYi : Hid (Y = -b - 2 + (i : Int)) := hY
            clear HS' hY hYw
            generalize (cel a U T D Y).1 = c1v at *
            rcases h4 with hc | hc
            · have HR3 : Hid (R = (4, D, Y)) := by show R = _; rw [HR2.out, HS2.out, if_pos hc]
              have hh : Maps.has M (kc D Y) = false := by rw [HHas, hc]; rfl
              clear HR2 HS2 HHas
              go_wp2_with fail
              refine (HBD.out _).mono ?_
              rintro e w5 ⟨rfl, hb5⟩
              have HO5 := own_map_below HO.out hb5
              go_wp2_with (first | (at_lookup; refine wpList_lookup_own_ok_int _ rfl _ _ 39 rfl 37 2 .i64 lawCell Try.underlying39 Try.underlying2 (zeroI _) m n _ rfl HO5 _ _ rfl HKy ?_; intro c hatc hwc; rw [hh]) | go_in)
              go_ret3
              exact ⟨by have h := HR3.out; subst h; rfl, bel1 hbel hb5⟩
            · have HS3 : Hid (sdY a U T D (2 * b + 3).toNat (-b - 2) = sdY a U T D (2 * b + 3 - ((i + 1 : Nat) : Int)).toNat (Y + 1)) := by show _ = _; rw [HS2.out, if_neg (by omega)]
              have hh : Maps.has M (kc D Y) = true := by rw [HHas, hc]; rfl
              clear HS2 HHas
              go_wp2_with fail
              refine (HBD.out _).mono ?_
              rintro e w5 ⟨rfl, hb5⟩
              have HO5 := own_map_below HO.out hb5
              have HS5 : Hid (At3 w5 w.heap.size (.int .i64 a) (.int .i64 u) (.int .i64 t)) := HS.out.below hb5
              have hB5 := bel1 hbel hb5
              go_wp2_with (first | (at_lookup; refine wpList_lookup_own_ok_int _ rfl _ _ 39 rfl 37 2 .i64 lawCell Try.underlying39 Try.underlying2 (zeroI _) m n _ rfl HO5 _ _ rfl HKy ?_; intro c hatc hwc; rw [hh]) | go_in)
              go_roundw
              case rel => exact ⟨i + 1, by omega, Ln.val_int (by rw [HYi.out]; omega), by show _ = _; rw [HS3.out]; congr 1; rw [HYi.out]; omega, HS5, HO5, hB5⟩
              case measure => simp [intOf]; omega
          · have HS3 : Hid (sdY a U T D (2 * b + 3).toNat (-b - 2) = none) := by show _ = _; rw [HS'.out, show (2 * b + 3 - (i : Int)).toNat = 0 by omega, HsY0.out]
            have HR3 : Hid (R = sdD a u t (U - V - ((j + 1 : Nat) : Int)).toNat (D + 1)) := by show R = _; rw [HR2.out, HS3.out]
            have hnc : ¬ (-b - 2 + (i : Int) ≤ b) := by omega
            clear HS' HR2 HS3
            go_wp2_with fail
            refine (HBD.out _).mono ?_
            rintro e w5 ⟨rfl, hb5⟩
            have HS5 : Hid (At3 w5 w.heap.size (.int .i64 a) (.int .i64 u) (.int .i64 t)) := HS.out.below hb5
            have hB5 := bel1 hbel hb5
            go_wp2
            go_roundw
            case rel => exact ⟨j + 1, by have := HDj.out; omega, Ln.val_int (by rw [HDj.out]; omega), by show R = _; rw [HR3.out]; congr 1; rw [HDj.out]; omega, HS5, hB5⟩
            case measure => simp [intOf]; omega
      · have HR3 : Hid (R = (0, 0, 0)) := by show R = _; rw [HR.out, show (U - V - (j : Int)).toNat = 0 by omega, Hs0.out]
        have HSN : Hid (∀ W, Calls Try.prog 13 #[.agg #[.int .i64 a, .int .i64 u, .int .i64 t], .int .i64 (V + (j : Int))] W fun e w' => e = .returned (.bool false) ∧ Below W.heap.size W w') := fun W => by rw [← HRn.out (V + (j : Int)) (by omega)]; exact HSD.out W _
        go_wp2_with fail
        refine (HSN.out _).mono ?_
        rintro e w2 ⟨rfl, hb2⟩
        go_wp2
        go_ret3
        exact ⟨by have h := HR3.out; subst h; rfl, bel1 hbel hb2⟩
end Go.Proofs.Ytlbkhiphnllfpal
