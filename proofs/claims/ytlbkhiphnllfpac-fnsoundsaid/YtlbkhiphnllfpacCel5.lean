/-
  What Cell and Sound of the model tell, walked.
-/
import Derived.Test.YtlbkhiphnllfpacCel4
namespace Go.Proofs.Ytlbkhiphnllfpac
open Go.RowKit
set_option linter.unusedVariables false
set_option maxRecDepth 100000
theorem l6Power_12 (x : Int) (hx : 1 ≤ x ∧ x ≤ 2) (W : World) : Calls Try.prog 44 #[.int .i64 x] W fun e w' => e = .returned (.int .i64 (10 ^ x.toNat)) ∧ w' = W := by
  rcases (show x = 1 ∨ x = 2 by omega) with rfl | rfl
  · exact l6Power_any 1 W (by decide)
  · exact l6Power_any 2 W (by decide)
theorem l6Power_01 (x : Int) (hx : 1 ≤ x ∧ x ≤ 2) (W : World) : Calls Try.prog 44 #[.int .i64 (x - 1)] W fun e w' => e = .returned (.int .i64 (10 ^ (x - 1).toNat)) ∧ w' = W := by
  rcases (show x = 1 ∨ x = 2 by omega) with rfl | rfl
  · exact l6Power_any 0 W (by decide)
  · exact l6Power_any 1 W (by decide)
/-- What Cell tells. -/
def sCel (a u t D Y : Int) : Int × Int := if prm a u t then (if rgd u D then cel a (10 ^ u.toNat) (10 ^ t.toNat) D Y else (2, 0)) else (1, 0)
theorem sCell_any (a u t D Y : Int) (w : World) :
    Calls Try.prog 10 #[.int .i64 a, .int .i64 u, .int .i64 t, .int .i64 D, .int .i64 Y] w fun e w' => e = .returned (.tuple #[.int .i64 (sCel a u t D Y).1, .int .i64 (sCel a u t D Y).2]) ∧ Below w.heap.size w w' := by
  cases hp : prm a u t with
  | false =>
    have HR : Hid (sCel a u t D Y = (1, 0)) := by show _ = _; unfold sCel; rw [hp]; rfl
    have Hp : Hid (prm a u t = false) := hp
    clear hp
    generalize sCel a u t D Y = R at *
    go_enter Try.func10, Try.ntmps10
    go_wp2_with fail
    refine (l6Params_any a u t _).mono ?_
    rintro e w' ⟨rfl, hw⟩
    obtain rfl := hw.symm
    rw [Hp.out]
    go_wp2
    go_ret2
    exact ⟨by have h := HR.out; subst h; rfl, Below.refl _ _⟩
  | true =>
    obtain ⟨ha, hu, ht⟩ := prm_parts a u t hp
    cases hr : rgd u D with
    | false =>
      have HR : Hid (sCel a u t D Y = (2, 0)) := by show _ = _; unfold sCel; rw [hp, hr]; rfl
      have Hp : Hid (prm a u t = true) := hp
      have Hr : Hid (rgd u D = false) := hr
      clear hp hr
      generalize sCel a u t D Y = R at *
      go_enter Try.func10, Try.ntmps10
      go_wp2_with fail
      refine (l6Params_any a u t _).mono ?_
      rintro e w' ⟨rfl, hw⟩
      obtain rfl := hw.symm
      rw [Hp.out]
      go_wp2_with fail
      refine (l6Range_any u D _ hu.1 (by omega)).mono ?_
      rintro e w' ⟨rfl, hw⟩
      obtain rfl := hw.symm
      rw [Hr.out]
      go_wp2
      go_ret2
      exact ⟨by have h := HR.out; subst h; rfl, Below.refl _ _⟩
    | true =>
      have HR : sCel a u t D Y = cel a (10 ^ u.toNat) (10 ^ t.toNat) D Y := by unfold sCel; rw [hp, hr]; rfl
      have HC : Hid (∀ W, Calls Try.prog 41 #[.int .i64 a, .int .i64 u, .int .i64 t, .int .i64 D, .int .i64 Y] W fun e w' => e = .returned (.tuple #[.int .i64 (sCel a u t D Y).1, .int .i64 (sCel a u t D Y).2]) ∧ Below W.heap.size W w') := fun W => by
        rw [HR]
        exact l6Cell_any a u t D Y _ _ W ha (pow12 u hu) (pow12 t ht) (rgd_bd u D hu hr) (l6Power_12 u hu) (l6Power_12 t ht)
      have Hp : Hid (prm a u t = true) := hp
      have Hr : Hid (rgd u D = true) := hr
      clear hp hr HR
      generalize sCel a u t D Y = R at *
      go_enter Try.func10, Try.ntmps10
      go_wp2_with fail
      refine (l6Params_any a u t _).mono ?_
      rintro e w' ⟨rfl, hw⟩
      obtain rfl := hw.symm
      rw [Hp.out]
      go_wp2_with fail
      refine (l6Range_any u D _ hu.1 (by omega)).mono ?_
      rintro e w' ⟨rfl, hw⟩
      obtain rfl := hw.symm
      rw [Hr.out]
      go_wp2_with fail
      refine (HC.out _).mono ?_
      rintro e w1 ⟨rfl, hb1⟩
      go_wp2
      go_ret2
      exact ⟨rfl, hb1⟩
/-- The first cell of a divisor that has no digit; the first of all. -/
def sdY (a U T D : Int) : Nat → Int → Option Int
  | 0, _ => none
  | f + 1, Y => if (cel a U T D Y).1 = 4 then some Y else sdY a U T D f (Y + 1)
def sdD (a u t : Int) : Nat → Int → Int × Int × Int
  | 0, _ => (0, 0, 0)
  | f + 1, D => match sdY a (10 ^ u.toNat) (10 ^ t.toNat) D (2 * bnd a u t D + 3).toNat (-(bnd a u t D) - 2) with
    | some Y => (4, D, Y)
    | none => sdD a u t f (D + 1)
def sSnd (a u t : Int) : Int × Int × Int := if prm a u t then sdD a u t (10 ^ u.toNat - 10 ^ (u - 1).toNat : Int).toNat (10 ^ (u - 1).toNat) else (1, 0, 0)
theorem rgd_yes (u D : Int) (j : Nat) (hu : 1 ≤ u ∧ u ≤ 2) (hD : D = 10 ^ (u - 1).toNat + (j : Int)) (hlt : D < 10 ^ u.toNat) : rgd u D = true := by
  unfold rgd
  exact decide_eq_true ⟨by omega, by omega⟩
set_option maxRecDepth 100000 in
set_option maxHeartbeats 2000000 in
theorem sSound_any (a u t : Int) (w : World) :
    Calls Try.prog 14 #[.int .i64 a, .int .i64 u, .int .i64 t] w fun e w' => e = .returned (.tuple #[.int .i64 (sSnd a u t).1, .int .i64 (sSnd a u t).2.1, .int .i64 (sSnd a u t).2.2]) ∧ Below w.heap.size w w' := by
  cases hp : prm a u t with
  | false =>
    have HR : Hid (sSnd a u t = (1, 0, 0)) := by show _ = _; unfold sSnd; rw [hp]; rfl
    have Hp : Hid (prm a u t = false) := hp
    clear hp
    generalize sSnd a u t = R at *
    go_enter Try.func14, Try.ntmps14
    go_wp2_with fail
    refine (l6Params_any a u t _).mono ?_
    rintro e w' ⟨rfl, hw⟩
    obtain rfl := hw.symm
    rw [Hp.out]
    go_wp2
    go_ret3
    exact ⟨by have h := HR.out; subst h; rfl, Below.refl _ _⟩
  | true =>
    obtain ⟨ha, hu, ht⟩ := prm_parts a u t hp
    have Hp : Hid (prm a u t = true) := hp
    have HR : Hid (sSnd a u t = sdD a u t (10 ^ u.toNat - 10 ^ (u - 1).toNat : Int).toNat (10 ^ (u - 1).toNat)) := by show _ = _; unfold sSnd; rw [hp]; rfl
    have hU := pow12 u hu
    have hV : 1 ≤ (10 : Int) ^ (u - 1).toNat ∧ (10 : Int) ^ (u - 1).toNat < (10 : Int) ^ u.toNat := by
      rcases (show u = 1 ∨ u = 2 by omega) with rfl | rfl <;> simp
    have HB : Hid (∀ W D, Calls Try.prog 30 #[.int .i64 a, .int .i64 u, .int .i64 t, .int .i64 D] W fun e w' => e = .returned (.int .i64 (bnd a u t D)) ∧ w' = W) := fun W D => sBound_any a u t D W
    have HC : Hid (∀ W D Y, rgd u D = true → Calls Try.prog 41 #[.int .i64 a, .int .i64 u, .int .i64 t, .int .i64 D, .int .i64 Y] W fun e w' => e = .returned (.tuple #[.int .i64 (cel a (10 ^ u.toNat) (10 ^ t.toNat) D Y).1, .int .i64 (cel a (10 ^ u.toNat) (10 ^ t.toNat) D Y).2]) ∧ Below W.heap.size W w') := fun W D Y hr => l6Cell_any a u t D Y _ _ W ha (pow12 u hu) (pow12 t ht) (rgd_bd u D hu hr) (l6Power_12 u hu) (l6Power_12 t ht)
    have HP1 : Hid (∀ W, Calls Try.prog 44 #[.int .i64 (u - 1)] W fun e w' => e = .returned (.int .i64 (10 ^ (u - 1).toNat)) ∧ w' = W) := fun W => l6Power_01 u hu W
    have HP2 : Hid (∀ W, Calls Try.prog 44 #[.int .i64 u] W fun e w' => e = .returned (.int .i64 (10 ^ u.toNat)) ∧ w' = W) := fun W => l6Power_12 u hu W
    have HRg : Hid (∀ (D : Int) (j : Nat), D = 10 ^ (u - 1).toNat + (j : Int) → D < 10 ^ u.toNat → rgd u D = true) := fun D j h1 h2 => rgd_yes u D j hu h1 h2
    have HBd : Hid (∀ D, rgd u D = true → 0 ≤ bnd a u t D ∧ bnd a u t D ≤ 900000) := fun D hr => bnd_bd a u t D hp hr
    have HsD : Hid (∀ f D, sdD a u t (f + 1) D = match sdY a (10 ^ u.toNat) (10 ^ t.toNat) D (2 * bnd a u t D + 3).toNat (-(bnd a u t D) - 2) with
      | some Y => (4, D, Y)
      | none => sdD a u t f (D + 1)) := fun f D => rfl
    have Hs0 : Hid (∀ D, sdD a u t 0 D = (0, 0, 0)) := fun D => rfl
    clear hp
    generalize sSnd a u t = R at *
    generalize (10 : Int) ^ (u - 1).toNat = V at *
    generalize (10 : Int) ^ u.toNat = U at *
    generalize (10 : Int) ^ t.toNat = T at *
    go_enter Try.func14, Try.ntmps14
    go_wp2_with fail
    refine (l6Params_any a u t _).mono ?_
    rintro e w' ⟨rfl, hw⟩
    obtain rfl := hw.symm
    rw [Hp.out]
    go_wp2_with fail
    refine (HP1.out _).mono ?_
    rintro e w' ⟨rfl, hw⟩
    obtain rfl := hw.symm
    go_wp2
    go_loopw [9] (fun d wr => ∃ j : Nat, V + (j : Int) ≤ U ∧ d = .int .i64 (V + (j : Int)) ∧ Hid (R = sdD a u t (U - V - (j : Int)).toNat (V + (j : Int))) ∧ Below w.heap.size w wr) (fun d _ => (U - intOf d).toNat)
    case atStart => exact ⟨0, by omega, Ln.val_int (by omega), by show R = _; rw [HR.out]; congr 1 <;> omega, Below.refl _ _⟩
    case round =>
      clear HR HP1
      obtain ⟨j, hj, rfl, HR, hbel⟩ := hrel
      have hsz := hbel.size
      by_cases hlt : V + (j : Int) < U
      · obtain ⟨D, hD⟩ : ∃ D, D = V + (j : Int) := ⟨_, rfl⟩
        rw [← hD] at hlt HR ⊢
        have hrg := HRg.out D j hD hlt
        have hbd := HBd.out D hrg
        have HR2 : Hid (R = match sdY a U T D (2 * bnd a u t D + 3).toNat (-(bnd a u t D) - 2) with
          | some Y => (4, D, Y)
          | none => sdD a u t (U - V - ((j + 1 : Nat) : Int)).toNat (D + 1)) := by
          show R = _
          rw [HR.out, show (U - V - (j : Int)).toNat = (U - V - ((j + 1 : Nat) : Int)).toNat + 1 by omega, HsD.out]
        have HCD : Hid (∀ W Y, Calls Try.prog 41 #[.int .i64 a, .int .i64 u, .int .i64 t, .int .i64 D, .int .i64 Y] W fun e w' => e = .returned (.tuple #[.int .i64 (cel a U T D Y).1, .int .i64 (cel a U T D Y).2]) ∧ Below W.heap.size W w') := fun W Y => HC.out W D Y hrg
        have HBD : Hid (∀ W, Calls Try.prog 30 #[.int .i64 a, .int .i64 u, .int .i64 t, .int .i64 D] W fun e w' => e = .returned (.int .i64 (bnd a u t D)) ∧ w' = W) := fun W => HB.out W D
        have HsY : Hid (∀ f Y, sdY a U T D (f + 1) Y = if (cel a U T D Y).1 = 4 then some Y else sdY a U T D f (Y + 1)) := fun f Y => rfl
        have HsY0 : Hid (∀ Y, sdY a U T D 0 Y = none) := fun Y => rfl
        have HDj : Hid (D = V + (j : Int)) := hD
        have hDb : 1 ≤ D ∧ D ≤ 99 := by omega
        clear HR hD
        generalize bnd a u t D = b at *
        go_wp2_with fail
        refine (HP2.out _).mono ?_
        rintro e w' ⟨rfl, hw⟩
        obtain rfl := hw.symm
        go_wp2_with fail
        refine (HBD.out _).mono ?_
        rintro e w' ⟨rfl, hw⟩
        obtain rfl := hw.symm
        go_wp2
        go_loopw [11] (fun y wr' => ∃ i : Nat, (i : Int) ≤ 2 * b + 3 ∧ y = .int .i64 (-b - 2 + (i : Int)) ∧ Hid (sdY a U T D (2 * b + 3).toNat (-b - 2) = sdY a U T D (2 * b + 3 - (i : Int)).toNat (-b - 2 + (i : Int))) ∧ Below w.heap.size w wr') (fun y _ => (b + 1 - intOf y).toNat)
        case atStart => exact ⟨0, by omega, Ln.val_int (by omega), by show _ = _; congr 1 <;> omega, hbel⟩
        case round =>
          clear hbel hsz
          obtain ⟨i, hi2, rfl, HS, hbel⟩ := hrel
          have hsz := hbel.size
          by_cases hit : (i : Int) < 2 * b + 3
          · obtain ⟨Y, hY⟩ : ∃ Y, Y = -b - 2 + (i : Int) := ⟨_, rfl⟩
            have hYb : Y ≤ b ∧ -900002 ≤ Y := by omega
            have HS2 : Hid (sdY a U T D (2 * b + 3).toNat (-b - 2) = if (cel a U T D Y).1 = 4 then some Y else sdY a U T D (2 * b + 3 - ((i + 1 : Nat) : Int)).toNat (Y + 1)) := by
              show _ = _
              rw [HS.out, ← hY, show (2 * b + 3 - (i : Int)).toNat = (2 * b + 3 - ((i + 1 : Nat) : Int)).toNat + 1 by omega, HsY.out]
            have HCY : Hid (∀ W, Calls Try.prog 41 #[.int .i64 a, .int .i64 u, .int .i64 t, .int .i64 D, .int .i64 Y] W fun e w' => e = .returned (.tuple #[.int .i64 (cel a U T D Y).1, .int .i64 (cel a U T D Y).2]) ∧ Below W.heap.size W w') := fun W => HCD.out W Y
            rw [← hY]
            have HYi : Hid (Y = -b - 2 + (i : Int)) := hY
            clear HS hY
            generalize (cel a U T D Y).1 = c1v at *
            generalize (cel a U T D Y).2 = c2v at *
            by_cases hc : c1v = 4
            · have HR3 : Hid (R = (4, D, Y)) := by show R = _; rw [HR2.out, HS2.out, if_pos hc]
              clear HR2 HS2
              go_wp2_with fail
              refine (HCY.out _).mono ?_
              rintro e w2 ⟨rfl, hb2⟩
              go_wp2
              go_ret3
              exact ⟨by have h := HR3.out; subst h; rfl, hbel.trans (hb2.mono hsz)⟩
            · rw [if_neg hc] at HS2
              have hc' : (c1v == 4) = false := by simpa using hc
              go_wp2_with fail
              refine (HCY.out _).mono ?_
              rintro e w2 ⟨rfl, hb2⟩
              go_wp2
              go_roundw
              case rel => exact ⟨i + 1, by omega, Ln.val_int (by rw [HYi.out]; omega), by show _ = _; rw [HS2.out]; congr 1; rw [HYi.out]; omega, hbel.trans (hb2.mono hsz)⟩
              case measure => simp [intOf]; omega
          · have HS3 : Hid (sdY a U T D (2 * b + 3).toNat (-b - 2) = none) := by show _ = _; rw [HS.out, show (2 * b + 3 - (i : Int)).toNat = 0 by omega, HsY0.out]
            have HR3 : Hid (R = sdD a u t (U - V - ((j + 1 : Nat) : Int)).toNat (D + 1)) := by show R = _; rw [HR2.out, HS3.out]
            have hnc : ¬ (-b - 2 + (i : Int) ≤ b) := by omega
            clear HS HR2 HS3
            go_wp2
            go_roundw
            case rel => exact ⟨j + 1, by have := HDj.out; omega, Ln.val_int (by rw [HDj.out]; omega), by show R = _; rw [HR3.out]; congr 1; rw [HDj.out]; omega, hbel⟩
            case measure => simp [intOf]; omega
      · have HR3 : Hid (R = (0, 0, 0)) := by show R = _; rw [HR.out, show (U - V - (j : Int)).toNat = 0 by omega, Hs0.out]
        go_wp2_with fail
        refine (HP2.out _).mono ?_
        rintro e w' ⟨rfl, hw⟩
        obtain rfl := hw.symm
        go_wp2
        go_ret3
        exact ⟨by have h := HR3.out; subst h; rfl, hbel⟩
end Go.Proofs.Ytlbkhiphnllfpac
