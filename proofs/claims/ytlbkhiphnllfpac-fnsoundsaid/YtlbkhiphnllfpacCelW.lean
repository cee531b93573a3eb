/-
  The laws' pick of a number off a code; what Sound's answer tells of the cells: for the laws on tables.
-/
import Derived.Test.YtlbkhiphnllfpacCel5
import Derived.Test.YtlbkhiphnllfpacCellN
namespace Go.Proofs.Ytlbkhiphnllfpac
open Go.RowKit
set_option linter.unusedVariables false
set_option maxRecDepth 100000
theorem sdY_none (a U T D : Int) (f : Nat) (Y : Int) (h : sdY a U T D f Y = none) (y : Int) (h0 : Y ≤ y) (h1 : y < Y + (f : Int)) : (cel a U T D y).1 ≠ 4 := by
  induction f generalizing Y with
  | zero => omega
  | succ f ih =>
    unfold sdY at h
    split at h
    · cases h
    · rename_i hc
      rcases (show y = Y ∨ Y + 1 ≤ y by omega) with rfl | hy
      · exact hc
      · exact ih (Y + 1) h hy (by omega)
theorem sdY_some (a U T D : Int) (f : Nat) (Y y : Int) (h : sdY a U T D f Y = some y) : (cel a U T D y).1 = 4 := by
  induction f generalizing Y with
  | zero => cases h
  | succ f ih =>
    unfold sdY at h
    split at h
    · rename_i hc; cases h; exact hc
    · exact ih (Y + 1) h
theorem sdD_out (a u t : Int) (f : Nat) (D : Int) :
    (sdD a u t f D = (0, 0, 0) ∧ ∀ x, D ≤ x → x < D + (f : Int) → sdY a (10 ^ u.toNat) (10 ^ t.toNat) x (2 * bnd a u t x + 3).toNat (-(bnd a u t x) - 2) = none) ∨
    (∃ x y, sdD a u t f D = (4, x, y) ∧ D ≤ x ∧ x < D + (f : Int) ∧ (cel a (10 ^ u.toNat) (10 ^ t.toNat) x y).1 = 4) := by
  induction f generalizing D with
  | zero => exact .inl ⟨rfl, fun x h0 h1 => by omega⟩
  | succ f ih =>
    unfold sdD
    cases hs : sdY a (10 ^ u.toNat) (10 ^ t.toNat) D (2 * bnd a u t D + 3).toNat (-(bnd a u t D) - 2) with
    | some y => exact .inr ⟨D, y, rfl, Int.le_refl _, by omega, sdY_some _ _ _ _ _ _ _ hs⟩
    | none =>
      rcases ih (D + 1) with ⟨h, k⟩ | ⟨x, y, h, h0, h1, h2⟩
      · refine .inl ⟨h, fun x h0 h1 => ?_⟩
        rcases (show x = D ∨ D + 1 ≤ x by omega) with rfl | hx
        · exact hs
        · exact k x hx (by omega)
      · exact .inr ⟨x, y, h, by omega, by omega, h2⟩
/-- The cells of a divisor that are reached. -/
theorem bnd_reach (a u t d Y : Int) (hp : prm a u t = true) (hr : rgd u d = true) : cnE (9 * 10 ^ u.toNat) (10 * a * 10 ^ t.toNat) d Y 2 ≠ [] ↔ (-(bnd a u t d) - 2 ≤ Y ∧ Y ≤ bnd a u t d) := by
  obtain ⟨ha, hu, ht⟩ := prm_parts a u t hp
  have hd := rgd_bd u d hu hr
  have hT := pow12 t ht
  have hU := pow12 u hu
  unfold bnd
  rw [if_pos ⟨hp, hr⟩]
  generalize (10 : Int) ^ t.toNat = T at *
  generalize (10 : Int) ^ u.toNat = U at *
  have m1 : 0 ≤ 10 * a * T := Int.mul_nonneg (show 0 ≤ 10 * a by omega) (show 0 ≤ T by omega)
  rw [reach_iff (9 * U) (10 * a * T) d Y (by omega) m1 (by omega)]
  have hp0 : 0 < 9 * U := by omega
  constructor
  · rintro ⟨h0, h1⟩
    have e1 : Y ≤ 10 * a * T * (d + 1) / (9 * U) := (Int.le_ediv_iff_mul_le hp0).2 h0
    have e2 : -(Y + 2) ≤ 10 * a * T * (d + 1) / (9 * U) := (Int.le_ediv_iff_mul_le hp0).2 (by rw [Int.neg_mul]; omega)
    omega
  · rintro ⟨h0, h1⟩
    have e1 := (Int.le_ediv_iff_mul_le hp0).1 h1
    have e2 := (Int.le_ediv_iff_mul_le hp0).1 (show -(Y + 2) ≤ 10 * a * T * (d + 1) / (9 * U) by omega)
    rw [Int.neg_mul] at e2
    exact ⟨e1, by omega⟩
end Go.Proofs.Ytlbkhiphnllfpac
