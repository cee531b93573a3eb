/-
  What Remainder tells: plain facts.
-/
import Derived.Test.YtnkoeidolmiheaaGreatDoorQzp
import Derived.Test.YtnkoeidolmiheaaGreatDoorSmO
namespace Go.Proofs.YtnkoeidolmiheaaGreatDoor
open Go.RowKit
set_option linter.unusedVariables false
set_option maxRecDepth 100000
/-- Is the whole number one more than the quotient rounded down? -/
def rmUp (x y : Int) : Bool := decide (y < x % y + x % y) || (decide (x % y + x % y = y) && decide (x / y % 2 = 1))
/-- Digits with the lesser exponent. -/
def rmV (v e e' : Int) : Int := v * 10 ^ (e - min e e').toNat
/-- What Remainder tells of two right numbers that are no NaNs. -/
def rmX (ka : Int) (na : Bool) (ea : Int) (sa : ByteArray) (kb : Int) (eb : Int) (sb : ByteArray) : R5o :=
  if ka = 2 ∨ zB kb sb = true then (false, (3, 0, { data := #[] }, 1))
  else if kb = 2 then (na, (ka, ea, sa, 0))
  else if 160 < max ea eb - min ea eb then (false, (3, 0, { data := #[] }, 1))
  else if rmUp (rmV (vl (dl sa)) ea eb) (rmV (vl (dl sb)) eb ea) then (!na, (1, min ea eb, tn (rmV (vl (dl sb)) eb ea - rmV (vl (dl sa)) ea eb % rmV (vl (dl sb)) eb ea), 0))
  else (na, (1, min ea eb, tn (rmV (vl (dl sa)) ea eb % rmV (vl (dl sb)) eb ea), 0))
/-- What Remainder tells. -/
def rmR (f : Int) (ka : Int) (na : Bool) (ea : Int) (sa : ByteArray) (kb : Int) (nb : Bool) (eb : Int) (sb : ByteArray) : R5o := ofR f 1 2 (tw2 ka kb) (tw2 na nb) (tw2 ea eb) (tw2 sa sb) (rmX ka na ea sa kb eb sb)
theorem min_turn (a b : Int) : min b a = min a b := by omega
theorem rm_size (f : Int) (hf : f = 64 ∨ f = 128) (da db : List Int) (ca : Canon da) (cb : Canon db) (la : (da.length : Int) ≤ limP f) (lb : (db.length : Int) ≤ limP f) (hb : vl db ≠ 0) (ea eb : Int) (hd : ¬ 160 < max ea eb - min ea eb) :
    Nok (rmV (vl da) ea eb) ∧ Nok (rmV (vl db) eb ea) ∧ 0 < rmV (vl db) eb ea ∧ Nok (rmV (vl da) ea eb / rmV (vl db) eb ea) ∧ Nok (rmV (vl da) ea eb % rmV (vl db) eb ea) ∧ Nok (rmV (vl da) ea eb % rmV (vl db) eb ea + rmV (vl da) ea eb % rmV (vl db) eb ea) ∧ rmV (vl da) ea eb % rmV (vl db) eb ea < 10 ^ (limP f).toNat
      ∧ 0 ≤ rmV (vl da) ea eb % rmV (vl db) eb ea ∧ rmV (vl da) ea eb % rmV (vl db) eb ea < rmV (vl db) eb ea
      ∧ (rmUp (rmV (vl da) ea eb) (rmV (vl db) eb ea) = true → rmV (vl db) eb ea - rmV (vl da) ea eb % rmV (vl db) eb ea ≤ rmV (vl da) ea eb % rmV (vl db) eb ea) := by
  have hP : 1 ≤ limP f ∧ limP f ≤ 34 := by rcases hf with rfl | rfl <;> decide
  have a := vl_bd da ca.1
  have b := vl_bd db cb.1
  have pa := ca.2.1
  have pb := cb.2.1
  have bnd : ∀ (d : List Int) (v e e' : Int), 0 ≤ v → v < 10 ^ d.length → d.length ≤ 34 → max e e' - min e e' ≤ 160 → 0 ≤ rmV v e e' ∧ rmV v e e' < 10 ^ 194 := fun d v e e' h0 h1 hl hm => by
    unfold rmV
    refine ⟨Int.mul_nonneg h0 (Int.le_of_lt (ten_pos _)), ?_⟩
    have := Int.mul_lt_mul_of_pos_right h1 (ten_pos (e - min e e').toNat)
    rw [← Int.pow_add] at this
    exact Int.lt_of_lt_of_le this (pow_mono _ _ (by omega))
  have ba := bnd da (vl da) ea eb a.1 a.2 (by omega) (by omega)
  have bb := bnd db (vl db) eb ea b.1 b.2 (by omega) (by omega)
  have hbp : 0 < rmV (vl db) eb ea := Int.mul_pos (by have := b.1; omega) (ten_pos _)
  have p2 : (10 : Int) ^ 195 = 10 ^ 194 * 10 := Int.pow_succ 10 194
  have p3 := pow_mono 195 200 (by decide)
  -- what is left is less than ten to the number of digits
  have hr0 := Int.emod_nonneg (rmV (vl da) ea eb) (Int.ne_of_gt hbp)
  have hr1 := Int.emod_lt_of_pos (rmV (vl da) ea eb) hbp
  have hrP : rmV (vl da) ea eb % rmV (vl db) eb ea < 10 ^ (limP f).toNat := by
    rcases Int.le_total eb ea with c | c
    · have e1 : rmV (vl db) eb ea = vl db := by
        unfold rmV
        rw [show (eb - min eb ea).toNat = 0 by omega, Int.pow_zero, Int.mul_one]
      rw [e1] at hr1 ⊢
      exact Int.lt_of_lt_of_le (Int.lt_trans hr1 b.2) (pow_mono _ _ (by omega))
    · have e1 : rmV (vl da) ea eb = vl da := by
        unfold rmV
        rw [show (ea - min ea eb).toNat = 0 by omega, Int.pow_zero, Int.mul_one]
      rw [e1]
      have h2 : vl da % rmV (vl db) eb ea ≤ vl da := by
        have e := Int.mul_ediv_add_emod (vl da) (rmV (vl db) eb ea)
        have q := Int.mul_nonneg (Int.le_of_lt hbp) (Int.ediv_nonneg a.1 (Int.le_of_lt hbp))
        omega
      exact Int.lt_of_lt_of_le (Int.lt_of_le_of_lt h2 a.2) (pow_mono _ _ (by omega))
  have hq0 := Int.ediv_nonneg ba.1 (Int.le_of_lt hbp)
  have hq1 := Int.ediv_le_self (rmV (vl db) eb ea) ba.1
  refine ⟨⟨ba.1, by omega⟩, ⟨bb.1, by omega⟩, hbp, ⟨hq0, by omega⟩, ⟨hr0, by omega⟩, ⟨by omega, by omega⟩, hrP, hr0, hr1, fun h => ?_⟩
  unfold rmUp at h
  rw [Bool.or_eq_true, Bool.and_eq_true, decide_eq_true_eq, decide_eq_true_eq] at h
  rcases h with h | h
  · omega
  · have := h.1; omega
end Go.Proofs.YtnkoeidolmiheaaGreatDoor
