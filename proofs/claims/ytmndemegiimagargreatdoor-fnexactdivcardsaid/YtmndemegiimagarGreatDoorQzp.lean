/-
  What Quantize tells: plain facts.
-/
import Derived.Test.YtmndemegiimagarGreatDoorQza
namespace Go.Proofs.YtmndemegiimagarGreatDoor
open Go.RowKit
set_option linter.unusedVariables false
set_option maxRecDepth 100000
/-- What Quantize tells of two right numbers that are no NaNs. -/
def qzX (f mode : Int) (ka : Int) (na : Bool) (ea : Int) (sa : ByteArray) (kb : Int) (eb : Int) : R5o :=
  if ka = 2 ∧ kb = 2 then (na, (2, 0, { data := #[] }, 0))
  else if ka = 2 ∨ kb = 2 then (false, (3, 0, { data := #[] }, 1))
  else if vl (dl sa) ≠ 0 ∧ limP f < (dl sa).length + (ea - eb) then (false, (3, 0, { data := #[] }, 1))
  else if eb ≤ ea then (na, (1, eb, tx (nt (vl (dl sa) * 10 ^ (ea - eb).toNat)), 0))
  else (na, (1, eb, tx (nt (drV mode na (vl (dl sa)) (eb - ea).toNat)), if drL (vl (dl sa)) (eb - ea).toNat then 16 else 0))
/-- What Quantize tells. -/
def qzR (f mode : Int) (ka : Int) (na : Bool) (ea : Int) (sa : ByteArray) (kb : Int) (nb : Bool) (eb : Int) (sb : ByteArray) : R5o := ofR f mode 2 (tw2 ka kb) (tw2 na nb) (tw2 ea eb) (tw2 sa sb) (qzX f mode ka na ea sa kb eb)
/-- A number with another exponent, where there is room. -/
theorem wx_told (mode : Int) (na : Bool) (v ea eb : Int) (n : Nat) (h0 : 0 ≤ v) (h1 : v < 10 ^ n) (hn : n ≤ 34) (hr : v ≠ 0 → n + (ea - eb) ≤ 34) :
    Nok (v * 10 ^ (plc (ea - eb)).toNat) ∧ (eb ≤ ea → rndV mode na (v * 10 ^ (plc (ea - eb)).toNat) (plc (eb - ea)).toNat false = v * 10 ^ (ea - eb).toNat ∧ rndL (v * 10 ^ (plc (ea - eb)).toNat) (plc (eb - ea)).toNat false = false)
      ∧ (¬ eb ≤ ea → rndV mode na (v * 10 ^ (plc (ea - eb)).toNat) (plc (eb - ea)).toNat false = drV mode na v (eb - ea).toNat ∧ rndL (v * 10 ^ (plc (ea - eb)).toNat) (plc (eb - ea)).toNat false = drL v (eb - ea).toNat) := by
  have r0 : ∀ x : Int, rndV mode na x 0 false = x ∧ rndL x 0 false = false := fun x => by
    have hm : x % 10 ^ 0 = 0 := by rw [Int.pow_zero]; exact Int.emod_one _
    have hL : rndL x 0 false = false := by unfold rndL; rw [hm]; rfl
    refine ⟨?_, hL⟩
    unfold rndV rndU
    rw [hL, Int.pow_zero, Int.ediv_one]
    simp [upB, halfI, upO]
  by_cases hz : v = 0
  · subst hz
    simp only [Int.zero_mul]
    refine ⟨nok_zero, fun h => ?_, fun h => ?_⟩
    · exact rnd_zero mode na _
    · have e2 : (plc (eb - ea)).toNat = min (eb - ea).toNat 200 := by unfold plc; omega
      rw [e2]; exact ⟨rfl, rfl⟩
  · have hr' := hr hz
    have e1 : (plc (ea - eb)).toNat = (ea - eb).toNat := by unfold plc; omega
    rw [e1]
    have hN : Nok (v * 10 ^ (ea - eb).toNat) := by
      refine ⟨Int.mul_nonneg h0 (Int.le_of_lt (ten_pos _)), ?_⟩
      have a := Int.mul_lt_mul_of_pos_right h1 (ten_pos (ea - eb).toNat)
      rw [← Int.pow_add] at a
      exact Int.lt_of_lt_of_le a (pow_mono _ _ (by omega))
    refine ⟨hN, fun h => ?_, fun h => ?_⟩
    · have e2 : (plc (eb - ea)).toNat = 0 := by unfold plc; omega
      rw [e2]; exact r0 _
    · have e2 : (plc (eb - ea)).toNat = min (eb - ea).toNat 200 := by unfold plc; omega
      have e3 : (ea - eb).toNat = 0 := by omega
      rw [e2, e3, Int.pow_zero, Int.mul_one]; exact ⟨rfl, rfl⟩
end Go.Proofs.YtmndemegiimagarGreatDoor
