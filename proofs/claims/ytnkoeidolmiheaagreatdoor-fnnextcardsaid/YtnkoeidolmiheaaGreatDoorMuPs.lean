/-
  Plain fact on finishing: right digits with a right exponent that is wanted stay.
-/
import Derived.Test.YtnkoeidolmiheaaGreatDoorFinA
import Derived.Test.YtnkoeidolmiheaaGreatDoorSmL
namespace Go.Proofs.YtnkoeidolmiheaaGreatDoor
set_option linter.unusedVariables false
set_option maxRecDepth 100000
/-- Right digits with a right exponent that is wanted stay. -/
theorem finD_self (f : Int) (hf : f = 64 ∨ f = 128) (mode : Int) (neg : Bool) (ds : List Int) (e : Int) (hc : Canon ds) (hl : (ds.length : Int) ≤ limP f) (h0 : limL f ≤ e) (h1 : e ≤ limH f) : finD f mode neg ds e false e = (1, e, tx ds, 0) := by
  unfold finD
  by_cases hz : ds = [0]
  · rw [if_pos hz]
    subst hz
    have et : tx [0] = { data := #[48] } := by apply ByteArray.ext; rw [tx_data]; rfl
    rw [et, show min (limH f) (max (limL f) e) = e by omega]
  · rw [if_neg hz]
    have hp : limP f ≤ 34 := (lims f hf).1
    have hj : finJ (limP f).toNat ds.length false = 0 := rfl
    have hdr : finDr (limP f).toNat ds.length (limL f) e = 0 := by unfold finDr; omega
    have hV : finV mode neg (vl ds) 0 false = vl ds := by
      unfold finV rndV rndU
      rw [if_neg (by decide)]
      have hm : vl ds % 10 ^ 0 = 0 := by rw [Int.pow_zero]; exact Int.emod_one _
      have hL : rndL (vl ds) 0 false = false := by unfold rndL; rw [hm]; rfl
      have hu : upB mode neg (halfI (vl ds % 10 ^ 0) (10 ^ 0) false 0) (rndL (vl ds) 0 false) (vl ds / 10 ^ 0) = false := by
        rw [hL]; simp [upB, halfI, upO]
      rw [hu, Int.pow_zero, Int.ediv_one]
      simp
    have hL : finLs (vl ds) 0 false = false := by
      unfold finLs
      rw [if_neg (by decide)]
      have hm : vl ds % 10 ^ 0 = 0 := by rw [Int.pow_zero]; exact Int.emod_one _
      unfold rndL; rw [hm]; rfl
    unfold finN
    simp only [hj, Nat.add_zero, Int.pow_zero, Int.mul_one]
    have e0 : e - ((0 : Nat) : Int) = e := by omega
    rw [e0, hdr, hV, hL, ← nt_of ds (vl ds) hc rfl (by omega)]
    have hT : finT (limP f).toNat ds = ds := by unfold finT; rw [if_neg (by omega)]
    have hTE : finTE (limP f).toNat ds (e + ((0 : Nat) : Int)) = e := by unfold finTE; rw [if_neg (by omega)]; omega
    have hA : fA ds e e (limH f) = 0 := by unfold fA; omega
    have hB : fB (ds.length - 0) (limP f).toNat (e + ((0 : Nat) : Int)) e (limL f) = 0 := by unfold fB; omega
    have h3D : fin3D false ds e e (limL f) (limH f) (limP f).toNat = ds := by unfold fin3D; rw [hA, hB]; simp
    have h3E : fin3E false ds e e (limL f) (limH f) (limP f).toNat = e := by unfold fin3E; rw [hA, hB]; simp
    rw [hT, hTE, h3D, h3E]
    have hC : fC ds.length (limP f).toNat e (limH f) = 0 := by unfold fC; omega
    unfold fin5
    have h4E : fin4E ds e (limH f) (limP f).toNat = e := by unfold fin4E; rw [hC]; omega
    have h4D : fin4D ds e (limH f) (limP f).toNat = ds := by unfold fin4D; rw [hC]; simp
    rw [h4E, h4D, if_pos h1]
    rfl
end Go.Proofs.YtnkoeidolmiheaaGreatDoor
