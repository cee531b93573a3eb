/-
  The model's arithmetic on naturals at any strings, by the numbers that they stand for, walked.
-/
import Derived.Test.YtmjkpjmccdjkjaqNtM
import Derived.Test.YtmjkpjmccdjkjaqTxt8
import Derived.Test.YtmjkpjmccdjkjaqTxt4
import Derived.Test.YtmjkpjmccdjkjaqTxtZ
namespace Go.Proofs.Ytmjkpjmccdjkjaq
open Go.RowKit
set_option linter.unusedVariables false
def ok2 (s t : ByteArray) : Bool := natB 200 s && natB 200 t
theorem ok2_yes {s t : ByteArray} (h : ok2 s t = true) : natB 200 s = true ∧ natB 200 t = true := by
  unfold ok2 at h
  rw [Bool.and_eq_true] at h
  exact h
theorem ok2_no {s t : ByteArray} (h : ok2 s t = false) : natB 200 s = false ∨ (natB 200 s = true ∧ natB 200 t = false) := by
  unfold ok2 at h
  cases a : natB 200 s with
  | false => exact .inl rfl
  | true => rw [a] at h; exact .inr ⟨rfl, by simpa using h⟩
def cmpS (s t : ByteArray) : Int := if ok2 s t then cmpI (nv s) (nv t) else 2
def addS (s t : ByteArray) : ByteArray := if ok2 s t then fitS (nt (nv s + nv t)) else { data := #[] }
def subS (s t : ByteArray) : ByteArray := if ok2 s t then (if nv s < nv t then { data := #[] } else tx (nt (nv s - nv t))) else { data := #[] }
def mulS (s t : ByteArray) : ByteArray := if ok2 s t then fitS (nt (nv s * nv t)) else { data := #[] }
theorem sNatOk_any (s : ByteArray) (w : World) (hs : s.size ≤ 4611686018427387904) :
    Calls Try.prog 18 #[.string s] w fun e w' => e = .returned (.bool (natB 200 s)) ∧ w' = w := by
  go_enter Try.func18, Try.ntmps18
  go_wp2_with fail
  refine (l10Nat_all s 200 _ hs).mono ?_
  rintro e w' ⟨rfl, rfl⟩
  go_wp2
  go_ret
  exact ⟨rfl, rfl⟩
theorem l11Fit_all (R : List Int) (w : World) (hl : R.length ≤ 1000) :
    Calls Try.prog 25 #[.string (tx R)] w fun e w' => e = .returned (.string (fitS R)) ∧ w' = w := by
  have hz : (tx R).size = R.length := tx_size R
  by_cases h : R.length ≤ 200
  · have HE : Hid (fitS R = tx R) := by unfold fitS; rw [if_pos h]; rfl
    have h1 : ¬ (200 : Int) < ((tx R).size : Int) := by omega
    clear hz
    go_enter Try.func25, Try.ntmps25
    go_wp2
    go_ret
    exact ⟨by rw [HE.out]; rfl, rfl⟩
  · have HE : Hid (fitS R = { data := #[] }) := by unfold fitS; rw [if_neg h]; rfl
    have h1 : (200 : Int) < ((tx R).size : Int) := by omega
    clear hz
    go_enter Try.func25, Try.ntmps25
    go_wp2
    go_ret
    exact ⟨by rw [HE.out]; rfl, rfl⟩
end Go.Proofs.Ytmjkpjmccdjkjaq
