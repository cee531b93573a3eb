/-
  The model's arithmetic on naturals at any strings, by the numbers that they stand for, walked.
-/
import Derived.Test.YtjgnhlldehgieaeDoorNtM
import Derived.Test.YtjgnhlldehgieaeDoorTxt8
import Derived.Test.YtjgnhlldehgieaeDoorTxt4
import Derived.Test.YtjgnhlldehgieaeDoorTxtZ
namespace Go.Proofs.YtjgnhlldehgieaeDoor
open Go.RowKit
set_option linter.unusedVariables false
set_option maxRecDepth 100000
def ok2 (s t : ByteArray) : Bool := natB 200 s && natB 200 t
theorem ok2_yes {s t : ByteArray} (h : ok2 s t = true) : natB 200 s = true ∧ natB 200 t = true := by
  unfold ok2 at h
  rw [Bool.and_eq_true] at h
  exact h
theorem ok2_no {s t : ByteArray} (h : ok2 s t = false) : natB 200 s = false ∨ (natB 200 s = true ∧ natB 200 t = false) := by
  unfold ok2 at h
  cases a : natB 200 s with
  | false => exact .inl rfl
  | true => rw [a] at h; exact .inr ⟨rfl, by simpa using h⟩
def cmpS (s t : ByteArray) : Int := if ok2 s t then cmpI (nv s) (nv t) else 2
def addS (s t : ByteArray) : ByteArray := if ok2 s t then fitS (nt (nv s + nv t)) else { data := #[] }
def subS (s t : ByteArray) : ByteArray := if ok2 s t then (if nv s < nv t then { data := #[] } else tx (nt (nv s - nv t))) else { data := #[] }
def mulS (s t : ByteArray) : ByteArray := if ok2 s t then fitS (nt (nv s * nv t)) else { data := #[] }
theorem sNatOk_any (s : ByteArray) (w : World) (hs : s.size ≤ 4611686018427387904) :
    Calls Tryd.prog 18 #[.string s] w fun e w' => e = .returned (.bool (natB 200 s)) ∧ w' = w := by
  go_enter Tryd.func18, Tryd.ntmps18
  go_wp2_with fail
  refine (l10Nat_all s 200 _ hs).mono ?_
  rintro e w' ⟨rfl, rfl⟩
  go_wp2
  go_ret
  exact ⟨rfl, rfl⟩
theorem l11Fit_all (R : List Int) (w : World) (hl : R.length ≤ 1000) :
    Calls Tryd.prog 21 #[.string (tx R)] w fun e w' => e = .returned (.string (fitS R)) ∧ w' = w := by
  have hz : (tx R).size = R.length := tx_size R
  by_cases h : R.length ≤ 200
  · have HE : Hid (fitS R = tx R) := by unfold fitS; rw [if_pos h]; rfl
    have h1 : ¬ (200 : Int) < ((tx R).size : Int) := by omega
    clear hz
    go_enter Tryd.func21, Tryd.ntmps21
    go_wp2
    go_ret
    exact ⟨by rw [HE.out]; rfl, rfl⟩
  · have HE : Hid (fitS R = { data := #[] }) := by unfold fitS; rw [if_neg h]; rfl
    have h1 : (200 : Int) < ((tx R).size : Int) := by omega
    clear hz
    go_enter Tryd.func21, Tryd.ntmps21
    go_wp2
    go_ret
    exact ⟨by rw [HE.out]; rfl, rfl⟩
theorem sNatAdd_all (s t : ByteArray) (w : World) (hs : s.size ≤ 4611686018427387904) (ht : t.size ≤ 4611686018427387904) :
    Calls Tryd.prog 8 #[.string s, .string t] w fun e w' => e = .returned (.string (addS s t)) ∧ Below w.heap.size w w' := by
  cases h : ok2 s t with
  | false =>
    have HE : Hid (addS s t = { data := #[] }) := by unfold addS; rw [h]; rfl
    rw [HE.out]
    rcases ok2_no h with h1 | ⟨h1, h2⟩
    · have H1 : Hid (natB 200 s = false) := h1
      clear h h1
      go_enter Tryd.func8, Tryd.ntmps8
      go_wp2_with fail
      refine (sNatOk_any s _ hs).mono ?_
      rintro e w' ⟨rfl, rfl⟩
      rw [H1.out]
      go_wp2
      go_ret
      exact ⟨rfl, Below.refl _ _⟩
    · have H1 : Hid (natB 200 s = true ∧ natB 200 t = false) := ⟨h1, h2⟩
      clear h h1 h2
      go_enter Tryd.func8, Tryd.ntmps8
      go_wp2_with fail
      refine (sNatOk_any s _ hs).mono ?_
      rintro e w' ⟨rfl, rfl⟩
      rw [H1.out.1]
      go_wp2_with fail
      refine (sNatOk_any t _ ht).mono ?_
      rintro e w' ⟨rfl, rfl⟩
      rw [H1.out.2]
      go_wp2
      go_ret
      exact ⟨rfl, Below.refl _ _⟩
  | true =>
    have HE : Hid (addS s t = fitS (nt (nv s + nv t))) := by show addS s t = _; unfold addS; rw [h, if_pos rfl]
    rw [HE.out]
    obtain ⟨h1, h2⟩ := ok2_yes h
    have H1 : Hid (natB 200 s = true ∧ natB 200 t = true) := ⟨h1, h2⟩
    obtain ⟨ca, la, ea⟩ := natB_dl 200 s h1
    obtain ⟨cb, lb, eb⟩ := natB_dl 200 t h2
    have HC : Hid (∀ X, Calls Tryd.prog 22 #[.string s, .string t] X fun e w' => ∃ R, e = .returned (.string (tx R)) ∧ R = nt (nv s + nv t) ∧ R.length ≤ 500 ∧ Below X.heap.size X w') := fun X => by
      have := l11Add_any (dl s) (dl t) X ca cb (by omega) (by omega)
      rw [← ea, ← eb] at this
      refine this.mono ?_
      rintro e w' ⟨R, he, hc, hv, hl, hb⟩
      have hl' : R.length ≤ 500 := by omega
      exact ⟨R, he, nt_of R _ hc hv hl', hl', hb⟩
    clear h h1 h2 ca la ea cb lb eb
    go_enter Tryd.func8, Tryd.ntmps8
    go_wp2_with fail
    refine (sNatOk_any s _ hs).mono ?_
    rintro e w' ⟨rfl, rfl⟩
    rw [H1.out.1]
    go_wp2_with fail
    refine (sNatOk_any t _ ht).mono ?_
    rintro e w' ⟨rfl, rfl⟩
    rw [H1.out.2]
    go_wp2_with fail
    refine (HC.out _).mono ?_
    rintro e w1 ⟨R, rfl, hR, hl, hb⟩
    have HR : Hid (R = nt (nv s + nv t)) := hR
    clear hR
    go_wp2_with fail
    refine (l11Fit_all R _ (by omega)).mono ?_
    rintro e w2 ⟨rfl, rfl⟩
    go_wp2
    go_ret
    exact ⟨by rw [← HR.out]; rfl, hb⟩
end Go.Proofs.YtjgnhlldehgieaeDoor
