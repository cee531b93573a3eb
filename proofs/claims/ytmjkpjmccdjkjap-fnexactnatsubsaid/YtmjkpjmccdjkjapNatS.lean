/-
  The model's arithmetic on naturals at any strings, by the numbers that they stand for, walked.
-/
import Derived.Test.YtmjkpjmccdjkjapNtM
import Derived.Test.YtmjkpjmccdjkjapTxt8
import Derived.Test.YtmjkpjmccdjkjapTxt4
import Derived.Test.YtmjkpjmccdjkjapTxtZ
namespace Go.Proofs.Ytmjkpjmccdjkjap
open Go.RowKit
set_option linter.unusedVariables false
def ok2 (s t : ByteArray) : Bool := natB 200 s && natB 200 t
theorem ok2_yes {s t : ByteArray} (h : ok2 s t = true) : natB 200 s = true ∧ natB 200 t = true := by
  unfold ok2 at h
  rw [Bool.and_eq_true] at h
  exact h
theorem ok2_no {s t : ByteArray} (h : ok2 s t = false) : natB 200 s = false ∨ (natB 200 s = true ∧ natB 200 t = false) := by
  unfold ok2 at h
  cases a : natB 200 s with
  | false => exact .inl rfl
  | true => rw [a] at h; exact .inr ⟨rfl, by simpa using h⟩
def cmpS (s t : ByteArray) : Int := if ok2 s t then cmpI (nv s) (nv t) else 2
def addS (s t : ByteArray) : ByteArray := if ok2 s t then fitS (nt (nv s + nv t)) else { data := #[] }
def subS (s t : ByteArray) : ByteArray := if ok2 s t then (if nv s < nv t then { data := #[] } else tx (nt (nv s - nv t))) else { data := #[] }
def mulS (s t : ByteArray) : ByteArray := if ok2 s t then fitS (nt (nv s * nv t)) else { data := #[] }
theorem sNatOk_any (s : ByteArray) (w : World) (hs : s.size ≤ 4611686018427387904) :
    Calls Try.prog 9 #[.string s] w fun e w' => e = .returned (.bool (natB 200 s)) ∧ w' = w := by
  go_enter Try.func9, Try.ntmps9
  go_wp2_with fail
  refine (l10Nat_all s 200 _ hs).mono ?_
  rintro e w' ⟨rfl, rfl⟩
  go_wp2
  go_ret
  exact ⟨rfl, rfl⟩
theorem l11Fit_all (R : List Int) (w : World) (hl : R.length ≤ 1000) :
    Calls Try.prog 26 #[.string (tx R)] w fun e w' => e = .returned (.string (fitS R)) ∧ w' = w := by
  have hz : (tx R).size = R.length := tx_size R
  by_cases h : R.length ≤ 200
  · have HE : Hid (fitS R = tx R) := by unfold fitS; rw [if_pos h]; rfl
    have h1 : ¬ (200 : Int) < ((tx R).size : Int) := by omega
    clear hz
    go_enter Try.func26, Try.ntmps26
    go_wp2
    go_ret
    exact ⟨by rw [HE.out]; rfl, rfl⟩
  · have HE : Hid (fitS R = { data := #[] }) := by unfold fitS; rw [if_neg h]; rfl
    have h1 : (200 : Int) < ((tx R).size : Int) := by omega
    clear hz
    go_enter Try.func26, Try.ntmps26
    go_wp2
    go_ret
    exact ⟨by rw [HE.out]; rfl, rfl⟩
theorem sNatCmp_any (s t : ByteArray) (w : World) (hs : s.size ≤ 4611686018427387904) (ht : t.size ≤ 4611686018427387904) :
    Calls Try.prog 11 #[.string s, .string t] w fun e w' => e = .returned (.int .i64 (cmpS s t)) ∧ Below w.heap.size w w' := by
  cases h : ok2 s t with
  | false =>
    have HE : Hid (cmpS s t = 2) := by unfold cmpS; rw [h]; rfl
    rw [HE.out]
    rcases ok2_no h with h1 | ⟨h1, h2⟩
    · have H1 : Hid (natB 200 s = false) := h1
      clear h h1
      go_enter Try.func11, Try.ntmps11
      go_wp2_with fail
      refine (sNatOk_any s _ hs).mono ?_
      rintro e w' ⟨rfl, rfl⟩
      rw [H1.out]
      go_wp2
      go_ret
      exact ⟨rfl, Below.refl _ _⟩
    · have H1 : Hid (natB 200 s = true ∧ natB 200 t = false) := ⟨h1, h2⟩
      clear h h1 h2
      go_enter Try.func11, Try.ntmps11
      go_wp2_with fail
      refine (sNatOk_any s _ hs).mono ?_
      rintro e w' ⟨rfl, rfl⟩
      rw [H1.out.1]
      go_wp2_with fail
      refine (sNatOk_any t _ ht).mono ?_
      rintro e w' ⟨rfl, rfl⟩
      rw [H1.out.2]
      go_wp2
      go_ret
      exact ⟨rfl, Below.refl _ _⟩
  | true =>
    have HE : Hid (cmpS s t = cmpI (nv s) (nv t)) := by unfold cmpS; rw [h]; rfl
    rw [HE.out]
    obtain ⟨h1, h2⟩ := ok2_yes h
    have H1 : Hid (natB 200 s = true ∧ natB 200 t = true) := ⟨h1, h2⟩
    obtain ⟨ca, la, ea⟩ := natB_dl 200 s h1
    obtain ⟨cb, lb, eb⟩ := natB_dl 200 t h2
    have HC : Hid (∀ X, Calls Try.prog 23 #[.string s, .string t] X fun e w' => e = .returned (.int .i64 (cmpI (nv s) (nv t))) ∧ Below X.heap.size X w') := fun X => by
      have := l11Cmp_any (dl s) (dl t) X ca cb (by omega) (by omega)
      rw [← ea, ← eb] at this
      exact this
    clear h h1 h2 ca la ea cb lb eb
    go_enter Try.func11, Try.ntmps11
    go_wp2_with fail
    refine (sNatOk_any s _ hs).mono ?_
    rintro e w' ⟨rfl, rfl⟩
    rw [H1.out.1]
    go_wp2_with fail
    refine (sNatOk_any t _ ht).mono ?_
    rintro e w' ⟨rfl, rfl⟩
    rw [H1.out.2]
    go_wp2_with fail
    refine (HC.out _).mono ?_
    rintro e w1 ⟨rfl, hb⟩
    go_wp2
    go_ret
    exact ⟨rfl, hb⟩
theorem sNatAdd_all (s t : ByteArray) (w : World) (hs : s.size ≤ 4611686018427387904) (ht : t.size ≤ 4611686018427387904) :
    Calls Try.prog 13 #[.string s, .string t] w fun e w' => e = .returned (.string (addS s t)) ∧ Below w.heap.size w w' := by
  cases h : ok2 s t with
  | false =>
    have HE : Hid (addS s t = { data := #[] }) := by unfold addS; rw [h]; rfl
    rw [HE.out]
    rcases ok2_no h with h1 | ⟨h1, h2⟩
    · have H1 : Hid (natB 200 s = false) := h1
      clear h h1
      go_enter Try.func13, Try.ntmps13
      go_wp2_with fail
      refine (sNatOk_any s _ hs).mono ?_
      rintro e w' ⟨rfl, rfl⟩
      rw [H1.out]
      go_wp2
      go_ret
      exact ⟨rfl, Below.refl _ _⟩
    · have H1 : Hid (natB 200 s = true ∧ natB 200 t = false) := ⟨h1, h2⟩
      clear h h1 h2
      go_enter Try.func13, Try.ntmps13
      go_wp2_with fail
      refine (sNatOk_any s _ hs).mono ?_
      rintro e w' ⟨rfl, rfl⟩
      rw [H1.out.1]
      go_wp2_with fail
      refine (sNatOk_any t _ ht).mono ?_
      rintro e w' ⟨rfl, rfl⟩
      rw [H1.out.2]
      go_wp2
      go_ret
      exact ⟨rfl, Below.refl _ _⟩
  | true =>
    have HE : Hid (addS s t = fitS (nt (nv s + nv t))) := by show addS s t = _; unfold addS; rw [h, if_pos rfl]
    rw [HE.out]
    obtain ⟨h1, h2⟩ := ok2_yes h
    have H1 : Hid (natB 200 s = true ∧ natB 200 t = true) := ⟨h1, h2⟩
    obtain ⟨ca, la, ea⟩ := natB_dl 200 s h1
    obtain ⟨cb, lb, eb⟩ := natB_dl 200 t h2
    have HC : Hid (∀ X, Calls Try.prog 27 #[.string s, .string t] X fun e w' => ∃ R, e = .returned (.string (tx R)) ∧ R = nt (nv s + nv t) ∧ R.length ≤ 500 ∧ Below X.heap.size X w') := fun X => by
      have := l11Add_any (dl s) (dl t) X ca cb (by omega) (by omega)
      rw [← ea, ← eb] at this
      refine this.mono ?_
      rintro e w' ⟨R, he, hc, hv, hl, hb⟩
      have hl' : R.length ≤ 500 := by omega
      exact ⟨R, he, nt_of R _ hc hv hl', hl', hb⟩
    clear h h1 h2 ca la ea cb lb eb
    go_enter Try.func13, Try.ntmps13
    go_wp2_with fail
    refine (sNatOk_any s _ hs).mono ?_
    rintro e w' ⟨rfl, rfl⟩
    rw [H1.out.1]
    go_wp2_with fail
    refine (sNatOk_any t _ ht).mono ?_
    rintro e w' ⟨rfl, rfl⟩
    rw [H1.out.2]
    go_wp2_with fail
    refine (HC.out _).mono ?_
    rintro e w1 ⟨R, rfl, hR, hl, hb⟩
    have HR : Hid (R = nt (nv s + nv t)) := hR
    clear hR
    go_wp2_with fail
    refine (l11Fit_all R _ (by omega)).mono ?_
    rintro e w2 ⟨rfl, rfl⟩
    go_wp2
    go_ret
    exact ⟨by rw [← HR.out]; rfl, hb⟩
theorem sNatMul_all (s t : ByteArray) (w : World) (hs : s.size ≤ 4611686018427387904) (ht : t.size ≤ 4611686018427387904) :
    Calls Try.prog 17 #[.string s, .string t] w fun e w' => e = .returned (.string (mulS s t)) ∧ Below w.heap.size w w' := by
  cases h : ok2 s t with
  | false =>
    have HE : Hid (mulS s t = { data := #[] }) := by unfold mulS; rw [h]; rfl
    rw [HE.out]
    rcases ok2_no h with h1 | ⟨h1, h2⟩
    · have H1 : Hid (natB 200 s = false) := h1
      clear h h1
      go_enter Try.func17, Try.ntmps17
      go_wp2_with fail
      refine (sNatOk_any s _ hs).mono ?_
      rintro e w' ⟨rfl, rfl⟩
      rw [H1.out]
      go_wp2
      go_ret
      exact ⟨rfl, Below.refl _ _⟩
    · have H1 : Hid (natB 200 s = true ∧ natB 200 t = false) := ⟨h1, h2⟩
      clear h h1 h2
      go_enter Try.func17, Try.ntmps17
      go_wp2_with fail
      refine (sNatOk_any s _ hs).mono ?_
      rintro e w' ⟨rfl, rfl⟩
      rw [H1.out.1]
      go_wp2_with fail
      refine (sNatOk_any t _ ht).mono ?_
      rintro e w' ⟨rfl, rfl⟩
      rw [H1.out.2]
      go_wp2
      go_ret
      exact ⟨rfl, Below.refl _ _⟩
  | true =>
    have HE : Hid (mulS s t = fitS (nt (nv s * nv t))) := by show mulS s t = _; unfold mulS; rw [h, if_pos rfl]
    rw [HE.out]
    obtain ⟨h1, h2⟩ := ok2_yes h
    have H1 : Hid (natB 200 s = true ∧ natB 200 t = true) := ⟨h1, h2⟩
    obtain ⟨ca, la, ea⟩ := natB_dl 200 s h1
    obtain ⟨cb, lb, eb⟩ := natB_dl 200 t h2
    have HC : Hid (∀ X, Calls Try.prog 32 #[.string s, .string t] X fun e w' => ∃ R, e = .returned (.string (tx R)) ∧ R = nt (nv s * nv t) ∧ R.length ≤ 500 ∧ Below X.heap.size X w') := fun X => by
      have := l11Mul_any (dl s) (dl t) X ca cb (by omega) (by omega)
      rw [← ea, ← eb] at this
      refine this.mono ?_
      rintro e w' ⟨R, he, hc, hv, hl, hb⟩
      have hl' : R.length ≤ 500 := by omega
      exact ⟨R, he, nt_of R _ hc hv hl', hl', hb⟩
    clear h h1 h2 ca la ea cb lb eb
    go_enter Try.func17, Try.ntmps17
    go_wp2_with fail
    refine (sNatOk_any s _ hs).mono ?_
    rintro e w' ⟨rfl, rfl⟩
    rw [H1.out.1]
    go_wp2_with fail
    refine (sNatOk_any t _ ht).mono ?_
    rintro e w' ⟨rfl, rfl⟩
    rw [H1.out.2]
    go_wp2_with fail
    refine (HC.out _).mono ?_
    rintro e w1 ⟨R, rfl, hR, hl, hb⟩
    have HR : Hid (R = nt (nv s * nv t)) := hR
    clear hR
    go_wp2_with fail
    refine (l11Fit_all R _ (by omega)).mono ?_
    rintro e w2 ⟨rfl, rfl⟩
    go_wp2
    go_ret
    exact ⟨by rw [← HR.out]; rfl, hb⟩
theorem sNatSub_all (s t : ByteArray) (w : World) (hs : s.size ≤ 4611686018427387904) (ht : t.size ≤ 4611686018427387904) :
    Calls Try.prog 15 #[.string s, .string t] w fun e w' => e = .returned (.string (subS s t)) ∧ Below w.heap.size w w' := by
  cases h : ok2 s t with
  | false =>
    have HE : Hid (subS s t = { data := #[] }) := by unfold subS; rw [h]; rfl
    rw [HE.out]
    rcases ok2_no h with h1 | ⟨h1, h2⟩
    · have H1 : Hid (natB 200 s = false) := h1
      clear h h1
      go_enter Try.func15, Try.ntmps15
      go_wp2_with fail
      refine (sNatOk_any s _ hs).mono ?_
      rintro e w' ⟨rfl, rfl⟩
      rw [H1.out]
      go_wp2
      go_ret
      exact ⟨rfl, Below.refl _ _⟩
    · have H1 : Hid (natB 200 s = true ∧ natB 200 t = false) := ⟨h1, h2⟩
      clear h h1 h2
      go_enter Try.func15, Try.ntmps15
      go_wp2_with fail
      refine (sNatOk_any s _ hs).mono ?_
      rintro e w' ⟨rfl, rfl⟩
      rw [H1.out.1]
      go_wp2_with fail
      refine (sNatOk_any t _ ht).mono ?_
      rintro e w' ⟨rfl, rfl⟩
      rw [H1.out.2]
      go_wp2
      go_ret
      exact ⟨rfl, Below.refl _ _⟩
  | true =>
    obtain ⟨h1, h2⟩ := ok2_yes h
    have H1 : Hid (natB 200 s = true ∧ natB 200 t = true) := ⟨h1, h2⟩
    obtain ⟨ca, la, ea⟩ := natB_dl 200 s h1
    obtain ⟨cb, lb, eb⟩ := natB_dl 200 t h2
    have HC : Hid (∀ X, Calls Try.prog 23 #[.string s, .string t] X fun e w' => e = .returned (.int .i64 (cmpI (nv s) (nv t))) ∧ Below X.heap.size X w') := fun X => by
      have := l11Cmp_any (dl s) (dl t) X ca cb (by omega) (by omega)
      rw [← ea, ← eb] at this
      exact this
    by_cases hlt : nv s < nv t
    · have HE : Hid (subS s t = { data := #[] }) := by show subS s t = _; unfold subS; rw [h, if_pos rfl, if_pos hlt]
      rw [HE.out]
      have HL : Hid (cmpI (nv s) (nv t) = -1) := cmpI_lt _ _ hlt
      clear h h1 h2 ca la ea cb lb eb hlt
      go_enter Try.func15, Try.ntmps15
      go_wp2_with fail
      refine (sNatOk_any s _ hs).mono ?_
      rintro e w' ⟨rfl, rfl⟩
      rw [H1.out.1]
      go_wp2_with fail
      refine (sNatOk_any t _ ht).mono ?_
      rintro e w' ⟨rfl, rfl⟩
      rw [H1.out.2]
      go_wp2_with fail
      refine (HC.out _).mono ?_
      rintro e w1 ⟨rfl, hb⟩
      rw [HL.out]
      go_wp2
      go_ret
      exact ⟨rfl, hb⟩
    · have HE : Hid (subS s t = tx (nt (nv s - nv t))) := by show subS s t = _; unfold subS; rw [h, if_pos rfl, if_neg hlt]
      rw [HE.out]
      have hle : 0 ≤ cmpI (nv s) (nv t) ∧ cmpI (nv s) (nv t) ≤ 1 := by unfold cmpI; rw [if_neg hlt]; split <;> omega
      have HS : Hid (∀ X, Calls Try.prog 30 #[.string s, .string t] X fun e w' => e = .returned (.string (tx (nt (nv s - nv t)))) ∧ Below X.heap.size X w') := fun X => by
        have := l11Sub_any (dl s) (dl t) X ca cb (by omega) (by unfold nv at hlt; omega)
        rw [← ea, ← eb] at this
        refine this.mono ?_
        rintro e w' ⟨R, he, hc, hv, hl, hb⟩
        rw [nt_of R _ hc hv (by omega)] at he
        exact ⟨he, hb⟩
      clear h h1 h2 ca la ea cb lb eb hlt
      generalize cmpI (nv s) (nv t) = C at *
      have hC : ¬ C < 0 := by omega
      go_enter Try.func15, Try.ntmps15
      go_wp2_with fail
      refine (sNatOk_any s _ hs).mono ?_
      rintro e w' ⟨rfl, rfl⟩
      rw [H1.out.1]
      go_wp2_with fail
      refine (sNatOk_any t _ ht).mono ?_
      rintro e w' ⟨rfl, rfl⟩
      rw [H1.out.2]
      go_wp2_with fail
      refine (HC.out _).mono ?_
      rintro e w1 ⟨rfl, hb⟩
      have hs1 := hb.size
      go_wp2_with fail
      refine (HS.out _).mono ?_
      rintro e w2 ⟨rfl, hb2⟩
      have HB : Hid (Below w1.heap.size w1 w2) := hb2
      clear hb2
      go_wp2
      go_ret
      exact ⟨rfl, hb.trans (HB.out.mono hs1)⟩
end Go.Proofs.Ytmjkpjmccdjkjap
