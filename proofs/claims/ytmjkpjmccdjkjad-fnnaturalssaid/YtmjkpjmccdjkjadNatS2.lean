/-
  The model's quotients, roots and shifts of naturals at any strings, walked.
-/
import Derived.Test.YtmjkpjmccdjkjadNatS
import Derived.Test.YtmjkpjmccdjkjadTxt6
namespace Go.Proofs.Ytmjkpjmccdjkjad
open Go.RowKit
set_option linter.unusedVariables false
def divQ (s t : ByteArray) : ByteArray := if ok2 s t then (if nv t = 0 then { data := #[] } else tx (nt (nv s / nv t))) else { data := #[] }
def divR (s t : ByteArray) : ByteArray := if ok2 s t then (if nv t = 0 then { data := #[] } else tx (nt (nv s % nv t))) else { data := #[] }
theorem canon_nought (a : List Int) (h : Canon a) (hv : vl a = 0) : a = [0] := canon_unique a [0] h canon_zero (by rw [hv]; rfl)
theorem is0 (t : ByteArray) (h : natB 200 t = true) : (t.toList == [48]) = decide (nv t = 0) := by
  obtain ⟨hc, -, e⟩ := natB_dl 200 t h
  by_cases hz : nv t = 0
  · rw [decide_eq_true hz, e, canon_nought (dl t) hc hz, tx_zero]; rfl
  · rw [decide_eq_false hz, e]
    exact tx_is0 (dl t) hc.1 (fun c => hz (by unfold nv; rw [c]; rfl))
theorem sNatDiv_all (s t : ByteArray) (w : World) (hs : s.size ≤ 4611686018427387904) (ht : t.size ≤ 4611686018427387904) :
    Calls Try.prog 26 #[.string s, .string t] w fun e w' => e = .returned (.tuple #[.string (divQ s t), .string (divR s t)]) ∧ Below w.heap.size w w' := by
  cases h : ok2 s t with
  | false =>
    have HE : Hid (divQ s t = { data := #[] } ∧ divR s t = { data := #[] }) := by unfold divQ divR; rw [h]; exact ⟨rfl, rfl⟩
    rw [HE.out.1, HE.out.2]
    rcases ok2_no h with h1 | ⟨h1, h2⟩
    · have H1 : Hid (natB 200 s = false) := h1
      clear h h1
      go_enter Try.func26, Try.ntmps26
      go_wp2_with fail
      refine (sNatOk_any s _ hs).mono ?_
      rintro e w' ⟨rfl, rfl⟩
      rw [H1.out]
      go_wp2
      go_ret2
      exact ⟨rfl, Below.refl _ _⟩
    · have H1 : Hid (natB 200 s = true ∧ natB 200 t = false) := ⟨h1, h2⟩
      clear h h1 h2
      go_enter Try.func26, Try.ntmps26
      go_wp2_with fail
      refine (sNatOk_any s _ hs).mono ?_
      rintro e w' ⟨rfl, rfl⟩
      rw [H1.out.1]
      go_wp2_with fail
      refine (sNatOk_any t _ ht).mono ?_
      rintro e w' ⟨rfl, rfl⟩
      rw [H1.out.2]
      go_wp2
      go_ret2
      exact ⟨rfl, Below.refl _ _⟩
  | true =>
    obtain ⟨h1, h2⟩ := ok2_yes h
    have H1 : Hid (natB 200 s = true ∧ natB 200 t = true) := ⟨h1, h2⟩
    obtain ⟨ca, la, ea⟩ := natB_dl 200 s h1
    obtain ⟨cb, lb, eb⟩ := natB_dl 200 t h2
    have hi := is0 t h2
    by_cases hz : nv t = 0
    · have HE : Hid (divQ s t = { data := #[] } ∧ divR s t = { data := #[] }) := by
        show _ ∧ _
        unfold divQ divR; rw [h, if_pos rfl, if_pos rfl, if_pos hz, if_pos hz]; exact ⟨rfl, rfl⟩
      rw [HE.out.1, HE.out.2]
      rw [decide_eq_true hz] at hi
      clear h h1 h2 ca la ea cb lb eb hz
      go_enter Try.func26, Try.ntmps26
      go_wp2_with fail
      refine (sNatOk_any s _ hs).mono ?_
      rintro e w' ⟨rfl, rfl⟩
      rw [H1.out.1]
      go_wp2_with fail
      refine (sNatOk_any t _ ht).mono ?_
      rintro e w' ⟨rfl, rfl⟩
      rw [H1.out.2]
      go_wp2
      go_ret2
      exact ⟨rfl, Below.refl _ _⟩
    · have HE : Hid (divQ s t = tx (nt (nv s / nv t)) ∧ divR s t = tx (nt (nv s % nv t))) := by
        show _ ∧ _
        unfold divQ divR; rw [h, if_pos rfl, if_pos rfl, if_neg hz, if_neg hz]; exact ⟨rfl, rfl⟩
      rw [HE.out.1, HE.out.2]
      rw [decide_eq_false hz] at hi
      have HS : Hid (∀ X, Calls Try.prog 54 #[.string s, .string t] X fun e w' => e = .returned (.tuple #[.string (tx (nt (nv s / nv t))), .string (tx (nt (nv s % nv t)))]) ∧ Below X.heap.size X w') := fun X => by
        have hp : 0 < vl (dl t) := by have := (vl_bd (dl t) cb.1).1; unfold nv at hz; omega
        have := l11Div_any (dl s) (dl t) X ca cb (by omega) (by omega) hp
        rw [← ea, ← eb] at this
        refine this.mono ?_
        rintro e w' ⟨Q, R, he, hc, hc2, hv, hv2, hl, hl2, hb⟩
        rw [nt_of Q _ hc hv (by omega), nt_of R _ hc2 hv2 (by omega)] at he
        exact ⟨he, hb⟩
      clear h h1 h2 ca la ea cb lb eb hz
      go_enter Try.func26, Try.ntmps26
      go_wp2_with fail
      refine (sNatOk_any s _ hs).mono ?_
      rintro e w' ⟨rfl, rfl⟩
      rw [H1.out.1]
      go_wp2_with fail
      refine (sNatOk_any t _ ht).mono ?_
      rintro e w' ⟨rfl, rfl⟩
      rw [H1.out.2]
      go_wp2_with fail
      refine (HS.out _).mono ?_
      rintro e w2 ⟨rfl, hb2⟩
      have HB : Hid (Below _ _ w2) := hb2
      clear hb2
      go_wp2
      go_ret2
      exact ⟨rfl, HB.out⟩
def shiftS (s : ByteArray) (n : Int) : ByteArray := if natB 200 s && (decide (0 ≤ n) && decide (n ≤ 200)) then fitS (nt (nv s * 10 ^ n.toNat)) else { data := #[] }
theorem l11Shift_all (a : List Int) (n : Nat) (w : World) (ha : Canon a) (la : a.length ≤ 200) (hn : n ≤ 200) :
    Calls Try.prog 42 #[.string (tx a), .int .i64 n] w fun e w' => ∃ R, e = .returned (.string (tx R)) ∧ R = nt (vl a * 10 ^ n) ∧ R.length ≤ 500 ∧ Below w.heap.size w w' := by
  rcases Nat.eq_zero_or_pos n with h | h
  · subst h
    refine (l11Shift_none a w ha la).mono ?_
    rintro e w' ⟨rfl, hb⟩
    exact ⟨a, rfl, nt_of a _ ha (by simp) (by omega), by omega, hb⟩
  · refine (l11Shift_any a n w ha la h hn).mono ?_
    rintro e w' ⟨R, rfl, hc, hv, hl, hb⟩
    exact ⟨R, rfl, nt_of R _ hc hv (by omega), by omega, hb⟩
theorem sNatShift_all (s : ByteArray) (n : Int) (w : World) (hs : s.size ≤ 4611686018427387904) :
    Calls Try.prog 15 #[.string s, .int .i64 n] w fun e w' => e = .returned (.string (shiftS s n)) ∧ Below w.heap.size w w' := by
  cases h : natB 200 s with
  | false =>
    have HE : Hid (shiftS s n = { data := #[] }) := by show shiftS s n = _; unfold shiftS; rw [h]; rfl
    rw [HE.out]
    have H1 : Hid (natB 200 s = false) := h
    clear h
    go_enter Try.func15, Try.ntmps15
    go_wp2_with fail
    refine (sNatOk_any s _ hs).mono ?_
    rintro e w' ⟨rfl, rfl⟩
    rw [H1.out]
    go_wp2
    go_ret
    exact ⟨rfl, Below.refl _ _⟩
  | true =>
    have H1 : Hid (natB 200 s = true) := h
    by_cases hn : 0 ≤ n ∧ n ≤ 200
    · have HE : Hid (shiftS s n = fitS (nt (nv s * 10 ^ n.toNat))) := by show shiftS s n = _; unfold shiftS; rw [h, decide_eq_true hn.1, decide_eq_true hn.2]; exact if_pos (by decide)
      rw [HE.out]
      obtain ⟨ca, la, ea⟩ := natB_dl 200 s h
      obtain ⟨m, rfl⟩ := Int.eq_ofNat_of_zero_le hn.1
      have HC : Hid (∀ X, Calls Try.prog 42 #[.string s, .int .i64 (m : Int)] X fun e w' => ∃ R, e = .returned (.string (tx R)) ∧ R = nt (nv s * 10 ^ (m : Int).toNat) ∧ R.length ≤ 500 ∧ Below X.heap.size X w') := fun X => by
        have := l11Shift_all (dl s) m X ca (by omega) (by omega)
        rw [← ea] at this
        exact this
      clear h ca la ea
      go_enter Try.func15, Try.ntmps15
      go_wp2_with fail
      refine (sNatOk_any s _ hs).mono ?_
      rintro e w' ⟨rfl, rfl⟩
      rw [H1.out]
      go_wp2_with fail
      refine (l1In_yes _ _ _ _ hn.1 hn.2).mono ?_
      rintro e w' ⟨rfl, hw⟩
      obtain rfl := hw
      go_wp2_with fail
      refine (HC.out _).mono ?_
      rintro e w1 ⟨R, rfl, hR, hl, hb⟩
      have HR : Hid (R = nt (nv s * 10 ^ (m : Int).toNat)) := hR
      clear hR
      go_wp2_with fail
      refine (l11Fit_all R _ (by omega)).mono ?_
      rintro e w2 ⟨rfl, hw⟩
      obtain rfl := hw
      go_wp2
      go_ret
      exact ⟨by rw [← HR.out]; rfl, hb⟩
    · have HE : Hid (shiftS s n = { data := #[] }) := by
        show shiftS s n = _
        unfold shiftS
        rw [if_neg]
        simp
        omega
      rw [HE.out]
      clear h
      go_enter Try.func15, Try.ntmps15
      go_wp2_with fail
      refine (sNatOk_any s _ hs).mono ?_
      rintro e w' ⟨rfl, rfl⟩
      rw [H1.out]
      go_wp2_with fail
      refine (l1In_no _ _ _ _ (by omega)).mono ?_
      rintro e w' ⟨rfl, hw⟩
      obtain rfl := hw
      go_wp2
      go_ret
      exact ⟨rfl, Below.refl _ _⟩
end Go.Proofs.Ytmjkpjmccdjkjad
