/-
  The model's quotients, roots and shifts of naturals at any strings, walked.
-/
import Derived.Test.YtmjkpjmccdjkjaeNatS
import Derived.Test.YtmjkpjmccdjkjaeTxt6
import Derived.Test.YtmjkpjmccdjkjaeTxt7
namespace Go.Proofs.Ytmjkpjmccdjkjae
open Go.RowKit
set_option linter.unusedVariables false
def divQ (s t : ByteArray) : ByteArray := if ok2 s t then (if nv t = 0 then { data := #[] } else tx (nt (nv s / nv t))) else { data := #[] }
def divR (s t : ByteArray) : ByteArray := if ok2 s t then (if nv t = 0 then { data := #[] } else tx (nt (nv s % nv t))) else { data := #[] }
theorem canon_nought (a : List Int) (h : Canon a) (hv : vl a = 0) : a = [0] := canon_unique a [0] h canon_zero (by rw [hv]; rfl)
theorem is0 (t : ByteArray) (h : natB 200 t = true) : (t.toList == [48]) = decide (nv t = 0) := by
  obtain ⟨hc, -, e⟩ := natB_dl 200 t h
  by_cases hz : nv t = 0
  · rw [decide_eq_true hz, e, canon_nought (dl t) hc hz, tx_zero]; rfl
  · rw [decide_eq_false hz, e]
    exact tx_is0 (dl t) hc.1 (fun c => hz (by unfold nv; rw [c]; rfl))
theorem sNatRoot_no (s : ByteArray) (w : World) (hs : s.size ≤ 4611686018427387904) (h : natB 200 s = false) :
    Calls Try.prog 8 #[.string s] w fun e w' => e = .returned (.tuple #[.string { data := #[] }, .string { data := #[] }]) ∧ Below w.heap.size w w' := by
  have H : Hid (natB 200 s = false) := h
  clear h
  go_enter Try.func8, Try.ntmps8
  go_wp2_with fail
  refine (sNatOk_any s _ hs).mono ?_
  rintro e w' ⟨rfl, rfl⟩
  rw [H.out]
  go_wp2
  go_ret2
  exact ⟨rfl, Below.refl _ _⟩
theorem sNatRoot_yes (s : ByteArray) (w : World) (hs : s.size ≤ 4611686018427387904) (h : natB 200 s = true) :
    Calls Try.prog 8 #[.string s] w fun e w' => ∃ S R : Int, e = .returned (.tuple #[.string (tx (nt S)), .string (tx (nt R))]) ∧ S * S + R = nv s ∧ 0 ≤ S ∧ 0 ≤ R ∧ R ≤ 2 * S ∧ Below w.heap.size w w' := by
  have H : Hid (natB 200 s = true) := h
  obtain ⟨ca, la, ea⟩ := natB_dl 200 s h
  have HS : Hid (∀ X, Calls Try.prog 24 #[.string s] X fun e w' => ∃ S R : Int, e = .returned (.tuple #[.string (tx (nt S)), .string (tx (nt R))]) ∧ S * S + R = nv s ∧ 0 ≤ S ∧ 0 ≤ R ∧ R ≤ 2 * S ∧ Below X.heap.size X w') := fun X => by
    have := l11Root_any (dl s) X ca (by omega)
    rw [← ea] at this
    refine this.mono ?_
    rintro e w' ⟨S, R, he, hc, hc2, hv, hv2, hl, hl2, hb⟩
    rw [nt_of S _ hc rfl (by omega), nt_of R _ hc2 rfl (by omega)] at he
    exact ⟨vl S, vl R, he, hv, (vl_bd S hc.1).1, (vl_bd R hc2.1).1, hv2, hb⟩
  clear h ca la ea
  go_enter Try.func8, Try.ntmps8
  go_wp2_with fail
  refine (sNatOk_any s _ hs).mono ?_
  rintro e w' ⟨rfl, rfl⟩
  rw [H.out]
  go_wp2_with fail
  refine (HS.out _).mono ?_
  rintro e w2 ⟨S, R, rfl, h1, h2, h3, h4, hb2⟩
  have HB : Hid (S * S + R = nv s ∧ 0 ≤ S ∧ 0 ≤ R ∧ R ≤ 2 * S ∧ Below _ _ w2) := ⟨h1, h2, h3, h4, hb2⟩
  clear h1 h2 h3 h4 hb2
  go_wp2
  go_ret2
  exact ⟨S, R, rfl, HB.out⟩
/-- A root and what is left are told by the number. -/
theorem root_one (S R S' R' : Int) (h : S * S + R = S' * S' + R') (a : 0 ≤ S) (b : 0 ≤ R) (c : R ≤ 2 * S) (a' : 0 ≤ S') (b' : 0 ≤ R') (c' : R' ≤ 2 * S') : S = S' ∧ R = R' := by
  have key : ∀ x y u v : Int, x * x + u = y * y + v → 0 ≤ x → 0 ≤ v → u ≤ 2 * x → x < y → False := fun x y u v h hx hv hu hlt => by
    have h1 : (x + 1) * (x + 1) ≤ y * y := Int.mul_self_le_mul_self (by omega) (by omega)
    have h2 : (x + 1) * (x + 1) = x * x + 2 * x + 1 := by rw [Int.add_mul, Int.mul_add]; omega
    omega
  have e : S = S' := by
    rcases Int.lt_trichotomy S S' with c1 | c1 | c1
    · exact (key S S' R R' h a b' c c1).elim
    · exact c1
    · exact (key S' S R' R h.symm a' b c' c1).elim
  subst e
  exact ⟨rfl, by omega⟩
def shiftS (s : ByteArray) (n : Int) : ByteArray := if natB 200 s && (decide (0 ≤ n) && decide (n ≤ 200)) then fitS (nt (nv s * 10 ^ n.toNat)) else { data := #[] }
theorem l11Shift_all (a : List Int) (n : Nat) (w : World) (ha : Canon a) (la : a.length ≤ 200) (hn : n ≤ 200) :
    Calls Try.prog 33 #[.string (tx a), .int .i64 n] w fun e w' => ∃ R, e = .returned (.string (tx R)) ∧ R = nt (vl a * 10 ^ n) ∧ R.length ≤ 500 ∧ Below w.heap.size w w' := by
  rcases Nat.eq_zero_or_pos n with h | h
  · subst h
    refine (l11Shift_none a w ha la).mono ?_
    rintro e w' ⟨rfl, hb⟩
    exact ⟨a, rfl, nt_of a _ ha (by simp) (by omega), by omega, hb⟩
  · refine (l11Shift_any a n w ha la h hn).mono ?_
    rintro e w' ⟨R, rfl, hc, hv, hl, hb⟩
    exact ⟨R, rfl, nt_of R _ hc hv (by omega), by omega, hb⟩
theorem sNatShift_all (s : ByteArray) (n : Int) (w : World) (hs : s.size ≤ 4611686018427387904) :
    Calls Try.prog 14 #[.string s, .int .i64 n] w fun e w' => e = .returned (.string (shiftS s n)) ∧ Below w.heap.size w w' := by
  cases h : natB 200 s with
  | false =>
    have HE : Hid (shiftS s n = { data := #[] }) := by show shiftS s n = _; unfold shiftS; rw [h]; rfl
    rw [HE.out]
    have H1 : Hid (natB 200 s = false) := h
    clear h
    go_enter Try.func14, Try.ntmps14
    go_wp2_with fail
    refine (sNatOk_any s _ hs).mono ?_
    rintro e w' ⟨rfl, rfl⟩
    rw [H1.out]
    go_wp2
    go_ret
    exact ⟨rfl, Below.refl _ _⟩
  | true =>
    have H1 : Hid (natB 200 s = true) := h
    by_cases hn : 0 ≤ n ∧ n ≤ 200
    · have HE : Hid (shiftS s n = fitS (nt (nv s * 10 ^ n.toNat))) := by show shiftS s n = _; unfold shiftS; rw [h, decide_eq_true hn.1, decide_eq_true hn.2]; exact if_pos (by decide)
      rw [HE.out]
      obtain ⟨ca, la, ea⟩ := natB_dl 200 s h
      obtain ⟨m, rfl⟩ := Int.eq_ofNat_of_zero_le hn.1
      have HC : Hid (∀ X, Calls Try.prog 33 #[.string s, .int .i64 (m : Int)] X fun e w' => ∃ R, e = .returned (.string (tx R)) ∧ R = nt (nv s * 10 ^ (m : Int).toNat) ∧ R.length ≤ 500 ∧ Below X.heap.size X w') := fun X => by
        have := l11Shift_all (dl s) m X ca (by omega) (by omega)
        rw [← ea] at this
        exact this
      clear h ca la ea
      go_enter Try.func14, Try.ntmps14
      go_wp2_with fail
      refine (sNatOk_any s _ hs).mono ?_
      rintro e w' ⟨rfl, rfl⟩
      rw [H1.out]
      go_wp2_with fail
      refine (l1In_yes _ _ _ _ hn.1 hn.2).mono ?_
      rintro e w' ⟨rfl, hw⟩
      obtain rfl := hw
      go_wp2_with fail
      refine (HC.out _).mono ?_
      rintro e w1 ⟨R, rfl, hR, hl, hb⟩
      have HR : Hid (R = nt (nv s * 10 ^ (m : Int).toNat)) := hR
      clear hR
      go_wp2_with fail
      refine (l11Fit_all R _ (by omega)).mono ?_
      rintro e w2 ⟨rfl, hw⟩
      obtain rfl := hw
      go_wp2
      go_ret
      exact ⟨by rw [← HR.out]; rfl, hb⟩
    · have HE : Hid (shiftS s n = { data := #[] }) := by
        show shiftS s n = _
        unfold shiftS
        rw [if_neg]
        simp
        omega
      rw [HE.out]
      clear h
      go_enter Try.func14, Try.ntmps14
      go_wp2_with fail
      refine (sNatOk_any s _ hs).mono ?_
      rintro e w' ⟨rfl, rfl⟩
      rw [H1.out]
      go_wp2_with fail
      refine (l1In_no _ _ _ _ (by omega)).mono ?_
      rintro e w' ⟨rfl, hw⟩
      obtain rfl := hw
      go_wp2
      go_ret
      exact ⟨rfl, Below.refl _ _⟩
end Go.Proofs.Ytmjkpjmccdjkjae
