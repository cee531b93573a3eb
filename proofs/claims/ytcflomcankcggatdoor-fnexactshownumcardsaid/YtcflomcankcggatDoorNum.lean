/-
  Numbers as the laws hand them on: their size, their copy, the formats' limits, which of them are right, walked.
-/
import Derived.Test.YtcflomcankcggatDoorIn
import Derived.Test.YtcflomcankcggatDoorNatB
import Derived.Handy
namespace Go.Proofs.YtcflomcankcggatDoor
open Go.RowKit
set_option linter.unusedVariables false
set_option maxRecDepth 100000
/-- A number's value. -/
abbrev numV (k : Int) (b : Bool) (e : Int) (s : ByteArray) : Value := .agg #[.int .i64 k, .bool b, .int .i64 e, .string s]
theorem szNum_yes (k : Int) (b : Bool) (e : Int) (s : ByteArray) (l : Int) (w : World) (h0 : 0 ≤ l) (h1 : l ≤ 1048576) (hs : s.size ≤ 9223372036854775807) (h : (s.size : Int) ≤ l) :
    Calls Tryd.prog 5 #[numV k b e s, .int .i64 l] w fun r w' => r = .returned (.int .i64 (l - s.size)) ∧ Below w.heap.size w w' := by
  have h' : ¬ l - (s.size : Int) < 0 := by omega
  go_enter Tryd.func5, Tryd.ntmps5
  go_wp2
  go_ret
  exact ⟨rfl, (Below.refl _ _).alloc (Nat.le_refl _) _⟩
theorem szNum_no (k : Int) (b : Bool) (e : Int) (s : ByteArray) (l : Int) (w : World) (h0 : 0 ≤ l) (h1 : l ≤ 1048576) (hs : s.size ≤ 9223372036854775807) (h : l < (s.size : Int)) :
    Calls Tryd.prog 5 #[numV k b e s, .int .i64 l] w fun r w' => r = .returned (.int .i64 (-1)) ∧ Below w.heap.size w w' := by
  have h' : l - (s.size : Int) < 0 := by omega
  go_enter Tryd.func5, Tryd.ntmps5
  go_wp2
  go_ret
  exact ⟨rfl, (Below.refl _ _).alloc (Nat.le_refl _) _⟩
theorem toNum_any (k : Int) (b : Bool) (e : Int) (s : ByteArray) (w : World) :
    Calls Tryd.prog 7 #[numV k b e s] w fun r w' => r = .returned (numV k b e s) ∧ Below w.heap.size w w' := by
  go_enter Tryd.func7, Tryd.ntmps7
  go_wp2
  go_returns
  exact ⟨rfl, (((Below.refl _ _).alloc (Nat.le_refl _) _).alloc (by simp) _).alloc (by simp; omega) _⟩
/-- The formats' digits and bounds. -/
def limP (f : Int) : Int := if f = 64 then 16 else if f = 128 then 34 else 0
def limL (f : Int) : Int := if f = 64 then -398 else if f = 128 then -6176 else 0
def limH (f : Int) : Int := if f = 64 then 369 else if f = 128 then 6111 else 0
theorem Limits_any (f : Int) (w : World) :
    Calls Tryd.prog 19 #[.int .i64 f] w fun r w' => r = .returned (.tuple #[.int .i64 (limP f), .int .i64 (limL f), .int .i64 (limH f)]) ∧ w' = w := by
  by_cases h1 : f = 64
  · subst h1
    go_enter Tryd.func19, Tryd.ntmps19
    go_wp2
    go_returns
    exact ⟨rfl, rfl⟩
  · by_cases h2 : f = 128
    · subst h2
      go_enter Tryd.func19, Tryd.ntmps19
      go_wp2
      go_returns
      exact ⟨rfl, rfl⟩
    · have e1 : (f == 64) = false := by simpa using h1
      have e2 : (f == 128) = false := by simpa using h2
      have E : Hid (limP f = 0 ∧ limL f = 0 ∧ limH f = 0) := by
        refine ⟨?_, ?_, ?_⟩
        · unfold limP; rw [if_neg h1, if_neg h2]
        · unfold limL; rw [if_neg h1, if_neg h2]
        · unfold limH; rw [if_neg h1, if_neg h2]
      rw [E.out.1, E.out.2.1, E.out.2.2]
      go_enter Tryd.func19, Tryd.ntmps19
      go_wp2
      go_returns
      exact ⟨rfl, rfl⟩
/-- Whether a number is right in a format. -/
def numB (f k : Int) (b : Bool) (e : Int) (s : ByteArray) : Bool :=
  if limP f = 0 then false
  else if k = 1 then natB (limP f) s && (decide (limL f ≤ e) && decide (e ≤ limH f))
  else if k = 2 then decide (e = 0) && s.toList.isEmpty
  else if k = 3 ∨ k = 4 then decide (e = 0) && (s.toList.isEmpty && !b)
  else false
theorem lim_cases (f : Int) : (limP f = 0) ∨ ((limP f == 0) = false ∧ limP f ≠ 0) := by
  by_cases h : limP f = 0
  · exact .inl h
  · exact .inr ⟨by simpa using h, h⟩
theorem sNumOk_any (f k : Int) (b : Bool) (e : Int) (s : ByteArray) (w : World) (hs : s.size ≤ 4611686018427387904) :
    Calls Tryd.prog 14 #[.int .i64 f, numV k b e s] w fun r w' => r = .returned (.bool (numB f k b e s)) ∧ Below w.heap.size w w' := by
  have HB : Hid (Below w.heap.size w (w.alloc (.cells #[.int .i64 k, .bool b, .int .i64 e, .string s] 26))) := (Below.refl _ _).alloc (Nat.le_refl _) _
  rcases lim_cases f with h0 | ⟨h0b, h0⟩
  · have E : Hid (numB f k b e s = false) := by show _ = _; unfold numB; rw [if_pos h0]
    have H0 : Hid (limP f = 0) := h0
    clear h0
    go_enter Tryd.func14, Tryd.ntmps14
    go_wp2_with fail
    refine (Limits_any f _).mono ?_
    rintro r w' ⟨rfl, hw⟩
    obtain rfl := hw
    rw [H0.out]
    go_wp2
    go_ret
    exact ⟨Ln.ret_bool E.out.symm, HB.out⟩
  by_cases k1 : k = 1
  · subst k1
    have E : Hid (numB f 1 b e s = (natB (limP f) s && (decide (limL f ≤ e) && decide (e ≤ limH f)))) := by show _ = _; unfold numB; rw [if_neg h0, if_pos rfl]
    generalize numB f 1 b e s = R at *
    cases hn : natB (limP f) s with
    | false =>
      have Hn : Hid (natB (limP f) s = false) := hn
      have E' : Hid (R = false) := by show _ = _; rw [E.out, hn]; rfl
      clear hn h0 E
      go_enter Tryd.func14, Tryd.ntmps14
      go_wp2_with fail
      refine (Limits_any f _).mono ?_
      rintro r w' ⟨rfl, hw⟩
      obtain rfl := hw
      go_wp2_with fail
      refine (l10Nat_all s _ _ hs).mono ?_
      rintro r w' ⟨rfl, hw⟩
      obtain rfl := hw
      rw [Hn.out]
      go_wp2
      go_ret
      exact ⟨Ln.ret_bool E'.out.symm, HB.out⟩
    | true =>
      have Hn : Hid (natB (limP f) s = true) := hn
      by_cases he : limL f ≤ e ∧ e ≤ limH f
      · have E' : Hid (R = true) := by show _ = _; rw [E.out, hn]; simp [he.1, he.2]
        clear hn h0 E
        go_enter Tryd.func14, Tryd.ntmps14
        go_wp2_with fail
        refine (Limits_any f _).mono ?_
        rintro r w' ⟨rfl, hw⟩
        obtain rfl := hw
        go_wp2_with fail
        refine (l10Nat_all s _ _ hs).mono ?_
        rintro r w' ⟨rfl, hw⟩
        obtain rfl := hw
        rw [Hn.out]
        go_wp2_with fail
        refine (l1In_yes e _ _ _ he.1 he.2).mono ?_
        rintro r w' ⟨rfl, hw⟩
        obtain rfl := hw
        go_wp2
        go_ret
        exact ⟨Ln.ret_bool E'.out.symm, HB.out⟩
      · have E' : Hid (R = false) := by
          show _ = _; rw [E.out, hn]
          by_cases h : limL f ≤ e
          · have : ¬ e ≤ limH f := fun h' => he ⟨h, h'⟩
            simp [this]
          · simp [h]
        clear hn h0 E
        go_enter Tryd.func14, Tryd.ntmps14
        go_wp2_with fail
        refine (Limits_any f _).mono ?_
        rintro r w' ⟨rfl, hw⟩
        obtain rfl := hw
        go_wp2_with fail
        refine (l10Nat_all s _ _ hs).mono ?_
        rintro r w' ⟨rfl, hw⟩
        obtain rfl := hw
        rw [Hn.out]
        go_wp2_with fail
        refine (l1In_no e _ _ _ (by omega)).mono ?_
        rintro r w' ⟨rfl, hw⟩
        obtain rfl := hw
        go_wp2
        go_ret
        exact ⟨Ln.ret_bool E'.out.symm, HB.out⟩
  by_cases k2 : k = 2
  · subst k2
    clear k1
    by_cases he : e = 0
    · subst he
      have E : Hid (numB f 2 b 0 s = s.toList.isEmpty) := by show _ = _; unfold numB; rw [if_neg h0, if_neg (by decide), if_pos rfl]; rfl
      clear h0
      go_enter Tryd.func14, Tryd.ntmps14
      go_wp2_with fail
      refine (Limits_any f _).mono ?_
      rintro r w' ⟨rfl, hw⟩
      obtain rfl := hw
      go_wp2
      go_ret
      exact ⟨Ln.ret_bool E.out.symm, HB.out⟩
    · have he' : (e == 0) = false := by simpa using he
      have E : Hid (numB f 2 b e s = false) := by show _ = _; unfold numB; rw [if_neg h0, if_neg (by decide), if_pos rfl, decide_eq_false he]; rfl
      clear h0
      go_enter Tryd.func14, Tryd.ntmps14
      go_wp2_with fail
      refine (Limits_any f _).mono ?_
      rintro r w' ⟨rfl, hw⟩
      obtain rfl := hw
      go_wp2
      go_ret
      exact ⟨Ln.ret_bool E.out.symm, HB.out⟩
  by_cases k3 : k = 3
  · subst k3
    clear k1 k2
    by_cases he : e = 0
    · subst he
      cases hb : s.toList.isEmpty with
      | false =>
        have E : Hid (numB f 3 b 0 s = false) := by show _ = _; unfold numB; rw [if_neg h0, if_neg (by decide), if_neg (by decide), if_pos (by decide), hb]; rfl
        clear h0
        go_enter Tryd.func14, Tryd.ntmps14
        go_wp2_with fail
        refine (Limits_any f _).mono ?_
        rintro r w' ⟨rfl, hw⟩
        obtain rfl := hw
        go_wp2
        go_ret
        exact ⟨Ln.ret_bool E.out.symm, HB.out⟩
      | true =>
        have E : Hid (numB f 3 b 0 s = !b) := by show _ = _; unfold numB; rw [if_neg h0, if_neg (by decide), if_neg (by decide), if_pos (by decide), hb]; rfl
        clear h0
        go_enter Tryd.func14, Tryd.ntmps14
        go_wp2_with fail
        refine (Limits_any f _).mono ?_
        rintro r w' ⟨rfl, hw⟩
        obtain rfl := hw
        go_wp2
        go_ret
        exact ⟨Ln.ret_bool E.out.symm, HB.out⟩
    · have he' : (e == 0) = false := by simpa using he
      have E : Hid (numB f 3 b e s = false) := by show _ = _; unfold numB; rw [if_neg h0, if_neg (by decide), if_neg (by decide), if_pos (by decide), decide_eq_false he]; rfl
      clear h0
      go_enter Tryd.func14, Tryd.ntmps14
      go_wp2_with fail
      refine (Limits_any f _).mono ?_
      rintro r w' ⟨rfl, hw⟩
      obtain rfl := hw
      go_wp2
      go_ret
      exact ⟨Ln.ret_bool E.out.symm, HB.out⟩
  by_cases k4 : k = 4
  · subst k4
    clear k1 k2 k3
    by_cases he : e = 0
    · subst he
      cases hb : s.toList.isEmpty with
      | false =>
        have E : Hid (numB f 4 b 0 s = false) := by show _ = _; unfold numB; rw [if_neg h0, if_neg (by decide), if_neg (by decide), if_pos (by decide), hb]; rfl
        clear h0
        go_enter Tryd.func14, Tryd.ntmps14
        go_wp2_with fail
        refine (Limits_any f _).mono ?_
        rintro r w' ⟨rfl, hw⟩
        obtain rfl := hw
        go_wp2
        go_ret
        exact ⟨Ln.ret_bool E.out.symm, HB.out⟩
      | true =>
        have E : Hid (numB f 4 b 0 s = !b) := by show _ = _; unfold numB; rw [if_neg h0, if_neg (by decide), if_neg (by decide), if_pos (by decide), hb]; rfl
        clear h0
        go_enter Tryd.func14, Tryd.ntmps14
        go_wp2_with fail
        refine (Limits_any f _).mono ?_
        rintro r w' ⟨rfl, hw⟩
        obtain rfl := hw
        go_wp2
        go_ret
        exact ⟨Ln.ret_bool E.out.symm, HB.out⟩
    · have he' : (e == 0) = false := by simpa using he
      have E : Hid (numB f 4 b e s = false) := by show _ = _; unfold numB; rw [if_neg h0, if_neg (by decide), if_neg (by decide), if_pos (by decide), decide_eq_false he]; rfl
      clear h0
      go_enter Tryd.func14, Tryd.ntmps14
      go_wp2_with fail
      refine (Limits_any f _).mono ?_
      rintro r w' ⟨rfl, hw⟩
      obtain rfl := hw
      go_wp2
      go_ret
      exact ⟨Ln.ret_bool E.out.symm, HB.out⟩
  have E : Hid (numB f k b e s = false) := by
    show _ = _; unfold numB; rw [if_neg h0, if_neg k1, if_neg k2, if_neg (by omega)]
  have c1 : (k == 1) = false := by simpa using k1
  have c2 : (k == 2) = false := by simpa using k2
  have c3 : (k == 3) = false := by simpa using k3
  have c4 : (k == 4) = false := by simpa using k4
  clear h0
  go_enter Tryd.func14, Tryd.ntmps14
  go_wp2_with fail
  refine (Limits_any f _).mono ?_
  rintro r w' ⟨rfl, hw⟩
  obtain rfl := hw
  go_wp2
  go_ret
  exact ⟨Ln.ret_bool E.out.symm, HB.out⟩
end Go.Proofs.YtcflomcankcggatDoor
