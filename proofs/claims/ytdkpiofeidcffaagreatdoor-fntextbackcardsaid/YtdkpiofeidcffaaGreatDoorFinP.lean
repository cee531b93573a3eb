/-
  Plain facts for finishing: bounds of what is rounded and of what is brought nearer.
-/
import Derived.Test.YtdkpiofeidcffaaGreatDoorRows
import Derived.WalkKit
import Derived.BigQuiet
import Derived.Deep.QuietTactic
import Derived.Test.YtdkpiofeidcffaaGreatDoorIn
import Derived.Test.YtdkpiofeidcffaaGreatDoorTxt3
import Derived.Handy
import Derived.Laws.Tables
import Derived.Test.YtdkpiofeidcffaaGreatDoorRnd2
namespace Go.Proofs.YtdkpiofeidcffaaGreatDoor
open Go.RowKit
set_option linter.unusedVariables false
set_option maxRecDepth 100000
theorem results_num {fn : Func} {p : Tmp} {b : Nat} {x y z u : Value} (h : fn.results = #[.cell p 25]) (tmps : Array Value) (w : World) (hp : tmps[p]?.getD undef = .pointer (some ⟨b, 0, none⟩))
    (q0 : w.cell? ⟨b, 0, none⟩ = some x) (q1 : w.cell? ⟨b, 1, none⟩ = some y) (q2 : w.cell? ⟨b, 2, none⟩ = some z) (q3 : w.cell? ⟨b, 3, none⟩ = some u) : (results fn tmps).run Tryz.prog w = .ok (.agg #[x, y, z, u]) w := by
  simp [results, h, hp, go_sem, q0, q1, q2, q3]
/-- A Num's four cells in a block. -/
def At4 (W : World) (b : Nat) (x y z u : Value) : Prop := W.cell? ⟨b, 0, none⟩ = some x ∧ W.cell? ⟨b, 1, none⟩ = some y ∧ W.cell? ⟨b, 2, none⟩ = some z ∧ W.cell? ⟨b, 3, none⟩ = some u ∧ ∀ i, W.frozen? ⟨b, i, none⟩ = false
theorem at4_new (w : World) (x y z u : Value) : At4 (w.alloc (.cells #[x, y, z, u] 25)) w.heap.size x y z u := by
  refine ⟨?_, ?_, ?_, ?_, fun i => ?_⟩ <;> simp
theorem At4.below {W w1 : World} {b B : Nat} {x y z u : Value} (h : At4 W b x y z u) (hb : Below B W w1) (hB : b < B) : At4 w1 b x y z u :=
  ⟨(hb.cell (p := ⟨b, 0, none⟩) hB).trans h.1, (hb.cell (p := ⟨b, 1, none⟩) hB).trans h.2.1, (hb.cell (p := ⟨b, 2, none⟩) hB).trans h.2.2.1, (hb.cell (p := ⟨b, 3, none⟩) hB).trans h.2.2.2.1, fun i => (hb.frozen (p := ⟨b, i, none⟩) hB).trans (h.2.2.2.2 i)⟩
theorem At4.alloc {W : World} {b : Nat} {x y z u : Value} (h : At4 W b x y z u) (hb : b < W.heap.size) (o : Obj) : At4 (W.alloc o) b x y z u := h.below ((Below.refl _ _).alloc (Nat.le_refl _) _) hb
theorem At4.put {W : World} {b : Nat} {x y z u : Value} (h : At4 W b x y z u) (x' y' z' u' : Value) : At4 ((((W.setCell ⟨b, 0, none⟩ x').setCell ⟨b, 1, none⟩ y').setCell ⟨b, 2, none⟩ z').setCell ⟨b, 3, none⟩ u') b x' y' z' u' := by
  obtain ⟨h0, h1, h2, h3, h4⟩ := h
  refine ⟨?_, ?_, ?_, ?_, fun i => ?_⟩
  · rw [World.cell?_setCell_other _ _ _ _ (by simp), World.cell?_setCell_other _ _ _ _ (by simp), World.cell?_setCell_other _ _ _ _ (by simp)]; exact World.cell?_setCell_same _ _ _ h0
  · rw [World.cell?_setCell_other _ _ _ _ (by simp), World.cell?_setCell_other _ _ _ _ (by simp)]; exact World.cell?_setCell_same _ _ _ (u := y) (by rw [World.cell?_setCell_other _ _ _ _ (by simp)]; exact h1)
  · rw [World.cell?_setCell_other _ _ _ _ (by simp)]; exact World.cell?_setCell_same _ _ _ (u := z) (by rw [World.cell?_setCell_other _ _ _ _ (by simp), World.cell?_setCell_other _ _ _ _ (by simp)]; exact h2)
  · exact World.cell?_setCell_same _ _ _ (u := u) (by rw [World.cell?_setCell_other _ _ _ _ (by simp), World.cell?_setCell_other _ _ _ _ (by simp), World.cell?_setCell_other _ _ _ _ (by simp)]; exact h3)
  · rw [World.frozen?_setCell, World.frozen?_setCell, World.frozen?_setCell, World.frozen?_setCell]; exact h4 i
theorem At4.drewN {W : World} {b : Nat} {x y z u : Value} (h : At4 W b x y z u) (n : Nat) : At4 (W.drewN n) b x y z u := h
theorem At4.far {W : World} {b : Nat} {x y z u : Value} (h : At4 W b x y z u) {b' : Nat} (hb : b' ≠ b) (i : Nat) (v : Value) : At4 (W.setCell ⟨b', i, none⟩ v) b x y z u := by
  obtain ⟨h0, h1, h2, h3, h4⟩ := h
  have ne : ∀ j, (⟨b', i, none⟩ : Addr) ≠ ⟨b, j, none⟩ := fun j e => hb (by cases e; rfl)
  refine ⟨?_, ?_, ?_, ?_, fun i => by rw [World.frozen?_setCell]; exact h4 i⟩
  · rw [World.cell?_setCell_other _ _ _ _ (ne 0)]; exact h0
  · rw [World.cell?_setCell_other _ _ _ _ (ne 1)]; exact h1
  · rw [World.cell?_setCell_other _ _ _ _ (ne 2)]; exact h2
  · rw [World.cell?_setCell_other _ _ _ _ (ne 3)]; exact h3
theorem bel_four {B : Nat} {w W : World} (h : Below B w W) {b : Nat} (hb : B ≤ b) (x y z u : Value) : Below B w ((((W.setCell ⟨b, 0, none⟩ x).setCell ⟨b, 1, none⟩ y).setCell ⟨b, 2, none⟩ z).setCell ⟨b, 3, none⟩ u) := (((h.setCell hb _).setCell hb _).setCell hb _).setCell hb _
end Go.Proofs.YtdkpiofeidcffaaGreatDoor
namespace Go.Proofs.YtdkpiofeidcffaaGreatDoor
open Go.RowKit
set_option linter.unusedVariables false
set_option maxRecDepth 100000
/-- A number's value. -/
abbrev numV (k : Int) (b : Bool) (e : Int) (s : ByteArray) : Value := .agg #[.int .i64 k, .bool b, .int .i64 e, .string s]
/-- The formats' digits and bounds. -/
def limP (f : Int) : Int := if f = 64 then 16 else if f = 128 then 34 else 0
def limL (f : Int) : Int := if f = 64 then -398 else if f = 128 then -6176 else 0
def limH (f : Int) : Int := if f = 64 then 369 else if f = 128 then 6111 else 0
theorem Limits_any (f : Int) (w : World) :
    Calls Tryz.prog 22 #[.int .i64 f] w fun r w' => r = .returned (.tuple #[.int .i64 (limP f), .int .i64 (limL f), .int .i64 (limH f)]) ∧ w' = w := by
  by_cases h1 : f = 64
  · subst h1
    go_enter Tryz.func22, Tryz.ntmps22
    go_wp2
    go_returns
    exact ⟨rfl, rfl⟩
  · by_cases h2 : f = 128
    · subst h2
      go_enter Tryz.func22, Tryz.ntmps22
      go_wp2
      go_returns
      exact ⟨rfl, rfl⟩
    · have e1 : (f == 64) = false := by simpa using h1
      have e2 : (f == 128) = false := by simpa using h2
      have E : Hid (limP f = 0 ∧ limL f = 0 ∧ limH f = 0) := by
        refine ⟨?_, ?_, ?_⟩
        · unfold limP; rw [if_neg h1, if_neg h2]
        · unfold limL; rw [if_neg h1, if_neg h2]
        · unfold limH; rw [if_neg h1, if_neg h2]
      rw [E.out.1, E.out.2.1, E.out.2.2]
      go_enter Tryz.func22, Tryz.ntmps22
      go_wp2
      go_returns
      exact ⟨rfl, rfl⟩
/-- Whether a number is right in a format. -/
def numB (f k : Int) (b : Bool) (e : Int) (s : ByteArray) : Bool :=
  if limP f = 0 then false
  else if k = 1 then natB (limP f) s && (decide (limL f ≤ e) && decide (e ≤ limH f))
  else if k = 2 then decide (e = 0) && s.toList.isEmpty
  else if k = 3 ∨ k = 4 then decide (e = 0) && (s.toList.isEmpty && !b)
  else false
theorem lim_cases (f : Int) : (limP f = 0) ∨ ((limP f == 0) = false ∧ limP f ≠ 0) := by
  by_cases h : limP f = 0
  · exact .inl h
  · exact .inr ⟨by simpa using h, h⟩
theorem sNumOk_any (f k : Int) (b : Bool) (e : Int) (s : ByteArray) (w : World) (hs : s.size ≤ 4611686018427387904) :
    Calls Tryz.prog 9 #[.int .i64 f, numV k b e s] w fun r w' => r = .returned (.bool (numB f k b e s)) ∧ Below w.heap.size w w' := by
  have HB : Hid (Below w.heap.size w (w.alloc (.cells #[.int .i64 k, .bool b, .int .i64 e, .string s] 25))) := (Below.refl _ _).alloc (Nat.le_refl _) _
  rcases lim_cases f with h0 | ⟨h0b, h0⟩
  · have E : Hid (numB f k b e s = false) := by show _ = _; unfold numB; rw [if_pos h0]
    have H0 : Hid (limP f = 0) := h0
    clear h0
    go_enter Tryz.func9, Tryz.ntmps9
    go_wp2_with fail
    refine (Limits_any f _).mono ?_
    rintro r w' ⟨rfl, hw⟩
    obtain rfl := hw
    rw [H0.out]
    go_wp2
    go_ret
    exact ⟨Ln.ret_bool E.out.symm, HB.out⟩
  by_cases k1 : k = 1
  · subst k1
    have E : Hid (numB f 1 b e s = (natB (limP f) s && (decide (limL f ≤ e) && decide (e ≤ limH f)))) := by show _ = _; unfold numB; rw [if_neg h0, if_pos rfl]
    generalize numB f 1 b e s = R at *
    cases hn : natB (limP f) s with
    | false =>
      have Hn : Hid (natB (limP f) s = false) := hn
      have E' : Hid (R = false) := by show _ = _; rw [E.out, hn]; rfl
      clear hn h0 E
      go_enter Tryz.func9, Tryz.ntmps9
      go_wp2_with fail
      refine (Limits_any f _).mono ?_
      rintro r w' ⟨rfl, hw⟩
      obtain rfl := hw
      go_wp2_with fail
      refine (l10Nat_all s _ _ hs).mono ?_
      rintro r w' ⟨rfl, hw⟩
      obtain rfl := hw
      rw [Hn.out]
      go_wp2
      go_ret
      exact ⟨Ln.ret_bool E'.out.symm, HB.out⟩
    | true =>
      have Hn : Hid (natB (limP f) s = true) := hn
      by_cases he : limL f ≤ e ∧ e ≤ limH f
      · have E' : Hid (R = true) := by show _ = _; rw [E.out, hn]; simp [he.1, he.2]
        clear hn h0 E
        go_enter Tryz.func9, Tryz.ntmps9
        go_wp2_with fail
        refine (Limits_any f _).mono ?_
        rintro r w' ⟨rfl, hw⟩
        obtain rfl := hw
        go_wp2_with fail
        refine (l10Nat_all s _ _ hs).mono ?_
        rintro r w' ⟨rfl, hw⟩
        obtain rfl := hw
        rw [Hn.out]
        go_wp2_with fail
        refine (l1In_yes e _ _ _ he.1 he.2).mono ?_
        rintro r w' ⟨rfl, hw⟩
        obtain rfl := hw
        go_wp2
        go_ret
        exact ⟨Ln.ret_bool E'.out.symm, HB.out⟩
      · have E' : Hid (R = false) := by
          show _ = _; rw [E.out, hn]
          by_cases h : limL f ≤ e
          · have : ¬ e ≤ limH f := fun h' => he ⟨h, h'⟩
            simp [this]
          · simp [h]
        clear hn h0 E
        go_enter Tryz.func9, Tryz.ntmps9
        go_wp2_with fail
        refine (Limits_any f _).mono ?_
        rintro r w' ⟨rfl, hw⟩
        obtain rfl := hw
        go_wp2_with fail
        refine (l10Nat_all s _ _ hs).mono ?_
        rintro r w' ⟨rfl, hw⟩
        obtain rfl := hw
        rw [Hn.out]
        go_wp2_with fail
        refine (l1In_no e _ _ _ (by omega)).mono ?_
        rintro r w' ⟨rfl, hw⟩
        obtain rfl := hw
        go_wp2
        go_ret
        exact ⟨Ln.ret_bool E'.out.symm, HB.out⟩
  by_cases k2 : k = 2
  · subst k2
    clear k1
    by_cases he : e = 0
    · subst he
      have E : Hid (numB f 2 b 0 s = s.toList.isEmpty) := by show _ = _; unfold numB; rw [if_neg h0, if_neg (by decide), if_pos rfl]; rfl
      clear h0
      go_enter Tryz.func9, Tryz.ntmps9
      go_wp2_with fail
      refine (Limits_any f _).mono ?_
      rintro r w' ⟨rfl, hw⟩
      obtain rfl := hw
      go_wp2
      go_ret
      exact ⟨Ln.ret_bool E.out.symm, HB.out⟩
    · have he' : (e == 0) = false := by simpa using he
      have E : Hid (numB f 2 b e s = false) := by show _ = _; unfold numB; rw [if_neg h0, if_neg (by decide), if_pos rfl, decide_eq_false he]; rfl
      clear h0
      go_enter Tryz.func9, Tryz.ntmps9
      go_wp2_with fail
      refine (Limits_any f _).mono ?_
      rintro r w' ⟨rfl, hw⟩
      obtain rfl := hw
      go_wp2
      go_ret
      exact ⟨Ln.ret_bool E.out.symm, HB.out⟩
  by_cases k3 : k = 3
  · subst k3
    clear k1 k2
    by_cases he : e = 0
    · subst he
      cases hb : s.toList.isEmpty with
      | false =>
        have E : Hid (numB f 3 b 0 s = false) := by show _ = _; unfold numB; rw [if_neg h0, if_neg (by decide), if_neg (by decide), if_pos (by decide), hb]; rfl
        clear h0
        go_enter Tryz.func9, Tryz.ntmps9
        go_wp2_with fail
        refine (Limits_any f _).mono ?_
        rintro r w' ⟨rfl, hw⟩
        obtain rfl := hw
        go_wp2
        go_ret
        exact ⟨Ln.ret_bool E.out.symm, HB.out⟩
      | true =>
        have E : Hid (numB f 3 b 0 s = !b) := by show _ = _; unfold numB; rw [if_neg h0, if_neg (by decide), if_neg (by decide), if_pos (by decide), hb]; rfl
        clear h0
        go_enter Tryz.func9, Tryz.ntmps9
        go_wp2_with fail
        refine (Limits_any f _).mono ?_
        rintro r w' ⟨rfl, hw⟩
        obtain rfl := hw
        go_wp2
        go_ret
        exact ⟨Ln.ret_bool E.out.symm, HB.out⟩
    · have he' : (e == 0) = false := by simpa using he
      have E : Hid (numB f 3 b e s = false) := by show _ = _; unfold numB; rw [if_neg h0, if_neg (by decide), if_neg (by decide), if_pos (by decide), decide_eq_false he]; rfl
      clear h0
      go_enter Tryz.func9, Tryz.ntmps9
      go_wp2_with fail
      refine (Limits_any f _).mono ?_
      rintro r w' ⟨rfl, hw⟩
      obtain rfl := hw
      go_wp2
      go_ret
      exact ⟨Ln.ret_bool E.out.symm, HB.out⟩
  by_cases k4 : k = 4
  · subst k4
    clear k1 k2 k3
    by_cases he : e = 0
    · subst he
      cases hb : s.toList.isEmpty with
      | false =>
        have E : Hid (numB f 4 b 0 s = false) := by show _ = _; unfold numB; rw [if_neg h0, if_neg (by decide), if_neg (by decide), if_pos (by decide), hb]; rfl
        clear h0
        go_enter Tryz.func9, Tryz.ntmps9
        go_wp2_with fail
        refine (Limits_any f _).mono ?_
        rintro r w' ⟨rfl, hw⟩
        obtain rfl := hw
        go_wp2
        go_ret
        exact ⟨Ln.ret_bool E.out.symm, HB.out⟩
      | true =>
        have E : Hid (numB f 4 b 0 s = !b) := by show _ = _; unfold numB; rw [if_neg h0, if_neg (by decide), if_neg (by decide), if_pos (by decide), hb]; rfl
        clear h0
        go_enter Tryz.func9, Tryz.ntmps9
        go_wp2_with fail
        refine (Limits_any f _).mono ?_
        rintro r w' ⟨rfl, hw⟩
        obtain rfl := hw
        go_wp2
        go_ret
        exact ⟨Ln.ret_bool E.out.symm, HB.out⟩
    · have he' : (e == 0) = false := by simpa using he
      have E : Hid (numB f 4 b e s = false) := by show _ = _; unfold numB; rw [if_neg h0, if_neg (by decide), if_neg (by decide), if_pos (by decide), decide_eq_false he]; rfl
      clear h0
      go_enter Tryz.func9, Tryz.ntmps9
      go_wp2_with fail
      refine (Limits_any f _).mono ?_
      rintro r w' ⟨rfl, hw⟩
      obtain rfl := hw
      go_wp2
      go_ret
      exact ⟨Ln.ret_bool E.out.symm, HB.out⟩
  have E : Hid (numB f k b e s = false) := by
    show _ = _; unfold numB; rw [if_neg h0, if_neg k1, if_neg k2, if_neg (by omega)]
  have c1 : (k == 1) = false := by simpa using k1
  have c2 : (k == 2) = false := by simpa using k2
  have c3 : (k == 3) = false := by simpa using k3
  have c4 : (k == 4) = false := by simpa using k4
  clear h0
  go_enter Tryz.func9, Tryz.ntmps9
  go_wp2_with fail
  refine (Limits_any f _).mono ?_
  rintro r w' ⟨rfl, hw⟩
  obtain rfl := hw
  go_wp2
  go_ret
  exact ⟨Ln.ret_bool E.out.symm, HB.out⟩
end Go.Proofs.YtdkpiofeidcffaaGreatDoor
namespace Go.Proofs.YtdkpiofeidcffaaGreatDoor
open Go.RowKit
set_option linter.unusedVariables false
set_option maxRecDepth 100000
/-- A Result. -/
abbrev rsV (k : Int) (b : Bool) (e : Int) (s : ByteArray) (f : Int) : Value := .agg #[.int .i64 k, .bool b, .int .i64 e, .string s, .int .i64 f]
theorem results_res {fn : Func} {p : Tmp} {b : Nat} {x y z u v : Value} (h : fn.results = #[.cell p 30]) (tmps : Array Value) (w : World) (hp : tmps[p]?.getD undef = .pointer (some ⟨b, 0, none⟩))
    (q0 : w.cell? ⟨b, 0, none⟩ = some x) (q1 : w.cell? ⟨b, 1, none⟩ = some y) (q2 : w.cell? ⟨b, 2, none⟩ = some z) (q3 : w.cell? ⟨b, 3, none⟩ = some u) (q4 : w.cell? ⟨b, 4, none⟩ = some v) : (results fn tmps).run Tryz.prog w = .ok (.agg #[x, y, z, u, v]) w := by
  simp [results, h, hp, go_sem, q0, q1, q2, q3, q4]
/-- A Result's five cells in a block, which may be written. -/
def At5 (W : World) (b : Nat) (x y z u v : Value) : Prop := W.heap[b]? = some (.cells #[x, y, z, u, v] 30 (0, 0))
theorem at5_new (w : World) (x y z u v : Value) : At5 (w.alloc (.cells #[x, y, z, u, v] 30)) w.heap.size x y z u v := by
  unfold At5 World.alloc
  simp
theorem At5.cells {w : World} {b : Nat} {x y z u v : Value} (h : At5 w b x y z u v) : w.cell? ⟨b, 0, none⟩ = some x ∧ w.cell? ⟨b, 1, none⟩ = some y ∧ w.cell? ⟨b, 2, none⟩ = some z ∧ w.cell? ⟨b, 3, none⟩ = some u ∧ w.cell? ⟨b, 4, none⟩ = some v ∧ ∀ i, w.frozen? ⟨b, i, none⟩ = false := by
  unfold At5 at h
  exact ⟨by simp [World.cell?, h], by simp [World.cell?, h], by simp [World.cell?, h], by simp [World.cell?, h], by simp [World.cell?, h], fun i => by simp [World.frozen?, h]⟩
theorem At5.lt {w : World} {b : Nat} {x y z u v : Value} (h : At5 w b x y z u v) : b < w.heap.size := (Array.getElem?_eq_some_iff.1 h).1
theorem At5.below {w w' : World} {b B : Nat} {x y z u v : Value} (h : At5 w b x y z u v) (hb : Below B w w') (hB : b < B) : At5 w' b x y z u v := (hb.block b hB).trans h
theorem At5.put {w : World} {b : Nat} {x y z u v : Value} (h : At5 w b x y z u v) (x' y' z' u' v' : Value) : At5 (((((w.setCell ⟨b, 0, none⟩ x').setCell ⟨b, 1, none⟩ y').setCell ⟨b, 2, none⟩ z').setCell ⟨b, 3, none⟩ u').setCell ⟨b, 4, none⟩ v') b x' y' z' u' v' := by
  unfold At5 at *
  simp [World.setCell, Array.getElem?_modify, h]
theorem bel_five {B : Nat} {w W : World} (h : Below B w W) {b : Nat} (hb : B ≤ b) (x y z u v : Value) : Below B w (((((W.setCell ⟨b, 0, none⟩ x).setCell ⟨b, 1, none⟩ y).setCell ⟨b, 2, none⟩ z).setCell ⟨b, 3, none⟩ u).setCell ⟨b, 4, none⟩ v) := ((((h.setCell hb _).setCell hb _).setCell hb _).setCell hb _).setCell hb _
theorem one5 (k : Int) (b : Bool) (e : Int) (s : ByteArray) (f : Int) : (#[.int .i64 k, .bool b, .int .i64 e, .string s, .int .i64 f] : Array Value).all (·.oneCell') = true := by simp [Value.oneCell']
theorem At5.row {w : World} {b : Nat} {x y z u v : Value} (h : At5 w b x y z u v) (x' y' z' u' v' : Value) : At5 (w.setRow b #[x', y', z', u', v']) b x' y' z' u' v' := setRow_heap w b _ _ _ _ h
theorem bel_row {B : Nat} {w W : World} (h : Below B w W) {b : Nat} (hb : B ≤ b) (cs : Array Value) : Below B w (W.setRow b cs) :=
  ⟨h.os, h.tape, h.output, by rw [show (W.setRow b cs).heap.size = W.heap.size by simp [World.setRow]]; exact h.size, fun k hk => (setRow_other W b k cs (by omega)).trans (h.block k hk)⟩
theorem build_res (k : Int) (b : Bool) (e : Int) (s : ByteArray) (f : Int) (w : World) : (Instr.build 30 #[(0, numV k b e s), (1, .int .i64 f)]).run Tryz.prog w = .ok (rsV k b e s f) w := run_build w _ _ _ (by kernel_rfl)
theorem build_res0 (k : Int) (b : Bool) (e : Int) (s : ByteArray) (w : World) : (Instr.build 30 #[(0, numV k b e s)]).run Tryz.prog w = .ok (rsV k b e s 0) w := run_build w _ _ _ (by kernel_rfl)
theorem build_inf (b : Bool) (w : World) : (Instr.build 25 #[(0, .int .i64 2), (1, .bool b)]).run Tryz.prog w = .ok (numV 2 b 0 { data := #[] }) w := run_build w _ _ _ (by kernel_rfl)
theorem l12Finite_any (b : Bool) (s : ByteArray) (e : Int) (w : World) : Calls Tryz.prog 69 #[.bool b, .string s, .int .i64 e] w fun x w' => x = .returned (numV 1 b e s) ∧ Below w.heap.size w w' := by
  go_enter Tryz.func69, Tryz.ntmps69
  go_wp2
  have hP := at4_new w (.int .i64 1) (.bool b) (.int .i64 e) (.string s)
  refine bodyPost_ret (results_num rfl _ _ rfl hP.1 hP.2.1 hP.2.2.1 hP.2.2.2.1) rfl ?_
  exact ⟨rfl, (Below.refl _ _).alloc (Nat.le_refl _) _⟩
theorem l1Max_is (x y : Int) (w : World) : Calls Tryz.prog 71 #[.int .i64 x, .int .i64 y] w fun e w' => e = .returned (.int .i64 (max x y)) ∧ w' = w := by
  by_cases h : y < x
  · have E : Hid (max x y = x) := by show _ = _; omega
    rw [E.out]
    go_enter Tryz.func71, Tryz.ntmps71
    go_wp2
    go_ret
    exact ⟨rfl, rfl⟩
  · have E : Hid (max x y = y) := by show _ = _; omega
    rw [E.out]
    go_enter Tryz.func71, Tryz.ntmps71
    go_wp2
    go_ret
    exact ⟨rfl, rfl⟩
theorem l1Min_is (x y : Int) (w : World) : Calls Tryz.prog 70 #[.int .i64 x, .int .i64 y] w fun e w' => e = .returned (.int .i64 (min x y)) ∧ w' = w := by
  by_cases h : x < y
  · have E : Hid (min x y = x) := by show _ = _; omega
    rw [E.out]
    go_enter Tryz.func70, Tryz.ntmps70
    go_wp2
    go_ret
    exact ⟨rfl, rfl⟩
  · have E : Hid (min x y = y) := by show _ = _; omega
    rw [E.out]
    go_enter Tryz.func70, Tryz.ntmps70
    go_wp2
    go_ret
    exact ⟨rfl, rfl⟩
end Go.Proofs.YtdkpiofeidcffaaGreatDoor
namespace Go.Proofs.YtdkpiofeidcffaaGreatDoor
set_option linter.unusedVariables false
set_option maxRecDepth 100000
/-- Noughts at the end of digits, the last one first (the first digit stays). -/
def tzr : List Int → Nat
  | [] => 0
  | [_] => 0
  | d :: e :: r => if d = 0 then tzr (e :: r) + 1 else 0
def tz (D : List Int) : Nat := tzr D.reverse
theorem tzr_more (l : List Int) (i : Nat) (h : i < tzr l) : i + 1 < l.length ∧ l.getD i 0 = 0 := by
  induction l generalizing i with
  | nil => simp [tzr] at h
  | cons d r ih => cases r with
    | nil => simp [tzr] at h
    | cons e s =>
      simp only [tzr] at h
      split at h
      · rename_i hd
        cases i with
        | zero => exact ⟨by simp, by simp [hd]⟩
        | succ i =>
          obtain ⟨a, b⟩ := ih i (by omega)
          exact ⟨by simp at a ⊢; omega, by simpa using b⟩
      · omega
theorem tzr_stop (l : List Int) : l.length ≤ tzr l + 1 ∨ l.getD (tzr l) 0 ≠ 0 := by
  induction l with
  | nil => exact .inl (by simp)
  | cons d r ih => cases r with
    | nil => exact .inl (by simp)
    | cons e s =>
      simp only [tzr]
      split
      · rename_i hd
        rcases ih with c | c
        · exact .inl (by simp at c ⊢; omega)
        · exact .inr (by simpa using c)
      · rename_i hd
        exact .inr (by simpa using hd)
theorem rev_at (D : List Int) (i : Nat) (h : i < D.length) : D.reverse.getD i 0 = D.getD (D.length - 1 - i) 0 := by
  simp only [List.getD]; rw [List.getElem?_reverse h]
theorem tz_more (D : List Int) (i : Nat) (h : i < tz D) : i + 1 < D.length ∧ D.getD (D.length - 1 - i) 0 = 0 := by
  obtain ⟨a, b⟩ := tzr_more D.reverse i h
  rw [List.length_reverse] at a
  rw [rev_at D i (by omega)] at b
  exact ⟨a, b⟩
theorem tz_stop (D : List Int) (hp : 0 < D.length) : D.length ≤ tz D + 1 ∨ D.getD (D.length - 1 - tz D) 0 ≠ 0 := by
  rcases tzr_stop D.reverse with c | c
  · rw [List.length_reverse] at c; exact .inl c
  · rcases Nat.lt_or_ge (tzr D.reverse) D.length with q | q
    · rw [rev_at D _ q] at c; exact .inr c
    · exact .inl (by unfold tz; omega)
/-- How many noughts go, how many come, how many more come. -/
def fA (D : List Int) (e want high : Int) : Nat := min (min (want - e).toNat (high - e).toNat) (tz D)
def fB (n p : Nat) (e want low : Int) : Nat := min (min (e - want).toNat (p - n)) (e - low).toNat
def fC (n p : Nat) (e high : Int) : Nat := min (e - high).toNat (p - n)
theorem fA_more (D : List Int) (e want high : Int) (i : Nat) (h : i < fA D e want high) : e + i < want ∧ e + i < high ∧ i + 1 < D.length ∧ D.getD (D.length - 1 - i) 0 = 0 := by
  unfold fA at h
  obtain ⟨a, b⟩ := tz_more D i (by omega)
  exact ⟨by omega, by omega, a, b⟩
theorem fA_stop (D : List Int) (e want high : Int) (hp : 0 < D.length) : ¬ e + fA D e want high < want ∨ ¬ e + fA D e want high < high ∨ D.length ≤ fA D e want high + 1 ∨ D.getD (D.length - 1 - fA D e want high) 0 ≠ 0 := by
  have hs := tz_stop D hp
  by_cases h1 : fA D e want high = tz D
  · rw [h1]; rcases hs with c | c
    · exact .inr (.inr (.inl c))
    · exact .inr (.inr (.inr c))
  · unfold fA at h1 ⊢
    by_cases h2 : (want - e).toNat ≤ (high - e).toNat
    · exact .inl (by omega)
    · exact .inr (.inl (by omega))
theorem fA_len (D : List Int) (e want high : Int) (hp : 0 < D.length) : fA D e want high < D.length := by
  rcases Nat.eq_zero_or_pos (fA D e want high) with c | c
  · omega
  · have := (fA_more D e want high (fA D e want high - 1) (by omega)).2.2.1
    omega
theorem fB_more (n p : Nat) (e want low : Int) (i : Nat) (h : i < fB n p e want low) : want < e - i ∧ low < e - i ∧ n + i < p := by
  unfold fB at h; omega
theorem fB_stop (n p : Nat) (e want low : Int) : ¬ want < e - fB n p e want low ∨ ¬ (n + fB n p e want low < p) ∨ ¬ low < e - fB n p e want low := by
  unfold fB; omega
theorem fC_more (n p : Nat) (e high : Int) (i : Nat) (h : i < fC n p e high) : high < e - i ∧ n + i < p := by
  unfold fC at h; omega
theorem fC_stop (n p : Nat) (e high : Int) : ¬ high < e - fC n p e high ∨ ¬ (n + fC n p e high < p) := by
  unfold fC; omega
/-- Digits and exponent with the exponent as near to the wanted one as it may be, where nothing was rounded off. -/
def fin3D (lost : Bool) (D : List Int) (e want low high : Int) (p : Nat) : List Int :=
  if lost then D else D.take (D.length - fA D e want high) ++ List.replicate (fB (D.length - fA D e want high) p (e + fA D e want high) want low) 0
def fin3E (lost : Bool) (D : List Int) (e want low high : Int) (p : Nat) : Int :=
  if lost then e else e + fA D e want high - fB (D.length - fA D e want high) p (e + fA D e want high) want low
/-- Below the greatest exponent, if there is room. -/
def fin4D (D : List Int) (e high : Int) (p : Nat) : List Int := D ++ List.replicate (fC D.length p e high) 0
def fin4E (D : List Int) (e high : Int) (p : Nat) : Int := e - fC D.length p e high
/-- Is the greatest finite number told where there is no room? -/
def finG (mode : Int) (neg : Bool) : Bool := decide (mode = 2) || ((decide (mode = 3) && !neg) || (decide (mode = 4) && neg))
/-- What is told at the end: kind, exponent, digits, flags. -/
def fin5 (p : Nat) (high mode : Int) (neg : Bool) (D : List Int) (e flags : Int) : Int × Int × ByteArray × Int :=
  if fin4E D e high p ≤ high then (1, fin4E D e high p, tx (fin4D D e high p), flags)
  else if finG mode neg then (1, high, tx (List.replicate p 9), 20) else (2, 0, { data := #[] }, 20)
/-- One digit too many. -/
def finT (p : Nat) (D : List Int) : List Int := if p < D.length then D.take p else D
def finTE (p : Nat) (D : List Int) (e : Int) : Int := if p < D.length then e + 1 else e
def finF (lost : Bool) (size low : Int) (p : Nat) : Int := if lost then (if size ≤ low + p - 1 then 24 else 16) else 0
/-- What is rounded, and whether something was. -/
def finV (mode : Int) (neg : Bool) (v : Int) (drop : Nat) (rest : Bool) : Int := if 200 < drop then rndV mode neg 1 200 true else rndV mode neg v drop rest
def finLs (v : Int) (drop : Nat) (rest : Bool) : Bool := if 200 < drop then rndL 1 200 true else rndL v drop rest
/-- Noughts put behind, and how many digits are dropped. -/
def finJ (p n : Nat) (rest : Bool) : Nat := if rest then p + 1 - n else 0
def finDr (p n : Nat) (low e : Int) : Nat := (max (max 0 ((n : Int) - p)) (low - e)).toNat
/-- The whole, of digits that are not nought. -/
def finN (p : Nat) (low high mode : Int) (neg : Bool) (ds : List Int) (e : Int) (rest : Bool) (want : Int) : Int × Int × ByteArray × Int :=
  let j := finJ p ds.length rest
  let n := ds.length + j
  let e1 := e - j
  let dr := finDr p n low e1
  let D := nt (finV mode neg (vl ds * 10 ^ j) dr rest)
  let lost := finLs (vl ds * 10 ^ j) dr rest
  let D3 := finT p D
  let e3 := finTE p D (e1 + dr)
  fin5 p high mode neg (fin3D lost D3 e3 want low high p) (fin3E lost D3 e3 want low high p) (finF lost (ds.length + e) low p)
end Go.Proofs.YtdkpiofeidcffaaGreatDoor
namespace Go.Proofs.YtdkpiofeidcffaaGreatDoor
open Go.RowKit
set_option linter.unusedVariables false
set_option maxRecDepth 100000
theorem tx_more (D : List Int) : tx D ++ { data := #[48] } = tx (D ++ [0]) := by
  have : ({ data := #[48] } : ByteArray) = tx [0] := by apply ByteArray.ext; rw [tx_data]; rfl
  rw [this, tx_append]
theorem tx_nine (D : List Int) : tx D ++ { data := #[57] } = tx (D ++ [9]) := by
  have : ({ data := #[57] } : ByteArray) = tx [9] := by apply ByteArray.ext; rw [tx_data]; rfl
  rw [this, tx_append]
theorem nt_500 (n : Int) : (nt n).length ≤ 500 := by
  unfold nt
  exact Nat.le_trans (strip_len _) (by rw [lastD_len]; exact Nat.le_refl _)
theorem rndV_bd (mode : Int) (neg : Bool) (v : Int) (k : Nat) (rest : Bool) (h0 : 0 ≤ v) (h1 : v < 10 ^ 300) : 0 ≤ rndV mode neg v k rest ∧ rndV mode neg v k rest < 10 ^ 500 := by
  have hp : (0 : Int) < 10 ^ k := Int.pow_pos (by decide)
  have a := Int.ediv_nonneg h0 (Int.le_of_lt hp)
  have b := Int.ediv_le_self (10 ^ k) h0
  have c := pow_mono 301 500 (by decide)
  have d : (10 : Int) ^ 301 = 10 ^ 300 * 10 := Int.pow_succ 10 300
  unfold rndV
  generalize v / 10 ^ k = q at *
  generalize (10 : Int) ^ 300 = x at *
  generalize (10 : Int) ^ 301 = y at *
  generalize (10 : Int) ^ 500 = z at *
  split <;> omega
theorem fin3_bd (lost : Bool) (D : List Int) (e want low high : Int) (p : Nat) (h0 : 0 < D.length) (h5 : D.length ≤ 500) (hp : p ≤ 34) : 0 < (fin3D lost D e want low high p).length ∧ (fin3D lost D e want low high p).length ≤ 534 ∧ e - 34 ≤ fin3E lost D e want low high p ∧ fin3E lost D e want low high p ≤ e + 500 := by
  unfold fin3D fin3E
  cases lost with
  | true => exact ⟨h0, by simp; omega, by simp; omega, by simp; omega⟩
  | false =>
    have a := fA_len D e want high h0
    have b : fB (D.length - fA D e want high) p (e + fA D e want high) want low ≤ 34 := by unfold fB; omega
    simp only [Bool.false_eq_true, if_false]
    rw [List.length_append, List.length_take, List.length_replicate]
    omega
end Go.Proofs.YtdkpiofeidcffaaGreatDoor
