/-
  What is right in a format, by the program's isRight and NumOk, walked.
-/
import Derived.Test.YtnkoeidolmiheaaDoorIn
import Derived.Test.YtnkoeidolmiheaaDoorTxt3
import Derived.Handy
import Derived.Test.YtnkoeidolmiheaaDoorRows
import Derived.WalkKit
import Derived.BigQuiet
import Derived.Deep.QuietTactic
import Derived.Deep.Quiet
import Derived.Deep.DeepCutAuto
namespace Go.Proofs.YtnkoeidolmiheaaDoor
open Go.RowKit
set_option linter.unusedVariables false
set_option maxRecDepth 100000
/-- A number's value. -/
abbrev numV (k : Int) (b : Bool) (e : Int) (s : ByteArray) : Value := .agg #[.int .i64 k, .bool b, .int .i64 e, .string s]
/-- The formats' digits and bounds. -/
def limP (f : Int) : Int := if f = 64 then 16 else if f = 128 then 34 else 0
def limL (f : Int) : Int := if f = 64 then -398 else if f = 128 then -6176 else 0
def limH (f : Int) : Int := if f = 64 then 369 else if f = 128 then 6111 else 0
theorem Limits_any (f : Int) (w : World) :
    Calls Tryd.prog 14 #[.int .i64 f] w fun r w' => r = .returned (.tuple #[.int .i64 (limP f), .int .i64 (limL f), .int .i64 (limH f)]) ∧ w' = w := by
  by_cases h1 : f = 64
  · subst h1
    go_enter Tryd.func14, Tryd.ntmps14
    go_wp2
    go_returns
    exact ⟨rfl, rfl⟩
  · by_cases h2 : f = 128
    · subst h2
      go_enter Tryd.func14, Tryd.ntmps14
      go_wp2
      go_returns
      exact ⟨rfl, rfl⟩
    · have e1 : (f == 64) = false := by simpa using h1
      have e2 : (f == 128) = false := by simpa using h2
      have E : Hid (limP f = 0 ∧ limL f = 0 ∧ limH f = 0) := by
        refine ⟨?_, ?_, ?_⟩
        · unfold limP; rw [if_neg h1, if_neg h2]
        · unfold limL; rw [if_neg h1, if_neg h2]
        · unfold limH; rw [if_neg h1, if_neg h2]
      rw [E.out.1, E.out.2.1, E.out.2.2]
      go_enter Tryd.func14, Tryd.ntmps14
      go_wp2
      go_returns
      exact ⟨rfl, rfl⟩
/-- Whether a number is right in a format. -/
def numB (f k : Int) (b : Bool) (e : Int) (s : ByteArray) : Bool :=
  if limP f = 0 then false
  else if k = 1 then natB (limP f) s && (decide (limL f ≤ e) && decide (e ≤ limH f))
  else if k = 2 then decide (e = 0) && s.toList.isEmpty
  else if k = 3 ∨ k = 4 then decide (e = 0) && (s.toList.isEmpty && !b)
  else false
theorem lim_cases (f : Int) : (limP f = 0) ∨ ((limP f == 0) = false ∧ limP f ≠ 0) := by
  by_cases h : limP f = 0
  · exact .inl h
  · exact .inr ⟨by simpa using h, h⟩
theorem sNumOk_any (f k : Int) (b : Bool) (e : Int) (s : ByteArray) (w : World) (hs : s.size ≤ 4611686018427387904) :
    Calls Tryd.prog 23 #[.int .i64 f, numV k b e s] w fun r w' => r = .returned (.bool (numB f k b e s)) ∧ Below w.heap.size w w' := by
  have HB : Hid (Below w.heap.size w (w.alloc (.cells #[.int .i64 k, .bool b, .int .i64 e, .string s] 25))) := (Below.refl _ _).alloc (Nat.le_refl _) _
  rcases lim_cases f with h0 | ⟨h0b, h0⟩
  · have E : Hid (numB f k b e s = false) := by show _ = _; unfold numB; rw [if_pos h0]
    have H0 : Hid (limP f = 0) := h0
    clear h0
    go_enter Tryd.func23, Tryd.ntmps23
    go_wp2_with fail
    refine (Limits_any f _).mono ?_
    rintro r w' ⟨rfl, hw⟩
    obtain rfl := hw
    rw [H0.out]
    go_wp2
    go_ret
    exact ⟨Ln.ret_bool E.out.symm, HB.out⟩
  by_cases k1 : k = 1
  · subst k1
    have E : Hid (numB f 1 b e s = (natB (limP f) s && (decide (limL f ≤ e) && decide (e ≤ limH f)))) := by show _ = _; unfold numB; rw [if_neg h0, if_pos rfl]
    generalize numB f 1 b e s = R at *
    cases hn : natB (limP f) s with
    | false =>
      have Hn : Hid (natB (limP f) s = false) := hn
      have E' : Hid (R = false) := by show _ = _; rw [E.out, hn]; rfl
      clear hn h0 E
      go_enter Tryd.func23, Tryd.ntmps23
      go_wp2_with fail
      refine (Limits_any f _).mono ?_
      rintro r w' ⟨rfl, hw⟩
      obtain rfl := hw
      go_wp2_with fail
      refine (l10Nat_all s _ _ hs).mono ?_
      rintro r w' ⟨rfl, hw⟩
      obtain rfl := hw
      rw [Hn.out]
      go_wp2
      go_ret
      exact ⟨Ln.ret_bool E'.out.symm, HB.out⟩
    | true =>
      have Hn : Hid (natB (limP f) s = true) := hn
      by_cases he : limL f ≤ e ∧ e ≤ limH f
      · have E' : Hid (R = true) := by show _ = _; rw [E.out, hn]; simp [he.1, he.2]
        clear hn h0 E
        go_enter Tryd.func23, Tryd.ntmps23
        go_wp2_with fail
        refine (Limits_any f _).mono ?_
        rintro r w' ⟨rfl, hw⟩
        obtain rfl := hw
        go_wp2_with fail
        refine (l10Nat_all s _ _ hs).mono ?_
        rintro r w' ⟨rfl, hw⟩
        obtain rfl := hw
        rw [Hn.out]
        go_wp2_with fail
        refine (l1In_yes e _ _ _ he.1 he.2).mono ?_
        rintro r w' ⟨rfl, hw⟩
        obtain rfl := hw
        go_wp2
        go_ret
        exact ⟨Ln.ret_bool E'.out.symm, HB.out⟩
      · have E' : Hid (R = false) := by
          show _ = _; rw [E.out, hn]
          by_cases h : limL f ≤ e
          · have : ¬ e ≤ limH f := fun h' => he ⟨h, h'⟩
            simp [this]
          · simp [h]
        clear hn h0 E
        go_enter Tryd.func23, Tryd.ntmps23
        go_wp2_with fail
        refine (Limits_any f _).mono ?_
        rintro r w' ⟨rfl, hw⟩
        obtain rfl := hw
        go_wp2_with fail
        refine (l10Nat_all s _ _ hs).mono ?_
        rintro r w' ⟨rfl, hw⟩
        obtain rfl := hw
        rw [Hn.out]
        go_wp2_with fail
        refine (l1In_no e _ _ _ (by omega)).mono ?_
        rintro r w' ⟨rfl, hw⟩
        obtain rfl := hw
        go_wp2
        go_ret
        exact ⟨Ln.ret_bool E'.out.symm, HB.out⟩
  by_cases k2 : k = 2
  · subst k2
    clear k1
    by_cases he : e = 0
    · subst he
      have E : Hid (numB f 2 b 0 s = s.toList.isEmpty) := by show _ = _; unfold numB; rw [if_neg h0, if_neg (by decide), if_pos rfl]; rfl
      clear h0
      go_enter Tryd.func23, Tryd.ntmps23
      go_wp2_with fail
      refine (Limits_any f _).mono ?_
      rintro r w' ⟨rfl, hw⟩
      obtain rfl := hw
      go_wp2
      go_ret
      exact ⟨Ln.ret_bool E.out.symm, HB.out⟩
    · have he' : (e == 0) = false := by simpa using he
      have E : Hid (numB f 2 b e s = false) := by show _ = _; unfold numB; rw [if_neg h0, if_neg (by decide), if_pos rfl, decide_eq_false he]; rfl
      clear h0
      go_enter Tryd.func23, Tryd.ntmps23
      go_wp2_with fail
      refine (Limits_any f _).mono ?_
      rintro r w' ⟨rfl, hw⟩
      obtain rfl := hw
      go_wp2
      go_ret
      exact ⟨Ln.ret_bool E.out.symm, HB.out⟩
  by_cases k3 : k = 3
  · subst k3
    clear k1 k2
    by_cases he : e = 0
    · subst he
      cases hb : s.toList.isEmpty with
      | false =>
        have E : Hid (numB f 3 b 0 s = false) := by show _ = _; unfold numB; rw [if_neg h0, if_neg (by decide), if_neg (by decide), if_pos (by decide), hb]; rfl
        clear h0
        go_enter Tryd.func23, Tryd.ntmps23
        go_wp2_with fail
        refine (Limits_any f _).mono ?_
        rintro r w' ⟨rfl, hw⟩
        obtain rfl := hw
        go_wp2
        go_ret
        exact ⟨Ln.ret_bool E.out.symm, HB.out⟩
      | true =>
        have E : Hid (numB f 3 b 0 s = !b) := by show _ = _; unfold numB; rw [if_neg h0, if_neg (by decide), if_neg (by decide), if_pos (by decide), hb]; rfl
        clear h0
        go_enter Tryd.func23, Tryd.ntmps23
        go_wp2_with fail
        refine (Limits_any f _).mono ?_
        rintro r w' ⟨rfl, hw⟩
        obtain rfl := hw
        go_wp2
        go_ret
        exact ⟨Ln.ret_bool E.out.symm, HB.out⟩
    · have he' : (e == 0) = false := by simpa using he
      have E : Hid (numB f 3 b e s = false) := by show _ = _; unfold numB; rw [if_neg h0, if_neg (by decide), if_neg (by decide), if_pos (by decide), decide_eq_false he]; rfl
      clear h0
      go_enter Tryd.func23, Tryd.ntmps23
      go_wp2_with fail
      refine (Limits_any f _).mono ?_
      rintro r w' ⟨rfl, hw⟩
      obtain rfl := hw
      go_wp2
      go_ret
      exact ⟨Ln.ret_bool E.out.symm, HB.out⟩
  by_cases k4 : k = 4
  · subst k4
    clear k1 k2 k3
    by_cases he : e = 0
    · subst he
      cases hb : s.toList.isEmpty with
      | false =>
        have E : Hid (numB f 4 b 0 s = false) := by show _ = _; unfold numB; rw [if_neg h0, if_neg (by decide), if_neg (by decide), if_pos (by decide), hb]; rfl
        clear h0
        go_enter Tryd.func23, Tryd.ntmps23
        go_wp2_with fail
        refine (Limits_any f _).mono ?_
        rintro r w' ⟨rfl, hw⟩
        obtain rfl := hw
        go_wp2
        go_ret
        exact ⟨Ln.ret_bool E.out.symm, HB.out⟩
      | true =>
        have E : Hid (numB f 4 b 0 s = !b) := by show _ = _; unfold numB; rw [if_neg h0, if_neg (by decide), if_neg (by decide), if_pos (by decide), hb]; rfl
        clear h0
        go_enter Tryd.func23, Tryd.ntmps23
        go_wp2_with fail
        refine (Limits_any f _).mono ?_
        rintro r w' ⟨rfl, hw⟩
        obtain rfl := hw
        go_wp2
        go_ret
        exact ⟨Ln.ret_bool E.out.symm, HB.out⟩
    · have he' : (e == 0) = false := by simpa using he
      have E : Hid (numB f 4 b e s = false) := by show _ = _; unfold numB; rw [if_neg h0, if_neg (by decide), if_neg (by decide), if_pos (by decide), decide_eq_false he]; rfl
      clear h0
      go_enter Tryd.func23, Tryd.ntmps23
      go_wp2_with fail
      refine (Limits_any f _).mono ?_
      rintro r w' ⟨rfl, hw⟩
      obtain rfl := hw
      go_wp2
      go_ret
      exact ⟨Ln.ret_bool E.out.symm, HB.out⟩
  have E : Hid (numB f k b e s = false) := by
    show _ = _; unfold numB; rw [if_neg h0, if_neg k1, if_neg k2, if_neg (by omega)]
  have c1 : (k == 1) = false := by simpa using k1
  have c2 : (k == 2) = false := by simpa using k2
  have c3 : (k == 3) = false := by simpa using k3
  have c4 : (k == 4) = false := by simpa using k4
  clear h0
  go_enter Tryd.func23, Tryd.ntmps23
  go_wp2_with fail
  refine (Limits_any f _).mono ?_
  rintro r w' ⟨rfl, hw⟩
  obtain rfl := hw
  go_wp2
  go_ret
  exact ⟨Ln.ret_bool E.out.symm, HB.out⟩
end Go.Proofs.YtnkoeidolmiheaaDoor
namespace Go.Proofs.YtnkoeidolmiheaaDoor
open Go.RowKit
set_option linter.unusedVariables false
set_option maxRecDepth 100000
theorem results_num {fn : Func} {p : Tmp} {b : Nat} {x y z u : Value} (h : fn.results = #[.cell p 25]) (tmps : Array Value) (w : World) (hp : tmps[p]?.getD undef = .pointer (some ⟨b, 0, none⟩))
    (q0 : w.cell? ⟨b, 0, none⟩ = some x) (q1 : w.cell? ⟨b, 1, none⟩ = some y) (q2 : w.cell? ⟨b, 2, none⟩ = some z) (q3 : w.cell? ⟨b, 3, none⟩ = some u) : (results fn tmps).run Tryd.prog w = .ok (.agg #[x, y, z, u]) w := by
  simp [results, h, hp, go_sem, q0, q1, q2, q3]
/-- A Num's four cells in a block. -/
def At4 (W : World) (b : Nat) (x y z u : Value) : Prop := W.cell? ⟨b, 0, none⟩ = some x ∧ W.cell? ⟨b, 1, none⟩ = some y ∧ W.cell? ⟨b, 2, none⟩ = some z ∧ W.cell? ⟨b, 3, none⟩ = some u ∧ ∀ i, W.frozen? ⟨b, i, none⟩ = false
theorem at4_new (w : World) (x y z u : Value) : At4 (w.alloc (.cells #[x, y, z, u] 25)) w.heap.size x y z u := by
  refine ⟨?_, ?_, ?_, ?_, fun i => ?_⟩ <;> simp
theorem At4.below {W w1 : World} {b B : Nat} {x y z u : Value} (h : At4 W b x y z u) (hb : Below B W w1) (hB : b < B) : At4 w1 b x y z u :=
  ⟨(hb.cell (p := ⟨b, 0, none⟩) hB).trans h.1, (hb.cell (p := ⟨b, 1, none⟩) hB).trans h.2.1, (hb.cell (p := ⟨b, 2, none⟩) hB).trans h.2.2.1, (hb.cell (p := ⟨b, 3, none⟩) hB).trans h.2.2.2.1, fun i => (hb.frozen (p := ⟨b, i, none⟩) hB).trans (h.2.2.2.2 i)⟩
theorem At4.alloc {W : World} {b : Nat} {x y z u : Value} (h : At4 W b x y z u) (hb : b < W.heap.size) (o : Obj) : At4 (W.alloc o) b x y z u := h.below ((Below.refl _ _).alloc (Nat.le_refl _) _) hb
theorem At4.put {W : World} {b : Nat} {x y z u : Value} (h : At4 W b x y z u) (x' y' z' u' : Value) : At4 ((((W.setCell ⟨b, 0, none⟩ x').setCell ⟨b, 1, none⟩ y').setCell ⟨b, 2, none⟩ z').setCell ⟨b, 3, none⟩ u') b x' y' z' u' := by
  obtain ⟨h0, h1, h2, h3, h4⟩ := h
  refine ⟨?_, ?_, ?_, ?_, fun i => ?_⟩
  · rw [World.cell?_setCell_other _ _ _ _ (by simp), World.cell?_setCell_other _ _ _ _ (by simp), World.cell?_setCell_other _ _ _ _ (by simp)]; exact World.cell?_setCell_same _ _ _ h0
  · rw [World.cell?_setCell_other _ _ _ _ (by simp), World.cell?_setCell_other _ _ _ _ (by simp)]; exact World.cell?_setCell_same _ _ _ (u := y) (by rw [World.cell?_setCell_other _ _ _ _ (by simp)]; exact h1)
  · rw [World.cell?_setCell_other _ _ _ _ (by simp)]; exact World.cell?_setCell_same _ _ _ (u := z) (by rw [World.cell?_setCell_other _ _ _ _ (by simp), World.cell?_setCell_other _ _ _ _ (by simp)]; exact h2)
  · exact World.cell?_setCell_same _ _ _ (u := u) (by rw [World.cell?_setCell_other _ _ _ _ (by simp), World.cell?_setCell_other _ _ _ _ (by simp), World.cell?_setCell_other _ _ _ _ (by simp)]; exact h3)
  · rw [World.frozen?_setCell, World.frozen?_setCell, World.frozen?_setCell, World.frozen?_setCell]; exact h4 i
theorem At4.drewN {W : World} {b : Nat} {x y z u : Value} (h : At4 W b x y z u) (n : Nat) : At4 (W.drewN n) b x y z u := h
theorem At4.far {W : World} {b : Nat} {x y z u : Value} (h : At4 W b x y z u) {b' : Nat} (hb : b' ≠ b) (i : Nat) (v : Value) : At4 (W.setCell ⟨b', i, none⟩ v) b x y z u := by
  obtain ⟨h0, h1, h2, h3, h4⟩ := h
  have ne : ∀ j, (⟨b', i, none⟩ : Addr) ≠ ⟨b, j, none⟩ := fun j e => hb (by cases e; rfl)
  refine ⟨?_, ?_, ?_, ?_, fun i => by rw [World.frozen?_setCell]; exact h4 i⟩
  · rw [World.cell?_setCell_other _ _ _ _ (ne 0)]; exact h0
  · rw [World.cell?_setCell_other _ _ _ _ (ne 1)]; exact h1
  · rw [World.cell?_setCell_other _ _ _ _ (ne 2)]; exact h2
  · rw [World.cell?_setCell_other _ _ _ _ (ne 3)]; exact h3
theorem bel_four {B : Nat} {w W : World} (h : Below B w W) {b : Nat} (hb : B ≤ b) (x y z u : Value) : Below B w ((((W.setCell ⟨b, 0, none⟩ x).setCell ⟨b, 1, none⟩ y).setCell ⟨b, 2, none⟩ z).setCell ⟨b, 3, none⟩ u) := (((h.setCell hb _).setCell hb _).setCell hb _).setCell hb _
end Go.Proofs.YtnkoeidolmiheaaDoor
namespace Go.Proofs.YtnkoeidolmiheaaDoor
open Go.RowKit
set_option linter.unusedVariables false
set_option maxRecDepth 100000
theorem cell_of {w w' : World} (h : Below w.heap.size w w') {a : Addr} {v : Value} (hc : w.cell? a = some v) : w'.cell? a = some v := by
  rw [h.cell (World.block_lt_of_cell? w a hc)]
  exact hc
theorem bel1 {w W0 w1 : World} (h0 : Below w.heap.size w W0) (h1 : Below W0.heap.size W0 w1) : Below w.heap.size w w1 := h0.trans (h1.mono h0.size)
theorem bel2 {w W0 w1 w2 : World} (h0 : Below w.heap.size w W0) (h1 : Below W0.heap.size W0 w1) (h2 : Below w1.heap.size w1 w2) : Below w.heap.size w w2 := bel1 (bel1 h0 h1) h2
/-- The cells of a struct of three numbers, or two, that lies in a block. -/
def At3 (W : World) (b : Nat) (x y z : Value) : Prop := W.cell? ⟨b, 0, none⟩ = some x ∧ W.cell? ⟨b, 1, none⟩ = some y ∧ W.cell? ⟨b, 2, none⟩ = some z
def At2 (W : World) (b : Nat) (x y : Value) : Prop := W.cell? ⟨b, 0, none⟩ = some x ∧ W.cell? ⟨b, 1, none⟩ = some y
theorem at3_new (w : World) (x y z : Value) (t : TypeId) : At3 (w.alloc (.cells #[x, y, z] t)) w.heap.size x y z := by
  have h := (MapKept.heap_alloc w (.cells #[x, y, z] t)).1
  unfold At3 World.cell?
  simp only [h]
  exact ⟨rfl, rfl, rfl⟩
theorem at2_new (w : World) (x y : Value) (t : TypeId) : At2 (w.alloc (.cells #[x, y] t)) w.heap.size x y := by
  have h := (MapKept.heap_alloc w (.cells #[x, y] t)).1
  unfold At2 World.cell?
  simp only [h]
  exact ⟨rfl, rfl⟩
theorem At3.below {W w1 : World} {b : Nat} {x y z : Value} (h : At3 W b x y z) (hb : Below W.heap.size W w1) : At3 w1 b x y z := ⟨cell_of hb h.1, cell_of hb h.2.1, cell_of hb h.2.2⟩
theorem At2.below {W w1 : World} {b : Nat} {x y : Value} (h : At2 W b x y) (hb : Below W.heap.size W w1) : At2 w1 b x y := ⟨cell_of hb h.1, cell_of hb h.2⟩
theorem At3.alloc {W : World} {b : Nat} {x y z : Value} (h : At3 W b x y z) (o : Obj) : At3 (W.alloc o) b x y z := h.below ((Below.refl _ _).alloc (Nat.le_refl _) _)
theorem At2.alloc {W : World} {b : Nat} {x y : Value} (h : At2 W b x y) (o : Obj) : At2 (W.alloc o) b x y := h.below ((Below.refl _ _).alloc (Nat.le_refl _) _)
theorem wp_region_class {P : Program} {C : World → Prop} {id : Nat} {Q : Exit → Act → World → Prop} {a : Act} {w : World} {l : List Oper} (hm : P.follows .mixedOrders = true) (hB : Region.lexB .any l.toArray = true) (hC : C w.drew)
    (h : wpQuiet P l.toArray C (fun a' => ∀ w', C w' → Q .normal a' w') l a) : (Code.region id l.toArray true).wp P Q a w :=
  wp_region_quiet (C := C) hm hB hC (by simpa using h)
theorem wrap_fit (x : Int) (h0 : -9223372036854775808 ≤ x) (h1 : x ≤ 9223372036854775807) : IntKind.i64.wrap x = x := by rw [IntKind.wrap_i64]; omega
theorem Calls.class_of {P : Program} {f : FuncId} {args : Array Value} {C : World → Prop} {W : World} {v : Value} (h : Calls P f args W fun e w' => e = .returned v ∧ Below W.heap.size W w') (k : ∀ w', Below W.heap.size W w' → C w') : Calls P f args W fun e w'' => e = .returned v ∧ C w'' :=
  h.mono fun _ _ ⟨he, hb⟩ => ⟨he, k _ hb⟩
end Go.Proofs.YtnkoeidolmiheaaDoor
namespace Go.Proofs.YtnkoeidolmiheaaDoor
open Go.RowKit
set_option linter.unusedVariables false
set_option maxRecDepth 100000
theorem digitCount_64 (w : World) : Calls Tryd.prog 89 #[.agg #[]] w fun e w' => e = .returned (.int .i64 16) ∧ Below w.heap.size w w' := by
  go_enter Tryd.func89, Tryd.ntmps89
  go_wp2
  go_ret
  exact ⟨rfl, (Below.refl _ _).alloc (Nat.le_refl _) _⟩
theorem md_digitCount_64 (n : Nat) (X : World) : (method (n + 1) 68 (.agg #[]) "loop.example/g00085/impl.digitCount").run Tryd.prog X = .ok (89, .agg #[]) X := by kernel_rfl
theorem leastExp_64 (w : World) : Calls Tryd.prog 91 #[.agg #[]] w fun e w' => e = .returned (.int .i64 (-398)) ∧ Below w.heap.size w w' := by
  go_enter Tryd.func91, Tryd.ntmps91
  go_wp2
  go_ret
  exact ⟨rfl, (Below.refl _ _).alloc (Nat.le_refl _) _⟩
theorem md_leastExp_64 (n : Nat) (X : World) : (method (n + 1) 68 (.agg #[]) "loop.example/g00085/impl.leastExp").run Tryd.prog X = .ok (91, .agg #[]) X := by kernel_rfl
theorem greatestExp_64 (w : World) : Calls Tryd.prog 90 #[.agg #[]] w fun e w' => e = .returned (.int .i64 369) ∧ Below w.heap.size w w' := by
  go_enter Tryd.func90, Tryd.ntmps90
  go_wp2
  go_ret
  exact ⟨rfl, (Below.refl _ _).alloc (Nat.le_refl _) _⟩
theorem md_greatestExp_64 (n : Nat) (X : World) : (method (n + 1) 68 (.agg #[]) "loop.example/g00085/impl.greatestExp").run Tryd.prog X = .ok (90, .agg #[]) X := by kernel_rfl
theorem fmtOf_64 (w : World) : Calls Tryd.prog 25 #[.int .i64 64] w fun e w' => e = .returned (.tuple #[.iface 68 (.agg #[]), .bool true]) ∧ w' = w := by
  go_enter Tryd.func25, Tryd.ntmps25
  go_wp2
  go_ret2
  exact ⟨rfl, rfl⟩
theorem digitCount_128 (w : World) : Calls Tryd.prog 94 #[.agg #[]] w fun e w' => e = .returned (.int .i64 34) ∧ Below w.heap.size w w' := by
  go_enter Tryd.func94, Tryd.ntmps94
  go_wp2
  go_ret
  exact ⟨rfl, (Below.refl _ _).alloc (Nat.le_refl _) _⟩
theorem md_digitCount_128 (n : Nat) (X : World) : (method (n + 1) 69 (.agg #[]) "loop.example/g00085/impl.digitCount").run Tryd.prog X = .ok (94, .agg #[]) X := by kernel_rfl
theorem leastExp_128 (w : World) : Calls Tryd.prog 96 #[.agg #[]] w fun e w' => e = .returned (.int .i64 (-6176)) ∧ Below w.heap.size w w' := by
  go_enter Tryd.func96, Tryd.ntmps96
  go_wp2
  go_ret
  exact ⟨rfl, (Below.refl _ _).alloc (Nat.le_refl _) _⟩
theorem md_leastExp_128 (n : Nat) (X : World) : (method (n + 1) 69 (.agg #[]) "loop.example/g00085/impl.leastExp").run Tryd.prog X = .ok (96, .agg #[]) X := by kernel_rfl
theorem greatestExp_128 (w : World) : Calls Tryd.prog 95 #[.agg #[]] w fun e w' => e = .returned (.int .i64 6111) ∧ Below w.heap.size w w' := by
  go_enter Tryd.func95, Tryd.ntmps95
  go_wp2
  go_ret
  exact ⟨rfl, (Below.refl _ _).alloc (Nat.le_refl _) _⟩
theorem md_greatestExp_128 (n : Nat) (X : World) : (method (n + 1) 69 (.agg #[]) "loop.example/g00085/impl.greatestExp").run Tryd.prog X = .ok (95, .agg #[]) X := by kernel_rfl
theorem fmtOf_128 (w : World) : Calls Tryd.prog 25 #[.int .i64 128] w fun e w' => e = .returned (.tuple #[.iface 69 (.agg #[]), .bool true]) ∧ w' = w := by
  go_enter Tryd.func25, Tryd.ntmps25
  go_wp2
  go_ret2
  exact ⟨rfl, rfl⟩
theorem fmtOf_no (f : Int) (w : World) (h1 : f ≠ 64) (h2 : f ≠ 128) : Calls Tryd.prog 25 #[.int .i64 f] w fun e w' => e = .returned (.tuple #[.nilIface, .bool false]) ∧ w' = w := by
  have e1 : (f == 64) = false := beq_eq_false_iff_ne.2 h1
  have e2 : (f == 128) = false := beq_eq_false_iff_ne.2 h2
  go_enter Tryd.func25, Tryd.ntmps25
  go_wp2
  go_ret2
  exact ⟨rfl, rfl⟩
end Go.Proofs.YtnkoeidolmiheaaDoor
namespace Go.Proofs.YtnkoeidolmiheaaDoor
open Go.RowKit
set_option linter.unusedVariables false
set_option maxRecDepth 100000
theorem iLimits_any (f : Int) (w : World) : Calls Tryd.prog 19 #[.int .i64 f] w fun e w' => e = .returned (.tuple #[.int .i64 (limP f), .int .i64 (limL f), .int .i64 (limH f)]) ∧ Below w.heap.size w w' := by
  by_cases h1 : f = 64
  · subst h1
    show Calls Tryd.prog 19 #[.int .i64 64] w fun e w' => e = .returned (.tuple #[.int .i64 16, .int .i64 (-398), .int .i64 369]) ∧ Below w.heap.size w w'
    go_enter Tryd.func19, Tryd.ntmps19
    go_wp2_with fail
    refine (fmtOf_64 _).mono ?_
    rintro e w1 ⟨rfl, rfl⟩
    go_wp2_with fail
    refine (digitCount_64 _).mono ?_
    rintro e w2 ⟨rfl, hb2⟩
    go_wp2_with fail
    refine (leastExp_64 _).mono ?_
    rintro e w3 ⟨rfl, hb3⟩
    go_wp2_with fail
    refine (greatestExp_64 _).mono ?_
    rintro e w4 ⟨rfl, hb4⟩
    go_wp2
    go_ret3
    exact ⟨rfl, (hb2.trans (hb3.mono hb2.size)).trans (hb4.mono (Nat.le_trans hb2.size hb3.size))⟩
  · by_cases h2 : f = 128
    · subst h2
      show Calls Tryd.prog 19 #[.int .i64 128] w fun e w' => e = .returned (.tuple #[.int .i64 34, .int .i64 (-6176), .int .i64 6111]) ∧ Below w.heap.size w w'
      go_enter Tryd.func19, Tryd.ntmps19
      go_wp2_with fail
      refine (fmtOf_128 _).mono ?_
      rintro e w1 ⟨rfl, rfl⟩
      go_wp2_with fail
      refine (digitCount_128 _).mono ?_
      rintro e w2 ⟨rfl, hb2⟩
      go_wp2_with fail
      refine (leastExp_128 _).mono ?_
      rintro e w3 ⟨rfl, hb3⟩
      go_wp2_with fail
      refine (greatestExp_128 _).mono ?_
      rintro e w4 ⟨rfl, hb4⟩
      go_wp2
      go_ret3
      exact ⟨rfl, (hb2.trans (hb3.mono hb2.size)).trans (hb4.mono (Nat.le_trans hb2.size hb3.size))⟩
    · have e : limP f = 0 ∧ limL f = 0 ∧ limH f = 0 := by unfold limP limL limH; rw [if_neg h1, if_neg h2, if_neg h1, if_neg h2, if_neg h1, if_neg h2]; exact ⟨rfl, rfl, rfl⟩
      rw [e.1, e.2.1, e.2.2]
      clear e
      go_enter Tryd.func19, Tryd.ntmps19
      go_wp2_with fail
      refine (fmtOf_no f _ h1 h2).mono ?_
      rintro e w1 ⟨rfl, rfl⟩
      clear h1 h2
      go_wp2
      go_ret3
      exact ⟨rfl, Below.refl _ _⟩
end Go.Proofs.YtnkoeidolmiheaaDoor
namespace Go.Proofs.YtnkoeidolmiheaaDoor
open Go.RowKit
set_option linter.unusedVariables false
set_option maxRecDepth 100000
set_option linter.unusedSimpArgs false
set_option maxHeartbeats 4000000 in
theorem isNatural_any (s : ByteArray) (n : Int) (w : World) (hs : s.size ≤ 4611686018427387904) :
    Calls Tryd.prog 39 #[.string s, .int .i64 n] w fun e w' => e = .returned (.bool (natB n s)) ∧ w' = w := by
  by_cases hA : s.size < 1
  · have E : Hid (natB n s = false) := natB_empty n s hA
    have h1 : (s.size : Int) = 0 := by omega
    clear hA
    go_enter Tryd.func39, Tryd.ntmps39
    go_wp2
    go_ret
    exact ⟨Ln.ret_bool E.out.symm, rfl⟩
  have h1 : ((s.size : Int) == 0) = false := beq_eq_false_iff_ne.2 (by omega)
  have h0 : 0 < s.size := by omega
  by_cases hB : n < (s.size : Int)
  · have E : Hid (natB n s = false) := natB_long n s hB
    go_enter Tryd.func39, Tryd.ntmps39
    go_wp2
    go_ret
    exact ⟨Ln.ret_bool E.out.symm, rfl⟩
  have h2' : decide (n < (s.size : Int)) = false := by simpa using hB
  have HG : Hid ((∀ k (hk : k < s.size), 48 ≤ (s[k]'hk).toNat ∧ (s[k]'hk).toNat ≤ 57) → (s.size ≤ 1 ∨ (s[0]'h0).toNat ≠ 48) → natB n s = true) := fun h hc => natB_good n s h0 (by omega) hc h
  have HZ : Hid (1 < s.size → (s[0]'h0).toNat = 48 → natB n s = false) := fun h hz => natB_zero n s h hz
  have HB : Hid (∀ k (hk : k < s.size), ((s[k]'hk).toNat < 48 ∨ 57 < (s[k]'hk).toNat) → natB n s = false) := fun k hk h => natB_bad n s k hk h
  clear hA hB
  generalize natB n s = r at *
  go_enter Tryd.func39, Tryd.ntmps39
  go_wp2
  go_loop [17] (fun i => ∃ k : Nat, k ≤ s.size ∧ i = .int .i64 k ∧ Hid (∀ q (hq : q < s.size), q < k → 48 ≤ (s[q]'hq).toNat ∧ (s[q]'hq).toNat ≤ 57)) (fun i => s.size - (intOf i).toNat)
  case atStart => exact ⟨0, Nat.zero_le _, rfl, fun q hq h => absurd h (Nat.not_lt_zero q)⟩
  case round =>
    obtain ⟨k, hk, rfl, hz⟩ := hrel
    by_cases hlt : k < s.size
    · have hlt' : (k : Int) < (s.size : Int) := by omega
      by_cases hlo : (s[k]'hlt).toNat < 48
      · have hl' : ((s[k]'hlt).toNat : Int) < 48 := by omega
        go_wp2
        go_ret
        exact ⟨Ln.ret_bool (HB.out k hlt (.inl hlo)).symm, rfl⟩
      · have hl' : ¬ ((s[k]'hlt).toNat : Int) < 48 := by omega
        have hl'' : decide (((s[k]'hlt).toNat : Int) < 48) = false := decide_eq_false hl'
        by_cases hhi : 57 < (s[k]'hlt).toNat
        · have hh' : (57 : Int) < ((s[k]'hlt).toNat : Int) := by omega
          go_wp2
          go_ret
          exact ⟨Ln.ret_bool (HB.out k hlt (.inr hhi)).symm, rfl⟩
        · have hh' : ¬ (57 : Int) < ((s[k]'hlt).toNat : Int) := by omega
          go_wp2
          go_round
          case rel => exact ⟨k + 1, by omega, by go_num, fun q hq h => by rcases Nat.lt_or_ge q k with c | c; exact hz.out q hq c; obtain rfl : q = k := (by omega); omega⟩
          case measure => simp [intOf]; omega
    · have hkk : ¬ (k : Int) < (s.size : Int) := by omega
      have HA : Hid (∀ q (hq : q < s.size), 48 ≤ (s[q]'hq).toNat ∧ (s[q]'hq).toNat ≤ 57) := fun q hq => hz.out q hq (by omega)
      clear hz
      by_cases h3 : s.size ≤ 1
      · have h3' : (s.size : Int) = 1 := by omega
        have E : Hid (r = true) := HG.out HA.out (.inl h3)
        clear h3
        go_wp2
        go_ret
        exact ⟨Ln.ret_bool E.out.symm, rfl⟩
      · have h3' : ((s.size : Int) == 1) = false := beq_eq_false_iff_ne.2 (by omega)
        by_cases h4 : (s[0]'h0).toNat = 48
        · have h4' : ((s[0]'h0).toNat : Int) = 48 := by omega
          have E : Hid (r = false) := HZ.out (by omega) h4
          clear h4
          go_wp2
          go_ret
          exact ⟨Ln.ret_bool E.out.symm, rfl⟩
        · have h4' : (((s[0]'h0).toNat : Int) == 48) = false := beq_eq_false_iff_ne.2 (by omega)
          have E : Hid (r = true) := HG.out HA.out (.inr h4)
          have h4'' : Hid ((((s[0]'h0).toNat : Int) != 48) = true) := by show _ = _; rw [bne, h4']; rfl
          go_wp2
          go_ret
          exact ⟨Ln.ret_bool (by rw [h4''.out, E.out]), rfl⟩
/-- A number's box. -/
abbrev nbq (w : World) (k : Int) (b : Bool) (e : Int) (s : ByteArray) : World := w.alloc (.cells #[.int .i64 k, .bool b, .int .i64 e, .string s] 25)
theorem nbq_cells {w W : World} {k : Int} {b : Bool} {e : Int} {s : ByteArray} (h : Below (w.heap.size + 1) (nbq w k b e s) W) : W.cell? ⟨w.heap.size, 0, none⟩ = some (.int .i64 k) ∧ W.cell? ⟨w.heap.size, 1, none⟩ = some (.bool b) ∧ W.cell? ⟨w.heap.size, 2, none⟩ = some (.int .i64 e) ∧ W.cell? ⟨w.heap.size, 3, none⟩ = some (.string s) := by
  refine ⟨?_, ?_, ?_, ?_⟩
  · rw [h.cell (p := ⟨w.heap.size, 0, none⟩) (by simp)]; simp
  · rw [h.cell (p := ⟨w.heap.size, 1, none⟩) (by simp)]; simp
  · rw [h.cell (p := ⟨w.heap.size, 2, none⟩) (by simp)]; simp
  · rw [h.cell (p := ⟨w.heap.size, 3, none⟩) (by simp)]; simp
theorem nbq_out {w W : World} {k : Int} {b : Bool} {e : Int} {s : ByteArray} (h : Below (w.heap.size + 1) (nbq w k b e s) W) : Below w.heap.size w W := ((Below.refl _ _).alloc (Nat.le_refl _) _).trans (h.mono (by omega))
theorem nbq_next {w W w1 : World} {k : Int} {b : Bool} {e : Int} {s : ByteArray} (h : Below (w.heap.size + 1) (nbq w k b e s) W) (hb : Below W.heap.size W w1) : Below (w.heap.size + 1) (nbq w k b e s) w1 := h.trans (hb.mono (by have := h.size; simp at this; omega))
end Go.Proofs.YtnkoeidolmiheaaDoor
namespace Go.Proofs.YtnkoeidolmiheaaDoor
open Go.RowKit
set_option linter.unusedVariables false
set_option maxRecDepth 100000
set_option linter.unusedSimpArgs false
set_option maxRecDepth 100000 in
set_option maxHeartbeats 4000000 in
theorem isRight_fin64 (b : Bool) (e : Int) (s : ByteArray) (w : World) (hs : s.size ≤ 4611686018427387904) :
    Calls Tryd.prog 26 #[.iface 68 (.agg #[]), numV 1 b e s] w fun r w' => r = .returned (.bool (natB 16 s && (decide (-398 ≤ e) && decide (e ≤ 369)))) ∧ Below w.heap.size w w' := by
  have HX0 : Hid (Below (w.heap.size + 1) (nbq w 1 b e s) (nbq w 1 b e s).drew) := (Below.refl _ _).drew
  have HNt : Hid (∀ X, Calls Tryd.prog 39 #[.string s, .int .i64 16] X fun e w' => e = .returned (.bool (natB 16 s)) ∧ w' = X) := fun X => isNatural_any s 16 X hs
  generalize natB 16 s = nb at *
  cases nb with
  | false =>
    go_enter Tryd.func26, Tryd.ntmps26
    go_upto_region 3 with fail
    refine wp_region_class (C := fun W => Below (w.heap.size + 1) (nbq w 1 b e s) W) (by kernel_rfl) (by kernel_rfl) HX0.out ?_
    repeat (refine wpQuiet_step (fun K hK => ?_); go_simp; first | (refine hK _ ?_; clear hK K) | (apply Exists.intro; refine ⟨fun wx hC => ?_, hK _ ?_⟩; (first | exact rfl | exact (HNt.out wx).mono (fun _ _ h => ⟨h.1, by rw [h.2]; exact hC⟩) | (simp only [md_digitCount_64, md_leastExp_64, md_greatestExp_64]; go_simp; first | exact Calls.class_of (digitCount_64 wx) (fun w' hb => nbq_next hC hb) | exact Calls.class_of (leastExp_64 wx) (fun w' hb => nbq_next hC hb) | exact Calls.class_of (greatestExp_64 wx) (fun w' hb => nbq_next hC hb)) | (obtain ⟨q0, q1, q2, q3⟩ := nbq_cells hC; go_simp; exact rfl)); clear hK K))
    refine wpQuiet_nil ?_
    intro w1 hb1
    go_wp2
    go_ret
    exact ⟨rfl, nbq_out hb1⟩
  | true =>
    by_cases h1 : -398 ≤ e
    · have E : Hid ((true && (decide ((-398 : Int) ≤ e) && decide (e ≤ 369))) = decide (e ≤ 369)) := by show _ = _; rw [decide_eq_true h1]; rfl
      rw [E.out]
      go_enter Tryd.func26, Tryd.ntmps26
      go_upto_region 3 with fail
      refine wp_region_class (C := fun W => Below (w.heap.size + 1) (nbq w 1 b e s) W) (by kernel_rfl) (by kernel_rfl) HX0.out ?_
      repeat (refine wpQuiet_step (fun K hK => ?_); go_simp; first | (refine hK _ ?_; clear hK K) | (apply Exists.intro; refine ⟨fun wx hC => ?_, hK _ ?_⟩; (first | exact rfl | exact (HNt.out wx).mono (fun _ _ h => ⟨h.1, by rw [h.2]; exact hC⟩) | (simp only [md_digitCount_64, md_leastExp_64, md_greatestExp_64]; go_simp; first | exact Calls.class_of (digitCount_64 wx) (fun w' hb => nbq_next hC hb) | exact Calls.class_of (leastExp_64 wx) (fun w' hb => nbq_next hC hb) | exact Calls.class_of (greatestExp_64 wx) (fun w' hb => nbq_next hC hb)) | (obtain ⟨q0, q1, q2, q3⟩ := nbq_cells hC; go_simp; exact rfl)); clear hK K))
      refine wpQuiet_nil ?_
      intro w1 hb1
      go_wp2
      go_ret
      exact ⟨rfl, nbq_out hb1⟩
    · have E : Hid ((true && (decide ((-398 : Int) ≤ e) && decide (e ≤ 369))) = false) := by show _ = _; rw [decide_eq_false h1]; rfl
      rw [E.out]
      go_enter Tryd.func26, Tryd.ntmps26
      go_upto_region 3 with fail
      refine wp_region_class (C := fun W => Below (w.heap.size + 1) (nbq w 1 b e s) W) (by kernel_rfl) (by kernel_rfl) HX0.out ?_
      repeat (refine wpQuiet_step (fun K hK => ?_); go_simp; first | (refine hK _ ?_; clear hK K) | (apply Exists.intro; refine ⟨fun wx hC => ?_, hK _ ?_⟩; (first | exact rfl | exact (HNt.out wx).mono (fun _ _ h => ⟨h.1, by rw [h.2]; exact hC⟩) | (simp only [md_digitCount_64, md_leastExp_64, md_greatestExp_64]; go_simp; first | exact Calls.class_of (digitCount_64 wx) (fun w' hb => nbq_next hC hb) | exact Calls.class_of (leastExp_64 wx) (fun w' hb => nbq_next hC hb) | exact Calls.class_of (greatestExp_64 wx) (fun w' hb => nbq_next hC hb)) | (obtain ⟨q0, q1, q2, q3⟩ := nbq_cells hC; go_simp; exact rfl)); clear hK K))
      refine wpQuiet_nil ?_
      intro w1 hb1
      go_wp2
      go_ret
      exact ⟨rfl, nbq_out hb1⟩
set_option maxRecDepth 100000 in
set_option maxHeartbeats 4000000 in
theorem isRight_fin128 (b : Bool) (e : Int) (s : ByteArray) (w : World) (hs : s.size ≤ 4611686018427387904) :
    Calls Tryd.prog 26 #[.iface 69 (.agg #[]), numV 1 b e s] w fun r w' => r = .returned (.bool (natB 34 s && (decide (-6176 ≤ e) && decide (e ≤ 6111)))) ∧ Below w.heap.size w w' := by
  have HX0 : Hid (Below (w.heap.size + 1) (nbq w 1 b e s) (nbq w 1 b e s).drew) := (Below.refl _ _).drew
  have HNt : Hid (∀ X, Calls Tryd.prog 39 #[.string s, .int .i64 34] X fun e w' => e = .returned (.bool (natB 34 s)) ∧ w' = X) := fun X => isNatural_any s 34 X hs
  generalize natB 34 s = nb at *
  cases nb with
  | false =>
    go_enter Tryd.func26, Tryd.ntmps26
    go_upto_region 3 with fail
    refine wp_region_class (C := fun W => Below (w.heap.size + 1) (nbq w 1 b e s) W) (by kernel_rfl) (by kernel_rfl) HX0.out ?_
    repeat (refine wpQuiet_step (fun K hK => ?_); go_simp; first | (refine hK _ ?_; clear hK K) | (apply Exists.intro; refine ⟨fun wx hC => ?_, hK _ ?_⟩; (first | exact rfl | exact (HNt.out wx).mono (fun _ _ h => ⟨h.1, by rw [h.2]; exact hC⟩) | (simp only [md_digitCount_128, md_leastExp_128, md_greatestExp_128]; go_simp; first | exact Calls.class_of (digitCount_128 wx) (fun w' hb => nbq_next hC hb) | exact Calls.class_of (leastExp_128 wx) (fun w' hb => nbq_next hC hb) | exact Calls.class_of (greatestExp_128 wx) (fun w' hb => nbq_next hC hb)) | (obtain ⟨q0, q1, q2, q3⟩ := nbq_cells hC; go_simp; exact rfl)); clear hK K))
    refine wpQuiet_nil ?_
    intro w1 hb1
    go_wp2
    go_ret
    exact ⟨rfl, nbq_out hb1⟩
  | true =>
    by_cases h1 : -6176 ≤ e
    · have E : Hid ((true && (decide ((-6176 : Int) ≤ e) && decide (e ≤ 6111))) = decide (e ≤ 6111)) := by show _ = _; rw [decide_eq_true h1]; rfl
      rw [E.out]
      go_enter Tryd.func26, Tryd.ntmps26
      go_upto_region 3 with fail
      refine wp_region_class (C := fun W => Below (w.heap.size + 1) (nbq w 1 b e s) W) (by kernel_rfl) (by kernel_rfl) HX0.out ?_
      repeat (refine wpQuiet_step (fun K hK => ?_); go_simp; first | (refine hK _ ?_; clear hK K) | (apply Exists.intro; refine ⟨fun wx hC => ?_, hK _ ?_⟩; (first | exact rfl | exact (HNt.out wx).mono (fun _ _ h => ⟨h.1, by rw [h.2]; exact hC⟩) | (simp only [md_digitCount_128, md_leastExp_128, md_greatestExp_128]; go_simp; first | exact Calls.class_of (digitCount_128 wx) (fun w' hb => nbq_next hC hb) | exact Calls.class_of (leastExp_128 wx) (fun w' hb => nbq_next hC hb) | exact Calls.class_of (greatestExp_128 wx) (fun w' hb => nbq_next hC hb)) | (obtain ⟨q0, q1, q2, q3⟩ := nbq_cells hC; go_simp; exact rfl)); clear hK K))
      refine wpQuiet_nil ?_
      intro w1 hb1
      go_wp2
      go_ret
      exact ⟨rfl, nbq_out hb1⟩
    · have E : Hid ((true && (decide ((-6176 : Int) ≤ e) && decide (e ≤ 6111))) = false) := by show _ = _; rw [decide_eq_false h1]; rfl
      rw [E.out]
      go_enter Tryd.func26, Tryd.ntmps26
      go_upto_region 3 with fail
      refine wp_region_class (C := fun W => Below (w.heap.size + 1) (nbq w 1 b e s) W) (by kernel_rfl) (by kernel_rfl) HX0.out ?_
      repeat (refine wpQuiet_step (fun K hK => ?_); go_simp; first | (refine hK _ ?_; clear hK K) | (apply Exists.intro; refine ⟨fun wx hC => ?_, hK _ ?_⟩; (first | exact rfl | exact (HNt.out wx).mono (fun _ _ h => ⟨h.1, by rw [h.2]; exact hC⟩) | (simp only [md_digitCount_128, md_leastExp_128, md_greatestExp_128]; go_simp; first | exact Calls.class_of (digitCount_128 wx) (fun w' hb => nbq_next hC hb) | exact Calls.class_of (leastExp_128 wx) (fun w' hb => nbq_next hC hb) | exact Calls.class_of (greatestExp_128 wx) (fun w' hb => nbq_next hC hb)) | (obtain ⟨q0, q1, q2, q3⟩ := nbq_cells hC; go_simp; exact rfl)); clear hK K))
      refine wpQuiet_nil ?_
      intro w1 hb1
      go_wp2
      go_ret
      exact ⟨rfl, nbq_out hb1⟩
theorem isRight_oth64 (k : Int) (b : Bool) (e : Int) (s : ByteArray) (w : World) (hs : s.size ≤ 4611686018427387904) (hk : k ≠ 1) :
    Calls Tryd.prog 26 #[.iface 68 (.agg #[]), numV k b e s] w fun r w' => r = .returned (.bool (numB 64 k b e s)) ∧ Below w.heap.size w w' := by
  have HB : Hid (Below w.heap.size w (nbq w k b e s)) := (Below.refl _ _).alloc (Nat.le_refl _) _
  have k1 : (k == 1) = false := beq_eq_false_iff_ne.2 hk
  have h0 : limP 64 ≠ 0 := by decide
  by_cases k2 : k = 2
  · subst k2
    clear hk
    by_cases he : e = 0
    · subst he
      have E : Hid (numB 64 2 b 0 s = s.toList.isEmpty) := by show _ = _; unfold numB; rw [if_neg h0, if_neg (by decide), if_pos rfl]; rfl
      clear h0
      go_enter Tryd.func26, Tryd.ntmps26
      go_wp2
      go_ret
      exact ⟨Ln.ret_bool E.out.symm, HB.out⟩
    · have he' : (e == 0) = false := by simpa using he
      have E : Hid (numB 64 2 b e s = false) := by show _ = _; unfold numB; rw [if_neg h0, if_neg (by decide), if_pos rfl, decide_eq_false he]; rfl
      clear h0
      go_enter Tryd.func26, Tryd.ntmps26
      go_wp2
      go_ret
      exact ⟨Ln.ret_bool E.out.symm, HB.out⟩
  have k2b : (k == 2) = false := beq_eq_false_iff_ne.2 k2
  by_cases k34 : k = 3 ∨ k = 4
  · have E0 : Hid (numB 64 k b e s = (decide (e = 0) && (s.toList.isEmpty && !b))) := by show _ = _; unfold numB; rw [if_neg h0, if_neg hk, if_neg k2, if_pos k34]
    generalize numB 64 k b e s = R at *
    clear h0 hk k2
    by_cases he : e = 0
    · subst he
      cases hb : s.toList.isEmpty with
      | false =>
        have E : Hid (R = false) := by show _ = _; rw [E0.out, hb]; rfl
        rcases k34 with rfl | rfl
        all_goals
          go_enter Tryd.func26, Tryd.ntmps26
          go_wp2
          go_ret
          exact ⟨Ln.ret_bool E.out.symm, HB.out⟩
      | true =>
        have E : Hid (R = !b) := by show _ = _; rw [E0.out, hb]; rfl
        rcases k34 with rfl | rfl
        all_goals
          go_enter Tryd.func26, Tryd.ntmps26
          go_wp2
          go_ret
          exact ⟨Ln.ret_bool E.out.symm, HB.out⟩
    · have he' : (e == 0) = false := by simpa using he
      have E : Hid (R = false) := by show _ = _; rw [E0.out, decide_eq_false he]; rfl
      clear he
      rcases k34 with rfl | rfl
      all_goals
        go_enter Tryd.func26, Tryd.ntmps26
        go_wp2
        go_ret
        exact ⟨Ln.ret_bool E.out.symm, HB.out⟩
  · have k3b : (k == 3) = false := beq_eq_false_iff_ne.2 (fun h => k34 (.inl h))
    have k4b : (k == 4) = false := beq_eq_false_iff_ne.2 (fun h => k34 (.inr h))
    have E : Hid (numB 64 k b e s = false) := by show _ = _; unfold numB; rw [if_neg h0, if_neg hk, if_neg k2, if_neg k34]
    clear h0 hk k2 k34
    go_enter Tryd.func26, Tryd.ntmps26
    go_wp2
    go_ret
    exact ⟨Ln.ret_bool E.out.symm, HB.out⟩
theorem isRight_64 (k : Int) (b : Bool) (e : Int) (s : ByteArray) (w : World) (hs : s.size ≤ 4611686018427387904) :
    Calls Tryd.prog 26 #[.iface 68 (.agg #[]), numV k b e s] w fun r w' => r = .returned (.bool (numB 64 k b e s)) ∧ Below w.heap.size w w' := by
  by_cases hk : k = 1
  · subst hk
    have E : numB 64 1 b e s = (natB 16 s && (decide (-398 ≤ e) && decide (e ≤ 369))) := by unfold numB; rw [if_neg (by decide), if_pos rfl]; rfl
    rw [E]
    exact isRight_fin64 b e s w hs
  · exact isRight_oth64 k b e s w hs hk
theorem iNumOk_64 (k : Int) (b : Bool) (e : Int) (s : ByteArray) (w : World) (hs : s.size ≤ 4611686018427387904) :
    Calls Tryd.prog 8 #[.int .i64 64, numV k b e s] w fun r w' => r = .returned (.bool (numB 64 k b e s)) ∧ Below w.heap.size w w' := by
  have HI : Hid (∀ X, Calls Tryd.prog 26 #[.iface 68 (.agg #[]), numV k b e s] X fun r w' => r = .returned (.bool (numB 64 k b e s)) ∧ Below X.heap.size X w') := fun X => isRight_64 k b e s X hs
  have HB : Hid (Below (w.heap.size + 1) (nbq w k b e s) (nbq w k b e s)) := Below.refl _ _
  generalize numB 64 k b e s = R at *
  go_enter Tryd.func8, Tryd.ntmps8
  go_wp2_with fail
  refine (fmtOf_64 _).mono ?_
  rintro r w1 ⟨rfl, hw⟩
  subst hw
  go_wp2_with fail
  refine (HI.out _).mono ?_
  rintro r w2 ⟨rfl, hb⟩
  have hB2 := nbq_next HB.out hb
  go_wp2
  go_ret
  exact ⟨rfl, nbq_out hB2⟩
theorem isRight_oth128 (k : Int) (b : Bool) (e : Int) (s : ByteArray) (w : World) (hs : s.size ≤ 4611686018427387904) (hk : k ≠ 1) :
    Calls Tryd.prog 26 #[.iface 69 (.agg #[]), numV k b e s] w fun r w' => r = .returned (.bool (numB 128 k b e s)) ∧ Below w.heap.size w w' := by
  have HB : Hid (Below w.heap.size w (nbq w k b e s)) := (Below.refl _ _).alloc (Nat.le_refl _) _
  have k1 : (k == 1) = false := beq_eq_false_iff_ne.2 hk
  have h0 : limP 128 ≠ 0 := by decide
  by_cases k2 : k = 2
  · subst k2
    clear hk
    by_cases he : e = 0
    · subst he
      have E : Hid (numB 128 2 b 0 s = s.toList.isEmpty) := by show _ = _; unfold numB; rw [if_neg h0, if_neg (by decide), if_pos rfl]; rfl
      clear h0
      go_enter Tryd.func26, Tryd.ntmps26
      go_wp2
      go_ret
      exact ⟨Ln.ret_bool E.out.symm, HB.out⟩
    · have he' : (e == 0) = false := by simpa using he
      have E : Hid (numB 128 2 b e s = false) := by show _ = _; unfold numB; rw [if_neg h0, if_neg (by decide), if_pos rfl, decide_eq_false he]; rfl
      clear h0
      go_enter Tryd.func26, Tryd.ntmps26
      go_wp2
      go_ret
      exact ⟨Ln.ret_bool E.out.symm, HB.out⟩
  have k2b : (k == 2) = false := beq_eq_false_iff_ne.2 k2
  by_cases k34 : k = 3 ∨ k = 4
  · have E0 : Hid (numB 128 k b e s = (decide (e = 0) && (s.toList.isEmpty && !b))) := by show _ = _; unfold numB; rw [if_neg h0, if_neg hk, if_neg k2, if_pos k34]
    generalize numB 128 k b e s = R at *
    clear h0 hk k2
    by_cases he : e = 0
    · subst he
      cases hb : s.toList.isEmpty with
      | false =>
        have E : Hid (R = false) := by show _ = _; rw [E0.out, hb]; rfl
        rcases k34 with rfl | rfl
        all_goals
          go_enter Tryd.func26, Tryd.ntmps26
          go_wp2
          go_ret
          exact ⟨Ln.ret_bool E.out.symm, HB.out⟩
      | true =>
        have E : Hid (R = !b) := by show _ = _; rw [E0.out, hb]; rfl
        rcases k34 with rfl | rfl
        all_goals
          go_enter Tryd.func26, Tryd.ntmps26
          go_wp2
          go_ret
          exact ⟨Ln.ret_bool E.out.symm, HB.out⟩
    · have he' : (e == 0) = false := by simpa using he
      have E : Hid (R = false) := by show _ = _; rw [E0.out, decide_eq_false he]; rfl
      clear he
      rcases k34 with rfl | rfl
      all_goals
        go_enter Tryd.func26, Tryd.ntmps26
        go_wp2
        go_ret
        exact ⟨Ln.ret_bool E.out.symm, HB.out⟩
  · have k3b : (k == 3) = false := beq_eq_false_iff_ne.2 (fun h => k34 (.inl h))
    have k4b : (k == 4) = false := beq_eq_false_iff_ne.2 (fun h => k34 (.inr h))
    have E : Hid (numB 128 k b e s = false) := by show _ = _; unfold numB; rw [if_neg h0, if_neg hk, if_neg k2, if_neg k34]
    clear h0 hk k2 k34
    go_enter Tryd.func26, Tryd.ntmps26
    go_wp2
    go_ret
    exact ⟨Ln.ret_bool E.out.symm, HB.out⟩
theorem isRight_128 (k : Int) (b : Bool) (e : Int) (s : ByteArray) (w : World) (hs : s.size ≤ 4611686018427387904) :
    Calls Tryd.prog 26 #[.iface 69 (.agg #[]), numV k b e s] w fun r w' => r = .returned (.bool (numB 128 k b e s)) ∧ Below w.heap.size w w' := by
  by_cases hk : k = 1
  · subst hk
    have E : numB 128 1 b e s = (natB 34 s && (decide (-6176 ≤ e) && decide (e ≤ 6111))) := by unfold numB; rw [if_neg (by decide), if_pos rfl]; rfl
    rw [E]
    exact isRight_fin128 b e s w hs
  · exact isRight_oth128 k b e s w hs hk
theorem iNumOk_128 (k : Int) (b : Bool) (e : Int) (s : ByteArray) (w : World) (hs : s.size ≤ 4611686018427387904) :
    Calls Tryd.prog 8 #[.int .i64 128, numV k b e s] w fun r w' => r = .returned (.bool (numB 128 k b e s)) ∧ Below w.heap.size w w' := by
  have HI : Hid (∀ X, Calls Tryd.prog 26 #[.iface 69 (.agg #[]), numV k b e s] X fun r w' => r = .returned (.bool (numB 128 k b e s)) ∧ Below X.heap.size X w') := fun X => isRight_128 k b e s X hs
  have HB : Hid (Below (w.heap.size + 1) (nbq w k b e s) (nbq w k b e s)) := Below.refl _ _
  generalize numB 128 k b e s = R at *
  go_enter Tryd.func8, Tryd.ntmps8
  go_wp2_with fail
  refine (fmtOf_128 _).mono ?_
  rintro r w1 ⟨rfl, hw⟩
  subst hw
  go_wp2_with fail
  refine (HI.out _).mono ?_
  rintro r w2 ⟨rfl, hb⟩
  have hB2 := nbq_next HB.out hb
  go_wp2
  go_ret
  exact ⟨rfl, nbq_out hB2⟩
theorem iNumOk_any (f k : Int) (b : Bool) (e : Int) (s : ByteArray) (w : World) (hs : s.size ≤ 4611686018427387904) :
    Calls Tryd.prog 8 #[.int .i64 f, numV k b e s] w fun r w' => r = .returned (.bool (numB f k b e s)) ∧ Below w.heap.size w w' := by
  by_cases h1 : f = 64
  · subst h1; exact iNumOk_64 k b e s w hs
  by_cases h2 : f = 128
  · subst h2; exact iNumOk_128 k b e s w hs
  have E : Hid (numB f k b e s = false) := by show _ = _; unfold numB limP; rw [if_neg h1, if_neg h2, if_pos rfl]
  have HB : Hid (Below (w.heap.size + 1) (nbq w k b e s) (nbq w k b e s)) := Below.refl _ _
  go_enter Tryd.func8, Tryd.ntmps8
  go_wp2_with fail
  refine (fmtOf_no f _ h1 h2).mono ?_
  rintro r w1 ⟨rfl, hw⟩
  subst hw
  go_wp2
  go_ret
  exact ⟨Ln.ret_bool E.out.symm, nbq_out HB.out⟩
end Go.Proofs.YtnkoeidolmiheaaDoor
