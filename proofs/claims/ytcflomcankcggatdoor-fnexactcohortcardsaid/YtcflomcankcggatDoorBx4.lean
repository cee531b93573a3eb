/-
  A Num's four cells in a block of memory.
-/
import Derived.Test.YtcflomcankcggatDoorSl
import Derived.Test.YtcflomcankcggatDoorNtM
import Derived.Handy
import Derived.Lib.SmallJoins
import Derived.ProofKit
import Derived.OpenShut
import Derived.BigQuiet
import Derived.Deep.Quiet
import Derived.Deep.DeepCutAuto
import Derived.Test.YtcflomcankcggatDoorRows
import Derived.WalkKit
import Derived.Deep.QuietTactic
namespace Go.Proofs.YtcflomcankcggatDoor
open Go.RowKit
set_option linter.unusedVariables false
set_option maxRecDepth 100000
/-- A number's value. -/
abbrev numV (k : Int) (b : Bool) (e : Int) (s : ByteArray) : Value := .agg #[.int .i64 k, .bool b, .int .i64 e, .string s]
theorem szNum_yes (k : Int) (b : Bool) (e : Int) (s : ByteArray) (l : Int) (w : World) (h0 : 0 ≤ l) (h1 : l ≤ 1048576) (hs : s.size ≤ 9223372036854775807) (h : (s.size : Int) ≤ l) :
    Calls Tryd.prog 5 #[numV k b e s, .int .i64 l] w fun r w' => r = .returned (.int .i64 (l - s.size)) ∧ Below w.heap.size w w' := by
  have h' : ¬ l - (s.size : Int) < 0 := by omega
  go_enter Tryd.func5, Tryd.ntmps5
  go_wp2
  go_ret
  exact ⟨rfl, (Below.refl _ _).alloc (Nat.le_refl _) _⟩
theorem szNum_no (k : Int) (b : Bool) (e : Int) (s : ByteArray) (l : Int) (w : World) (h0 : 0 ≤ l) (h1 : l ≤ 1048576) (hs : s.size ≤ 9223372036854775807) (h : l < (s.size : Int)) :
    Calls Tryd.prog 5 #[numV k b e s, .int .i64 l] w fun r w' => r = .returned (.int .i64 (-1)) ∧ Below w.heap.size w w' := by
  have h' : l - (s.size : Int) < 0 := by omega
  go_enter Tryd.func5, Tryd.ntmps5
  go_wp2
  go_ret
  exact ⟨rfl, (Below.refl _ _).alloc (Nat.le_refl _) _⟩
theorem toNum_any (k : Int) (b : Bool) (e : Int) (s : ByteArray) (w : World) :
    Calls Tryd.prog 7 #[numV k b e s] w fun r w' => r = .returned (numV k b e s) ∧ Below w.heap.size w w' := by
  go_enter Tryd.func7, Tryd.ntmps7
  go_wp2
  go_returns
  exact ⟨rfl, (((Below.refl _ _).alloc (Nat.le_refl _) _).alloc (by simp) _).alloc (by simp; omega) _⟩
/-- The formats' digits and bounds. -/
def limP (f : Int) : Int := if f = 64 then 16 else if f = 128 then 34 else 0
def limL (f : Int) : Int := if f = 64 then -398 else if f = 128 then -6176 else 0
def limH (f : Int) : Int := if f = 64 then 369 else if f = 128 then 6111 else 0
theorem Limits_any (f : Int) (w : World) :
    Calls Tryd.prog 19 #[.int .i64 f] w fun r w' => r = .returned (.tuple #[.int .i64 (limP f), .int .i64 (limL f), .int .i64 (limH f)]) ∧ w' = w := by
  by_cases h1 : f = 64
  · subst h1
    go_enter Tryd.func19, Tryd.ntmps19
    go_wp2
    go_returns
    exact ⟨rfl, rfl⟩
  · by_cases h2 : f = 128
    · subst h2
      go_enter Tryd.func19, Tryd.ntmps19
      go_wp2
      go_returns
      exact ⟨rfl, rfl⟩
    · have e1 : (f == 64) = false := by simpa using h1
      have e2 : (f == 128) = false := by simpa using h2
      have E : Hid (limP f = 0 ∧ limL f = 0 ∧ limH f = 0) := by
        refine ⟨?_, ?_, ?_⟩
        · unfold limP; rw [if_neg h1, if_neg h2]
        · unfold limL; rw [if_neg h1, if_neg h2]
        · unfold limH; rw [if_neg h1, if_neg h2]
      rw [E.out.1, E.out.2.1, E.out.2.2]
      go_enter Tryd.func19, Tryd.ntmps19
      go_wp2
      go_returns
      exact ⟨rfl, rfl⟩
/-- Whether a number is right in a format. -/
def numB (f k : Int) (b : Bool) (e : Int) (s : ByteArray) : Bool :=
  if limP f = 0 then false
  else if k = 1 then natB (limP f) s && (decide (limL f ≤ e) && decide (e ≤ limH f))
  else if k = 2 then decide (e = 0) && s.toList.isEmpty
  else if k = 3 ∨ k = 4 then decide (e = 0) && (s.toList.isEmpty && !b)
  else false
theorem lim_cases (f : Int) : (limP f = 0) ∨ ((limP f == 0) = false ∧ limP f ≠ 0) := by
  by_cases h : limP f = 0
  · exact .inl h
  · exact .inr ⟨by simpa using h, h⟩
theorem sNumOk_any (f k : Int) (b : Bool) (e : Int) (s : ByteArray) (w : World) (hs : s.size ≤ 4611686018427387904) :
    Calls Tryd.prog 14 #[.int .i64 f, numV k b e s] w fun r w' => r = .returned (.bool (numB f k b e s)) ∧ Below w.heap.size w w' := by
  have HB : Hid (Below w.heap.size w (w.alloc (.cells #[.int .i64 k, .bool b, .int .i64 e, .string s] 26))) := (Below.refl _ _).alloc (Nat.le_refl _) _
  rcases lim_cases f with h0 | ⟨h0b, h0⟩
  · have E : Hid (numB f k b e s = false) := by show _ = _; unfold numB; rw [if_pos h0]
    have H0 : Hid (limP f = 0) := h0
    clear h0
    go_enter Tryd.func14, Tryd.ntmps14
    go_wp2_with fail
    refine (Limits_any f _).mono ?_
    rintro r w' ⟨rfl, hw⟩
    obtain rfl := hw
    rw [H0.out]
    go_wp2
    go_ret
    exact ⟨Ln.ret_bool E.out.symm, HB.out⟩
  by_cases k1 : k = 1
  · subst k1
    have E : Hid (numB f 1 b e s = (natB (limP f) s && (decide (limL f ≤ e) && decide (e ≤ limH f)))) := by show _ = _; unfold numB; rw [if_neg h0, if_pos rfl]
    generalize numB f 1 b e s = R at *
    cases hn : natB (limP f) s with
    | false =>
      have Hn : Hid (natB (limP f) s = false) := hn
      have E' : Hid (R = false) := by show _ = _; rw [E.out, hn]; rfl
      clear hn h0 E
      go_enter Tryd.func14, Tryd.ntmps14
      go_wp2_with fail
      refine (Limits_any f _).mono ?_
      rintro r w' ⟨rfl, hw⟩
      obtain rfl := hw
      go_wp2_with fail
      refine (l10Nat_all s _ _ hs).mono ?_
      rintro r w' ⟨rfl, hw⟩
      obtain rfl := hw
      rw [Hn.out]
      go_wp2
      go_ret
      exact ⟨Ln.ret_bool E'.out.symm, HB.out⟩
    | true =>
      have Hn : Hid (natB (limP f) s = true) := hn
      by_cases he : limL f ≤ e ∧ e ≤ limH f
      · have E' : Hid (R = true) := by show _ = _; rw [E.out, hn]; simp [he.1, he.2]
        clear hn h0 E
        go_enter Tryd.func14, Tryd.ntmps14
        go_wp2_with fail
        refine (Limits_any f _).mono ?_
        rintro r w' ⟨rfl, hw⟩
        obtain rfl := hw
        go_wp2_with fail
        refine (l10Nat_all s _ _ hs).mono ?_
        rintro r w' ⟨rfl, hw⟩
        obtain rfl := hw
        rw [Hn.out]
        go_wp2_with fail
        refine (l1In_yes e _ _ _ he.1 he.2).mono ?_
        rintro r w' ⟨rfl, hw⟩
        obtain rfl := hw
        go_wp2
        go_ret
        exact ⟨Ln.ret_bool E'.out.symm, HB.out⟩
      · have E' : Hid (R = false) := by
          show _ = _; rw [E.out, hn]
          by_cases h : limL f ≤ e
          · have : ¬ e ≤ limH f := fun h' => he ⟨h, h'⟩
            simp [this]
          · simp [h]
        clear hn h0 E
        go_enter Tryd.func14, Tryd.ntmps14
        go_wp2_with fail
        refine (Limits_any f _).mono ?_
        rintro r w' ⟨rfl, hw⟩
        obtain rfl := hw
        go_wp2_with fail
        refine (l10Nat_all s _ _ hs).mono ?_
        rintro r w' ⟨rfl, hw⟩
        obtain rfl := hw
        rw [Hn.out]
        go_wp2_with fail
        refine (l1In_no e _ _ _ (by omega)).mono ?_
        rintro r w' ⟨rfl, hw⟩
        obtain rfl := hw
        go_wp2
        go_ret
        exact ⟨Ln.ret_bool E'.out.symm, HB.out⟩
  by_cases k2 : k = 2
  · subst k2
    clear k1
    by_cases he : e = 0
    · subst he
      have E : Hid (numB f 2 b 0 s = s.toList.isEmpty) := by show _ = _; unfold numB; rw [if_neg h0, if_neg (by decide), if_pos rfl]; rfl
      clear h0
      go_enter Tryd.func14, Tryd.ntmps14
      go_wp2_with fail
      refine (Limits_any f _).mono ?_
      rintro r w' ⟨rfl, hw⟩
      obtain rfl := hw
      go_wp2
      go_ret
      exact ⟨Ln.ret_bool E.out.symm, HB.out⟩
    · have he' : (e == 0) = false := by simpa using he
      have E : Hid (numB f 2 b e s = false) := by show _ = _; unfold numB; rw [if_neg h0, if_neg (by decide), if_pos rfl, decide_eq_false he]; rfl
      clear h0
      go_enter Tryd.func14, Tryd.ntmps14
      go_wp2_with fail
      refine (Limits_any f _).mono ?_
      rintro r w' ⟨rfl, hw⟩
      obtain rfl := hw
      go_wp2
      go_ret
      exact ⟨Ln.ret_bool E.out.symm, HB.out⟩
  by_cases k3 : k = 3
  · subst k3
    clear k1 k2
    by_cases he : e = 0
    · subst he
      cases hb : s.toList.isEmpty with
      | false =>
        have E : Hid (numB f 3 b 0 s = false) := by show _ = _; unfold numB; rw [if_neg h0, if_neg (by decide), if_neg (by decide), if_pos (by decide), hb]; rfl
        clear h0
        go_enter Tryd.func14, Tryd.ntmps14
        go_wp2_with fail
        refine (Limits_any f _).mono ?_
        rintro r w' ⟨rfl, hw⟩
        obtain rfl := hw
        go_wp2
        go_ret
        exact ⟨Ln.ret_bool E.out.symm, HB.out⟩
      | true =>
        have E : Hid (numB f 3 b 0 s = !b) := by show _ = _; unfold numB; rw [if_neg h0, if_neg (by decide), if_neg (by decide), if_pos (by decide), hb]; rfl
        clear h0
        go_enter Tryd.func14, Tryd.ntmps14
        go_wp2_with fail
        refine (Limits_any f _).mono ?_
        rintro r w' ⟨rfl, hw⟩
        obtain rfl := hw
        go_wp2
        go_ret
        exact ⟨Ln.ret_bool E.out.symm, HB.out⟩
    · have he' : (e == 0) = false := by simpa using he
      have E : Hid (numB f 3 b e s = false) := by show _ = _; unfold numB; rw [if_neg h0, if_neg (by decide), if_neg (by decide), if_pos (by decide), decide_eq_false he]; rfl
      clear h0
      go_enter Tryd.func14, Tryd.ntmps14
      go_wp2_with fail
      refine (Limits_any f _).mono ?_
      rintro r w' ⟨rfl, hw⟩
      obtain rfl := hw
      go_wp2
      go_ret
      exact ⟨Ln.ret_bool E.out.symm, HB.out⟩
  by_cases k4 : k = 4
  · subst k4
    clear k1 k2 k3
    by_cases he : e = 0
    · subst he
      cases hb : s.toList.isEmpty with
      | false =>
        have E : Hid (numB f 4 b 0 s = false) := by show _ = _; unfold numB; rw [if_neg h0, if_neg (by decide), if_neg (by decide), if_pos (by decide), hb]; rfl
        clear h0
        go_enter Tryd.func14, Tryd.ntmps14
        go_wp2_with fail
        refine (Limits_any f _).mono ?_
        rintro r w' ⟨rfl, hw⟩
        obtain rfl := hw
        go_wp2
        go_ret
        exact ⟨Ln.ret_bool E.out.symm, HB.out⟩
      | true =>
        have E : Hid (numB f 4 b 0 s = !b) := by show _ = _; unfold numB; rw [if_neg h0, if_neg (by decide), if_neg (by decide), if_pos (by decide), hb]; rfl
        clear h0
        go_enter Tryd.func14, Tryd.ntmps14
        go_wp2_with fail
        refine (Limits_any f _).mono ?_
        rintro r w' ⟨rfl, hw⟩
        obtain rfl := hw
        go_wp2
        go_ret
        exact ⟨Ln.ret_bool E.out.symm, HB.out⟩
    · have he' : (e == 0) = false := by simpa using he
      have E : Hid (numB f 4 b e s = false) := by show _ = _; unfold numB; rw [if_neg h0, if_neg (by decide), if_neg (by decide), if_pos (by decide), decide_eq_false he]; rfl
      clear h0
      go_enter Tryd.func14, Tryd.ntmps14
      go_wp2_with fail
      refine (Limits_any f _).mono ?_
      rintro r w' ⟨rfl, hw⟩
      obtain rfl := hw
      go_wp2
      go_ret
      exact ⟨Ln.ret_bool E.out.symm, HB.out⟩
  have E : Hid (numB f k b e s = false) := by
    show _ = _; unfold numB; rw [if_neg h0, if_neg k1, if_neg k2, if_neg (by omega)]
  have c1 : (k == 1) = false := by simpa using k1
  have c2 : (k == 2) = false := by simpa using k2
  have c3 : (k == 3) = false := by simpa using k3
  have c4 : (k == 4) = false := by simpa using k4
  clear h0
  go_enter Tryd.func14, Tryd.ntmps14
  go_wp2_with fail
  refine (Limits_any f _).mono ?_
  rintro r w' ⟨rfl, hw⟩
  obtain rfl := hw
  go_wp2
  go_ret
  exact ⟨Ln.ret_bool E.out.symm, HB.out⟩
end Go.Proofs.YtcflomcankcggatDoor
namespace Go.Proofs.YtcflomcankcggatDoor
open Go.ChangeShapes Go.WideShapes Go.ChangeAt Go.RowKit
set_option linter.unusedVariables false
set_option maxRecDepth 100000
set_option maxRecDepth 100000 in
theorem open_num {H : Type} {enc : TypeId × Value → H} {W : World} {base b0 : Nat} {r : Reach} {sp : Nat → Bool} {held : Bool} {v : Value} {d : DataW H} {ps : List MemPlace} (hval : Value.okWide Tryd.prog W r b0 23 v) (hd : DataW.Trod enc Tryd.prog W base sp held 23 v d ps) :
    ∃ k b e s, v = numV k b e s ∧ (Lit.int .i64 k).wf = true ∧ (Lit.int .i64 e).wf = true ∧ s.size ≤ maxLen := by
  obtain ⟨cs, rfl, hsz⟩ := okWide_struct Tryd.underlying23 hval
  have hc4 : Tryd.prog.cellsOf 23 = 4 := by kernel_rfl
  have ci : Tryd.prog.cellsOf 2 = 1 := by kernel_rfl
  have cb : Tryd.prog.cellsOf 4 = 1 := by kernel_rfl
  have cs' : Tryd.prog.cellsOf 9 = 1 := by kernel_rfl
  obtain ⟨c0, c1, c2, c3, rfl⟩ := Go.Joins.array4 (hsz.trans hc4)
  obtain ⟨fuel, hf⟩ := hd
  obtain ⟨y0, y1, y2, y3, n, -, -, h0, h1, h2, h3⟩ := Go.Joins.trod_struct4 Tryd.underlying23 hf
  simp only [Value.cells, ci, cb, cs'] at h0 h1 h2 h3
  obtain ⟨k, hk, -, wk⟩ := DataW.trod_int Tryd.underlying2 h0
  obtain ⟨b, hb, -⟩ := DataW.trod_bool Tryd.underlying4 h1
  obtain ⟨e, he, -, we⟩ := DataW.trod_int Tryd.underlying2 h2
  obtain ⟨s, hs, -, ws⟩ := DataW.trod_string Tryd.underlying9 h3
  simp at hk hb he hs
  subst hk; subst hb; subst he; subst hs
  exact ⟨k, b, e, s, rfl, wk, we, ws⟩
end Go.Proofs.YtcflomcankcggatDoor
namespace Go.Proofs.YtcflomcankcggatDoor
open Go.RowKit
set_option linter.unusedVariables false
set_option maxRecDepth 100000
theorem cell_of {w w' : World} (h : Below w.heap.size w w') {a : Addr} {v : Value} (hc : w.cell? a = some v) : w'.cell? a = some v := by
  rw [h.cell (World.block_lt_of_cell? w a hc)]
  exact hc
theorem bel1 {w W0 w1 : World} (h0 : Below w.heap.size w W0) (h1 : Below W0.heap.size W0 w1) : Below w.heap.size w w1 := h0.trans (h1.mono h0.size)
theorem bel2 {w W0 w1 w2 : World} (h0 : Below w.heap.size w W0) (h1 : Below W0.heap.size W0 w1) (h2 : Below w1.heap.size w1 w2) : Below w.heap.size w w2 := bel1 (bel1 h0 h1) h2
/-- The cells of a struct of three numbers, or two, that lies in a block. -/
def At3 (W : World) (b : Nat) (x y z : Value) : Prop := W.cell? ⟨b, 0, none⟩ = some x ∧ W.cell? ⟨b, 1, none⟩ = some y ∧ W.cell? ⟨b, 2, none⟩ = some z
def At2 (W : World) (b : Nat) (x y : Value) : Prop := W.cell? ⟨b, 0, none⟩ = some x ∧ W.cell? ⟨b, 1, none⟩ = some y
theorem at3_new (w : World) (x y z : Value) (t : TypeId) : At3 (w.alloc (.cells #[x, y, z] t)) w.heap.size x y z := by
  have h := (MapKept.heap_alloc w (.cells #[x, y, z] t)).1
  unfold At3 World.cell?
  simp only [h]
  exact ⟨rfl, rfl, rfl⟩
theorem at2_new (w : World) (x y : Value) (t : TypeId) : At2 (w.alloc (.cells #[x, y] t)) w.heap.size x y := by
  have h := (MapKept.heap_alloc w (.cells #[x, y] t)).1
  unfold At2 World.cell?
  simp only [h]
  exact ⟨rfl, rfl⟩
theorem At3.below {W w1 : World} {b : Nat} {x y z : Value} (h : At3 W b x y z) (hb : Below W.heap.size W w1) : At3 w1 b x y z := ⟨cell_of hb h.1, cell_of hb h.2.1, cell_of hb h.2.2⟩
theorem At2.below {W w1 : World} {b : Nat} {x y : Value} (h : At2 W b x y) (hb : Below W.heap.size W w1) : At2 w1 b x y := ⟨cell_of hb h.1, cell_of hb h.2⟩
theorem At3.alloc {W : World} {b : Nat} {x y z : Value} (h : At3 W b x y z) (o : Obj) : At3 (W.alloc o) b x y z := h.below ((Below.refl _ _).alloc (Nat.le_refl _) _)
theorem At2.alloc {W : World} {b : Nat} {x y : Value} (h : At2 W b x y) (o : Obj) : At2 (W.alloc o) b x y := h.below ((Below.refl _ _).alloc (Nat.le_refl _) _)
theorem wp_region_class {P : Program} {C : World → Prop} {id : Nat} {Q : Exit → Act → World → Prop} {a : Act} {w : World} {l : List Oper} (hm : P.follows .mixedOrders = true) (hB : Region.lexB .any l.toArray = true) (hC : C w.drew)
    (h : wpQuiet P l.toArray C (fun a' => ∀ w', C w' → Q .normal a' w') l a) : (Code.region id l.toArray true).wp P Q a w :=
  wp_region_quiet (C := C) hm hB hC (by simpa using h)
theorem wrap_fit (x : Int) (h0 : -9223372036854775808 ≤ x) (h1 : x ≤ 9223372036854775807) : IntKind.i64.wrap x = x := by rw [IntKind.wrap_i64]; omega
theorem Calls.class_of {P : Program} {f : FuncId} {args : Array Value} {C : World → Prop} {W : World} {v : Value} (h : Calls P f args W fun e w' => e = .returned v ∧ Below W.heap.size W w') (k : ∀ w', Below W.heap.size W w' → C w') : Calls P f args W fun e w'' => e = .returned v ∧ C w'' :=
  h.mono fun _ _ ⟨he, hb⟩ => ⟨he, k _ hb⟩
end Go.Proofs.YtcflomcankcggatDoor
namespace Go.Proofs.YtcflomcankcggatDoor
open Go.RowKit
set_option linter.unusedVariables false
set_option maxRecDepth 100000
theorem results_num {fn : Func} {p : Tmp} {b : Nat} {x y z u : Value} (h : fn.results = #[.cell p 26]) (tmps : Array Value) (w : World) (hp : tmps[p]?.getD undef = .pointer (some ⟨b, 0, none⟩))
    (q0 : w.cell? ⟨b, 0, none⟩ = some x) (q1 : w.cell? ⟨b, 1, none⟩ = some y) (q2 : w.cell? ⟨b, 2, none⟩ = some z) (q3 : w.cell? ⟨b, 3, none⟩ = some u) : (results fn tmps).run Tryd.prog w = .ok (.agg #[x, y, z, u]) w := by
  simp [results, h, hp, go_sem, q0, q1, q2, q3]
/-- A Num's four cells in a block. -/
def At4 (W : World) (b : Nat) (x y z u : Value) : Prop := W.cell? ⟨b, 0, none⟩ = some x ∧ W.cell? ⟨b, 1, none⟩ = some y ∧ W.cell? ⟨b, 2, none⟩ = some z ∧ W.cell? ⟨b, 3, none⟩ = some u ∧ ∀ i, W.frozen? ⟨b, i, none⟩ = false
theorem at4_new (w : World) (x y z u : Value) : At4 (w.alloc (.cells #[x, y, z, u] 26)) w.heap.size x y z u := by
  refine ⟨?_, ?_, ?_, ?_, fun i => ?_⟩ <;> simp
theorem At4.below {W w1 : World} {b B : Nat} {x y z u : Value} (h : At4 W b x y z u) (hb : Below B W w1) (hB : b < B) : At4 w1 b x y z u :=
  ⟨(hb.cell (p := ⟨b, 0, none⟩) hB).trans h.1, (hb.cell (p := ⟨b, 1, none⟩) hB).trans h.2.1, (hb.cell (p := ⟨b, 2, none⟩) hB).trans h.2.2.1, (hb.cell (p := ⟨b, 3, none⟩) hB).trans h.2.2.2.1, fun i => (hb.frozen (p := ⟨b, i, none⟩) hB).trans (h.2.2.2.2 i)⟩
theorem At4.alloc {W : World} {b : Nat} {x y z u : Value} (h : At4 W b x y z u) (hb : b < W.heap.size) (o : Obj) : At4 (W.alloc o) b x y z u := h.below ((Below.refl _ _).alloc (Nat.le_refl _) _) hb
theorem At4.put {W : World} {b : Nat} {x y z u : Value} (h : At4 W b x y z u) (x' y' z' u' : Value) : At4 ((((W.setCell ⟨b, 0, none⟩ x').setCell ⟨b, 1, none⟩ y').setCell ⟨b, 2, none⟩ z').setCell ⟨b, 3, none⟩ u') b x' y' z' u' := by
  obtain ⟨h0, h1, h2, h3, h4⟩ := h
  refine ⟨?_, ?_, ?_, ?_, fun i => ?_⟩
  · rw [World.cell?_setCell_other _ _ _ _ (by simp), World.cell?_setCell_other _ _ _ _ (by simp), World.cell?_setCell_other _ _ _ _ (by simp)]; exact World.cell?_setCell_same _ _ _ h0
  · rw [World.cell?_setCell_other _ _ _ _ (by simp), World.cell?_setCell_other _ _ _ _ (by simp)]; exact World.cell?_setCell_same _ _ _ (u := y) (by rw [World.cell?_setCell_other _ _ _ _ (by simp)]; exact h1)
  · rw [World.cell?_setCell_other _ _ _ _ (by simp)]; exact World.cell?_setCell_same _ _ _ (u := z) (by rw [World.cell?_setCell_other _ _ _ _ (by simp), World.cell?_setCell_other _ _ _ _ (by simp)]; exact h2)
  · exact World.cell?_setCell_same _ _ _ (u := u) (by rw [World.cell?_setCell_other _ _ _ _ (by simp), World.cell?_setCell_other _ _ _ _ (by simp), World.cell?_setCell_other _ _ _ _ (by simp)]; exact h3)
  · rw [World.frozen?_setCell, World.frozen?_setCell, World.frozen?_setCell, World.frozen?_setCell]; exact h4 i
theorem At4.drewN {W : World} {b : Nat} {x y z u : Value} (h : At4 W b x y z u) (n : Nat) : At4 (W.drewN n) b x y z u := h
theorem At4.far {W : World} {b : Nat} {x y z u : Value} (h : At4 W b x y z u) {b' : Nat} (hb : b' ≠ b) (i : Nat) (v : Value) : At4 (W.setCell ⟨b', i, none⟩ v) b x y z u := by
  obtain ⟨h0, h1, h2, h3, h4⟩ := h
  have ne : ∀ j, (⟨b', i, none⟩ : Addr) ≠ ⟨b, j, none⟩ := fun j e => hb (by cases e; rfl)
  refine ⟨?_, ?_, ?_, ?_, fun i => by rw [World.frozen?_setCell]; exact h4 i⟩
  · rw [World.cell?_setCell_other _ _ _ _ (ne 0)]; exact h0
  · rw [World.cell?_setCell_other _ _ _ _ (ne 1)]; exact h1
  · rw [World.cell?_setCell_other _ _ _ _ (ne 2)]; exact h2
  · rw [World.cell?_setCell_other _ _ _ _ (ne 3)]; exact h3
theorem bel_four {B : Nat} {w W : World} (h : Below B w W) {b : Nat} (hb : B ≤ b) (x y z u : Value) : Below B w ((((W.setCell ⟨b, 0, none⟩ x).setCell ⟨b, 1, none⟩ y).setCell ⟨b, 2, none⟩ z).setCell ⟨b, 3, none⟩ u) := (((h.setCell hb _).setCell hb _).setCell hb _).setCell hb _
end Go.Proofs.YtcflomcankcggatDoor
