/-
  The draws of numbers and of words of both formats, walked.
-/
import Derived.Test.YtmjkpjmccdjkjadDoorDrawNm
import Derived.Test.YtmjkpjmccdjkjadDoorWrd4
import Derived.Deep.DeepCutAuto
import Derived.Deep.RegionWith
namespace Go.Proofs.YtmjkpjmccdjkjadDoor
open Go.RowKit
set_option linter.unusedVariables false
set_option maxRecDepth 100000
abbrev nbz0 (w : World) : World := w.alloc (.cells #[.int .i64 0, .bool false, .int .i64 0, .string { data := #[] }] 25)
theorem nbz0_size (w : World) : (nbz0 w).heap.size = w.heap.size + 1 := by simp [nbz0]
theorem bytes_alloc {B : Nat} {w : World} {a : Option Addr} {len : Nat} (h : Bytes B w a len) (o : Obj) (hB : B ≤ w.heap.size) : Bytes (w.alloc o).heap.size (w.alloc o) a len := by
  rcases h with h | ⟨b, off, rfl, hb, hz⟩
  · exact .inl h
  · refine .inr ⟨b, off, rfl, by simp; omega, fun j hj => ?_⟩
    obtain ⟨z, hc, r⟩ := hz j hj
    have hbel : Below w.heap.size w (w.alloc o) := (Below.refl _ _).alloc (Nat.le_refl _) _
    exact ⟨z, (hbel.cell (p := ⟨b, off + j, none⟩) (by show b < _; omega)).trans hc, r⟩
theorem DrawPack64_any (a : Option Addr) (len cap : Nat) (w : World) (hl : len ≤ 4096) (hb : Bytes w.heap.size w a len) :
    Calls Tryd.prog 5 #[.slice a len cap] w fun r w' => ∃ k b e s, r = .returned (numV k b e s) ∧ I64 k ∧ I64 e ∧ s.size ≤ 340 ∧ Below w.heap.size w w' := by
  have hB : Hid (Bytes (nbz0 w).heap.size (nbz0 w) a len) := bytes_alloc hb _ (Nat.le_refl _)
  have HZ : Hid (At4 (nbz0 w) w.heap.size (.int .i64 0) (.bool false) (.int .i64 0) (.string { data := #[] }) ∧ Below w.heap.size w (nbz0 w)) := ⟨at4_new w _ _ _ _, (Below.refl _ _).alloc (Nat.le_refl _) _⟩
  clear hb
  go_enter Tryd.func5, Tryd.ntmps5
  go_wp2_with fail
  refine (l1New_any a len cap _ hl hB.out).mono ?_
  rintro e w0 ⟨he, hc0, hb0⟩
  rw [nbz0_size] at he hc0 hb0
  subst he
  have hs0 := hb0.size
  have HZ0 : Hid (At4 w0 w.heap.size (.int .i64 0) (.bool false) (.int .i64 0) (.string { data := #[] }) ∧ Below w.heap.size w w0) := ⟨HZ.out.1.below hb0 (by omega), HZ.out.2.trans (hb0.mono (by omega))⟩
  have hcl := hc0.lt
  clear hb0 HZ hB
  go_wp2_with fail
  refine (l10DrawNum_any _ _ 64 _ hc0).mono ?_
  rintro r w1 ⟨k, b, e, s, rfl, ik, ie, hs, hc1, hg1⟩
  have HZ1 : Hid (At4 w1 w.heap.size (.int .i64 0) (.bool false) (.int .i64 0) (.string { data := #[] })) := HZ0.out.1.grown hg1 (by omega) (by omega)
  have HB1 : Hid (Below w.heap.size w w1) := Below.grown HZ0.out.2 hg1 HZ0.out.2.size (fun q hq => by cases hq; omega)
  have HI : Hid (I64 k ∧ I64 e ∧ s.size ≤ 340) := ⟨ik, ie, hs⟩
  obtain ⟨d0, d1, d2, d3, d4⟩ := HZ1.out
  have d40 := d4 0
  have d41 := d4 1
  have d42 := d4 2
  have d43 := d4 3
  clear d4 HZ0 hc0 hc1 hg1 ik ie hs hcl
  go_wp2
  have hP := HZ1.out.put (.int .i64 k) (.bool b) (.int .i64 e) (.string s)
  refine bodyPost_ret (results_num rfl _ _ rfl hP.1 hP.2.1 hP.2.2.1 hP.2.2.2.1) rfl ?_
  exact ⟨k, b, e, s, rfl, HI.out.1, HI.out.2.1, HI.out.2.2, bel_four HB1.out (Nat.le_refl _) _ _ _ _⟩
theorem DrawPack128_any (a : Option Addr) (len cap : Nat) (w : World) (hl : len ≤ 4096) (hb : Bytes w.heap.size w a len) :
    Calls Tryd.prog 10 #[.slice a len cap] w fun r w' => ∃ k b e s, r = .returned (numV k b e s) ∧ I64 k ∧ I64 e ∧ s.size ≤ 340 ∧ Below w.heap.size w w' := by
  have hB : Hid (Bytes (nbz0 w).heap.size (nbz0 w) a len) := bytes_alloc hb _ (Nat.le_refl _)
  have HZ : Hid (At4 (nbz0 w) w.heap.size (.int .i64 0) (.bool false) (.int .i64 0) (.string { data := #[] }) ∧ Below w.heap.size w (nbz0 w)) := ⟨at4_new w _ _ _ _, (Below.refl _ _).alloc (Nat.le_refl _) _⟩
  clear hb
  go_enter Tryd.func10, Tryd.ntmps10
  go_wp2_with fail
  refine (l1New_any a len cap _ hl hB.out).mono ?_
  rintro e w0 ⟨he, hc0, hb0⟩
  rw [nbz0_size] at he hc0 hb0
  subst he
  have hs0 := hb0.size
  have HZ0 : Hid (At4 w0 w.heap.size (.int .i64 0) (.bool false) (.int .i64 0) (.string { data := #[] }) ∧ Below w.heap.size w w0) := ⟨HZ.out.1.below hb0 (by omega), HZ.out.2.trans (hb0.mono (by omega))⟩
  have hcl := hc0.lt
  clear hb0 HZ hB
  go_wp2_with fail
  refine (l10DrawNum_any _ _ 128 _ hc0).mono ?_
  rintro r w1 ⟨k, b, e, s, rfl, ik, ie, hs, hc1, hg1⟩
  have HZ1 : Hid (At4 w1 w.heap.size (.int .i64 0) (.bool false) (.int .i64 0) (.string { data := #[] })) := HZ0.out.1.grown hg1 (by omega) (by omega)
  have HB1 : Hid (Below w.heap.size w w1) := Below.grown HZ0.out.2 hg1 HZ0.out.2.size (fun q hq => by cases hq; omega)
  have HI : Hid (I64 k ∧ I64 e ∧ s.size ≤ 340) := ⟨ik, ie, hs⟩
  obtain ⟨d0, d1, d2, d3, d4⟩ := HZ1.out
  have d40 := d4 0
  have d41 := d4 1
  have d42 := d4 2
  have d43 := d4 3
  clear d4 HZ0 hc0 hc1 hg1 ik ie hs hcl
  go_wp2
  have hP := HZ1.out.put (.int .i64 k) (.bool b) (.int .i64 e) (.string s)
  refine bodyPost_ret (results_num rfl _ _ rfl hP.1 hP.2.1 hP.2.2.1 hP.2.2.2.1) rfl ?_
  exact ⟨k, b, e, s, rfl, HI.out.1, HI.out.2.1, HI.out.2.2, bel_four HB1.out (Nat.le_refl _) _ _ _ _⟩
/-- What Pack64 of the model answers, whatever the number: a word. -/
theorem sPack64_word (k : Int) (b : Bool) (e : Int) (s : ByteArray) (w : World) (hs : s.size ≤ 4611686018427387904) :
    Calls Tryd.prog 7 #[numV k b e s] w fun x w' => ∃ W c, x = .returned (.tuple #[.int .u64 W, .bool c]) ∧ (0 ≤ W ∧ W ≤ 18446744073709551615) ∧ Below w.heap.size w w' := by
  cases h : numB 64 k b e s with
  | false => exact (sPack64_no k b e s w hs h).mono fun x w' ⟨e1, hb⟩ => ⟨0, false, e1, by decide, hb⟩
  | true =>
    obtain ⟨ds, rfl, hr⟩ := numB_right 64 k b e s 8 5 398 (.inl ⟨rfl, rfl, rfl, rfl⟩) h
    have hbd := pkW_bd 8 5 398 k b e ds (by decide) hr
    rw [show (2 : Int) ^ (6 + 8 + 10 * 5) = 18446744073709551616 by decide] at hbd
    exact (sPack64_yes k b e ds w hr).mono fun x w' ⟨e1, hb⟩ => ⟨_, true, e1, by omega, hb⟩
theorem sPack128_word (k : Int) (b : Bool) (e : Int) (s : ByteArray) (w : World) (hs : s.size ≤ 4611686018427387904) :
    Calls Tryd.prog 12 #[numV k b e s] w fun x w' => ∃ H L c, x = .returned (.tuple #[wideV H L, .bool c]) ∧ (0 ≤ H ∧ H ≤ 18446744073709551615) ∧ (0 ≤ L ∧ L ≤ 18446744073709551615) ∧ Below w.heap.size w w' := by
  cases h : numB 128 k b e s with
  | false => exact (sPack128_no k b e s w hs h).mono fun x w' ⟨e1, hb⟩ => ⟨0, 0, false, e1, by decide, by decide, hb⟩
  | true =>
    obtain ⟨ds, rfl, hr⟩ := numB_right 128 k b e s 12 11 6176 (.inr ⟨rfl, rfl, rfl, rfl⟩) h
    have hbd := pkW_bd 12 11 6176 k b e ds (by decide) hr
    rw [show (2 : Int) ^ (6 + 12 + 10 * 11) = 340282366920938463463374607431768211456 by decide] at hbd
    exact (sPack128_yes k b e ds w hr).mono fun x w' ⟨e1, hb⟩ => ⟨_, _, true, e1, by omega, by omega, hb⟩
theorem xor_bd (a b : Int) : 0 ≤ bits .xor .u64 a b ∧ bits .xor .u64 a b ≤ 18446744073709551615 := by
  have e : bits .xor .u64 a b = IntKind.u64.wrap ((BitVec.ofInt 64 a ^^^ BitVec.ofInt 64 b).toNat : Int) := rfl
  rw [e]; exact u64_wrap_bd _
theorem bel_grown {w w1 : World} (h : Below w.heap.size w w1) (r : Option Nat) : w.grownBy w1 r := ⟨h.os, h.tape, h.output, h.size, fun k hk _ => h.block k hk⟩
theorem cur_bel {B cb : Nat} {w w1 : World} (h : Cur B w cb) (hb : Below w.heap.size w w1) : Cur B w1 cb := by
  obtain ⟨a, len, cap, i, h, hB, hcb, hlen, hi, hby, c0, c1, c2, f1, f2⟩ := h
  exact ⟨a, len, cap, i, h, hB, Nat.lt_of_lt_of_le hcb hb.size, hlen, hi, hby.grown (bel_grown hb (some cb)) hB, (hb.cell (p := ⟨cb, 0, none⟩) hcb).trans c0, (hb.cell (p := ⟨cb, 1, none⟩) hcb).trans c1, (hb.cell (p := ⟨cb, 2, none⟩) hcb).trans c2, (hb.frozen (p := ⟨cb, 1, none⟩) hcb).trans f1, (hb.frozen (p := ⟨cb, 2, none⟩) hcb).trans f2⟩
/-- A Wide's two cells in a block. -/
def AtW (W : World) (b : Nat) (x y : Value) : Prop := W.cell? ⟨b, 0, none⟩ = some x ∧ W.cell? ⟨b, 1, none⟩ = some y ∧ ∀ i, W.frozen? ⟨b, i, none⟩ = false
theorem atW_new (w : World) (x y : Value) : AtW (w.alloc (.cells #[x, y] 33)) w.heap.size x y := by
  refine ⟨?_, ?_, fun i => ?_⟩ <;> simp
theorem AtW.grown {W w1 : World} {b cb : Nat} {x y : Value} (h : AtW W b x y) (hg : W.grownBy w1 (some cb)) (hb : b ≠ cb) (hl : b < W.heap.size) : AtW w1 b x y := by
  obtain ⟨h0, h1, h4⟩ := h
  have ne : (some b : Option Nat) ≠ some cb := fun e => hb (Option.some.inj e)
  refine ⟨hg.cell h0 ne, hg.cell h1 ne, fun i => ?_⟩
  rw [← h4 i]
  unfold World.frozen?
  rw [hg.block b hl ne]
theorem AtW.alloc {W : World} {b : Nat} {x y : Value} (h : AtW W b x y) (hb : b < W.heap.size) (o : Obj) : AtW (W.alloc o) b x y := by
  have hbel : Below W.heap.size W (W.alloc o) := (Below.refl _ _).alloc (Nat.le_refl _) _
  exact ⟨(hbel.cell (p := ⟨b, 0, none⟩) hb).trans h.1, (hbel.cell (p := ⟨b, 1, none⟩) hb).trans h.2.1, fun i => (hbel.frozen (p := ⟨b, i, none⟩) hb).trans (h.2.2 i)⟩
theorem AtW.set0 {W : World} {b : Nat} {x y : Value} (h : AtW W b x y) (v : Value) : AtW (W.setCell ⟨b, 0, none⟩ v) b v y :=
  ⟨World.cell?_setCell_same _ _ _ h.1, by rw [World.cell?_setCell_other _ _ _ _ (by simp)]; exact h.2.1, fun i => by rw [World.frozen?_setCell]; exact h.2.2 i⟩
theorem AtW.far {W : World} {b : Nat} {x y : Value} (h : AtW W b x y) {b' : Nat} (hb : b' ≠ b) (i : Nat) (v : Value) : AtW (W.setCell ⟨b', i, none⟩ v) b x y := by
  have ne : ∀ j, (⟨b', i, none⟩ : Addr) ≠ ⟨b, j, none⟩ := fun j e => hb (by cases e; rfl)
  exact ⟨by rw [World.cell?_setCell_other _ _ _ _ (ne 0)]; exact h.1, by rw [World.cell?_setCell_other _ _ _ _ (ne 1)]; exact h.2.1, fun i => by rw [World.frozen?_setCell]; exact h.2.2 i⟩
theorem results_wide1 {fn : Func} {p : Tmp} {b : Nat} {x y : Value} (h : fn.results = #[.cell p 33]) (tmps : Array Value) (w : World) (hp : tmps[p]?.getD undef = .pointer (some ⟨b, 0, none⟩))
    (q0 : w.cell? ⟨b, 0, none⟩ = some x) (q1 : w.cell? ⟨b, 1, none⟩ = some y) : (results fn tmps).run Tryd.prog w = .ok (.agg #[x, y]) w := by
  simp [results, h, hp, go_sem, q0, q1]
abbrev wbx0 (w : World) : World := w.alloc (.cells #[.int .u64 0, .int .u64 0] 33)
theorem wbx0_size (w : World) : (wbx0 w).heap.size = w.heap.size + 1 := by simp [wbx0]
/-- A draw of a Wide under way: the answer's box is at w.heap.size, the cursor behind it. -/
def DW (w wr : World) : Prop := AtW wr w.heap.size (.int .u64 0) (.int .u64 0) ∧ Cur (w.heap.size + 1) wr (w.heap.size + 1) ∧ Below w.heap.size w wr ∧ w.heap.size + 2 ≤ wr.heap.size
theorem DW.draw {w wr w1 : World} (h : DW w wr) (hc : Cur (w.heap.size + 1) w1 (w.heap.size + 1)) (hg : wr.grownBy w1 (some (w.heap.size + 1))) : DW w w1 :=
  ⟨h.1.grown hg (by omega) (by have := h.2.2.2; omega), hc, Below.grown h.2.2.1 hg h.2.2.1.size (fun k hk => by cases hk; omega), by have := h.2.2.2; have := hg.size; omega⟩
theorem DW.bel {w wr w1 : World} (h : DW w wr) (hb : Below wr.heap.size wr w1) : DW w w1 := h.draw (cur_bel h.2.1 hb) (bel_grown hb _)
theorem DW.alloc {w wr : World} (h : DW w wr) (o : Obj) : DW w (wr.alloc o) := h.bel ((Below.refl _ _).alloc (Nat.le_refl _) _)
theorem DW.drew {w wr : World} (h : DW w wr) : DW w wr.drew := ⟨h.1, h.2.1, h.2.2.1.drew, h.2.2.2⟩
theorem DW.put {w wr : World} (h : DW w wr) (x y : Value) : AtW ((wr.setCell ⟨w.heap.size, 0, none⟩ x).setCell ⟨w.heap.size, 1, none⟩ y) w.heap.size x y ∧ Below w.heap.size w ((wr.setCell ⟨w.heap.size, 0, none⟩ x).setCell ⟨w.heap.size, 1, none⟩ y) := by
  have p := put2 h.1.1 h.1.2.1 x y
  exact ⟨⟨p.1, p.2, fun i => by rw [World.frozen?_setCell, World.frozen?_setCell]; exact h.1.2.2 i⟩, (h.2.2.1.setCell (Nat.le_refl _) _).setCell (Nat.le_refl _) _⟩
theorem DW.far {w wr : World} (h : DW w wr) {b : Nat} (hb : w.heap.size + 1 < b) (i : Nat) (v : Value) : DW w (wr.setCell ⟨b, i, none⟩ v) :=
  ⟨h.1.far (by omega) i v, cur_far h.2.1 hb i v, h.2.2.1.setCell (by show w.heap.size ≤ b; omega) v, by simpa using h.2.2.2⟩
end Go.Proofs.YtmjkpjmccdjkjadDoor
