/-
  The draws of numbers and of words of both formats, walked.
-/
import Derived.Test.YtmeicjbeibmmgadGreatDoorDrawNm
import Derived.Test.YtmeicjbeibmmgadGreatDoorWrd4
import Derived.Deep.DeepCutAuto
import Derived.Deep.RegionWith
namespace Go.Proofs.YtmeicjbeibmmgadGreatDoor
open Go.RowKit
set_option linter.unusedVariables false
set_option maxRecDepth 100000
abbrev nbz0 (w : World) : World := w.alloc (.cells #[.int .i64 0, .bool false, .int .i64 0, .string { data := #[] }] 27)
theorem nbz0_size (w : World) : (nbz0 w).heap.size = w.heap.size + 1 := by simp [nbz0]
theorem bytes_alloc {B : Nat} {w : World} {a : Option Addr} {len : Nat} (h : Bytes B w a len) (o : Obj) (hB : B ≤ w.heap.size) : Bytes (w.alloc o).heap.size (w.alloc o) a len := by
  rcases h with h | ⟨b, off, rfl, hb, hz⟩
  · exact .inl h
  · refine .inr ⟨b, off, rfl, by simp; omega, fun j hj => ?_⟩
    obtain ⟨z, hc, r⟩ := hz j hj
    have hbel : Below w.heap.size w (w.alloc o) := (Below.refl _ _).alloc (Nat.le_refl _) _
    exact ⟨z, (hbel.cell (p := ⟨b, off + j, none⟩) (by show b < _; omega)).trans hc, r⟩
/-- What Pack64 of the model answers, whatever the number: a word. -/
theorem sPack64_word (k : Int) (b : Bool) (e : Int) (s : ByteArray) (w : World) (hs : s.size ≤ 4611686018427387904) :
    Calls Tryz.prog 16 #[numV k b e s] w fun x w' => ∃ W c, x = .returned (.tuple #[.int .u64 W, .bool c]) ∧ (0 ≤ W ∧ W ≤ 18446744073709551615) ∧ Below w.heap.size w w' := by
  cases h : numB 64 k b e s with
  | false => exact (sPack64_no k b e s w hs h).mono fun x w' ⟨e1, hb⟩ => ⟨0, false, e1, by decide, hb⟩
  | true =>
    obtain ⟨ds, rfl, hr⟩ := numB_right 64 k b e s 8 5 398 (.inl ⟨rfl, rfl, rfl, rfl⟩) h
    have hbd := pkW_bd 8 5 398 k b e ds (by decide) hr
    rw [show (2 : Int) ^ (6 + 8 + 10 * 5) = 18446744073709551616 by decide] at hbd
    exact (sPack64_yes k b e ds w hr).mono fun x w' ⟨e1, hb⟩ => ⟨_, true, e1, by omega, hb⟩
theorem sPack128_word (k : Int) (b : Bool) (e : Int) (s : ByteArray) (w : World) (hs : s.size ≤ 4611686018427387904) :
    Calls Tryz.prog 26 #[numV k b e s] w fun x w' => ∃ H L c, x = .returned (.tuple #[wideV H L, .bool c]) ∧ (0 ≤ H ∧ H ≤ 18446744073709551615) ∧ (0 ≤ L ∧ L ≤ 18446744073709551615) ∧ Below w.heap.size w w' := by
  cases h : numB 128 k b e s with
  | false => exact (sPack128_no k b e s w hs h).mono fun x w' ⟨e1, hb⟩ => ⟨0, 0, false, e1, by decide, by decide, hb⟩
  | true =>
    obtain ⟨ds, rfl, hr⟩ := numB_right 128 k b e s 12 11 6176 (.inr ⟨rfl, rfl, rfl, rfl⟩) h
    have hbd := pkW_bd 12 11 6176 k b e ds (by decide) hr
    rw [show (2 : Int) ^ (6 + 12 + 10 * 11) = 340282366920938463463374607431768211456 by decide] at hbd
    exact (sPack128_yes k b e ds w hr).mono fun x w' ⟨e1, hb⟩ => ⟨_, _, true, e1, by omega, by omega, hb⟩
theorem xor_bd (a b : Int) : 0 ≤ bits .xor .u64 a b ∧ bits .xor .u64 a b ≤ 18446744073709551615 := by
  have e : bits .xor .u64 a b = IntKind.u64.wrap ((BitVec.ofInt 64 a ^^^ BitVec.ofInt 64 b).toNat : Int) := rfl
  rw [e]; exact u64_wrap_bd _
theorem bel_grown {w w1 : World} (h : Below w.heap.size w w1) (r : Option Nat) : w.grownBy w1 r := ⟨h.os, h.tape, h.output, h.size, fun k hk _ => h.block k hk⟩
theorem cur_bel {B cb : Nat} {w w1 : World} (h : Cur B w cb) (hb : Below w.heap.size w w1) : Cur B w1 cb := by
  obtain ⟨a, len, cap, i, h, hB, hcb, hlen, hi, hby, c0, c1, c2, f1, f2⟩ := h
  exact ⟨a, len, cap, i, h, hB, Nat.lt_of_lt_of_le hcb hb.size, hlen, hi, hby.grown (bel_grown hb (some cb)) hB, (hb.cell (p := ⟨cb, 0, none⟩) hcb).trans c0, (hb.cell (p := ⟨cb, 1, none⟩) hcb).trans c1, (hb.cell (p := ⟨cb, 2, none⟩) hcb).trans c2, (hb.frozen (p := ⟨cb, 1, none⟩) hcb).trans f1, (hb.frozen (p := ⟨cb, 2, none⟩) hcb).trans f2⟩
set_option maxRecDepth 100000 in
set_option maxHeartbeats 2000000 in
theorem DrawUnpack64_any (a : Option Addr) (len cap : Nat) (w : World) (hl : len ≤ 4096) (hb : Bytes w.heap.size w a len) :
    Calls Tryz.prog 5 #[.slice a len cap] w fun r w' => ∃ W, r = .returned (.int .u64 W) ∧ (0 ≤ W ∧ W ≤ 18446744073709551615) ∧ Below w.heap.size w w' := by
  have hB : Hid (Bytes w.heap.size w a len) := hb
  clear hb
  go_enter Tryz.func5, Tryz.ntmps5
  go_wp2_with fail
  refine (l1New_any a len cap _ hl hB.out).mono ?_
  rintro e w0 ⟨rfl, hc0, hb0⟩
  have hs0 := hb0.size
  have HB0 : Hid (Below w.heap.size w w0) := hb0
  clear hb0 hB
  go_wp2_with fail
  refine (l1Once_any _ _ 2 _ hc0 (by decide) (by decide)).mono ?_
  rintro e w1 ⟨b1, rfl, hc1, hg1⟩
  have hs1 := hg1.size
  cases b1
  · go_wp2_with fail
    refine (l1DrawAnyWord_any _ _ _ hc1).mono ?_
    rintro e w2 ⟨x, rfl, x0, x1, hc2, hg2⟩
    have hbf : Below w.heap.size w w2 := Below.grown HB0.out (grown_trans hg1 hg2) hs0 (fun k hk => by cases hk; exact Nat.le_refl _)
    clear hg1 hg2 hc1 hc2 hc0
    go_wp2
    go_ret
    exact ⟨_, rfl, ⟨x0, x1⟩, hbf⟩
  · go_wp2_with fail
    refine (l10DrawNum_any _ _ 64 _ hc1).mono ?_
    rintro r w2 ⟨k, b, e, s, rfl, ik, ie, hs, hc2, hg2⟩
    have hg := grown_trans hg1 hg2
    have hs2 := hg2.size
    clear hg1 hg2 hc1 ik ie
    go_wp2_with fail
    refine (sPack64_word k b e s _ (by omega)).mono ?_
    rintro r w3 ⟨W, c, rfl, hW, hb3⟩
    have hs3 := hb3.size
    have hc3 : Cur w.heap.size w3 w.heap.size := cur_bel hc2 hb3
    have hg3 : w0.grownBy w3 (some w.heap.size) := grown_trans hg (bel_grown hb3 _)
    clear hb3 hc2 hg
    go_wp2_with fail
    refine (l1Once_any _ _ 3 _ hc3 (by decide) (by decide)).mono ?_
    rintro e w4 ⟨b4, rfl, hc4, hg4⟩
    have hg4' : Hid (w0.grownBy w4 (some w.heap.size)) := grown_trans hg3 hg4
    clear hg3 hg4 hc3
    cases b4
    · have hbf : Below w.heap.size w w4 := Below.grown HB0.out hg4'.out hs0 (fun k hk => by cases hk; exact Nat.le_refl _)
      go_wp2
      go_ret
      exact ⟨_, rfl, hW, hbf⟩
    · go_wp2_with fail
      refine (l1Below_any _ _ 64 _ hc4 (by decide) (by decide)).mono ?_
      rintro e w5 ⟨y, rfl, y0, y1, hc5, hg5⟩
      have hbf : Below w.heap.size w w5 := Below.grown HB0.out (grown_trans hg4'.out hg5) hs0 (fun k hk => by cases hk; exact Nat.le_refl _)
      clear hg4' hg5 hc4 hc5
      go_wp2
      go_ret
      exact ⟨_, rfl, xor_bd _ _, hbf⟩
/-- A Wide's two cells in a block. -/
def AtW (W : World) (b : Nat) (x y : Value) : Prop := W.cell? ⟨b, 0, none⟩ = some x ∧ W.cell? ⟨b, 1, none⟩ = some y ∧ ∀ i, W.frozen? ⟨b, i, none⟩ = false
theorem atW_new (w : World) (x y : Value) : AtW (w.alloc (.cells #[x, y] 32)) w.heap.size x y := by
  refine ⟨?_, ?_, fun i => ?_⟩ <;> simp
theorem AtW.grown {W w1 : World} {b cb : Nat} {x y : Value} (h : AtW W b x y) (hg : W.grownBy w1 (some cb)) (hb : b ≠ cb) (hl : b < W.heap.size) : AtW w1 b x y := by
  obtain ⟨h0, h1, h4⟩ := h
  have ne : (some b : Option Nat) ≠ some cb := fun e => hb (Option.some.inj e)
  refine ⟨hg.cell h0 ne, hg.cell h1 ne, fun i => ?_⟩
  rw [← h4 i]
  unfold World.frozen?
  rw [hg.block b hl ne]
theorem AtW.alloc {W : World} {b : Nat} {x y : Value} (h : AtW W b x y) (hb : b < W.heap.size) (o : Obj) : AtW (W.alloc o) b x y := by
  have hbel : Below W.heap.size W (W.alloc o) := (Below.refl _ _).alloc (Nat.le_refl _) _
  exact ⟨(hbel.cell (p := ⟨b, 0, none⟩) hb).trans h.1, (hbel.cell (p := ⟨b, 1, none⟩) hb).trans h.2.1, fun i => (hbel.frozen (p := ⟨b, i, none⟩) hb).trans (h.2.2 i)⟩
theorem AtW.set0 {W : World} {b : Nat} {x y : Value} (h : AtW W b x y) (v : Value) : AtW (W.setCell ⟨b, 0, none⟩ v) b v y :=
  ⟨World.cell?_setCell_same _ _ _ h.1, by rw [World.cell?_setCell_other _ _ _ _ (by simp)]; exact h.2.1, fun i => by rw [World.frozen?_setCell]; exact h.2.2 i⟩
theorem AtW.far {W : World} {b : Nat} {x y : Value} (h : AtW W b x y) {b' : Nat} (hb : b' ≠ b) (i : Nat) (v : Value) : AtW (W.setCell ⟨b', i, none⟩ v) b x y := by
  have ne : ∀ j, (⟨b', i, none⟩ : Addr) ≠ ⟨b, j, none⟩ := fun j e => hb (by cases e; rfl)
  exact ⟨by rw [World.cell?_setCell_other _ _ _ _ (ne 0)]; exact h.1, by rw [World.cell?_setCell_other _ _ _ _ (ne 1)]; exact h.2.1, fun i => by rw [World.frozen?_setCell]; exact h.2.2 i⟩
theorem results_wide1 {fn : Func} {p : Tmp} {b : Nat} {x y : Value} (h : fn.results = #[.cell p 32]) (tmps : Array Value) (w : World) (hp : tmps[p]?.getD undef = .pointer (some ⟨b, 0, none⟩))
    (q0 : w.cell? ⟨b, 0, none⟩ = some x) (q1 : w.cell? ⟨b, 1, none⟩ = some y) : (results fn tmps).run Tryz.prog w = .ok (.agg #[x, y]) w := by
  simp [results, h, hp, go_sem, q0, q1]
abbrev wbx0 (w : World) : World := w.alloc (.cells #[.int .u64 0, .int .u64 0] 32)
theorem wbx0_size (w : World) : (wbx0 w).heap.size = w.heap.size + 1 := by simp [wbx0]
/-- A draw of a Wide under way: the answer's box is at w.heap.size, the cursor behind it. -/
def DW (w wr : World) : Prop := AtW wr w.heap.size (.int .u64 0) (.int .u64 0) ∧ Cur (w.heap.size + 1) wr (w.heap.size + 1) ∧ Below w.heap.size w wr ∧ w.heap.size + 2 ≤ wr.heap.size
theorem DW.draw {w wr w1 : World} (h : DW w wr) (hc : Cur (w.heap.size + 1) w1 (w.heap.size + 1)) (hg : wr.grownBy w1 (some (w.heap.size + 1))) : DW w w1 :=
  ⟨h.1.grown hg (by omega) (by have := h.2.2.2; omega), hc, Below.grown h.2.2.1 hg h.2.2.1.size (fun k hk => by cases hk; omega), by have := h.2.2.2; have := hg.size; omega⟩
theorem DW.bel {w wr w1 : World} (h : DW w wr) (hb : Below wr.heap.size wr w1) : DW w w1 := h.draw (cur_bel h.2.1 hb) (bel_grown hb _)
theorem DW.alloc {w wr : World} (h : DW w wr) (o : Obj) : DW w (wr.alloc o) := h.bel ((Below.refl _ _).alloc (Nat.le_refl _) _)
theorem DW.drew {w wr : World} (h : DW w wr) : DW w wr.drew := ⟨h.1, h.2.1, h.2.2.1.drew, h.2.2.2⟩
theorem DW.put {w wr : World} (h : DW w wr) (x y : Value) : AtW ((wr.setCell ⟨w.heap.size, 0, none⟩ x).setCell ⟨w.heap.size, 1, none⟩ y) w.heap.size x y ∧ Below w.heap.size w ((wr.setCell ⟨w.heap.size, 0, none⟩ x).setCell ⟨w.heap.size, 1, none⟩ y) := by
  have p := put2 h.1.1 h.1.2.1 x y
  exact ⟨⟨p.1, p.2, fun i => by rw [World.frozen?_setCell, World.frozen?_setCell]; exact h.1.2.2 i⟩, (h.2.2.1.setCell (Nat.le_refl _) _).setCell (Nat.le_refl _) _⟩
theorem DW.far {w wr : World} (h : DW w wr) {b : Nat} (hb : w.heap.size + 1 < b) (i : Nat) (v : Value) : DW w (wr.setCell ⟨b, i, none⟩ v) :=
  ⟨h.1.far (by omega) i v, cur_far h.2.1 hb i v, h.2.2.1.setCell (by show w.heap.size ≤ b; omega) v, by simpa using h.2.2.2⟩
set_option maxRecDepth 100000 in
set_option maxHeartbeats 4000000 in
theorem DrawUnpack128_any (a : Option Addr) (len cap : Nat) (w : World) (hl : len ≤ 4096) (hb : Bytes w.heap.size w a len) :
    Calls Tryz.prog 11 #[.slice a len cap] w fun r w' => ∃ H L, r = .returned (wideV H L) ∧ (0 ≤ H ∧ H ≤ 18446744073709551615) ∧ (0 ≤ L ∧ L ≤ 18446744073709551615) ∧ Below w.heap.size w w' := by
  have hB : Hid (Bytes (wbx0 w).heap.size (wbx0 w) a len) := bytes_alloc hb _ (Nat.le_refl _)
  have HZ : Hid (AtW (wbx0 w) w.heap.size (.int .u64 0) (.int .u64 0) ∧ Below w.heap.size w (wbx0 w)) := ⟨atW_new w _ _, (Below.refl _ _).alloc (Nat.le_refl _) _⟩
  clear hb
  go_enter Tryz.func11, Tryz.ntmps11
  go_wp2_with fail
  refine (l1New_any a len cap _ hl hB.out).mono ?_
  rintro e w0 ⟨he, hc0, hb0⟩
  rw [wbx0_size] at he hc0 hb0
  subst he
  have hcl := hc0.lt
  have H0 : Hid (DW w w0) := ⟨⟨(hb0.cell (p := ⟨w.heap.size, 0, none⟩) (by show w.heap.size < _; omega)).trans HZ.out.1.1, (hb0.cell (p := ⟨w.heap.size, 1, none⟩) (by show w.heap.size < _; omega)).trans HZ.out.1.2.1, fun i => (hb0.frozen (p := ⟨w.heap.size, i, none⟩) (by show w.heap.size < _; omega)).trans (HZ.out.1.2.2 i)⟩, hc0, HZ.out.2.trans (hb0.mono (by omega)), by omega⟩
  clear hb0 HZ hB hc0 hcl
  go_wp2_with fail
  refine (l1Once_any _ _ 2 _ H0.out.2.1 (by decide) (by decide)).mono ?_
  rintro e w1 ⟨b1, rfl, hc1, hg1⟩
  have H1 : Hid (DW w w1) := H0.out.draw hc1 hg1
  clear hc1 hg1 H0
  cases b1
  · go_wp2_with fail
    refine (l1DrawAnyWord_any _ _ _ H1.out.2.1).mono ?_
    rintro e w2 ⟨x, rfl, x0, x1, hc2, hg2⟩
    have H2 : Hid (DW w w2) := H1.out.draw hc2 hg2
    clear hc2 hg2 H1
    go_wp2_with fail
    refine (l1DrawAnyWord_any _ _ _ H2.out.2.1).mono ?_
    rintro e w3 ⟨y, rfl, y0, y1, hc3, hg3⟩
    have H3 : Hid (DW w w3) := H2.out.draw hc3 hg3
    clear hc3 hg3 H2
    obtain ⟨d0, d1, d4⟩ := H3.out.1
    have d40 := d4 0
    have d41 := d4 1
    clear d4
    go_wp2
    have hP := H3.out.put (.int .u64 x) (.int .u64 y)
    refine bodyPost_ret (results_wide1 rfl _ _ rfl hP.1.1 hP.1.2.1) rfl ?_
    exact ⟨x, y, rfl, ⟨x0, x1⟩, ⟨y0, y1⟩, hP.2⟩
  · go_wp2_with fail
    refine (l10DrawNum_any _ _ 128 _ H1.out.2.1).mono ?_
    rintro r w2 ⟨k, b, e, s, rfl, ik, ie, hs, hc2, hg2⟩
    have H2 : Hid (DW w w2) := H1.out.draw hc2 hg2
    clear hc2 hg2 H1 ik ie
    go_wp2_with fail
    refine (sPack128_word k b e s _ (by omega)).mono ?_
    rintro r w3 ⟨X, Y, c, rfl, hX, hY, hb3⟩
    have H3 : Hid (DW w w3) := H2.out.bel hb3
    clear hb3 H2
    obtain ⟨nb, hnb⟩ : ∃ nb, w3.heap.size = nb := ⟨_, rfl⟩
    obtain ⟨w4, hw4⟩ : ∃ w4, w3.alloc (.cells #[.int .u64 X, .int .u64 Y] 32) = w4 := ⟨_, rfl⟩
    have H4 : Hid (DW w w4 ∧ AtW w4 nb (.int .u64 X) (.int .u64 Y) ∧ w.heap.size + 1 < nb ∧ nb < w4.heap.size) := by
      have h2 := H3.out.2.2.2
      rw [← hw4, ← hnb]
      exact ⟨H3.out.alloc _, atW_new w3 _ _, by omega, by simp⟩
    go_wp2_with fail
    refine (l1Once_any _ _ 3 _ H4.out.1.2.1 (by decide) (by decide)).mono ?_
    rintro e w5 ⟨b5, rfl, hc5, hg5⟩
    have H5 : Hid (DW w w5 ∧ AtW w5 nb (.int .u64 X) (.int .u64 Y) ∧ w.heap.size + 1 < nb ∧ nb < w5.heap.size) := ⟨H4.out.1.draw hc5 hg5, H4.out.2.1.grown hg5 (by have := H4.out.2.2; omega) H4.out.2.2.2, H4.out.2.2.1, Nat.lt_of_lt_of_le H4.out.2.2.2 hg5.size⟩
    clear hc5 hg5 H4 H3 hw4 hnb
    go_upto_if 18 with fail
    go_cut [] (fun wx => ∃ X : Int, (0 ≤ X ∧ X ≤ 18446744073709551615) ∧ Hid (DW w wx ∧ AtW wx nb (.int .u64 X) (.int .u64 Y) ∧ w.heap.size + 1 < nb ∧ nb < wx.heap.size))
    case first =>
      cases b5
      · go_wp2
        go_meet
        case rel => exact ⟨X, hX, H5⟩
      · obtain ⟨c0, c1, c4⟩ := H5.out.2.1
        have c40 := c4 0
        clear c4 c1
        go_wp2
        go_region_with (first
          | (go_at_call 18; refine (l1Below_any _ _ 64 _ (by exact H5.out.1.drew.2.1) (by decide) (by decide)).mono ?_; rintro r w6 ⟨y, rfl, y0, y1, hc6, hg6⟩; have H6 : Hid (DW w w6 ∧ AtW w6 nb (.int .u64 X) (.int .u64 Y) ∧ w.heap.size + 1 < nb ∧ nb < w6.heap.size) := ⟨H5.out.1.drew.draw hc6 hg6, AtW.grown (W := w5.drew) H5.out.2.1 hg6 (by have := H5.out.2.2; omega) H5.out.2.2.2, H5.out.2.2.1, Nat.lt_of_lt_of_le H5.out.2.2.2 hg6.size⟩; have e0 := H6.out.2.1.1; have e40 := H6.out.2.1.2.2 0; clear hc6 hg6))
        all_goals
          go_wp2
          go_meet
          case rel => exact ⟨_, xor_bd _ _, H6.out.1.far H6.out.2.2.1 _ _, H6.out.2.1.set0 _, H6.out.2.2.1, by simpa using H6.out.2.2.2⟩
    case rest =>
      obtain ⟨X, hX, H6⟩ := hcut
      obtain ⟨c0, c1, -⟩ := H6.out.2.1
      obtain ⟨d0, d1, d4⟩ := H6.out.1.1
      have d40 := d4 0
      have d41 := d4 1
      clear d4 H5
      go_wp2
      have hP := H6.out.1.put (.int .u64 X) (.int .u64 Y)
      refine bodyPost_ret (results_wide1 rfl _ _ rfl hP.1.1 hP.1.2.1) rfl ?_
      exact ⟨X, Y, rfl, hX, hY, hP.2⟩
end Go.Proofs.YtmeicjbeibmmgadGreatDoor
