/-
  The draws of numbers, walked.
-/
import Derived.Test.YtdkpiofeidcffaaGreatDoorDrawN
import Derived.Test.YtdkpiofeidcffaaGreatDoorFinP
import Derived.Deep.RegionWith
namespace Go.Proofs.YtdkpiofeidcffaaGreatDoor
open Go.RowKit
set_option linter.unusedVariables false
set_option maxRecDepth 100000
theorem grown_far {w w1 : World} {cb b : Nat} (h : w.grownBy w1 (some cb)) (hb : w.heap.size ≤ b) (i : Nat) (v : Value) : w.grownBy (w1.setCell ⟨b, i, none⟩ v) (some cb) :=
  ⟨h.os, h.tape, h.output, by have := h.size; simpa using this, fun k hk hn => by rw [Below.heap_setCell _ _ _ _ (fun e => by have e' : k = b := e; omega)]; exact h.block k hk hn⟩
theorem cur_far {B cb b : Nat} {w : World} (h : Cur B w cb) (hb : cb < b) (i : Nat) (v : Value) : Cur B (w.setCell ⟨b, i, none⟩ v) cb := by
  obtain ⟨a, len, cap, j, h, hB, hcb, hlen, hi, hby, c0, c1, c2, f1, f2⟩ := h
  have ne : ∀ j, (⟨b, i, none⟩ : Addr) ≠ ⟨cb, j, none⟩ := fun j e => by cases e; omega
  refine ⟨a, len, cap, j, h, hB, by simpa using hcb, hlen, hi, ?_, ?_, ?_, ?_, ?_, ?_⟩
  · rcases hby with hz | ⟨b', off, rfl, hb', hz⟩
    · exact .inl hz
    · refine .inr ⟨b', off, rfl, hb', fun j hj => ?_⟩
      obtain ⟨z, hc, r⟩ := hz j hj
      exact ⟨z, by rw [World.cell?_setCell_other _ _ _ _ (fun e => by cases e; omega)]; exact hc, r⟩
  · rw [World.cell?_setCell_other _ _ _ _ (ne 0)]; exact c0
  · rw [World.cell?_setCell_other _ _ _ _ (ne 1)]; exact c1
  · rw [World.cell?_setCell_other _ _ _ _ (ne 2)]; exact c2
  · rw [World.frozen?_setCell]; exact f1
  · rw [World.frozen?_setCell]; exact f2
theorem At4.grown {W w1 : World} {b cb : Nat} {x y z u : Value} (h : At4 W b x y z u) (hg : W.grownBy w1 (some cb)) (hb : b ≠ cb) (hl : b < W.heap.size) : At4 w1 b x y z u := by
  obtain ⟨h0, h1, h2, h3, h4⟩ := h
  have ne : (some b : Option Nat) ≠ some cb := fun e => hb (Option.some.inj e)
  refine ⟨hg.cell h0 ne, hg.cell h1 ne, hg.cell h2 ne, hg.cell h3 ne, fun i => ?_⟩
  rw [← h4 i]
  unfold World.frozen?
  rw [hg.block b hl ne]
/-- A number in the making: its box nb, the answer's box zb, the cursor. -/
def DN (m : Nat) (B cb : Nat) (w : World) (zb nb : Nat) (wr : World) (k : Int) (b : Bool) (e : Int) (s : ByteArray) : Prop :=
  At4 wr nb (.int .i64 k) (.bool b) (.int .i64 e) (.string s) ∧ At4 wr zb (.int .i64 0) (.bool false) (.int .i64 0) (.string { data := #[] }) ∧ Cur B wr cb ∧ w.grownBy wr (some cb) ∧ cb < w.heap.size ∧ w.heap.size ≤ zb ∧ zb < nb ∧ nb < wr.heap.size ∧ I64 k ∧ I64 e ∧ s.size ≤ m
theorem At4.set0 {W : World} {b : Nat} {x y z u : Value} (h : At4 W b x y z u) (v : Value) : At4 (W.setCell ⟨b, 0, none⟩ v) b v y z u := by
  obtain ⟨h0, h1, h2, h3, h4⟩ := h
  refine ⟨World.cell?_setCell_same _ _ _ h0, ?_, ?_, ?_, fun i => by rw [World.frozen?_setCell]; exact h4 i⟩
  · rw [World.cell?_setCell_other _ _ _ _ (by simp)]; exact h1
  · rw [World.cell?_setCell_other _ _ _ _ (by simp)]; exact h2
  · rw [World.cell?_setCell_other _ _ _ _ (by simp)]; exact h3
theorem At4.put2 {W : World} {b : Nat} {x y z u : Value} (h : At4 W b x y z u) (v : Value) : At4 (W.setCell ⟨b, 2, none⟩ v) b x y v u := by
  obtain ⟨h0, h1, h2, h3, h4⟩ := h
  refine ⟨?_, ?_, World.cell?_setCell_same _ _ _ h2, ?_, fun i => by rw [World.frozen?_setCell]; exact h4 i⟩
  · rw [World.cell?_setCell_other _ _ _ _ (by simp)]; exact h0
  · rw [World.cell?_setCell_other _ _ _ _ (by simp)]; exact h1
  · rw [World.cell?_setCell_other _ _ _ _ (by simp)]; exact h3
theorem At4.set3 {W : World} {b : Nat} {x y z u : Value} (h : At4 W b x y z u) (v : Value) : At4 (W.setCell ⟨b, 3, none⟩ v) b x y z v := by
  obtain ⟨h0, h1, h2, h3, h4⟩ := h
  refine ⟨?_, ?_, ?_, World.cell?_setCell_same _ _ _ h3, fun i => by rw [World.frozen?_setCell]; exact h4 i⟩
  · rw [World.cell?_setCell_other _ _ _ _ (by simp)]; exact h0
  · rw [World.cell?_setCell_other _ _ _ _ (by simp)]; exact h1
  · rw [World.cell?_setCell_other _ _ _ _ (by simp)]; exact h2
theorem DN.draw {m B cb : Nat} {w wr w1 : World} {zb nb : Nat} {k e : Int} {b : Bool} {s : ByteArray} (h : DN m B cb w zb nb wr k b e s) (hc : Cur B w1 cb) (hg : wr.grownBy w1 (some cb)) : DN m B cb w zb nb w1 k b e s := by
  obtain ⟨a1, a2, a3, a4, a5, a6, a7, a8, a9⟩ := h
  exact ⟨a1.grown hg (by omega) a8, a2.grown hg (by omega) (by omega), hc, grown_trans a4 hg, a5, a6, a7, Nat.lt_of_lt_of_le a8 hg.size, a9⟩
theorem DN.alloc {m B cb : Nat} {w wr : World} {zb nb : Nat} {k e : Int} {b : Bool} {s : ByteArray} (h : DN m B cb w zb nb wr k b e s) (o : Obj) : DN m B cb w zb nb (wr.alloc o) k b e s :=
  h.draw (cur_alloc h.2.2.1 o) (World.grownBy_alloc _ _ _)
theorem DN.drew {m B cb : Nat} {w wr : World} {zb nb : Nat} {k e : Int} {b : Bool} {s : ByteArray} (h : DN m B cb w zb nb wr k b e s) : DN m B cb w zb nb wr.drew k b e s := by
  obtain ⟨a1, a2, a3, a4, a5⟩ := h
  exact ⟨a1, a2, a3, ⟨a4.os, a4.tape, a4.output, a4.size, a4.block⟩, a5⟩
theorem DN.set0 {m B cb : Nat} {w wr : World} {zb nb : Nat} {k e : Int} {b : Bool} {s : ByteArray} (h : DN m B cb w zb nb wr k b e s) (v : Int) (hv : I64 v) : DN m B cb w zb nb (wr.setCell ⟨nb, 0, none⟩ (.int .i64 v)) v b e s := by
  obtain ⟨a1, a2, a3, a4, a5, a6, a7, a8, a9, a10, a11⟩ := h
  exact ⟨a1.set0 _, a2.far (by omega) _ _, cur_far a3 (by omega) _ _, grown_far a4 (by omega) _ _, a5, a6, a7, by simpa using a8, hv, a10, a11⟩
theorem DN.set2 {m B cb : Nat} {w wr : World} {zb nb : Nat} {k e : Int} {b : Bool} {s : ByteArray} (h : DN m B cb w zb nb wr k b e s) (v : Int) (hv : I64 v) : DN m B cb w zb nb (wr.setCell ⟨nb, 2, none⟩ (.int .i64 v)) k b v s := by
  obtain ⟨a1, a2, a3, a4, a5, a6, a7, a8, a9, a10, a11⟩ := h
  exact ⟨a1.put2 _, a2.far (by omega) _ _, cur_far a3 (by omega) _ _, grown_far a4 (by omega) _ _, a5, a6, a7, by simpa using a8, a9, hv, a11⟩
theorem DN.set3 {m B cb : Nat} {w wr : World} {zb nb : Nat} {k e : Int} {b : Bool} {s : ByteArray} (h : DN m B cb w zb nb wr k b e s) (v : ByteArray) (hv : v.size ≤ m) : DN m B cb w zb nb (wr.setCell ⟨nb, 3, none⟩ (.string v)) k b e v := by
  obtain ⟨a1, a2, a3, a4, a5, a6, a7, a8, a9, a10, a11⟩ := h
  exact ⟨a1.set3 _, a2.far (by omega) _ _, cur_far a3 (by omega) _ _, grown_far a4 (by omega) _ _, a5, a6, a7, by simpa using a8, a9, a10, hv⟩
/-- Four numbers that are not finite, laid side by side. -/
def spc4 : Array Value := #[.int .i64 2, .bool false, .int .i64 0, .string { data := #[] }, .int .i64 2, .bool true, .int .i64 0, .string { data := #[] }, .int .i64 3, .bool false, .int .i64 0, .string { data := #[] }, .int .i64 4, .bool false, .int .i64 0, .string { data := #[] }]
theorem spc4_at (x : Int) (h0 : 0 ≤ x) (h1 : x < 4) : ∃ (k : Int) (b : Bool), spc4[x.toNat * 4]? = some (.int .i64 k) ∧ spc4[x.toNat * 4 + 1]? = some (.bool b) ∧ spc4[x.toNat * 4 + 2]? = some (.int .i64 0) ∧ spc4[x.toNat * 4 + 3]? = some (.string { data := #[] }) ∧ I64 k := by
  obtain ⟨n, rfl⟩ := Int.eq_ofNat_of_zero_le h0
  match n, h1 with
  | 0, _ => exact ⟨2, false, rfl, rfl, rfl, rfl, by decide, by decide⟩
  | 1, _ => exact ⟨2, true, rfl, rfl, rfl, rfl, by decide, by decide⟩
  | 2, _ => exact ⟨3, false, rfl, rfl, rfl, rfl, by decide, by decide⟩
  | 3, _ => exact ⟨4, false, rfl, rfl, rfl, rfl, by decide, by decide⟩
theorem limits_bd (f : Int) (h : limP f ≠ 0) : 16 ≤ limP f ∧ limP f ≤ 34 ∧ -6176 ≤ limL f ∧ limL f ≤ -398 ∧ 369 ≤ limH f ∧ limH f ≤ 6111 := by
  unfold limP at h
  unfold limP limL limH
  by_cases h1 : f = 64
  · rw [if_pos h1, if_pos h1, if_pos h1]; omega
  · rw [if_neg h1] at h
    by_cases h2 : f = 128
    · rw [if_neg h1, if_neg h1, if_neg h1, if_pos h2, if_pos h2, if_pos h2]; omega
    · rw [if_neg h2] at h; exact absurd rfl h
def nin (P L H : Int) : Array Value := #[.int .i64 L, .int .i64 (L + 1), .int .i64 H, .int .i64 (H - 1), .int .i64 (L + P), .int .i64 (H - P), .int .i64 (-P), .int .i64 (-P - 1), .int .i64 (1 - P)]
theorem nin_at (P L H : Int) (x : Int) (h0 : 0 ≤ x) (h1 : x < 9) (hP : 16 ≤ P ∧ P ≤ 34) (hL : -6176 ≤ L ∧ L ≤ -398) (hH : 369 ≤ H ∧ H ≤ 6111) : ∃ v : Int, (nin P L H)[x.toNat]? = some (.int .i64 v) ∧ I64 v := by
  obtain ⟨n, rfl⟩ := Int.eq_ofNat_of_zero_le h0
  match n, h1 with
  | 0, _ => exact ⟨_, rfl, by omega, by omega⟩
  | 1, _ => exact ⟨_, rfl, by omega, by omega⟩
  | 2, _ => exact ⟨_, rfl, by omega, by omega⟩
  | 3, _ => exact ⟨_, rfl, by omega, by omega⟩
  | 4, _ => exact ⟨_, rfl, by omega, by omega⟩
  | 5, _ => exact ⟨_, rfl, by omega, by omega⟩
  | 6, _ => exact ⟨_, rfl, by omega, by omega⟩
  | 7, _ => exact ⟨_, rfl, by omega, by omega⟩
  | 8, _ => exact ⟨_, rfl, by omega, by omega⟩
def out3 (L H : Int) : Array Value := #[.int .i64 (L - 1), .int .i64 (H + 1), .int .i64 4611686018427387904]
theorem out3_at (L H : Int) (x : Int) (h0 : 0 ≤ x) (h1 : x < 3) (hL : -6176 ≤ L ∧ L ≤ -398) (hH : 369 ≤ H ∧ H ≤ 6111) : ∃ v : Int, (out3 L H)[x.toNat]? = some (.int .i64 v) ∧ I64 v := by
  obtain ⟨n, rfl⟩ := Int.eq_ofNat_of_zero_le h0
  match n, h1 with
  | 0, _ => exact ⟨_, rfl, by omega, by omega⟩
  | 1, _ => exact ⟨_, rfl, by omega, by omega⟩
  | 2, _ => exact ⟨_, rfl, by omega, by omega⟩
abbrev str5 (s : ByteArray) : Array Value := #[.string { data := #[] }, .string { data := #[48, 49] }, .string { data := #[49, 97] }, .string { data := #[45, 49] }, .string s]
theorem str5_at (s : ByteArray) (x : Int) (h0 : 0 ≤ x) (h1 : x < 5) (hs : s.size ≤ 301) : ∃ v : ByteArray, (str5 s)[x.toNat]? = some (.string v) ∧ v.size ≤ 301 := by
  obtain ⟨n, rfl⟩ := Int.eq_ofNat_of_zero_le h0
  match n, h1 with
  | 0, _ => exact ⟨_, rfl, by decide⟩
  | 1, _ => exact ⟨_, rfl, by decide⟩
  | 2, _ => exact ⟨_, rfl, by decide⟩
  | 3, _ => exact ⟨_, rfl, by decide⟩
  | 4, _ => exact ⟨_, rfl, hs⟩
theorem lit_at_drew {w w2 : World} {arr : Array Value} {T : TypeId} {cb : Nat} (hg : (w.alloc (.cells arr T)).drew.grownBy w2 (some cb)) (hcb : cb < w.heap.size) (i : Nat) (v : Value) (hv : arr[i]? = some v) : w2.cell? ⟨w.heap.size, i, none⟩ = some v := by
  have h2 : (w.alloc (.cells arr T)).grownBy w2 (some cb) := ⟨hg.os, hg.tape, hg.output, hg.size, hg.block⟩
  exact lit_at h2 hcb i v hv
/-- How long the digits in a box are. -/
def digLen (nb : Nat) (w : World) : Nat := match w.cell? ⟨nb, 3, none⟩ with | some v => strSz v | none => 0
theorem DN.wide {m m' B cb : Nat} {w wr : World} {zb nb : Nat} {k e : Int} {b : Bool} {s : ByteArray} (h : DN m B cb w zb nb wr k b e s) (hm : m ≤ m') : DN m' B cb w zb nb wr k b e s := by
  obtain ⟨a1, a2, a3, a4, a5, a6, a7, a8, a9, a10, a11⟩ := h
  exact ⟨a1, a2, a3, a4, a5, a6, a7, a8, a9, a10, by omega⟩
theorem DN.len {m B cb : Nat} {w wr : World} {zb nb : Nat} {k e : Int} {b : Bool} {s : ByteArray} (h : DN m B cb w zb nb wr k b e s) : digLen nb wr = s.size := by
  unfold digLen; rw [h.1.2.2.2.1]; rfl
set_option maxRecDepth 100000 in
set_option maxHeartbeats 4000000 in
theorem l10DrawNum_any (B cb : Nat) (f : Int) (w : World) (hc : Cur B w cb) :
    Calls Tryz.prog 17 #[.pointer (some ⟨cb, 0, none⟩), .int .i64 f] w fun r w' => ∃ k b e s, r = .returned (numV k b e s) ∧ I64 k ∧ I64 e ∧ s.size ≤ 340 ∧ Cur B w' cb ∧ w.grownBy w' (some cb) := by
  have hcl := hc.lt
  have HZ : Hid (At4 (w.alloc (.cells #[.int .i64 0, .bool false, .int .i64 0, .string { data := #[] }] 25)) w.heap.size (.int .i64 0) (.bool false) (.int .i64 0) (.string { data := #[] }) ∧ Cur B (w.alloc (.cells #[.int .i64 0, .bool false, .int .i64 0, .string { data := #[] }] 25)) cb ∧ w.grownBy (w.alloc (.cells #[.int .i64 0, .bool false, .int .i64 0, .string { data := #[] }] 25)) (some cb)) := ⟨at4_new w _ _ _ _, cur_alloc hc _, World.grownBy_alloc _ _ _⟩
  have HLim : Hid (limP f = 0 ∨ (16 ≤ limP f ∧ limP f ≤ 34 ∧ -6176 ≤ limL f ∧ limL f ≤ -398 ∧ 369 ≤ limH f ∧ limH f ≤ 6111)) := by
    by_cases h : limP f = 0
    · exact .inl h
    · exact .inr (limits_bd f h)
  clear hc
  go_enter Tryz.func17, Tryz.ntmps17
  go_wp2_with fail
  refine (Limits_any f _).mono ?_
  rintro r w' ⟨rfl, hw⟩
  obtain rfl := hw
  generalize limP f = p0 at *
  generalize limL f = l0 at *
  generalize limH f = h0 at *
  obtain ⟨w0, hw0⟩ : ∃ w0, w.alloc (.cells #[.int .i64 0, .bool false, .int .i64 0, .string { data := #[] }] 25) = w0 := ⟨_, rfl⟩
  have hs0 : w0.heap.size = w.heap.size + 1 := by rw [← hw0]; simp
  have Hs0 : Hid (w0.heap.size = w.heap.size + 1) := hs0
  rw [hw0] at HZ ⊢
  clear hw0 hs0
  go_upto_if 16 with fail
  go_cut [5, 6, 7] (fun p l h wx => ∃ P L H : Int, p = .int .i64 P ∧ l = .int .i64 L ∧ h = .int .i64 H ∧ (16 ≤ P ∧ P ≤ 34) ∧ (-6176 ≤ L ∧ L ≤ -398) ∧ (369 ≤ H ∧ H ≤ 6111) ∧ wx = w0)
  case first =>
    rcases HLim.out with rfl | ⟨a1, a2, a3, a4, a5, a6⟩
    · go_wp2
      go_meet
      case rel => exact ⟨_, _, _, rfl, rfl, rfl, by omega, by omega, by omega, rfl⟩
    · have hp : (p0 == 0) = false := by simp; omega
      go_wp2
      go_meet
      case rel => exact ⟨_, _, _, rfl, rfl, rfl, by omega, by omega, by omega, rfl⟩
  case rest =>
    obtain ⟨P, L, H, rfl, rfl, rfl, hP, hL, hH, rfl⟩ := hcut
    clear HLim
    go_wp2_with fail
    refine (l1Once_any B cb 12 _ HZ.out.2.1 (by decide) (by decide)).mono ?_
    rintro e w1 ⟨b1, rfl, hc1, hg1⟩
    have HZ1 : Hid (At4 w1 w.heap.size (.int .i64 0) (.bool false) (.int .i64 0) (.string { data := #[] }) ∧ Cur B w1 cb ∧ w.grownBy w1 (some cb) ∧ w.heap.size + 1 ≤ w1.heap.size) := ⟨HZ.out.1.grown hg1 (by omega) (by have := Hs0.out; omega), hc1, grown_trans HZ.out.2.2 hg1, by have := hg1.size; have := Hs0.out; omega⟩
    clear HZ hc1 hg1 Hs0
    cases b1
    rotate_left
    · go_wp2_with fail
      refine (l1Below_any B cb 4 _ (cur_alloc HZ1.out.2.1 _) (by decide) (by decide)).mono ?_
      rintro e w2 ⟨y, rfl, y0, y1, hc2, hg2⟩
      obtain ⟨k, b, q0, q1, q2, q3, ik⟩ := spc4_at y y0 y1
      have hl := HZ1.out.2.2.2
      have e0 := lit_at (arr := spc4) hg2 (by omega) _ _ q0
      have e1 := lit_at (arr := spc4) hg2 (by omega) _ _ q1
      have e2 := lit_at (arr := spc4) hg2 (by omega) _ _ q2
      have e3 := lit_at (arr := spc4) hg2 (by omega) _ _ q3
      have HA : Hid (At4 w2 w.heap.size (.int .i64 0) (.bool false) (.int .i64 0) (.string { data := #[] })) := (HZ1.out.1.alloc (by omega) _).grown hg2 (by omega) (by simp; omega)
      obtain ⟨d0, d1, d2, d3, d4⟩ := HA.out
      have d40 := d4 0
      have d41 := d4 1
      have d42 := d4 2
      have d43 := d4 3
      have HE : Hid (Cur B w2 cb ∧ w.grownBy w2 (some cb) ∧ I64 k) := ⟨hc2, grown_trans (grown_trans HZ1.out.2.2.1 (World.grownBy_alloc _ _ _)) hg2, ik⟩
      clear d4 hc2 hg2 q0 q1 q2 q3 ik HZ1
      go_wp2
      have hP := HA.out.put (.int .i64 k) (.bool b) (.int .i64 0) (.string { data := #[] })
      refine bodyPost_ret (results_num rfl _ _ rfl hP.1 hP.2.1 hP.2.2.1 hP.2.2.2.1) rfl ?_
      refine ⟨k, b, 0, _, rfl, HE.out.2.2, ⟨by decide, by decide⟩, by decide, ?_, ?_⟩
      · exact cur_far (cur_far (cur_far (cur_far HE.out.1 (by omega) _ _) (by omega) _ _) (by omega) _ _) (by omega) _ _
      · exact grown_far (grown_far (grown_far (grown_far HE.out.2.1 (Nat.le_refl _) _ _) (Nat.le_refl _) _ _) (Nat.le_refl _) _ _) (Nat.le_refl _) _ _
    · go_wp2_with fail
      refine (l1Once_any B cb 2 _ HZ1.out.2.1 (by decide) (by decide)).mono ?_
      rintro e w2 ⟨b2, rfl, hc2, hg2⟩
      have hs2 := hg2.size
      go_wp2_with fail
      refine (l10DrawDigits_any B cb P _ hc2 (by omega) (by omega)).mono ?_
      rintro e w3 ⟨ds, rfl, hds, hdl, hc3, hg3⟩
      have hs3 := hg3.size
      go_wp2_with fail
      refine (l1From_any B cb (-12) 12 _ hc3 (by decide) (by decide) (by decide)).mono ?_
      rintro e w4 ⟨x4, rfl, x40, x41, hc4, hg4⟩
      have hs4 := hg4.size
      obtain ⟨nb, hnb⟩ : ∃ nb, w4.heap.size = nb := ⟨_, rfl⟩
      obtain ⟨w5, hw5⟩ : ∃ w5, w4.alloc (.cells #[.int .i64 1, .bool b2, .int .i64 x4, .string (tx ds)] 25) = w5 := ⟨_, rfl⟩
      have H5 : Hid (DN 300 B cb w w.heap.size nb w5 1 b2 x4 (tx ds)) := by
        have hz := HZ1.out.2.2.2
        rw [← hw5, ← hnb]
        refine ⟨at4_new w4 _ _ _ _, ?_, cur_alloc hc4 _, ?_, by omega, Nat.le_refl _, by omega, by simp, ⟨by decide, by decide⟩, ⟨by omega, by omega⟩, by rw [tx_size]; omega⟩
        · exact ((((HZ1.out.1.grown hg2 (by omega) (by omega)).grown hg3 (by omega) (by omega)).grown hg4 (by omega) (by omega)).alloc (by omega) _)
        · exact grown_trans (grown_trans (grown_trans (grown_trans HZ1.out.2.2.1 hg2) hg3) hg4) (World.grownBy_alloc _ _ _)
      clear HZ1 hc2 hg2 hc3 hg3 hc4 hg4 hs2 hs3 hs4 hds hdl
      go_wp2_with fail
      refine (l1Once_any B cb 10 _ H5.out.2.2.1 (by decide) (by decide)).mono ?_
      rintro e w6 ⟨b6, rfl, hc6, hg6⟩
      have H6 : Hid (DN 300 B cb w w.heap.size nb w6 1 b2 x4 (tx ds)) := H5.out.draw hc6 hg6
      clear H5 hw5 hnb hc6 hg6
      go_upto_if 37 with fail
      go_cut [] (fun wx => ∃ k b e s, Hid (DN 300 B cb w w.heap.size nb wx k b e s))
      case first =>
        cases b6
        · go_wp2
          go_meet
          case rel => exact ⟨_, _, _, _, H6⟩
        · obtain ⟨c0, c1, c2, c3, c4⟩ := H6.out.1
          have c43 := c4 3
          clear c4
          go_wp2
          go_meet
          case rel => exact ⟨_, _, _, _, H6.out.set3 { data := #[48] } (by decide)⟩
      case rest =>
        obtain ⟨k, b, e, s, H7⟩ := hcut
        clear H6
        go_wp2_with fail
        refine (l1Once_any B cb 6 _ H7.out.2.2.1 (by decide) (by decide)).mono ?_
        rintro r w8 ⟨b8, rfl, hc8, hg8⟩
        have H8 : Hid (DN 300 B cb w w.heap.size nb w8 k b e s) := H7.out.draw hc8 hg8
        clear H7 hc8 hg8
        go_upto_if 40 with fail
        go_cut [] (fun wx => ∃ k b e s, Hid (DN 300 B cb w w.heap.size nb wx k b e s))
        case first =>
          cases b8
          · go_wp2
            go_meet
            case rel => exact ⟨_, _, _, _, H8⟩
          · go_wp2_with fail
            refine (l1From_any B cb L H _ H8.out.2.2.1 (by omega) (by omega) (by omega)).mono ?_
            rintro r w9 ⟨x9, rfl, x90, x91, hc9, hg9⟩
            have H9 : Hid (DN 300 B cb w w.heap.size nb w9 k b e s) := H8.out.draw hc9 hg9
            obtain ⟨c0, c1, c2, c3, c4⟩ := H9.out.1
            have c42 := c4 2
            clear c4 H8 hc9 hg9
            go_wp2
            go_meet
            case rel => exact ⟨_, _, _, _, H9.out.set2 x9 ⟨by omega, by omega⟩⟩
        case rest =>
          obtain ⟨k, b, e, s, H9⟩ := hcut
          clear H8
          go_wp2_with fail
          refine (l1Once_any B cb 8 _ H9.out.2.2.1 (by decide) (by decide)).mono ?_
          rintro r w10 ⟨b10, rfl, hc10, hg10⟩
          have H10 : Hid (DN 300 B cb w w.heap.size nb w10 k b e s) := H9.out.draw hc10 hg10
          clear H9 hc10 hg10
          go_upto_if 47 with fail
          go_cut [] (fun wx => ∃ k b e s, Hid (DN 300 B cb w w.heap.size nb wx k b e s))
          case first =>
            cases b10
            · go_wp2
              go_meet
              case rel => exact ⟨_, _, _, _, H10⟩
            · go_wp2_with fail
              refine (l1Below_any B cb 9 _ (cur_alloc H10.out.2.2.1 _) (by decide) (by decide)).mono ?_
              rintro r w11 ⟨y, rfl, y0, y1, hc11, hg11⟩
              obtain ⟨v, hv, iv⟩ := nin_at P L H y y0 y1 hP hL hH
              have Hv : Hid (I64 v) := iv
              have hcell := lit_at (arr := nin P L H) hg11 (by have := H10.out.2.2.2.1.size; omega) y.toNat _ hv
              have H11 : Hid (DN 300 B cb w w.heap.size nb w11 k b e s) := (H10.out.alloc _).draw hc11 hg11
              obtain ⟨c0, c1, c2, c3, c4⟩ := H11.out.1
              have c42 := c4 2
              clear c4 H10 hc11 hg11 hv iv
              go_wp2
              go_meet
              case rel => exact ⟨_, _, _, _, H11.out.set2 v Hv.out⟩
          case rest =>
            obtain ⟨k, b, e, s, H11⟩ := hcut
            clear H10
            go_wp2_with fail
            refine (l1Once_any B cb 50 _ H11.out.2.2.1 (by decide) (by decide)).mono ?_
            rintro r w12 ⟨b12, rfl, hc12, hg12⟩
            have H12 : Hid (DN 300 B cb w w.heap.size nb w12 k b e s) := H11.out.draw hc12 hg12
            clear H11 hc12 hg12
            go_upto_if 74 with fail
            go_cut [] (fun wx => ∃ k b e s, Hid (DN 301 B cb w w.heap.size nb wx k b e s))
            case first =>
              cases b12
              · go_wp2
                go_meet
                case rel => exact ⟨_, _, _, _, H12.out.wide (by decide)⟩
              · go_wp2_with fail
                refine (l1Below_any B cb 4 _ H12.out.2.2.1 (by decide) (by decide)).mono ?_
                rintro r w13 ⟨y, rfl, y0, y1, hc13, hg13⟩
                have H13 : Hid (DN 300 B cb w w.heap.size nb w13 k b e s) := H12.out.draw hc13 hg13
                clear H12 hc13 hg13
                rcases (show y = 0 ∨ y = 1 ∨ y = 2 ∨ y = 3 by omega) with rfl | rfl | rfl | rfl
                · go_wp2_with fail
                  refine (l1From_any B cb (-1) 6 _ H13.out.2.2.1 (by decide) (by decide) (by decide)).mono ?_
                  rintro r w14 ⟨x, rfl, x0, x1, hc14, hg14⟩
                  have H14 : Hid (DN 300 B cb w w.heap.size nb w14 k b e s) := H13.out.draw hc14 hg14
                  obtain ⟨c0, c1, c2, c3, c4⟩ := H14.out.1
                  have c40 := c4 0
                  clear c4 H13 hc14 hg14
                  go_wp2
                  go_meet
                  case rel => exact ⟨_, _, _, _, (H14.out.set0 x ⟨by omega, by omega⟩).wide (by decide)⟩
                · go_wp2_with fail
                  refine (l1Below_any B cb 3 _ (cur_alloc H13.out.2.2.1 _) (by decide) (by decide)).mono ?_
                  rintro r w14 ⟨x, rfl, x0, x1, hc14, hg14⟩
                  obtain ⟨v, hv, iv⟩ := out3_at L H x x0 x1 hL hH
                  have Hv : Hid (I64 v) := iv
                  have hcell := lit_at (arr := out3 L H) hg14 (by have := H13.out.2.2.2.1.size; omega) x.toNat _ hv
                  have H14 : Hid (DN 300 B cb w w.heap.size nb w14 k b e s) := (H13.out.alloc _).draw hc14 hg14
                  obtain ⟨c0, c1, c2, c3, c4⟩ := H14.out.1
                  have c42 := c4 2
                  clear c4 H13 hc14 hg14 hv iv
                  go_wp2
                  go_meet
                  case rel => exact ⟨_, _, _, _, (H14.out.set2 v Hv.out).wide (by decide)⟩
                · have hsz := H13.out.2.2.2.2.2.2.2.2.2.2
                  obtain ⟨c0, c1, c2, c3, c4⟩ := H13.out.1
                  have c43 := c4 3
                  have hz1 : (s.size : Int) ≤ 8388608 := by omega
                  have hs5 : (s ++ { data := #[48] }).size ≤ 301 := by rw [ByteArray.size_append]; have : ({ data := #[48] } : ByteArray).size = 1 := rfl; omega
                  have HV5 : Hid (∀ y : Int, 0 ≤ y → y < 5 → ∃ v : ByteArray, (str5 (s ++ { data := #[48] }))[y.toNat]? = some (.string v) ∧ Hid (v.size ≤ 301)) := fun y h0 h1 => str5_at _ y h0 h1 hs5
                  have HV7 : Hid (∀ (y : Int) (v : ByteArray), (str5 (s ++ { data := #[48] }))[y.toNat]? = some (.string v) → ∀ h : y.toNat < 5, (str5 (s ++ { data := #[48] }))[y.toNat]'h = .string v) := fun y v hv h => (Array.getElem?_eq_some_iff.1 hv).2
                  have Hcb : Hid (cb < w13.heap.size) := by have := H13.out.2.2.2.1.size; rw [Hid]; omega
                  have hz5 : ((s ++ { data := #[48] }).size : Int) ≤ 8388608 := by omega
                  clear hs5 c4
                  go_wp2
                  clear c0 c1 c2
                  go_region_with (first
                      | (go_at_call 18; refine (l1Below_any B cb 5 _ (by first | exact (H13.out.alloc _).drew.2.2.1 | exact H13.out.drew.2.2.1) (by decide) (by decide)).mono ?_; rintro r w14 ⟨y, rfl, y0, y1, hc14, hg14⟩; obtain ⟨v, hv, Hvs⟩ := HV5.out y y0 y1; have hv7 := HV7.out y v hv; (first | (have H14 : Hid (DN 300 B cb w w.heap.size nb w14 k b e s) := (H13.out.alloc _).drew.draw hc14 hg14; have hcell := lit_at_drew (arr := str5 (s ++ { data := #[48] })) hg14 Hcb.out y.toNat _ hv; have hk1 := H14.out.1.2.2.2.1; have hk2 := H14.out.1.2.2.2.2 3; have hk5 : nb < w14.heap.size := H14.out.2.2.2.2.2.2.2.1; have hk6 : ¬ nb = w14.heap.size := Nat.ne_of_lt hk5; have hk3 : ∀ o, (w14.alloc o).cell? ⟨nb, 3, none⟩ = some (.string s) := fun o => (H14.out.alloc o).1.2.2.2.1; have hk4 : ∀ o, (w14.alloc o).frozen? ⟨nb, 3, none⟩ = false := fun o => (H14.out.alloc o).1.2.2.2.2 3; clear hc14 hg14) | (have H14 : Hid (DN 300 B cb w w.heap.size nb w14 k b e s) := H13.out.drew.draw hc14 hg14; have hk1 := H14.out.1.2.2.2.1; have hk2 := H14.out.1.2.2.2.2 3; have hk5 : nb < w14.heap.size := H14.out.2.2.2.2.2.2.2.1; have hk6 : ¬ nb = w14.heap.size := Nat.ne_of_lt hk5; have hk3 : ∀ o, (w14.alloc o).cell? ⟨nb, 3, none⟩ = some (.string s) := fun o => (H14.out.alloc o).1.2.2.2.1; have hk4 : ∀ o, (w14.alloc o).frozen? ⟨nb, 3, none⟩ = false := fun o => (H14.out.alloc o).1.2.2.2.2 3; clear hc14 hg14))))
                  all_goals
                    go_wp2
                    go_meet
                    case rel => exact ⟨_, _, _, _, by first | exact (H14.out.wide (by decide)).set3 v Hvs.out | exact ((H14.out.wide (by decide)).set3 v Hvs.out).alloc _⟩
                · go_wp2
                  go_loopw [] (fun wr => ∃ s', Hid (DN 300 B cb w w.heap.size nb wr k b e s')) (fun wr => 400 - digLen nb wr)
                  case atStart => exact ⟨_, H13⟩
                  case round =>
                    clear H13
                    obtain ⟨s', hS⟩ := hrel
                    obtain ⟨c0, c1, c2, c3, c4⟩ := hS.out.1
                    have c43 := c4 3
                    have hsz := hS.out.2.2.2.2.2.2.2.2.2.2
                    clear c4
                    by_cases hlt : (s'.size : Int) < P + 1
                    · have hz1 : (s'.size : Int) ≤ 8388608 := by omega
                      have hz2 : (s' ++ { data := #[55] }).size = s'.size + 1 := by rw [ByteArray.size_append]; rfl
                      have H14 : Hid (DN 300 B cb w w.heap.size nb (wr.setCell ⟨nb, 3, none⟩ (.string (s' ++ { data := #[55] }))) k b e (s' ++ { data := #[55] })) := hS.out.set3 _ (by omega)
                      have hm : Hid (400 - digLen nb (wr.setCell ⟨nb, 3, none⟩ (.string (s' ++ { data := #[55] }))) < 400 - digLen nb wr) := by
                        rw [Hid, H14.out.len, hS.out.len, hz2]; omega
                      clear hz2 hS
                      go_wp2
                      go_roundw
                      case rel => exact ⟨_, H14⟩
                      case measure => exact hm.out
                    · go_wp2
                      go_meet
                      case rel => exact ⟨_, _, _, _, hS.out.wide (by decide)⟩
            case rest =>
              obtain ⟨k, b, e, s, H13⟩ := hcut
              obtain ⟨c0, c1, c2, c3, -⟩ := H13.out.1
              obtain ⟨d0, d1, d2, d3, d4⟩ := H13.out.2.1
              have d40 := d4 0
              have d41 := d4 1
              have d42 := d4 2
              have d43 := d4 3
              clear d4 H12
              go_wp2
              have hP := H13.out.2.1.put (.int .i64 k) (.bool b) (.int .i64 e) (.string s)
              refine bodyPost_ret (results_num rfl _ _ rfl hP.1 hP.2.1 hP.2.2.1 hP.2.2.2.1) rfl ?_
              obtain ⟨a1, a2, a3, a4, a5, a6, a7, a8, a9, a10, a11⟩ := H13.out
              refine ⟨k, b, e, s, rfl, a9, a10, by omega, ?_, ?_⟩
              · exact cur_far (cur_far (cur_far (cur_far a3 a5 _ _) a5 _ _) a5 _ _) a5 _ _
              · exact grown_far (grown_far (grown_far (grown_far a4 (Nat.le_refl _) _ _) (Nat.le_refl _) _ _) (Nat.le_refl _) _ _) (Nat.le_refl _) _ _
end Go.Proofs.YtdkpiofeidcffaaGreatDoor
