/-
  The reader of texts: takesDigit, walked.
-/
import Derived.Test.YteofommckgeemaaGreatDoorRows
import Derived.WalkKit
import Derived.BigQuiet
import Derived.Test.YteofommckgeemaaGreatDoorSl
import Derived.Test.YteofommckgeemaaGreatDoorMark
import Derived.Deep.RegionHeld3
import Derived.Test.YteofommckgeemaaGreatDoorCls
namespace Go.Proofs.YteofommckgeemaaGreatDoor
open Go.RowKit
set_option linter.unusedVariables false
set_option maxRecDepth 100000
/-- The reader's box rb: the letters from off on of those that lie in block g. -/
def RDr (W : World) (rb g : Nat) (R : List Int) (off : Nat) : Prop :=
  (off ≤ R.length ∧ R.length ≤ 1000) ∧ ((∃ o c, W.cell? ⟨rb, 0, none⟩ = some (.slice (some ⟨g, o, none⟩) (R.length - off) c) ∧ (off < R.length → o = off) ∧ R.length - off ≤ c) ∧ W.frozen? ⟨rb, 0, none⟩ = false) ∧ (∀ i, i < R.length → W.cell? ⟨g, i, none⟩ = some (.int .i32 (R.getD i 0))) ∧ rb ≠ g ∧ rb < W.heap.size ∧ g < W.heap.size
theorem RDr.next {W W' : World} {rb g : Nat} {R : List Int} {off : Nat} (h : RDr W rb g R off) (hb : Below W.heap.size W W') : RDr W' rb g R off := by
  obtain ⟨h1, ⟨⟨o, c, h2, h2o⟩, h2f⟩, h3, h4, h5, h6⟩ := h
  exact ⟨h1, ⟨⟨o, c, (hb.cell (p := ⟨rb, 0, none⟩) h5).trans h2, h2o⟩, (hb.frozen (p := ⟨rb, 0, none⟩) h5).trans h2f⟩, fun i hi => (hb.cell (p := ⟨g, i, none⟩) h6).trans (h3 i hi), h4, Nat.lt_of_lt_of_le h5 hb.size, Nat.lt_of_lt_of_le h6 hb.size⟩
theorem RDr.step {W : World} {rb g : Nat} {R : List Int} {off : Nat} (h : RDr W rb g R off) (hl : off < R.length) (n o c : Nat) (hn : R.length - off = n + 1) (ho : off + 1 < R.length → o = off + 1) (hc : n ≤ c) : RDr (W.setCell ⟨rb, 0, none⟩ (.slice (some ⟨g, o, none⟩) n c)) rb g R (off + 1) := by
  obtain ⟨h1, ⟨⟨o', c', h2, h2o⟩, h2f⟩, h3, h4, h5, h6⟩ := h
  refine ⟨⟨by omega, h1.2⟩, ⟨⟨o, c, ?_, ho, by omega⟩, by rw [World.frozen?_setCell]; exact h2f⟩, fun i hi => ?_, h4, by simpa using h5, by simpa using h6⟩
  · rw [show R.length - (off + 1) = n by omega]
    exact World.cell?_setCell_same _ _ _ h2
  · rw [World.cell?_setCell_other _ _ _ _ (fun e => h4 (by cases e; rfl))]
    exact h3 i hi
theorem rd_grown {W : World} (rb i : Nat) (v : Value) : W.grownBy (W.setCell ⟨rb, i, none⟩ v) (some rb) :=
  ⟨by simp [World.setCell], by simp [World.setCell], by simp [World.setCell], by simp, fun k hk hn => Below.heap_setCell _ _ _ _ (fun e => hn (by have e' : k = rb := e; rw [e']))⟩
theorem takes_any (rb g : Nat) (R : List Int) (off : Nat) (x : Int) (w : World) (h : RDr w rb g R off) :
    Calls Tryz.prog 264 #[.pointer (some ⟨rb, 0, none⟩), .int .i32 x] w fun e w' => (off < R.length ∧ R.getD off 0 = x ∧ e = .returned (.bool true) ∧ RDr w' rb g R (off + 1) ∧ w.grownBy w' (some rb)) ∨ ((off < R.length → R.getD off 0 ≠ x) ∧ e = .returned (.bool false) ∧ w' = w) := by
  have HR : Hid (RDr w rb g R off) := h
  obtain ⟨⟨h1, h3⟩, ⟨⟨o, c, hc, ho, hcc⟩, hf⟩, hl, -⟩ := h
  by_cases h0 : off < R.length
  · have c0 := hl off h0
    obtain rfl := ho h0
    obtain ⟨n, hn⟩ : ∃ n, R.length - o = n + 1 := ⟨R.length - o - 1, by omega⟩
    rw [hn] at hc hcc
    have HS : Hid (∀ o' c', (o + 1 < R.length → o' = o + 1) → n ≤ c' → RDr (w.setCell ⟨rb, 0, none⟩ (.slice (some ⟨g, o', none⟩) n c')) rb g R (o + 1)) := fun o' c' q1 q2 => HR.out.step h0 n o' c' hn q1 q2
    have hn1 : n ≤ 1000 := by omega
    have hnc : n + 1 ≤ c := by omega
    have Hh : Hid (o < R.length ∧ R.length - o = n + 1) := ⟨h0, hn⟩
    obtain ⟨y, hy⟩ : ∃ y, R.getD o 0 = y := ⟨_, rfl⟩
    rw [hy] at c0
    have Hy : Hid (R.getD o 0 = y) := hy
    clear hl HR hy h0 h1 h3 hn ho hcc
    by_cases hx : y = x
    · subst hx
      by_cases hc1 : c = 1
      · subst hc1
        have n0 : n = 0 := by omega
        subst n0
        have HF := HS.out o 0 (fun q => by have := Hh.out; omega) (Nat.le_refl _)
        have HF' : Hid (RDr (w.setCell ⟨rb, 0, none⟩ (.slice (some ⟨g, o, none⟩) 0 0)) rb g R (o + 1)) := HF
        clear HS HF
        go_enter Tryz.func264, Tryz.ntmps264
        go_wp2
        go_ret
        exact .inl ⟨Hh.out.1, Hy.out, rfl, HF'.out, rd_grown _ _ _⟩
      · obtain ⟨c', rfl⟩ : ∃ c', c = c' + 2 := ⟨c - 2, by omega⟩
        have HF : Hid (RDr (w.setCell ⟨rb, 0, none⟩ (.slice (some ⟨g, o + 1, none⟩) n (c' + 1))) rb g R (o + 1)) := HS.out (o + 1) (c' + 1) (fun _ => rfl) (by omega)
        clear HS hc1
        go_enter Tryz.func264, Tryz.ntmps264
        go_wp2
        go_ret
        exact .inl ⟨Hh.out.1, Hy.out, rfl, HF.out, rd_grown _ _ _⟩
    · have hxb : (y == x) = false := beq_eq_false_iff_ne.2 hx
      have hxn : (y != x) = true := by rw [bne, hxb]; rfl
      have Hx : Hid (y ≠ x) := hx
      clear hx HS
      go_enter Tryz.func264, Tryz.ntmps264
      go_wp2
      go_ret
      exact .inr ⟨fun _ => by rw [Hy.out]; exact Hx.out, rfl, rfl⟩
  · have e0 : R.length - off = 0 := by omega
    rw [e0] at hc
    have Hh : Hid (¬ off < R.length) := h0
    clear hl HR h0 h1 h3 e0 ho hcc
    go_enter Tryz.func264, Tryz.ntmps264
    go_wp2
    go_ret
    exact .inr ⟨fun q => absurd q Hh.out, rfl, rfl⟩
/-- What is left behind a sign, and whether it was a -. -/
def sgO (R : List Int) (off : Nat) : Nat := if off < R.length ∧ (R.getD off 0 = 43 ∨ R.getD off 0 = 45) then off + 1 else off
def sgB (R : List Int) (off : Nat) : Bool := decide (off < R.length ∧ R.getD off 0 = 45)
theorem takesSign_any (rb g : Nat) (R : List Int) (off : Nat) (w : World) (h : RDr w rb g R off) :
    Calls Tryz.prog 226 #[.pointer (some ⟨rb, 0, none⟩)] w fun e w' => e = .returned (.bool (sgB R off)) ∧ RDr w' rb g R (sgO R off) ∧ w.grownBy w' (some rb) := by
  have HR : Hid (RDr w rb g R off) := h
  have HT : Hid (∀ X, RDr X rb g R off → ∀ x, Calls Tryz.prog 264 #[.pointer (some ⟨rb, 0, none⟩), .int .i32 x] X fun e w' => (off < R.length ∧ R.getD off 0 = x ∧ e = .returned (.bool true) ∧ RDr w' rb g R (off + 1) ∧ X.grownBy w' (some rb)) ∨ ((off < R.length → R.getD off 0 ≠ x) ∧ e = .returned (.bool false) ∧ w' = X)) := fun X q x => takes_any rb g R off x X q
  clear h
  go_enter Tryz.func226, Tryz.ntmps226
  go_wp2_with fail
  refine (HT.out _ HR.out 43).mono ?_
  rintro e w1 (⟨q1, q2, rfl, hr, hg⟩ | ⟨q1, rfl, hw⟩)
  · have eB : sgB R off = false := by unfold sgB; exact decide_eq_false (fun q => by omega)
    have eO : sgO R off = off + 1 := by unfold sgO; rw [if_pos ⟨q1, .inl q2⟩]
    have H1 : Hid (RDr w1 rb g R (off + 1) ∧ w.grownBy w1 (some rb)) := ⟨hr, hg⟩
    have HB : Hid (sgB R off = false) := eB
    have HO : Hid (sgO R off = off + 1) := eO
    clear eB eO q1 q2 hr hg HT HR
    go_wp2
    go_ret
    exact ⟨by rw [HB.out]; rfl, by rw [HO.out]; exact H1.out.1, H1.out.2⟩
  · subst hw
    have HQ : Hid (off < R.length → R.getD off 0 ≠ 43) := q1
    clear q1
    go_wp2_with fail
    refine (HT.out _ HR.out 45).mono ?_
    rintro e w2 (⟨q1, q2, rfl, hr, hg⟩ | ⟨q1, rfl, hw⟩)
    · have eB : sgB R off = true := by unfold sgB; exact decide_eq_true ⟨q1, q2⟩
      have eO : sgO R off = off + 1 := by unfold sgO; rw [if_pos ⟨q1, .inr q2⟩]
      have H1 : Hid (RDr w2 rb g R (off + 1) ∧ w1.grownBy w2 (some rb)) := ⟨hr, hg⟩
      have HB : Hid (sgB R off = true) := eB
      have HO : Hid (sgO R off = off + 1) := eO
      clear eB eO q1 q2 hr hg HT HR
      go_wp2
      go_ret
      exact ⟨by rw [HB.out]; rfl, by rw [HO.out]; exact H1.out.1, H1.out.2⟩
    · subst hw
      have eB : sgB R off = false := by unfold sgB; exact decide_eq_false (fun q => q1 q.1 q.2)
      have eO : sgO R off = off := by unfold sgO; rw [if_neg (fun q => q.2.elim (HQ.out q.1) (q1 q.1))]
      have HB : Hid (sgB R off = false) := eB
      have HO : Hid (sgO R off = off) := eO
      clear eB eO q1 HT
      go_wp2
      go_ret
      exact ⟨by rw [HB.out]; rfl, by rw [HO.out]; exact HR.out, World.grownBy.refl _ _⟩
end Go.Proofs.YteofommckgeemaaGreatDoor
namespace Go.Proofs.YteofommckgeemaaGreatDoor
open Go.RowKit
set_option linter.unusedVariables false
set_option maxRecDepth 100000
theorem info32 : (Tryz.prog.info? 21).map (fun i => (i.zero, i.size, i.bytes)) = some (some (.int .i32 0), 1, 4) := by kernel_rfl
/-- The reader, and digits in a variable's box db: a slice of its own. -/
def TDg (W : World) (B rb g db base : Nat) (R : List Int) (off : Nat) (D : List Int) : Prop :=
  RDr W rb g R off ∧ (∃ v, W.cell? ⟨db, 0, none⟩ = some v ∧ W.ownsRow base 21 1 v D.length (D.map (Value.int .i32))) ∧ W.frozen? ⟨db, 0, none⟩ = false ∧ (B ≤ rb ∧ B ≤ db ∧ B ≤ base ∧ rb < base ∧ g < base ∧ db < base ∧ rb ≠ db ∧ g ≠ db ∧ base ≤ W.heap.size) ∧ D.length ≤ 1000
set_option maxRecDepth 100000 in
set_option maxHeartbeats 2000000 in
theorem takesDigit_no (B rb g db base : Nat) (R : List Int) (off : Nat) (D : List Int) (w : World) (h : TDg w B rb g db base R off D) (hd : ¬ (off < R.length ∧ 48 ≤ R.getD off 0 ∧ R.getD off 0 ≤ 57)) :
    Calls Tryz.prog 267 #[.pointer (some ⟨rb, 0, none⟩), .pointer (some ⟨db, 0, none⟩)] w fun e w' => e = .returned (.bool false) ∧ w' = w := by
  obtain ⟨⟨⟨h1, h3⟩, ⟨⟨o, c, hc, ho, hcc⟩, hf⟩, hl, -⟩, -⟩ := h
  by_cases h0 : off < R.length
  · have c0 := hl off h0
    obtain rfl := ho h0
    obtain ⟨n, hn⟩ : ∃ n, R.length - o = n + 1 := ⟨R.length - o - 1, by omega⟩
    rw [hn] at hc hcc
    obtain ⟨y, hy⟩ : ∃ y, R.getD o 0 = y := ⟨_, rfl⟩
    rw [hy] at c0 hd
    have hy2 : y < 48 ∨ (48 ≤ y ∧ 57 < y) := by omega
    clear hl hy h0 h1 h3 hn ho hcc hd
    rcases hy2 with hy2 | ⟨hy1, hy2⟩
    · go_enter Tryz.func267, Tryz.ntmps267
      go_wp2
      go_ret
      exact ⟨rfl, rfl⟩
    · have hy3 : ¬ y < 48 := by omega
      go_enter Tryz.func267, Tryz.ntmps267
      go_wp2
      go_ret
      exact ⟨rfl, rfl⟩
  · have e0 : R.length - off = 0 := by omega
    rw [e0] at hc
    clear hl h0 h1 h3 e0 ho hcc hd
    go_enter Tryz.func267, Tryz.ntmps267
    go_wp2
    go_ret
    exact ⟨rfl, rfl⟩
end Go.Proofs.YteofommckgeemaaGreatDoor
