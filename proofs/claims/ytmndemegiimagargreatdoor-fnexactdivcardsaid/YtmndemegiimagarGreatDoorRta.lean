/-
  Plain facts for quotients and roots: digits with more behind them are finished alike; how many digits; digits that go, however many.
-/
import Derived.Test.YtmndemegiimagarGreatDoorPsd
import Derived.Test.YtmndemegiimagarGreatDoorFinA
import Derived.Shelf.Abstract
import Derived.Test.YtmndemegiimagarGreatDoorStk
import Derived.Test.YtmndemegiimagarGreatDoorNtL
namespace Go.Proofs.YtmndemegiimagarGreatDoor
open Go.RowKit
set_option linter.unusedVariables false
set_option maxRecDepth 100000
abbrev R5o := Bool × (Int × Int × ByteArray × Int)
/-- What an operation on numbers tells, R being told of right ones that are no NaNs. -/
def ofR (f m : Int) (n : Nat) (K : Nat → Int) (B : Nat → Bool) (E : Nat → Int) (S : Nat → ByteArray) (R : R5o) : R5o :=
  if rightB f m n K B E S then (if spB n K then (false, (3, 0, { data := #[] }, spF n K)) else R) else (false, (0, 0, { data := #[] }, 0))
/-- What the helper's closure sees: format, mode, what is to be done, the numbers. -/
def CapO (X : World) (p : Nat) (f mode : Int) (F : Nat) (caps : Array Value) (g n : Nat) : Prop :=
  X.cell? ⟨p, 0, none⟩ = some (.int .i64 f) ∧ X.cell? ⟨p + 1, 0, none⟩ = some (.int .i64 mode) ∧ X.cell? ⟨p + 2, 0, none⟩ = some (.func (.func F) #[] caps) ∧ X.cell? ⟨p + 3, 0, none⟩ = some (.slice (some ⟨g, 0, none⟩) n n) ∧ p + 3 < X.heap.size
theorem CapO.next {X X' : World} {p : Nat} {f mode : Int} {F : Nat} {caps : Array Value} {g n : Nat} (h : CapO X p f mode F caps g n) (hb : Below X.heap.size X X') : CapO X' p f mode F caps g n := by
  obtain ⟨h0, h1, h2, h3, h4⟩ := h
  exact ⟨(hb.cell (p := ⟨p, 0, none⟩) (show p < X.heap.size by omega)).trans h0, (hb.cell (p := ⟨p + 1, 0, none⟩) (show p + 1 < X.heap.size by omega)).trans h1, (hb.cell (p := ⟨p + 2, 0, none⟩) (show p + 2 < X.heap.size by omega)).trans h2, (hb.cell (p := ⟨p + 3, 0, none⟩) (show p + 3 < X.heap.size by omega)).trans h3, Nat.lt_of_lt_of_le h4 hb.size⟩
theorem capO_new (w : World) (f mode : Int) (F : Nat) (caps : Array Value) (g n : Nat) (t0 t1 t2 t3 : TypeId) :
    CapO ((((w.alloc (.cells #[.int .i64 f] t0)).alloc (.cells #[.int .i64 mode] t1)).alloc (.cells #[.func (.func F) #[] caps] t2)).alloc (.cells #[.slice (some ⟨g, 0, none⟩) n n] t3)) w.heap.size f mode F caps g n ∧ Below w.heap.size w ((((w.alloc (.cells #[.int .i64 f] t0)).alloc (.cells #[.int .i64 mode] t1)).alloc (.cells #[.func (.func F) #[] caps] t2)).alloc (.cells #[.slice (some ⟨g, 0, none⟩) n n] t3)) ∧ ((((w.alloc (.cells #[.int .i64 f] t0)).alloc (.cells #[.int .i64 mode] t1)).alloc (.cells #[.func (.func F) #[] caps] t2)).alloc (.cells #[.slice (some ⟨g, 0, none⟩) n n] t3)).heap.size = w.heap.size + 4 := by
  have c1 := new_cell1 w (.int .i64 f) t0
  have z1 := new_size w (.cells #[.int .i64 f] t0)
  have b1 : Below w.heap.size w (w.alloc (.cells #[.int .i64 f] t0)) := (Below.refl _ _).alloc (Nat.le_refl _) _
  generalize w.alloc (.cells #[.int .i64 f] t0) = w1 at *
  have c2 := new_cell1 w1 (.int .i64 mode) t1
  have z2 := new_size w1 (.cells #[.int .i64 mode] t1)
  have b2 : Below w1.heap.size w1 (w1.alloc (.cells #[.int .i64 mode] t1)) := (Below.refl _ _).alloc (Nat.le_refl _) _
  generalize w1.alloc (.cells #[.int .i64 mode] t1) = w2 at *
  have c3 := new_cell1 w2 (.func (.func F) #[] caps) t2
  have z3 := new_size w2 (.cells #[.func (.func F) #[] caps] t2)
  have b3 : Below w2.heap.size w2 (w2.alloc (.cells #[.func (.func F) #[] caps] t2)) := (Below.refl _ _).alloc (Nat.le_refl _) _
  generalize w2.alloc (.cells #[.func (.func F) #[] caps] t2) = w3 at *
  have c4 := new_cell1 w3 (.slice (some ⟨g, 0, none⟩) n n) t3
  have z4 := new_size w3 (.cells #[.slice (some ⟨g, 0, none⟩) n n] t3)
  have b4 : Below w3.heap.size w3 (w3.alloc (.cells #[.slice (some ⟨g, 0, none⟩) n n] t3)) := (Below.refl _ _).alloc (Nat.le_refl _) _
  generalize w3.alloc (.cells #[.slice (some ⟨g, 0, none⟩) n n] t3) = w4 at *
  rw [z1] at c2
  rw [z2, z1] at c3
  rw [z3, z2, z1] at c4
  have b34 := b3.trans (b4.mono b3.size)
  have b24 := b2.trans (b34.mono b2.size)
  refine ⟨⟨(b24.cell (p := ⟨w.heap.size, 0, none⟩) (show w.heap.size < w1.heap.size by omega)).trans c1, (b34.cell (p := ⟨w.heap.size + 1, 0, none⟩) (show w.heap.size + 1 < w2.heap.size by omega)).trans c2, (b4.cell (p := ⟨w.heap.size + 2, 0, none⟩) (show w.heap.size + 2 < w3.heap.size by omega)).trans c3, c4, by omega⟩, b1.trans (b24.mono b1.size), by omega⟩
set_option maxRecDepth 100000 in
set_option maxHeartbeats 1000000 in
theorem ofNumbers1_any (p : Nat) (f mode : Int) (F : Nat) (caps : Array Value) (hent : ∀ args w, (callFunc F args).run Tryz.prog w = .ok (.enter F args) w) (n g : Nat) (K : Nat → Int) (B : Nat → Bool) (E : Nat → Int) (S : Nat → ByteArray) (R : R5o) (X : World) (h1 : 1 ≤ n) (hn : n ≤ 3) (hg : g < X.heap.size) (hr : NRw X g n K B E S) (hs : ∀ i, i < n → (S i).size ≤ 4611686018427387904) (hC : CapO X p f mode F caps g n)
    (HW : Hid (rightB f mode n K B E S = true → spB n K = false → ∀ Y, Below X.heap.size X Y → Calls Tryz.prog F caps Y fun e w' => (e = .returned (rsD R.1 R.2) ∨ e = thrown (rsD R.1 R.2)) ∧ Below Y.heap.size Y w')) :
    Calls Tryz.prog 85 #[.pointer (some ⟨p, 0, none⟩), .pointer (some ⟨p + 1, 0, none⟩), .pointer (some ⟨p + 3, 0, none⟩), .pointer (some ⟨p + 2, 0, none⟩)] X fun x w' => (x = .returned (rsD (ofR f mode n K B E S R).1 (ofR f mode n K B E S R).2) ∨ x = thrown (rsD (ofR f mode n K B E S R).1 (ofR f mode n K B E S R).2)) ∧ Below X.heap.size X w' := by
  obtain ⟨Q, hQ⟩ : ∃ Q, ofR f mode n K B E S R = Q := ⟨_, rfl⟩
  have HQ : Hid (ofR f mode n K B E S R = Q) := hQ
  rw [hQ]
  clear hQ
  have hb0 : Below X.heap.size X (X.alloc (.cells #[.int .i64 0, .bool false, .int .i64 0, .string { data := #[] }, .int .i64 0] 27)) := (Below.refl _ _).alloc (Nat.le_refl _) _
  have HZ : Hid (At5 (X.alloc (.cells #[.int .i64 0, .bool false, .int .i64 0, .string { data := #[] }, .int .i64 0] 27)) X.heap.size (.int .i64 0) (.bool false) (.int .i64 0) (.string { data := #[] }) (.int .i64 0) ∧ Below X.heap.size X (X.alloc (.cells #[.int .i64 0, .bool false, .int .i64 0, .string { data := #[] }, .int .i64 0] 27)) ∧ CapO (X.alloc (.cells #[.int .i64 0, .bool false, .int .i64 0, .string { data := #[] }, .int .i64 0] 27)) p f mode F caps g n) := ⟨at5_new X _ _ _ _ _, hb0, hC.next hb0⟩
  obtain ⟨q0, q1, q2, q3, -⟩ := HZ.out.2.2
  have HTs : Hid (Calls Tryz.prog 38 #[.int .i64 f, .int .i64 mode, .slice (some ⟨g, 0, none⟩) n n] (X.alloc (.cells #[.int .i64 0, .bool false, .int .i64 0, .string { data := #[] }, .int .i64 0] 27)) fun x w' => x = tsE f mode n K B E S ∧ Below (X.alloc (.cells #[.int .i64 0, .bool false, .int .i64 0, .string { data := #[] }, .int .i64 0] 27)).heap.size (X.alloc (.cells #[.int .i64 0, .bool false, .int .i64 0, .string { data := #[] }, .int .i64 0] 27)) w') := throwSpecials_any f mode n g K B E S _ h1 hn (Nat.lt_of_lt_of_le hg hb0.size) (hr.below hb0 hg) hs
  clear h1 hn hg hr hs hC hb0
  cases hO : rightB f mode n K B E S with
  | false =>
    have ET : Hid (tsE f mode n K B E S = thrown (rsV 0 false 0 { data := #[] } 0)) := by show _ = _; unfold tsE; rw [hO]; rfl
    have EQ : Hid (Q = (false, (0, 0, { data := #[] }, 0))) := by show _ = _; rw [← HQ.out]; unfold ofR; rw [hO]; rfl
    clear HW hO HQ
    go_enter Tryz.func85, Tryz.ntmps85
    go_wp2_with fail
    refine HTs.out.mono ?_
    rintro x w1 ⟨rfl, hb1⟩
    rw [ET.out]
    go_wp2
    exact ⟨rfl, .inr (by rw [EQ.out]), HZ.out.2.1.trans (hb1.mono HZ.out.2.1.size)⟩
  | true =>
    cases hS : spB n K with
    | true =>
      have ET : Hid (tsE f mode n K B E S = thrown (rsV 3 false 0 { data := #[] } (spF n K))) := by show _ = _; unfold tsE; rw [hO, hS]; rfl
      have EQ : Hid (Q = (false, (3, 0, { data := #[] }, spF n K))) := by show _ = _; rw [← HQ.out]; unfold ofR; rw [hO, hS]; rfl
      clear HW hO hS HQ
      generalize spF n K = FL at *
      go_enter Tryz.func85, Tryz.ntmps85
      go_wp2_with fail
      refine HTs.out.mono ?_
      rintro x w1 ⟨rfl, hb1⟩
      rw [ET.out]
      go_wp2
      exact ⟨rfl, .inr (by rw [EQ.out]), HZ.out.2.1.trans (hb1.mono HZ.out.2.1.size)⟩
    | false =>
      have ET : Hid (tsE f mode n K B E S = .returned (.tuple #[])) := by show _ = _; unfold tsE; rw [hO, hS]; rfl
      have EQ : Hid (Q = R) := by show _ = _; rw [← HQ.out]; unfold ofR; rw [hO, hS]; rfl
      have HW2 : Hid (∀ Y, Below X.heap.size X Y → Calls Tryz.prog F caps Y fun e w' => (e = .returned (rsD R.1 R.2) ∨ e = thrown (rsD R.1 R.2)) ∧ Below Y.heap.size Y w') := HW.out hO hS
      clear HW hO hS HQ
      obtain ⟨R0, F1, F2, F3, F4⟩ := R
      go_enter Tryz.func85, Tryz.ntmps85
      go_wp2_with fail
      refine HTs.out.mono ?_
      rintro x w1 ⟨rfl, hb1⟩
      rw [ET.out]
      have HZ1 : Hid (At5 w1 X.heap.size (.int .i64 0) (.bool false) (.int .i64 0) (.string { data := #[] }) (.int .i64 0) ∧ Below X.heap.size X w1 ∧ CapO w1 p f mode F caps g n) := ⟨HZ.out.1.below hb1 HZ.out.1.lt, HZ.out.2.1.trans (hb1.mono HZ.out.2.1.size), HZ.out.2.2.next hb1⟩
      clear hb1 HZ HTs q0 q1 q2 q3 ET
      obtain ⟨q0, q1, q2, q3, -⟩ := HZ1.out.2.2
      go_wp2_with fail
      refine (HW2.out _ HZ1.out.2.1).mono ?_
      rintro x w2 ⟨rfl | rfl, hb2⟩
      · have HZ2 : Hid (At5 w2 X.heap.size (.int .i64 0) (.bool false) (.int .i64 0) (.string { data := #[] }) (.int .i64 0) ∧ Below X.heap.size X w2) := ⟨HZ1.out.1.below hb2 HZ1.out.1.lt, HZ1.out.2.1.trans (hb2.mono HZ1.out.2.1.size)⟩
        clear hb2 HZ1 HW2 q0 q1 q2 q3
        go_wp2_with (refine wpList_store_row rfl 27 (.tmp 4) (.tmp 10) rfl X.heap.size #[.int .i64 F1, .bool R0, .int .i64 F2, .string F3, .int .i64 F4] rfl rfl _ _ HZ2.out.1 (by kernel_rfl) rfl (one5 _ _ _ _ _) ?_)
        have hP := (HZ2.out.1.row (.int .i64 F1) (.bool R0) (.int .i64 F2) (.string F3) (.int .i64 F4)).cells
        refine bodyPost_ret (results_res rfl _ _ rfl hP.1 hP.2.1 hP.2.2.1 hP.2.2.2.1 hP.2.2.2.2.1) rfl ?_
        exact ⟨.inl (by rw [EQ.out]), bel_row HZ2.out.2 (Nat.le_refl _) _⟩
      · have HB2 : Hid (Below X.heap.size X w2) := HZ1.out.2.1.trans (hb2.mono HZ1.out.2.1.size)
        clear hb2 HZ1 HW2 q0 q1 q2 q3
        go_wp2
        exact ⟨rfl, .inr (by rw [EQ.out]), HB2.out⟩
set_option maxRecDepth 100000 in
set_option maxHeartbeats 1000000 in
theorem ofNumbers_any (f mode : Int) (F : Nat) (caps : Array Value) (hent : ∀ args w, (callFunc F args).run Tryz.prog w = .ok (.enter F args) w) (n g : Nat) (K : Nat → Int) (B : Nat → Bool) (E : Nat → Int) (S : Nat → ByteArray) (R : R5o) (w : World) (h1 : 1 ≤ n) (hn : n ≤ 3) (hg : g < w.heap.size) (hr : NRw w g n K B E S) (hs : ∀ i, i < n → (S i).size ≤ 4611686018427387904)
    (HW : Hid (rightB f mode n K B E S = true → spB n K = false → ∀ Y, Below w.heap.size w Y → Calls Tryz.prog F caps Y fun e w' => (e = .returned (rsD R.1 R.2) ∨ e = thrown (rsD R.1 R.2)) ∧ Below Y.heap.size Y w')) :
    Calls Tryz.prog 52 #[.int .i64 f, .int .i64 mode, .func (.func F) #[] caps, .slice (some ⟨g, 0, none⟩) n n] w fun x w' => x = .returned (rsD (ofR f mode n K B E S R).1 (ofR f mode n K B E S R).2) ∧ Below w.heap.size w w' := by
  have hmf : ∀ (fn : Fn) (first cap : Array Value) (w : World), (Instr.makeFunc fn first cap).run Tryz.prog w = .ok (.func fn first cap) w := fun _ _ _ _ => rfl
  have H1 : Hid (∀ X, Below w.heap.size w X → CapO X w.heap.size f mode F caps g n → Calls Tryz.prog 85 #[.pointer (some ⟨w.heap.size, 0, none⟩), .pointer (some ⟨w.heap.size + 1, 0, none⟩), .pointer (some ⟨w.heap.size + 3, 0, none⟩), .pointer (some ⟨w.heap.size + 2, 0, none⟩)] X fun x w' => (x = .returned (rsD (ofR f mode n K B E S R).1 (ofR f mode n K B E S R).2) ∨ x = thrown (rsD (ofR f mode n K B E S R).1 (ofR f mode n K B E S R).2)) ∧ Below X.heap.size X w') := fun X hX hC =>
    ofNumbers1_any w.heap.size f mode F caps hent n g K B E S R X h1 hn (Nat.lt_of_lt_of_le hg hX.size) (hr.below hX hg) hs hC (fun a b Y hY => HW.out a b Y (hX.trans (hY.mono hX.size)))
  generalize ofR f mode n K B E S R = Q at *
  obtain ⟨R0, F1, F2, F3, F4⟩ := Q
  have HN : Hid (∀ t0 t1 t2 t3, CapO ((((w.alloc (.cells #[.int .i64 f] t0)).alloc (.cells #[.int .i64 mode] t1)).alloc (.cells #[.func (.func F) #[] caps] t2)).alloc (.cells #[.slice (some ⟨g, 0, none⟩) n n] t3)) w.heap.size f mode F caps g n ∧ Below w.heap.size w ((((w.alloc (.cells #[.int .i64 f] t0)).alloc (.cells #[.int .i64 mode] t1)).alloc (.cells #[.func (.func F) #[] caps] t2)).alloc (.cells #[.slice (some ⟨g, 0, none⟩) n n] t3)) ∧ ((((w.alloc (.cells #[.int .i64 f] t0)).alloc (.cells #[.int .i64 mode] t1)).alloc (.cells #[.func (.func F) #[] caps] t2)).alloc (.cells #[.slice (some ⟨g, 0, none⟩) n n] t3)).heap.size = w.heap.size + 4) := capO_new w f mode F caps g n
  clear h1 hn hg hr hs HW hent
  have HE : Hid (∀ args w, (callFunc 85 args).run Tryz.prog w = .ok (.enter 85 args) w) := enters_of Tryz.func85 (by kernel_rfl) rfl
  go_enter Tryz.func52, Tryz.ntmps52
  go_wp2_with fail
  generalize hW : (((w.alloc _).alloc _).alloc _).alloc _ = W
  obtain ⟨hC0, hb0, hz0⟩ := HN.out _ _ _ _
  rw [hW] at hC0 hb0 hz0
  clear hW
  have hb1 : Below W.heap.size W (W.alloc (.cells #[.int .i64 0, .bool false, .int .i64 0, .string { data := #[] }, .int .i64 0] 27)) := (Below.refl _ _).alloc (Nat.le_refl _) _
  have HZ0 : Hid (At5 (W.alloc (.cells #[.int .i64 0, .bool false, .int .i64 0, .string { data := #[] }, .int .i64 0] 27)) (w.heap.size + 4) (.int .i64 0) (.bool false) (.int .i64 0) (.string { data := #[] }) (.int .i64 0) ∧ Below w.heap.size w (W.alloc (.cells #[.int .i64 0, .bool false, .int .i64 0, .string { data := #[] }, .int .i64 0] 27)) ∧ CapO (W.alloc (.cells #[.int .i64 0, .bool false, .int .i64 0, .string { data := #[] }, .int .i64 0] 27)) w.heap.size f mode F caps g n) := ⟨by rw [← hz0]; exact at5_new W _ _ _ _ _, hb0.trans (hb1.mono hb0.size), hC0.next hb1⟩
  clear hC0 hb0 hb1 hz0 HN
  refine (atFace_any 85 _ HE.out F1 R0 F2 F3 F4 _ (fun X hX => H1.out X (HZ0.out.2.1.trans (hX.mono HZ0.out.2.1.size)) (HZ0.out.2.2.next hX))).mono ?_
  rintro x w1 ⟨rfl, hb1⟩
  have HZ1 : Hid (At5 w1 (w.heap.size + 4) (.int .i64 0) (.bool false) (.int .i64 0) (.string { data := #[] }) (.int .i64 0) ∧ Below w.heap.size w w1) := ⟨HZ0.out.1.below hb1 HZ0.out.1.lt, HZ0.out.2.1.trans (hb1.mono HZ0.out.2.1.size)⟩
  clear hb1 HZ0 H1 HE
  go_wp2_with (refine wpList_store_row rfl 27 (.tmp 8) (.tmp 10) rfl (w.heap.size + 4) #[.int .i64 F1, .bool R0, .int .i64 F2, .string F3, .int .i64 F4] rfl rfl _ _ HZ1.out.1 (by kernel_rfl) rfl (one5 _ _ _ _ _) ?_)
  have hP := (HZ1.out.1.row (.int .i64 F1) (.bool R0) (.int .i64 F2) (.string F3) (.int .i64 F4)).cells
  refine bodyPost_ret (results_res rfl _ _ rfl hP.1 hP.2.1 hP.2.2.1 hP.2.2.2.1 hP.2.2.2.2.1) rfl ?_
  exact ⟨rfl, bel_row HZ1.out.2 (by omega) _⟩
end Go.Proofs.YtmndemegiimagarGreatDoor
namespace Go.Proofs.YtmndemegiimagarGreatDoor
open Go.RowKit
set_option linter.unusedVariables false
set_option maxRecDepth 100000
theorem half_flat (ρ : Int) (k d : Nat) (hd : 1 ≤ d) : halfI (ρ * 10 ^ k) (10 ^ (d + k)) false (d + k) = halfI ρ (10 ^ d) false d := by
  have pk := ten_pos k
  unfold halfI
  rw [if_neg (show ¬ d + k = 0 by omega), if_neg (show ¬ d = 0 by omega), Int.pow_add]
  generalize (10 : Int) ^ k = T at *
  generalize (10 : Int) ^ d = M at *
  have e : 2 * (ρ * T) = (2 * ρ) * T := (Int.mul_assoc 2 ρ T).symm
  rw [e]
  by_cases h : 2 * ρ < M
  · rw [if_pos h, if_pos (Int.mul_lt_mul_of_pos_right h pk)]
  · rw [if_neg h, if_neg (fun c => h (Int.lt_of_mul_lt_mul_right c (Int.le_of_lt pk)))]
    by_cases q : 2 * ρ = M
    · rw [if_pos (show 2 * ρ * T = M * T ∧ false = false from ⟨by rw [q], rfl⟩), if_pos (show 2 * ρ = M ∧ false = false from ⟨q, rfl⟩)]
    · rw [if_neg (show ¬ (2 * ρ * T = M * T ∧ false = false) from fun c => q (Int.eq_of_mul_eq_mul_right (Int.ne_of_gt pk) c.1)), if_neg (show ¬ (2 * ρ = M ∧ false = false) from fun c => q c.1)]
/-- A number that is not nought, far below all digits. -/
theorem rnd_far0 (mode : Int) (neg : Bool) (v : Int) (d : Nat) (n : Nat) (h0 : 0 < v) (h1 : v < 10 ^ n) (hn : n + 1 ≤ d) : rndV mode neg v d false = rndV mode neg 1 200 true ∧ rndL v d false = true := by
  have a := pow_mono (n + 1) d hn
  have b : (10 : Int) ^ (n + 1) = 10 ^ n * 10 := Int.pow_succ 10 n
  have hlt : v < 10 ^ d := by omega
  have hm : v % 10 ^ d = v := Int.emod_eq_of_lt (by omega) hlt
  have hL : rndL v d false = true := by unfold rndL; rw [hm, decide_eq_true (by omega : v ≠ 0)]; rfl
  refine ⟨?_, hL⟩
  rw [← rnd_far mode neg v d n (by omega) h1 hn]
  have hh : ∀ r, halfI (v % 10 ^ d) (10 ^ d) r d = -1 := fun r => by
    rw [hm]; unfold halfI; rw [if_neg (by omega), if_pos (by omega)]
  unfold rndV rndU
  rw [hL, hh, hh]
  rfl
/-- Noughts behind the digits change nothing. -/
theorem finN_flat (p : Nat) (hp : 1 ≤ p) (low high mode : Int) (neg : Bool) (ds ds' : List Int) (e : Int) (want : Int) (k : Nat) (hc : Canon ds) (hz : ds ≠ [0]) (hc' : Canon ds') (hv : vl ds' = vl ds * 10 ^ k)
    (hn : p + 1 ≤ ds.length) (hk : ds.length + k ≤ 198) : finN p low high mode neg ds e false want = finN p low high mode neg ds' (e - k) false want := by
  have hv0 : vl ds' = vl ds * 10 ^ k + 0 := by omega
  have hl := len_more ds ds' hc hz hc' k 0 hv0 (Int.le_refl _) (ten_pos k)
  have hj : finJ p ds.length false = 0 := rfl
  have hj' : finJ p ds'.length false = 0 := rfl
  obtain ⟨d, hd⟩ : ∃ d, finDr p ds.length low e = d := ⟨_, rfl⟩
  have hd1 : 1 ≤ d := by rw [← hd]; unfold finDr; omega
  have hd' : finDr p ds'.length low (e - k) = d + k := by rw [← hd, hl]; unfold finDr; omega
  obtain ⟨q1, q2⟩ := div_more (vl ds) 0 k d (Int.le_refl _) (ten_pos k)
  rw [Int.add_zero] at q1 q2
  rw [Int.add_zero] at q2
  have b := vl_bd ds hc.1
  have hpos : 0 < vl ds := by
    have : vl ds ≠ 0 := fun c => hz (canon_nought ds hc c)
    omega
  have hL1 : rndL (vl ds') (d + k) false = rndL (vl ds) d false := by
    unfold rndL
    rw [hv, q2]
    congr 1
    refine decide_eq_decide.2 ⟨fun h c => h (by rw [c, Int.zero_mul]), fun h c => ?_⟩
    rcases Int.mul_eq_zero.1 c with c | c
    · exact h c
    · exact absurd c (Int.ne_of_gt (ten_pos k))
  have hU : rndV mode neg (vl ds') (d + k) false = rndV mode neg (vl ds) d false := by
    unfold rndV rndU
    rw [hL1, hv, q1, q2, half_flat _ k d hd1]
  have hV : finV mode neg (vl ds') (d + k) false = finV mode neg (vl ds) d false ∧ finLs (vl ds') (d + k) false = finLs (vl ds) d false := by
    unfold finV finLs
    by_cases c : 200 < d
    · rw [if_pos c, if_pos (by omega), if_pos c, if_pos (by omega)]; exact ⟨rfl, rfl⟩
    · rw [if_neg c, if_neg c]
      by_cases c2 : 200 < d + k
      · rw [if_pos c2, if_pos c2]
        obtain ⟨x, y⟩ := rnd_far0 mode neg (vl ds) d ds.length hpos b.2 (by omega)
        rw [x, y]
        exact ⟨rfl, rfl⟩
      · rw [if_neg c2, if_neg c2]; exact ⟨hU, hL1⟩
  unfold finN
  simp only [hj, hj', Nat.add_zero, Int.pow_zero, Int.mul_one]
  rw [show e - ((0 : Nat) : Int) = e by simp, show e - (k : Int) - ((0 : Nat) : Int) = e - k by simp, hd, hd', hV.1, hV.2, hl]
  have x1 : e - (k : Int) + ((d + k : Nat) : Int) = e + (d : Int) := by omega
  have x2 : ((ds.length + k : Nat) : Int) + (e - (k : Int)) = (ds.length : Int) + e := by omega
  rw [x1, x2]
/-- Digits with more of them behind, both exact or both not. -/
theorem finN_scale (p : Nat) (hp : 1 ≤ p) (low high mode : Int) (neg : Bool) (ds ds' : List Int) (e : Int) (rest rest' : Bool) (want : Int) (k : Nat) (r : Int) (hc : Canon ds) (hz : ds ≠ [0]) (hc' : Canon ds') (hv : vl ds' = vl ds * 10 ^ k + r) (r0 : 0 ≤ r) (r1 : r < 10 ^ k)
    (h1 : rest = true → r ≠ 0 ∨ rest' = true) (h2 : rest = false → r = 0 ∧ rest' = false)
    (hn : p + 1 ≤ ds.length) (hk : ds.length + k ≤ 198) : finN p low high mode neg ds e rest want = finN p low high mode neg ds' (e - k) rest' want := by
  cases rest with
  | true => exact finN_more p hp low high mode neg ds ds' e rest' want k r hc hz hc' hv r0 r1 (h1 rfl) hn hk
  | false =>
    obtain ⟨rfl, rfl⟩ := h2 rfl
    exact finN_flat p hp low high mode neg ds ds' e want k hc hz hc' (by omega) hn hk
/-- Digits that go, however many. -/
def drV (mode : Int) (neg : Bool) (v : Int) (k : Nat) : Int := rndV mode neg v (min k 200) false
def drL (v : Int) (k : Nat) : Bool := rndL v (min k 200) false
theorem rnd_zero (mode : Int) (neg : Bool) (k : Nat) : rndV mode neg 0 k false = 0 ∧ rndL 0 k false = false := by
  have hm : (0 : Int) % 10 ^ k = 0 := Int.zero_emod _
  have hq : (0 : Int) / 10 ^ k = 0 := Int.zero_ediv _
  have hL : rndL 0 k false = false := by unfold rndL; rw [hm]; rfl
  refine ⟨?_, hL⟩
  have pk := ten_pos k
  have hh : halfI 0 (10 ^ k) false k = -1 := by
    unfold halfI
    by_cases c : k = 0
    · rw [if_pos c]
    · rw [if_neg c, if_pos (by omega)]
  unfold rndV rndU
  rw [hq, hm, hL, hh]
  simp [upB, upO]
theorem drop_far (mode : Int) (neg : Bool) (v : Int) (k : Nat) (h0 : 0 < v) (h1 : v < 10 ^ 100) (hk : 200 < k) : drV mode neg v k = rndV mode neg 1 200 true ∧ drL v k = true := by
  unfold drV drL
  rw [show min k 200 = 200 by omega]
  exact rnd_far0 mode neg v 200 100 h0 h1 (by omega)
/-- What is left has a digit less, or one more than that. -/
theorem drV_bd (mode : Int) (neg : Bool) (v : Int) (k : Nat) (p : Nat) (h0 : 0 ≤ v) (h1 : v < 10 ^ p) (hp : 1 ≤ p) (hk : 1 ≤ k) : 0 ≤ drV mode neg v k ∧ drV mode neg v k ≤ 10 ^ (p - 1) := by
  have pk := ten_pos (min k 200)
  have a := Int.ediv_nonneg h0 (Int.le_of_lt pk)
  have hq : v / 10 ^ (min k 200) < 10 ^ (p - 1) := by
    refine Int.ediv_lt_of_lt_mul pk ?_
    have h10 := pow_mono 1 (min k 200) (by omega)
    have e : (10 : Int) ^ p = 10 ^ (p - 1) * 10 := by rw [← Int.pow_succ, show (p - 1).succ = p by omega]
    have := Int.mul_le_mul_of_nonneg_left h10 (Int.le_of_lt (ten_pos (p - 1)))
    rw [show (10 : Int) ^ 1 = 10 from rfl] at this
    omega
  unfold drV rndV
  split <;> omega
theorem nt_short (n : Int) (p : Nat) (h0 : 0 ≤ n) (h1 : n < 10 ^ p) (hp : 1 ≤ p) (h5 : p ≤ 500) : (nt n).length ≤ p := by
  have := nt_spec n h0 (Int.lt_of_lt_of_le h1 (pow_mono _ _ h5))
  exact canon_le _ this.1 p hp (by rw [this.2]; exact h1)
theorem drV_len (mode : Int) (neg : Bool) (v : Int) (k : Nat) (p : Nat) (h0 : 0 ≤ v) (h1 : v < 10 ^ p) (hp : 1 ≤ p) (h5 : p ≤ 300) (hk : 1 ≤ k) : (nt (drV mode neg v k)).length ≤ p ∧ Canon (nt (drV mode neg v k)) := by
  obtain ⟨a, b⟩ := drV_bd mode neg v k p h0 h1 hp hk
  have e : (10 : Int) ^ p = 10 ^ (p - 1) * 10 := by rw [← Int.pow_succ, show (p - 1).succ = p by omega]
  have q := ten_pos (p - 1)
  exact ⟨nt_short _ p a (by omega) hp (by omega), (nt_spec _ a (Int.lt_of_lt_of_le (by omega : drV mode neg v k < 10 ^ p) (pow_mono _ _ (by omega)))).1⟩
end Go.Proofs.YtmndemegiimagarGreatDoor
