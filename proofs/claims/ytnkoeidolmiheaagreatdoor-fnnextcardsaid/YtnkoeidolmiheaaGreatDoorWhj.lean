/-
  Whole of the program, walked.
-/
import Derived.Test.YtnkoeidolmiheaaGreatDoorPsd
import Derived.Test.YtnkoeidolmiheaaGreatDoorFinA
import Derived.Shelf.Abstract
import Derived.Test.YtnkoeidolmiheaaGreatDoorSpt
import Derived.Test.YtnkoeidolmiheaaGreatDoorNtL
import Derived.Test.YtnkoeidolmiheaaGreatDoorSpd
import Derived.Test.YtnkoeidolmiheaaGreatDoorRdl
import Derived.Test.YtnkoeidolmiheaaGreatDoorSmC
import Derived.Test.YtnkoeidolmiheaaGreatDoorSmL
namespace Go.Proofs.YtnkoeidolmiheaaGreatDoor
open Go.RowKit
set_option linter.unusedVariables false
set_option maxRecDepth 100000
abbrev R5o := Bool × (Int × Int × ByteArray × Int)
/-- What an operation on numbers tells, R being told of right ones that are no NaNs. -/
def ofR (f m : Int) (n : Nat) (K : Nat → Int) (B : Nat → Bool) (E : Nat → Int) (S : Nat → ByteArray) (R : R5o) : R5o :=
  if rightB f m n K B E S then (if spB n K then (false, (3, 0, { data := #[] }, spF n K)) else R) else (false, (0, 0, { data := #[] }, 0))
/-- What the helper's closure sees: format, mode, what is to be done, the numbers. -/
def CapO (X : World) (p : Nat) (f mode : Int) (F : Nat) (caps : Array Value) (g n : Nat) : Prop :=
  X.cell? ⟨p, 0, none⟩ = some (.int .i64 f) ∧ X.cell? ⟨p + 1, 0, none⟩ = some (.int .i64 mode) ∧ X.cell? ⟨p + 2, 0, none⟩ = some (.func (.func F) #[] caps) ∧ X.cell? ⟨p + 3, 0, none⟩ = some (.slice (some ⟨g, 0, none⟩) n n) ∧ p + 3 < X.heap.size
theorem CapO.next {X X' : World} {p : Nat} {f mode : Int} {F : Nat} {caps : Array Value} {g n : Nat} (h : CapO X p f mode F caps g n) (hb : Below X.heap.size X X') : CapO X' p f mode F caps g n := by
  obtain ⟨h0, h1, h2, h3, h4⟩ := h
  exact ⟨(hb.cell (p := ⟨p, 0, none⟩) (show p < X.heap.size by omega)).trans h0, (hb.cell (p := ⟨p + 1, 0, none⟩) (show p + 1 < X.heap.size by omega)).trans h1, (hb.cell (p := ⟨p + 2, 0, none⟩) (show p + 2 < X.heap.size by omega)).trans h2, (hb.cell (p := ⟨p + 3, 0, none⟩) (show p + 3 < X.heap.size by omega)).trans h3, Nat.lt_of_lt_of_le h4 hb.size⟩
theorem capO_new (w : World) (f mode : Int) (F : Nat) (caps : Array Value) (g n : Nat) (t0 t1 t2 t3 : TypeId) :
    CapO ((((w.alloc (.cells #[.int .i64 f] t0)).alloc (.cells #[.int .i64 mode] t1)).alloc (.cells #[.func (.func F) #[] caps] t2)).alloc (.cells #[.slice (some ⟨g, 0, none⟩) n n] t3)) w.heap.size f mode F caps g n ∧ Below w.heap.size w ((((w.alloc (.cells #[.int .i64 f] t0)).alloc (.cells #[.int .i64 mode] t1)).alloc (.cells #[.func (.func F) #[] caps] t2)).alloc (.cells #[.slice (some ⟨g, 0, none⟩) n n] t3)) ∧ ((((w.alloc (.cells #[.int .i64 f] t0)).alloc (.cells #[.int .i64 mode] t1)).alloc (.cells #[.func (.func F) #[] caps] t2)).alloc (.cells #[.slice (some ⟨g, 0, none⟩) n n] t3)).heap.size = w.heap.size + 4 := by
  have c1 := new_cell1 w (.int .i64 f) t0
  have z1 := new_size w (.cells #[.int .i64 f] t0)
  have b1 : Below w.heap.size w (w.alloc (.cells #[.int .i64 f] t0)) := (Below.refl _ _).alloc (Nat.le_refl _) _
  generalize w.alloc (.cells #[.int .i64 f] t0) = w1 at *
  have c2 := new_cell1 w1 (.int .i64 mode) t1
  have z2 := new_size w1 (.cells #[.int .i64 mode] t1)
  have b2 : Below w1.heap.size w1 (w1.alloc (.cells #[.int .i64 mode] t1)) := (Below.refl _ _).alloc (Nat.le_refl _) _
  generalize w1.alloc (.cells #[.int .i64 mode] t1) = w2 at *
  have c3 := new_cell1 w2 (.func (.func F) #[] caps) t2
  have z3 := new_size w2 (.cells #[.func (.func F) #[] caps] t2)
  have b3 : Below w2.heap.size w2 (w2.alloc (.cells #[.func (.func F) #[] caps] t2)) := (Below.refl _ _).alloc (Nat.le_refl _) _
  generalize w2.alloc (.cells #[.func (.func F) #[] caps] t2) = w3 at *
  have c4 := new_cell1 w3 (.slice (some ⟨g, 0, none⟩) n n) t3
  have z4 := new_size w3 (.cells #[.slice (some ⟨g, 0, none⟩) n n] t3)
  have b4 : Below w3.heap.size w3 (w3.alloc (.cells #[.slice (some ⟨g, 0, none⟩) n n] t3)) := (Below.refl _ _).alloc (Nat.le_refl _) _
  generalize w3.alloc (.cells #[.slice (some ⟨g, 0, none⟩) n n] t3) = w4 at *
  rw [z1] at c2
  rw [z2, z1] at c3
  rw [z3, z2, z1] at c4
  have b34 := b3.trans (b4.mono b3.size)
  have b24 := b2.trans (b34.mono b2.size)
  refine ⟨⟨(b24.cell (p := ⟨w.heap.size, 0, none⟩) (show w.heap.size < w1.heap.size by omega)).trans c1, (b34.cell (p := ⟨w.heap.size + 1, 0, none⟩) (show w.heap.size + 1 < w2.heap.size by omega)).trans c2, (b4.cell (p := ⟨w.heap.size + 2, 0, none⟩) (show w.heap.size + 2 < w3.heap.size by omega)).trans c3, c4, by omega⟩, b1.trans (b24.mono b1.size), by omega⟩
set_option maxRecDepth 100000 in
set_option maxHeartbeats 1000000 in
theorem ofNumbers1_any (p : Nat) (f mode : Int) (F : Nat) (caps : Array Value) (hent : ∀ args w, (callFunc F args).run Tryz.prog w = .ok (.enter F args) w) (n g : Nat) (K : Nat → Int) (B : Nat → Bool) (E : Nat → Int) (S : Nat → ByteArray) (R : R5o) (X : World) (h1 : 1 ≤ n) (hn : n ≤ 3) (hg : g < X.heap.size) (hr : NRw X g n K B E S) (hs : ∀ i, i < n → (S i).size ≤ 4611686018427387904) (hC : CapO X p f mode F caps g n)
    (HW : Hid (rightB f mode n K B E S = true → spB n K = false → ∀ Y, Below X.heap.size X Y → Calls Tryz.prog F caps Y fun e w' => (e = .returned (rsD R.1 R.2) ∨ e = thrown (rsD R.1 R.2)) ∧ Below Y.heap.size Y w')) :
    Calls Tryz.prog 111 #[.pointer (some ⟨p, 0, none⟩), .pointer (some ⟨p + 1, 0, none⟩), .pointer (some ⟨p + 3, 0, none⟩), .pointer (some ⟨p + 2, 0, none⟩)] X fun x w' => (x = .returned (rsD (ofR f mode n K B E S R).1 (ofR f mode n K B E S R).2) ∨ x = thrown (rsD (ofR f mode n K B E S R).1 (ofR f mode n K B E S R).2)) ∧ Below X.heap.size X w' := by
  obtain ⟨Q, hQ⟩ : ∃ Q, ofR f mode n K B E S R = Q := ⟨_, rfl⟩
  have HQ : Hid (ofR f mode n K B E S R = Q) := hQ
  rw [hQ]
  clear hQ
  have hb0 : Below X.heap.size X (X.alloc (.cells #[.int .i64 0, .bool false, .int .i64 0, .string { data := #[] }, .int .i64 0] 29)) := (Below.refl _ _).alloc (Nat.le_refl _) _
  have HZ : Hid (At5 (X.alloc (.cells #[.int .i64 0, .bool false, .int .i64 0, .string { data := #[] }, .int .i64 0] 29)) X.heap.size (.int .i64 0) (.bool false) (.int .i64 0) (.string { data := #[] }) (.int .i64 0) ∧ Below X.heap.size X (X.alloc (.cells #[.int .i64 0, .bool false, .int .i64 0, .string { data := #[] }, .int .i64 0] 29)) ∧ CapO (X.alloc (.cells #[.int .i64 0, .bool false, .int .i64 0, .string { data := #[] }, .int .i64 0] 29)) p f mode F caps g n) := ⟨at5_new X _ _ _ _ _, hb0, hC.next hb0⟩
  obtain ⟨q0, q1, q2, q3, -⟩ := HZ.out.2.2
  have HTs : Hid (Calls Tryz.prog 69 #[.int .i64 f, .int .i64 mode, .slice (some ⟨g, 0, none⟩) n n] (X.alloc (.cells #[.int .i64 0, .bool false, .int .i64 0, .string { data := #[] }, .int .i64 0] 29)) fun x w' => x = tsE f mode n K B E S ∧ Below (X.alloc (.cells #[.int .i64 0, .bool false, .int .i64 0, .string { data := #[] }, .int .i64 0] 29)).heap.size (X.alloc (.cells #[.int .i64 0, .bool false, .int .i64 0, .string { data := #[] }, .int .i64 0] 29)) w') := throwSpecials_any f mode n g K B E S _ h1 hn (Nat.lt_of_lt_of_le hg hb0.size) (hr.below hb0 hg) hs
  clear h1 hn hg hr hs hC hb0
  cases hO : rightB f mode n K B E S with
  | false =>
    have ET : Hid (tsE f mode n K B E S = thrown (rsV 0 false 0 { data := #[] } 0)) := by show _ = _; unfold tsE; rw [hO]; rfl
    have EQ : Hid (Q = (false, (0, 0, { data := #[] }, 0))) := by show _ = _; rw [← HQ.out]; unfold ofR; rw [hO]; rfl
    clear HW hO HQ
    go_enter Tryz.func111, Tryz.ntmps111
    go_wp2_with fail
    refine HTs.out.mono ?_
    rintro x w1 ⟨rfl, hb1⟩
    rw [ET.out]
    go_wp2
    exact ⟨rfl, .inr (by rw [EQ.out]), HZ.out.2.1.trans (hb1.mono HZ.out.2.1.size)⟩
  | true =>
    cases hS : spB n K with
    | true =>
      have ET : Hid (tsE f mode n K B E S = thrown (rsV 3 false 0 { data := #[] } (spF n K))) := by show _ = _; unfold tsE; rw [hO, hS]; rfl
      have EQ : Hid (Q = (false, (3, 0, { data := #[] }, spF n K))) := by show _ = _; rw [← HQ.out]; unfold ofR; rw [hO, hS]; rfl
      clear HW hO hS HQ
      generalize spF n K = FL at *
      go_enter Tryz.func111, Tryz.ntmps111
      go_wp2_with fail
      refine HTs.out.mono ?_
      rintro x w1 ⟨rfl, hb1⟩
      rw [ET.out]
      go_wp2
      exact ⟨rfl, .inr (by rw [EQ.out]), HZ.out.2.1.trans (hb1.mono HZ.out.2.1.size)⟩
    | false =>
      have ET : Hid (tsE f mode n K B E S = .returned (.tuple #[])) := by show _ = _; unfold tsE; rw [hO, hS]; rfl
      have EQ : Hid (Q = R) := by show _ = _; rw [← HQ.out]; unfold ofR; rw [hO, hS]; rfl
      have HW2 : Hid (∀ Y, Below X.heap.size X Y → Calls Tryz.prog F caps Y fun e w' => (e = .returned (rsD R.1 R.2) ∨ e = thrown (rsD R.1 R.2)) ∧ Below Y.heap.size Y w') := HW.out hO hS
      clear HW hO hS HQ
      obtain ⟨R0, F1, F2, F3, F4⟩ := R
      go_enter Tryz.func111, Tryz.ntmps111
      go_wp2_with fail
      refine HTs.out.mono ?_
      rintro x w1 ⟨rfl, hb1⟩
      rw [ET.out]
      have HZ1 : Hid (At5 w1 X.heap.size (.int .i64 0) (.bool false) (.int .i64 0) (.string { data := #[] }) (.int .i64 0) ∧ Below X.heap.size X w1 ∧ CapO w1 p f mode F caps g n) := ⟨HZ.out.1.below hb1 HZ.out.1.lt, HZ.out.2.1.trans (hb1.mono HZ.out.2.1.size), HZ.out.2.2.next hb1⟩
      clear hb1 HZ HTs q0 q1 q2 q3 ET
      obtain ⟨q0, q1, q2, q3, -⟩ := HZ1.out.2.2
      go_wp2_with fail
      refine (HW2.out _ HZ1.out.2.1).mono ?_
      rintro x w2 ⟨rfl | rfl, hb2⟩
      · have HZ2 : Hid (At5 w2 X.heap.size (.int .i64 0) (.bool false) (.int .i64 0) (.string { data := #[] }) (.int .i64 0) ∧ Below X.heap.size X w2) := ⟨HZ1.out.1.below hb2 HZ1.out.1.lt, HZ1.out.2.1.trans (hb2.mono HZ1.out.2.1.size)⟩
        clear hb2 HZ1 HW2 q0 q1 q2 q3
        go_wp2_with (refine wpList_store_row rfl 29 (.tmp 4) (.tmp 10) rfl X.heap.size #[.int .i64 F1, .bool R0, .int .i64 F2, .string F3, .int .i64 F4] rfl rfl _ _ HZ2.out.1 (by kernel_rfl) rfl (one5 _ _ _ _ _) ?_)
        have hP := (HZ2.out.1.row (.int .i64 F1) (.bool R0) (.int .i64 F2) (.string F3) (.int .i64 F4)).cells
        refine bodyPost_ret (results_res rfl _ _ rfl hP.1 hP.2.1 hP.2.2.1 hP.2.2.2.1 hP.2.2.2.2.1) rfl ?_
        exact ⟨.inl (by rw [EQ.out]), bel_row HZ2.out.2 (Nat.le_refl _) _⟩
      · have HB2 : Hid (Below X.heap.size X w2) := HZ1.out.2.1.trans (hb2.mono HZ1.out.2.1.size)
        clear hb2 HZ1 HW2 q0 q1 q2 q3
        go_wp2
        exact ⟨rfl, .inr (by rw [EQ.out]), HB2.out⟩
set_option maxRecDepth 100000 in
set_option maxHeartbeats 1000000 in
theorem ofNumbers_any (f mode : Int) (F : Nat) (caps : Array Value) (hent : ∀ args w, (callFunc F args).run Tryz.prog w = .ok (.enter F args) w) (n g : Nat) (K : Nat → Int) (B : Nat → Bool) (E : Nat → Int) (S : Nat → ByteArray) (R : R5o) (w : World) (h1 : 1 ≤ n) (hn : n ≤ 3) (hg : g < w.heap.size) (hr : NRw w g n K B E S) (hs : ∀ i, i < n → (S i).size ≤ 4611686018427387904)
    (HW : Hid (rightB f mode n K B E S = true → spB n K = false → ∀ Y, Below w.heap.size w Y → Calls Tryz.prog F caps Y fun e w' => (e = .returned (rsD R.1 R.2) ∨ e = thrown (rsD R.1 R.2)) ∧ Below Y.heap.size Y w')) :
    Calls Tryz.prog 46 #[.int .i64 f, .int .i64 mode, .func (.func F) #[] caps, .slice (some ⟨g, 0, none⟩) n n] w fun x w' => x = .returned (rsD (ofR f mode n K B E S R).1 (ofR f mode n K B E S R).2) ∧ Below w.heap.size w w' := by
  have hmf : ∀ (fn : Fn) (first cap : Array Value) (w : World), (Instr.makeFunc fn first cap).run Tryz.prog w = .ok (.func fn first cap) w := fun _ _ _ _ => rfl
  have H1 : Hid (∀ X, Below w.heap.size w X → CapO X w.heap.size f mode F caps g n → Calls Tryz.prog 111 #[.pointer (some ⟨w.heap.size, 0, none⟩), .pointer (some ⟨w.heap.size + 1, 0, none⟩), .pointer (some ⟨w.heap.size + 3, 0, none⟩), .pointer (some ⟨w.heap.size + 2, 0, none⟩)] X fun x w' => (x = .returned (rsD (ofR f mode n K B E S R).1 (ofR f mode n K B E S R).2) ∨ x = thrown (rsD (ofR f mode n K B E S R).1 (ofR f mode n K B E S R).2)) ∧ Below X.heap.size X w') := fun X hX hC =>
    ofNumbers1_any w.heap.size f mode F caps hent n g K B E S R X h1 hn (Nat.lt_of_lt_of_le hg hX.size) (hr.below hX hg) hs hC (fun a b Y hY => HW.out a b Y (hX.trans (hY.mono hX.size)))
  generalize ofR f mode n K B E S R = Q at *
  obtain ⟨R0, F1, F2, F3, F4⟩ := Q
  have HN : Hid (∀ t0 t1 t2 t3, CapO ((((w.alloc (.cells #[.int .i64 f] t0)).alloc (.cells #[.int .i64 mode] t1)).alloc (.cells #[.func (.func F) #[] caps] t2)).alloc (.cells #[.slice (some ⟨g, 0, none⟩) n n] t3)) w.heap.size f mode F caps g n ∧ Below w.heap.size w ((((w.alloc (.cells #[.int .i64 f] t0)).alloc (.cells #[.int .i64 mode] t1)).alloc (.cells #[.func (.func F) #[] caps] t2)).alloc (.cells #[.slice (some ⟨g, 0, none⟩) n n] t3)) ∧ ((((w.alloc (.cells #[.int .i64 f] t0)).alloc (.cells #[.int .i64 mode] t1)).alloc (.cells #[.func (.func F) #[] caps] t2)).alloc (.cells #[.slice (some ⟨g, 0, none⟩) n n] t3)).heap.size = w.heap.size + 4) := capO_new w f mode F caps g n
  clear h1 hn hg hr hs HW hent
  have HE : Hid (∀ args w, (callFunc 111 args).run Tryz.prog w = .ok (.enter 111 args) w) := enters_of Tryz.func111 (by kernel_rfl) rfl
  go_enter Tryz.func46, Tryz.ntmps46
  go_wp2_with fail
  generalize hW : (((w.alloc _).alloc _).alloc _).alloc _ = W
  obtain ⟨hC0, hb0, hz0⟩ := HN.out _ _ _ _
  rw [hW] at hC0 hb0 hz0
  clear hW
  have hb1 : Below W.heap.size W (W.alloc (.cells #[.int .i64 0, .bool false, .int .i64 0, .string { data := #[] }, .int .i64 0] 29)) := (Below.refl _ _).alloc (Nat.le_refl _) _
  have HZ0 : Hid (At5 (W.alloc (.cells #[.int .i64 0, .bool false, .int .i64 0, .string { data := #[] }, .int .i64 0] 29)) (w.heap.size + 4) (.int .i64 0) (.bool false) (.int .i64 0) (.string { data := #[] }) (.int .i64 0) ∧ Below w.heap.size w (W.alloc (.cells #[.int .i64 0, .bool false, .int .i64 0, .string { data := #[] }, .int .i64 0] 29)) ∧ CapO (W.alloc (.cells #[.int .i64 0, .bool false, .int .i64 0, .string { data := #[] }, .int .i64 0] 29)) w.heap.size f mode F caps g n) := ⟨by rw [← hz0]; exact at5_new W _ _ _ _ _, hb0.trans (hb1.mono hb0.size), hC0.next hb1⟩
  clear hC0 hb0 hb1 hz0 HN
  refine (atFace_any 111 _ HE.out F1 R0 F2 F3 F4 _ (fun X hX => H1.out X (HZ0.out.2.1.trans (hX.mono HZ0.out.2.1.size)) (HZ0.out.2.2.next hX))).mono ?_
  rintro x w1 ⟨rfl, hb1⟩
  have HZ1 : Hid (At5 w1 (w.heap.size + 4) (.int .i64 0) (.bool false) (.int .i64 0) (.string { data := #[] }) (.int .i64 0) ∧ Below w.heap.size w w1) := ⟨HZ0.out.1.below hb1 HZ0.out.1.lt, HZ0.out.2.1.trans (hb1.mono HZ0.out.2.1.size)⟩
  clear hb1 HZ0 H1 HE
  go_wp2_with (refine wpList_store_row rfl 29 (.tmp 8) (.tmp 10) rfl (w.heap.size + 4) #[.int .i64 F1, .bool R0, .int .i64 F2, .string F3, .int .i64 F4] rfl rfl _ _ HZ1.out.1 (by kernel_rfl) rfl (one5 _ _ _ _ _) ?_)
  have hP := (HZ1.out.1.row (.int .i64 F1) (.bool R0) (.int .i64 F2) (.string F3) (.int .i64 F4)).cells
  refine bodyPost_ret (results_res rfl _ _ rfl hP.1 hP.2.1 hP.2.2.1 hP.2.2.2.1 hP.2.2.2.2.1) rfl ?_
  exact ⟨rfl, bel_row HZ1.out.2 (by omega) _⟩
end Go.Proofs.YtnkoeidolmiheaaGreatDoor
namespace Go.Proofs.YtnkoeidolmiheaaGreatDoor
open Go.RowKit
set_option linter.unusedVariables false
set_option maxRecDepth 100000
theorem half_flat (ρ : Int) (k d : Nat) (hd : 1 ≤ d) : halfI (ρ * 10 ^ k) (10 ^ (d + k)) false (d + k) = halfI ρ (10 ^ d) false d := by
  have pk := ten_pos k
  unfold halfI
  rw [if_neg (show ¬ d + k = 0 by omega), if_neg (show ¬ d = 0 by omega), Int.pow_add]
  generalize (10 : Int) ^ k = T at *
  generalize (10 : Int) ^ d = M at *
  have e : 2 * (ρ * T) = (2 * ρ) * T := (Int.mul_assoc 2 ρ T).symm
  rw [e]
  by_cases h : 2 * ρ < M
  · rw [if_pos h, if_pos (Int.mul_lt_mul_of_pos_right h pk)]
  · rw [if_neg h, if_neg (fun c => h (Int.lt_of_mul_lt_mul_right c (Int.le_of_lt pk)))]
    by_cases q : 2 * ρ = M
    · rw [if_pos (show 2 * ρ * T = M * T ∧ false = false from ⟨by rw [q], rfl⟩), if_pos (show 2 * ρ = M ∧ false = false from ⟨q, rfl⟩)]
    · rw [if_neg (show ¬ (2 * ρ * T = M * T ∧ false = false) from fun c => q (Int.eq_of_mul_eq_mul_right (Int.ne_of_gt pk) c.1)), if_neg (show ¬ (2 * ρ = M ∧ false = false) from fun c => q c.1)]
/-- A number that is not nought, far below all digits. -/
theorem rnd_far0 (mode : Int) (neg : Bool) (v : Int) (d : Nat) (n : Nat) (h0 : 0 < v) (h1 : v < 10 ^ n) (hn : n + 1 ≤ d) : rndV mode neg v d false = rndV mode neg 1 200 true ∧ rndL v d false = true := by
  have a := pow_mono (n + 1) d hn
  have b : (10 : Int) ^ (n + 1) = 10 ^ n * 10 := Int.pow_succ 10 n
  have hlt : v < 10 ^ d := by omega
  have hm : v % 10 ^ d = v := Int.emod_eq_of_lt (by omega) hlt
  have hL : rndL v d false = true := by unfold rndL; rw [hm, decide_eq_true (by omega : v ≠ 0)]; rfl
  refine ⟨?_, hL⟩
  rw [← rnd_far mode neg v d n (by omega) h1 hn]
  have hh : ∀ r, halfI (v % 10 ^ d) (10 ^ d) r d = -1 := fun r => by
    rw [hm]; unfold halfI; rw [if_neg (by omega), if_pos (by omega)]
  unfold rndV rndU
  rw [hL, hh, hh]
  rfl
/-- Noughts behind the digits change nothing. -/
theorem finN_flat (p : Nat) (hp : 1 ≤ p) (low high mode : Int) (neg : Bool) (ds ds' : List Int) (e : Int) (want : Int) (k : Nat) (hc : Canon ds) (hz : ds ≠ [0]) (hc' : Canon ds') (hv : vl ds' = vl ds * 10 ^ k)
    (hn : p + 1 ≤ ds.length) (hk : ds.length + k ≤ 198) : finN p low high mode neg ds e false want = finN p low high mode neg ds' (e - k) false want := by
  have hv0 : vl ds' = vl ds * 10 ^ k + 0 := by omega
  have hl := len_more ds ds' hc hz hc' k 0 hv0 (Int.le_refl _) (ten_pos k)
  have hj : finJ p ds.length false = 0 := rfl
  have hj' : finJ p ds'.length false = 0 := rfl
  obtain ⟨d, hd⟩ : ∃ d, finDr p ds.length low e = d := ⟨_, rfl⟩
  have hd1 : 1 ≤ d := by rw [← hd]; unfold finDr; omega
  have hd' : finDr p ds'.length low (e - k) = d + k := by rw [← hd, hl]; unfold finDr; omega
  obtain ⟨q1, q2⟩ := div_more (vl ds) 0 k d (Int.le_refl _) (ten_pos k)
  rw [Int.add_zero] at q1 q2
  rw [Int.add_zero] at q2
  have b := vl_bd ds hc.1
  have hpos : 0 < vl ds := by
    have : vl ds ≠ 0 := fun c => hz (canon_nought ds hc c)
    omega
  have hL1 : rndL (vl ds') (d + k) false = rndL (vl ds) d false := by
    unfold rndL
    rw [hv, q2]
    congr 1
    refine decide_eq_decide.2 ⟨fun h c => h (by rw [c, Int.zero_mul]), fun h c => ?_⟩
    rcases Int.mul_eq_zero.1 c with c | c
    · exact h c
    · exact absurd c (Int.ne_of_gt (ten_pos k))
  have hU : rndV mode neg (vl ds') (d + k) false = rndV mode neg (vl ds) d false := by
    unfold rndV rndU
    rw [hL1, hv, q1, q2, half_flat _ k d hd1]
  have hV : finV mode neg (vl ds') (d + k) false = finV mode neg (vl ds) d false ∧ finLs (vl ds') (d + k) false = finLs (vl ds) d false := by
    unfold finV finLs
    by_cases c : 200 < d
    · rw [if_pos c, if_pos (by omega), if_pos c, if_pos (by omega)]; exact ⟨rfl, rfl⟩
    · rw [if_neg c, if_neg c]
      by_cases c2 : 200 < d + k
      · rw [if_pos c2, if_pos c2]
        obtain ⟨x, y⟩ := rnd_far0 mode neg (vl ds) d ds.length hpos b.2 (by omega)
        rw [x, y]
        exact ⟨rfl, rfl⟩
      · rw [if_neg c2, if_neg c2]; exact ⟨hU, hL1⟩
  unfold finN
  simp only [hj, hj', Nat.add_zero, Int.pow_zero, Int.mul_one]
  rw [show e - ((0 : Nat) : Int) = e by simp, show e - (k : Int) - ((0 : Nat) : Int) = e - k by simp, hd, hd', hV.1, hV.2, hl]
  have x1 : e - (k : Int) + ((d + k : Nat) : Int) = e + (d : Int) := by omega
  have x2 : ((ds.length + k : Nat) : Int) + (e - (k : Int)) = (ds.length : Int) + e := by omega
  rw [x1, x2]
/-- Digits with more of them behind, both exact or both not. -/
theorem finN_scale (p : Nat) (hp : 1 ≤ p) (low high mode : Int) (neg : Bool) (ds ds' : List Int) (e : Int) (rest rest' : Bool) (want : Int) (k : Nat) (r : Int) (hc : Canon ds) (hz : ds ≠ [0]) (hc' : Canon ds') (hv : vl ds' = vl ds * 10 ^ k + r) (r0 : 0 ≤ r) (r1 : r < 10 ^ k)
    (h1 : rest = true → r ≠ 0 ∨ rest' = true) (h2 : rest = false → r = 0 ∧ rest' = false)
    (hn : p + 1 ≤ ds.length) (hk : ds.length + k ≤ 198) : finN p low high mode neg ds e rest want = finN p low high mode neg ds' (e - k) rest' want := by
  cases rest with
  | true => exact finN_more p hp low high mode neg ds ds' e rest' want k r hc hz hc' hv r0 r1 (h1 rfl) hn hk
  | false =>
    obtain ⟨rfl, rfl⟩ := h2 rfl
    exact finN_flat p hp low high mode neg ds ds' e want k hc hz hc' (by omega) hn hk
/-- Digits that go, however many. -/
def drV (mode : Int) (neg : Bool) (v : Int) (k : Nat) : Int := rndV mode neg v (min k 200) false
def drL (v : Int) (k : Nat) : Bool := rndL v (min k 200) false
theorem rnd_zero (mode : Int) (neg : Bool) (k : Nat) : rndV mode neg 0 k false = 0 ∧ rndL 0 k false = false := by
  have hm : (0 : Int) % 10 ^ k = 0 := Int.zero_emod _
  have hq : (0 : Int) / 10 ^ k = 0 := Int.zero_ediv _
  have hL : rndL 0 k false = false := by unfold rndL; rw [hm]; rfl
  refine ⟨?_, hL⟩
  have pk := ten_pos k
  have hh : halfI 0 (10 ^ k) false k = -1 := by
    unfold halfI
    by_cases c : k = 0
    · rw [if_pos c]
    · rw [if_neg c, if_pos (by omega)]
  unfold rndV rndU
  rw [hq, hm, hL, hh]
  simp [upB, upO]
theorem drop_far (mode : Int) (neg : Bool) (v : Int) (k : Nat) (h0 : 0 < v) (h1 : v < 10 ^ 100) (hk : 200 < k) : drV mode neg v k = rndV mode neg 1 200 true ∧ drL v k = true := by
  unfold drV drL
  rw [show min k 200 = 200 by omega]
  exact rnd_far0 mode neg v 200 100 h0 h1 (by omega)
/-- What is left has a digit less, or one more than that. -/
theorem drV_bd (mode : Int) (neg : Bool) (v : Int) (k : Nat) (p : Nat) (h0 : 0 ≤ v) (h1 : v < 10 ^ p) (hp : 1 ≤ p) (hk : 1 ≤ k) : 0 ≤ drV mode neg v k ∧ drV mode neg v k ≤ 10 ^ (p - 1) := by
  have pk := ten_pos (min k 200)
  have a := Int.ediv_nonneg h0 (Int.le_of_lt pk)
  have hq : v / 10 ^ (min k 200) < 10 ^ (p - 1) := by
    refine Int.ediv_lt_of_lt_mul pk ?_
    have h10 := pow_mono 1 (min k 200) (by omega)
    have e : (10 : Int) ^ p = 10 ^ (p - 1) * 10 := by rw [← Int.pow_succ, show (p - 1).succ = p by omega]
    have := Int.mul_le_mul_of_nonneg_left h10 (Int.le_of_lt (ten_pos (p - 1)))
    rw [show (10 : Int) ^ 1 = 10 from rfl] at this
    omega
  unfold drV rndV
  split <;> omega
theorem nt_short (n : Int) (p : Nat) (h0 : 0 ≤ n) (h1 : n < 10 ^ p) (hp : 1 ≤ p) (h5 : p ≤ 500) : (nt n).length ≤ p := by
  have := nt_spec n h0 (Int.lt_of_lt_of_le h1 (pow_mono _ _ h5))
  exact canon_le _ this.1 p hp (by rw [this.2]; exact h1)
theorem drV_len (mode : Int) (neg : Bool) (v : Int) (k : Nat) (p : Nat) (h0 : 0 ≤ v) (h1 : v < 10 ^ p) (hp : 1 ≤ p) (h5 : p ≤ 300) (hk : 1 ≤ k) : (nt (drV mode neg v k)).length ≤ p ∧ Canon (nt (drV mode neg v k)) := by
  obtain ⟨a, b⟩ := drV_bd mode neg v k p h0 h1 hp hk
  have e : (10 : Int) ^ p = 10 ^ (p - 1) * 10 := by rw [← Int.pow_succ, show (p - 1).succ = p by omega]
  have q := ten_pos (p - 1)
  exact ⟨nt_short _ p a (by omega) hp (by omega), (nt_spec _ a (Int.lt_of_lt_of_le (by omega : drV mode neg v k < 10 ^ p) (pow_mono _ _ (by omega)))).1⟩
end Go.Proofs.YtnkoeidolmiheaaGreatDoor
namespace Go.Proofs.YtnkoeidolmiheaaGreatDoor
open Go.RowKit
set_option linter.unusedVariables false
set_option maxRecDepth 100000
theorem nrwO {W : World} {g : Nat} {T : TypeId} {k : Int} {n : Bool} {e : Int} {s : ByteArray} (h : W.heap[g]? = some (.cells #[.int .i64 k, .bool n, .int .i64 e, .string s] T (0, 0))) : NRw W g 1 (fun _ => k) (fun _ => n) (fun _ => e) (fun _ => s) := fun i hi => by
  obtain rfl : i = 0 := by omega
  exact ⟨(cell_lit h 0).trans rfl, (cell_lit h 1).trans rfl, (cell_lit h 2).trans rfl, (cell_lit h 3).trans rfl⟩
theorem shift_tn {v n : Int} (h : Nok v) (h2 : Nok (v * 10 ^ n.toNat)) (h0 : 0 ≤ n) (h1 : n ≤ 200) : shiftS (tn v) n = tn (v * 10 ^ n.toNat) := by
  unfold shiftS
  rw [tn_ok h, decide_eq_true h0, decide_eq_true h1, nv_tn h, fit_tn h2]
  rfl
theorem round_tn {v n : Int} (mode : Int) (neg : Bool) (hm : 1 ≤ mode ∧ mode ≤ 5) (h : Nok v) (h0 : 0 ≤ n) (h1 : n ≤ 200) : rdS mode neg (tn v) n false = tx (nt (rndV mode neg v n.toNat false)) ∧ rdL mode (tn v) n false = rndL v n.toNat false := by
  have ho : rdO mode (tn v) n = true := by unfold rdO; rw [tn_ok h, decide_eq_true hm, decide_eq_true ⟨h0, h1⟩]; rfl
  unfold rdS rdL
  rw [ho, if_pos rfl, if_pos rfl, nv_tn h]
  exact ⟨rfl, rfl⟩
theorem tnSz (v : Int) : (tn v).size ≤ 4611686018427387904 := Nat.le_trans (tn_size v) (by decide)
/-- How many digits come or go. -/
def plc (n : Int) : Int := min (max n 0) 200
theorem places_any (n : Int) (w : World) : Calls Tryz.prog 149 #[.int .i64 n] w fun x w' => x = .returned (.int .i64 (plc n)) ∧ w' = w := by
  obtain ⟨mx, hmx⟩ : ∃ m, max n 0 = m := ⟨_, rfl⟩
  obtain ⟨mn, hmn⟩ : ∃ m, min mx 200 = m := ⟨_, rfl⟩
  have E : Hid (plc n = mn) := by show _ = _; unfold plc; rw [hmx, hmn]
  rw [E.out]
  clear E
  go_enter Tryz.func149, Tryz.ntmps149
  go_wp2
  go_ret
  exact ⟨rfl, rfl⟩
theorem copied_any (k : Int) (b : Bool) (e : Int) (s : ByteArray) (w : World) (hs : s.size ≤ 600) : Calls Tryz.prog 79 #[numV k b e s] w fun x w' => x = .returned (numV k b e s) ∧ Below w.heap.size w w' := by
  have HCl : Hid (∀ X, Calls Tryz.prog 140 #[.string s] X fun e w' => e = .returned (.string s) ∧ Below X.heap.size X w') := fun X => iClone_any s X hs
  clear hs
  have h1 := at4r_new w (.int .i64 k) (.bool b) (.int .i64 e) (.string s)
  have z1 := new_size w (.cells #[.int .i64 k, .bool b, .int .i64 e, .string s] 25)
  have b1 : Below w.heap.size w (w.alloc (.cells #[.int .i64 k, .bool b, .int .i64 e, .string s] 25)) := (Below.refl _ _).alloc (Nat.le_refl _) _
  have h2 := at4r_new (w.alloc (.cells #[.int .i64 k, .bool b, .int .i64 e, .string s] 25)) (.int .i64 0) (.bool false) (.int .i64 0) (.string { data := #[] })
  have b2 : Below (w.alloc (.cells #[.int .i64 k, .bool b, .int .i64 e, .string s] 25)).heap.size (w.alloc (.cells #[.int .i64 k, .bool b, .int .i64 e, .string s] 25)) ((w.alloc (.cells #[.int .i64 k, .bool b, .int .i64 e, .string s] 25)).alloc (.cells #[.int .i64 0, .bool false, .int .i64 0, .string { data := #[] }] 25)) := (Below.refl _ _).alloc (Nat.le_refl _) _
  rw [z1] at h2
  have HN : Hid (At4r ((w.alloc (.cells #[.int .i64 k, .bool b, .int .i64 e, .string s] 25)).alloc (.cells #[.int .i64 0, .bool false, .int .i64 0, .string { data := #[] }] 25)) w.heap.size (.int .i64 k) (.bool b) (.int .i64 e) (.string s) ∧ At4r ((w.alloc (.cells #[.int .i64 k, .bool b, .int .i64 e, .string s] 25)).alloc (.cells #[.int .i64 0, .bool false, .int .i64 0, .string { data := #[] }] 25)) (w.heap.size + 1) (.int .i64 0) (.bool false) (.int .i64 0) (.string { data := #[] }) ∧ Below w.heap.size w ((w.alloc (.cells #[.int .i64 k, .bool b, .int .i64 e, .string s] 25)).alloc (.cells #[.int .i64 0, .bool false, .int .i64 0, .string { data := #[] }] 25))) := ⟨h1.next b2, h2, b1.trans (b2.mono b1.size)⟩
  clear h1 z1 b1 h2 b2
  go_enter Tryz.func79, Tryz.ntmps79
  go_wp2_with fail
  refine (HCl.out _).mono ?_
  rintro x w1 ⟨rfl, hb1⟩
  have HN1 : Hid (At4r w1 w.heap.size (.int .i64 k) (.bool b) (.int .i64 e) (.string s) ∧ At4r w1 (w.heap.size + 1) (.int .i64 0) (.bool false) (.int .i64 0) (.string { data := #[] }) ∧ Below w.heap.size w w1) := ⟨HN.out.1.next hb1, HN.out.2.1.next hb1, HN.out.2.2.trans (hb1.mono HN.out.2.2.size)⟩
  have HN2 : Hid (At4r (w1.setCell ⟨w.heap.size, 3, none⟩ (.string s)) w.heap.size (.int .i64 k) (.bool b) (.int .i64 e) (.string s) ∧ At4r (w1.setCell ⟨w.heap.size, 3, none⟩ (.string s)) (w.heap.size + 1) (.int .i64 0) (.bool false) (.int .i64 0) (.string { data := #[] }) ∧ Below w.heap.size w (w1.setCell ⟨w.heap.size, 3, none⟩ (.string s))) := ⟨HN1.out.1.set3 _, HN1.out.2.1.far (by omega) _ _, HN1.out.2.2.setCell (Nat.le_refl _) _⟩
  obtain ⟨a0, a1, a2, a3, a4⟩ := HN1.out.1.cells
  obtain ⟨c0, c1, c2, c3, c4⟩ := HN2.out.1.cells
  clear hb1 HN HCl HN1
  go_wp2_with (refine wpList_store_row rfl 25 (.tmp 2) (.tmp 7) rfl (w.heap.size + 1) #[.int .i64 k, .bool b, .int .i64 e, .string s] rfl rfl _ _ HN2.out.2.1 (by kernel_rfl) rfl (one4 _ _ _ _) ?_)
  have hP := (HN2.out.2.1.row (.int .i64 k) (.bool b) (.int .i64 e) (.string s)).cells
  refine bodyPost_ret (results_num rfl _ _ rfl hP.1 hP.2.1 hP.2.2.1 hP.2.2.2.1) rfl ?_
  exact ⟨rfl, bel_row HN2.out.2.2 (by omega) _⟩
/-- A number's box and a result's. -/
def N2 (w : World) (kx : Int) (nx : Bool) (ex : Int) (sx : ByteArray) (W : World) : Prop :=
  At4r W w.heap.size (.int .i64 kx) (.bool nx) (.int .i64 ex) (.string sx) ∧ At4r W (w.heap.size + 1) (.int .i64 0) (.bool false) (.int .i64 0) (.string { data := #[] }) ∧ Below w.heap.size w W
theorem n2_new (w : World) (kx : Int) (nx : Bool) (ex : Int) (sx : ByteArray) : N2 w kx nx ex sx ((w.alloc (.cells #[.int .i64 kx, .bool nx, .int .i64 ex, .string sx] 25)).alloc (.cells #[.int .i64 0, .bool false, .int .i64 0, .string { data := #[] }] 25)) := by
  have h1 := at4r_new w (.int .i64 kx) (.bool nx) (.int .i64 ex) (.string sx)
  have z1 := new_size w (.cells #[.int .i64 kx, .bool nx, .int .i64 ex, .string sx] 25)
  have b1 : Below w.heap.size w (w.alloc (.cells #[.int .i64 kx, .bool nx, .int .i64 ex, .string sx] 25)) := (Below.refl _ _).alloc (Nat.le_refl _) _
  generalize w.alloc (.cells #[.int .i64 kx, .bool nx, .int .i64 ex, .string sx] 25) = w1 at *
  have h2 := at4r_new w1 (.int .i64 0) (.bool false) (.int .i64 0) (.string { data := #[] })
  have b2 : Below w1.heap.size w1 (w1.alloc (.cells #[.int .i64 0, .bool false, .int .i64 0, .string { data := #[] }] 25)) := (Below.refl _ _).alloc (Nat.le_refl _) _
  rw [z1] at h2
  exact ⟨h1.next b2, h2, b1.trans (b2.mono b1.size)⟩
theorem N2.next {w W W' : World} {kx : Int} {nx : Bool} {ex : Int} {sx : ByteArray} (h : N2 w kx nx ex sx W) (hb : Below W.heap.size W W') : N2 w kx nx ex sx W' :=
  ⟨h.1.next hb, h.2.1.next hb, h.2.2.trans (hb.mono h.2.2.size)⟩
theorem results_ntw {fn : Func} {p t : Tmp} {b : Nat} {x y z u : Value} (h : fn.results = #[.cell p 25, .tmp t]) (tmps : Array Value) (w : World) (hp : tmps[p]?.getD undef = .pointer (some ⟨b, 0, none⟩))
    (q0 : w.cell? ⟨b, 0, none⟩ = some x) (q1 : w.cell? ⟨b, 1, none⟩ = some y) (q2 : w.cell? ⟨b, 2, none⟩ = some z) (q3 : w.cell? ⟨b, 3, none⟩ = some u) : (results fn tmps).run Tryz.prog w = .ok (.tuple #[.agg #[x, y, z, u], tmps.getD t undef]) w := by
  simp [results, h, hp, go_sem, q0, q1, q2, q3]
set_option maxRecDepth 100000 in
set_option maxHeartbeats 1000000 in
theorem withExp_any (mode : Int) (hm : 1 ≤ mode ∧ mode ≤ 5) (na : Bool) (ea v exp : Int) (w : World) (hea : -7000 ≤ ea ∧ ea ≤ 7000) (hex : -7000 ≤ exp ∧ exp ≤ 7000) (hv : Nok v) (hv2 : Nok (v * 10 ^ (plc (ea - exp)).toNat)) :
    Calls Tryz.prog 91 #[.int .i64 mode, numV 1 na ea (tn v), .int .i64 exp] w fun x w' => x = .returned (.tuple #[numV 1 na exp (tx (nt (rndV mode na (v * 10 ^ (plc (ea - exp)).toNat) (plc (exp - ea)).toNat false))), .bool (rndL (v * 10 ^ (plc (ea - exp)).toNat) (plc (exp - ea)).toNat false)]) ∧ Below w.heap.size w w' := by
  have p0 : ∀ n, 0 ≤ plc n ∧ plc n ≤ 200 := fun n => by unfold plc; omega
  have HS : Hid (∀ X, Calls Tryz.prog 54 #[.string (tn v), .int .i64 (plc (ea - exp))] X fun e w' => e = .returned (.string (tn (v * 10 ^ (plc (ea - exp)).toNat))) ∧ Below X.heap.size X w') := fun X => by
    have := iNatShift_any (tn v) (plc (ea - exp)) X (tnSz v)
    rwa [shift_tn hv hv2 (p0 _).1 (p0 _).2] at this
  obtain ⟨T2, hT2⟩ : ∃ T, tn (v * 10 ^ (plc (ea - exp)).toNat) = T := ⟨_, rfl⟩
  have HRd : Hid (∀ X, Calls Tryz.prog 150 #[.int .i64 mode, .bool na, .string T2, .int .i64 (plc (exp - ea)), .bool false] X fun e w' => e = .returned (.tuple #[.string (tx (nt (rndV mode na (v * 10 ^ (plc (ea - exp)).toNat) (plc (exp - ea)).toNat false))), .bool (rndL (v * 10 ^ (plc (ea - exp)).toNat) (plc (exp - ea)).toNat false)]) ∧ Below X.heap.size X w') := fun X => by
    rw [← hT2]
    have := iRoundDigits_all mode na (tn (v * 10 ^ (plc (ea - exp)).toNat)) (plc (exp - ea)) false X (tnSz _)
    rwa [(round_tn mode na hm hv2 (p0 _).1 (p0 _).2).1, (round_tn mode na hm hv2 (p0 _).1 (p0 _).2).2] at this
  rw [hT2] at HS
  clear hT2
  generalize tx (nt (rndV mode na (v * 10 ^ (plc (ea - exp)).toNat) (plc (exp - ea)).toNat false)) = T3 at *
  generalize rndL (v * 10 ^ (plc (ea - exp)).toNat) (plc (exp - ea)).toNat false = lo at *
  have HP1 : Hid (∀ X, Calls Tryz.prog 149 #[.int .i64 (ea - exp)] X fun x w' => x = .returned (.int .i64 (plc (ea - exp))) ∧ w' = X) := fun X => places_any (ea - exp) X
  have HP2 : Hid (∀ X, Calls Tryz.prog 149 #[.int .i64 (exp - ea)] X fun x w' => x = .returned (.int .i64 (plc (exp - ea))) ∧ w' = X) := fun X => places_any (exp - ea) X
  generalize plc (ea - exp) = q1 at *
  generalize plc (exp - ea) = q2 at *
  have hw1 : IntKind.i64.wrap (ea - exp) = ea - exp := by rw [IntKind.wrap_i64]; omega
  have hw2 : IntKind.i64.wrap (exp - ea) = exp - ea := by rw [IntKind.wrap_i64]; omega
  generalize tn v = T1 at *
  clear hv hv2 hea hex hm p0
  have HN : Hid (N2 w 1 na ea T1 ((w.alloc (.cells #[.int .i64 1, .bool na, .int .i64 ea, .string T1] 25)).alloc (.cells #[.int .i64 0, .bool false, .int .i64 0, .string { data := #[] }] 25))) := n2_new w 1 na ea T1
  go_enter Tryz.func91, Tryz.ntmps91
  go_upto_region 1 with fail
  generalize (w.alloc (.cells #[.int .i64 1, .bool na, .int .i64 ea, .string T1] 25)).alloc (.cells #[.int .i64 0, .bool false, .int .i64 0, .string { data := #[] }] 25) = w0 at *
  have HX0 : Hid (Below w0.heap.size w0 w0.drew) := (Below.refl _ _).drew
  refine wp_region_class (C := fun W => Below w0.heap.size w0 W) (by kernel_rfl) (by kernel_rfl) HX0.out ?_
  repeat (refine wpQuiet_step (fun K hK => ?_); go_simp; first | (refine hK _ ?_; clear hK K) | (apply Exists.intro; refine ⟨fun wx hC => ?_, hK _ ?_⟩; (first | exact rfl | ((with_reducible refine Calls.class_of (HS.out wx) ?_); exact fun w' hb => bel1 hC hb) | ((with_reducible refine (HP1.out wx).mono ?_); rintro x w' ⟨rfl, rfl⟩; exact ⟨rfl, hC⟩) | (obtain ⟨a0, a1, a2, a3, a4⟩ := (HN.out.next hC).1.cells; go_simp; exact rfl)); clear hK K))
  refine wpQuiet_nil ?_
  intro w1 hb1
  have HN1 : Hid (N2 w 1 na ea T1 w1) := HN.out.next hb1
  clear hb1 HN HX0 HS HP1 hw1
  go_upto_region 2 with fail
  have HX1 : Hid (Below w1.heap.size w1 w1.drew) := (Below.refl _ _).drew
  refine wp_region_class (C := fun W => Below w1.heap.size w1 W) (by kernel_rfl) (by kernel_rfl) HX1.out ?_
  repeat (refine wpQuiet_step (fun K hK => ?_); go_simp; first | (refine hK _ ?_; clear hK K) | (apply Exists.intro; refine ⟨fun wx hC => ?_, hK _ ?_⟩; (first | exact rfl | ((with_reducible refine Calls.class_of (HRd.out wx) ?_); exact fun w' hb => bel1 hC hb) | ((with_reducible refine (HP2.out wx).mono ?_); rintro x w' ⟨rfl, rfl⟩; exact ⟨rfl, hC⟩) | (obtain ⟨a0, a1, a2, a3, a4⟩ := (HN1.out.next hC).1.cells; go_simp; exact rfl)); clear hK K))
  refine wpQuiet_nil ?_
  intro w2 hb2
  have HN2 : Hid (N2 w 1 na ea T1 w2) := HN1.out.next hb2
  clear hb2 HN1 HX1 HRd HP2 hw2
  obtain ⟨a0, a1, a2, a3, a4⟩ := HN2.out.1.cells
  have hbn := build_num 1 na exp T3
  go_wp2_with (refine wpList_store_row rfl 25 (.tmp 6) (.tmp 35) rfl (w.heap.size + 1) #[.int .i64 1, .bool na, .int .i64 exp, .string T3] rfl rfl _ _ HN2.out.2.1 (by kernel_rfl) rfl (one4 _ _ _ _) ?_)
  have hP := (HN2.out.2.1.row (.int .i64 1) (.bool na) (.int .i64 exp) (.string T3)).cells
  refine bodyPost_ret (results_ntw rfl _ _ rfl hP.1 hP.2.1 hP.2.2.1 hP.2.2.2.1) rfl ?_
  exact ⟨rfl, bel_row HN2.out.2.2 (by omega) _⟩
end Go.Proofs.YtnkoeidolmiheaaGreatDoor
namespace Go.Proofs.YtnkoeidolmiheaaGreatDoor
open Go.RowKit
set_option linter.unusedVariables false
set_option maxRecDepth 100000
/-- A right number that is no NaN, as the walks want it. -/
def Rgn (f : Int) (k : Int) (e : Int) (s : ByteArray) : Prop := (f = 64 ∨ f = 128) ∧ s = tx (dl s) ∧ (k = 1 ∨ k = 2) ∧ (k = 1 → Canon (dl s) ∧ ((dl s).length : Int) ≤ limP f ∧ limL f ≤ e ∧ e ≤ limH f) ∧ (k = 2 → e = 0 ∧ s = { data := #[] })
theorem rgn_of (f k : Int) (b : Bool) (e : Int) (s : ByteArray) (h : numB f k b e s = true) (h3 : k ≠ 3) (h4 : k ≠ 4) : Rgn f k e s := by
  obtain ⟨a, b', c, d⟩ := right_two f k b e s h h3 h4
  refine ⟨a, b', c, d, fun hk => ?_⟩
  subst hk
  unfold numB at h
  by_cases h0 : limP f = 0
  · rw [if_pos h0] at h; cases h
  rw [if_neg h0, if_neg (by decide), if_pos rfl] at h
  simp only [Bool.and_eq_true, decide_eq_true_eq] at h
  refine ⟨h.1, ?_⟩
  have hs : s.size = 0 := by
    have := h.2
    rw [ByteArray.toList_eq, List.isEmpty_iff] at this
    show s.data.size = 0
    rw [← Array.length_toList, this]; rfl
  apply ByteArray.ext
  exact Array.eq_empty_of_size_eq_zero hs
/-- Of one number that is right and no NaN. -/
theorem rgn_one {f m : Int} {k : Int} {b : Bool} {e : Int} {s : ByteArray} (h : rightB f m 1 (fun _ => k) (fun _ => b) (fun _ => e) (fun _ => s) = true) (hs : spB 1 (fun _ => k) = false) : (1 ≤ m ∧ m ≤ 5) ∧ Rgn f k e s := by
  unfold rightB at h
  simp only [Bool.and_eq_true, decide_eq_true_eq] at h
  have hn := of_decide_eq_false hs
  exact ⟨h.1, rgn_of f k b e s (h.2 0 (by decide)) (fun c => hn ⟨0, by decide, .inl c⟩) (fun c => hn ⟨0, by decide, .inr c⟩)⟩
/-- Of two. -/
theorem rgn_two {f m : Int} {ka kb : Int} {na nb : Bool} {ea eb : Int} {sa sb : ByteArray} (h : rightB f m 2 (tw2 ka kb) (tw2 na nb) (tw2 ea eb) (tw2 sa sb) = true) (hs : spB 2 (tw2 ka kb) = false) : (1 ≤ m ∧ m ≤ 5) ∧ Rgn f ka ea sa ∧ Rgn f kb eb sb := by
  unfold rightB at h
  simp only [Bool.and_eq_true, decide_eq_true_eq] at h
  have hn := of_decide_eq_false hs
  exact ⟨h.1, rgn_of f ka na ea sa (h.2 0 (by decide)) (fun c => hn ⟨0, by decide, .inl c⟩) (fun c => hn ⟨0, by decide, .inr c⟩), rgn_of f kb nb eb sb (h.2 1 (by decide)) (fun c => hn ⟨1, by decide, .inl c⟩) (fun c => hn ⟨1, by decide, .inr c⟩)⟩
theorem Rgn.tn {f k e : Int} {s : ByteArray} (h : Rgn f k e s) (hk : k = 1) : s = tn (vl (dl s)) ∧ Nok (vl (dl s)) ∧ 0 ≤ vl (dl s) ∧ vl (dl s) < 10 ^ (limP f).toNat ∧ (dl s).length ≤ 34 ∧ 1 ≤ (dl s).length ∧ s.size = (dl s).length ∧ (-7000 ≤ e ∧ e ≤ 7000) := by
  obtain ⟨hf, hs, -, h1, -⟩ := h
  obtain ⟨c, l, x, y⟩ := h1 hk
  have hL := lims f hf
  have hb := vl_bd (dl s) c.1
  have h34 : (dl s).length ≤ 34 := by omega
  have hp := c.2.1
  refine ⟨?_, ⟨hb.1, Int.lt_of_lt_of_le hb.2 (pow_mono _ _ (by omega))⟩, hb.1, Int.lt_of_lt_of_le hb.2 (pow_mono _ _ (by omega)), h34, hp, ?_, by omega, by omega⟩
  · show s = tx (nt (vl (dl s)))
    rw [← nt_of (dl s) (vl (dl s)) c rfl (by omega)]; exact hs
  · rw [hs, tx_size, ← hs]
theorem Rgn.small {f k e : Int} {s : ByteArray} (h : Rgn f k e s) : s.size ≤ 600 := by
  rcases h.2.2.1 with c | c
  · obtain ⟨-, -, -, -, l, -, z, -⟩ := h.tn c; omega
  · rw [(h.2.2.2.2 c).2]; decide
/-- What Whole tells of a right number that is no NaN. -/
def whX (mode : Int) (ka : Int) (na : Bool) (ea : Int) (sa : ByteArray) : R5o :=
  if ka = 2 ∨ 0 ≤ ea then (na, (ka, ea, sa, 0)) else (na, (1, 0, tx (nt (drV mode na (vl (dl sa)) (-ea).toNat)), 0))
/-- What Whole tells. -/
def whR (f mode : Int) (ka : Int) (na : Bool) (ea : Int) (sa : ByteArray) : R5o := ofR f mode 1 (fun _ => ka) (fun _ => na) (fun _ => ea) (fun _ => sa) (whX mode ka na ea sa)
/-- What the closures of operations on one number see. -/
def Cp1 (X : World) (p : Nat) (mode : Int) (ka : Int) (na : Bool) (ea : Int) (sa : ByteArray) : Prop := X.cell? ⟨p, 0, none⟩ = some (.int .i64 mode) ∧ At4r X (p + 1) (.int .i64 ka) (.bool na) (.int .i64 ea) (.string sa)
theorem Cp1.next {X X' : World} {p : Nat} {mode : Int} {ka : Int} {na : Bool} {ea : Int} {sa : ByteArray} (h : Cp1 X p mode ka na ea sa) (hb : Below X.heap.size X X') : Cp1 X' p mode ka na ea sa :=
  ⟨(hb.cell (p := ⟨p, 0, none⟩) (show p < X.heap.size by have := h.2.lt; omega)).trans h.1, h.2.next hb⟩
set_option maxRecDepth 100000 in
set_option maxHeartbeats 1000000 in
theorem whole1_any (p : Nat) (f mode : Int) (ka : Int) (na : Bool) (ea : Int) (sa : ByteArray) (X : World) (hm : 1 ≤ mode ∧ mode ≤ 5) (hr : Rgn f ka ea sa) (hC : Cp1 X p mode ka na ea sa) :
    Calls Tryz.prog 90 #[.pointer (some ⟨p + 1, 0, none⟩), .pointer (some ⟨p, 0, none⟩)] X fun x w' => (x = .returned (rsD (whX mode ka na ea sa).1 (whX mode ka na ea sa).2) ∨ x = thrown (rsD (whX mode ka na ea sa).1 (whX mode ka na ea sa).2)) ∧ Below X.heap.size X w' := by
  have hb0 : Below X.heap.size X (X.alloc (.cells #[.int .i64 0, .bool false, .int .i64 0, .string { data := #[] }, .int .i64 0] 29)) := (Below.refl _ _).alloc (Nat.le_refl _) _
  have HZ : Hid (At5 (X.alloc (.cells #[.int .i64 0, .bool false, .int .i64 0, .string { data := #[] }, .int .i64 0] 29)) X.heap.size (.int .i64 0) (.bool false) (.int .i64 0) (.string { data := #[] }) (.int .i64 0) ∧ Below X.heap.size X (X.alloc (.cells #[.int .i64 0, .bool false, .int .i64 0, .string { data := #[] }, .int .i64 0] 29)) ∧ Cp1 (X.alloc (.cells #[.int .i64 0, .bool false, .int .i64 0, .string { data := #[] }, .int .i64 0] 29)) p mode ka na ea sa) := ⟨at5_new X _ _ _ _ _, hb0, hC.next hb0⟩
  obtain ⟨q0, qa⟩ := HZ.out.2.2
  obtain ⟨a0, a1, a2, a3, a4⟩ := qa.cells
  clear qa hb0 hC
  have HCp : Hid (∀ Y, Calls Tryz.prog 79 #[numV ka na ea sa] Y fun x w' => x = .returned (numV ka na ea sa) ∧ Below Y.heap.size Y w') := fun Y => copied_any ka na ea sa Y hr.small
  by_cases hA : ka = 2 ∨ 0 ≤ ea
  · have EX : Hid (whX mode ka na ea sa = (na, (ka, ea, sa, 0))) := by show _ = _; unfold whX; rw [if_pos hA]
    rw [EX.out]
    have hbr := build_res0 ka na ea sa
    have hk : (ka == 2) = true ∨ ((ka == 2) = false ∧ 0 ≤ ea) := by
      by_cases c : ka = 2
      · exact .inl (by rw [c]; rfl)
      · exact .inr ⟨beq_eq_false_iff_ne.2 c, hA.resolve_left c⟩
    clear hA hr hm EX
    rcases hk with hk | ⟨hk, hge⟩
    · go_enter Tryz.func90, Tryz.ntmps90
      go_wp2_with fail
      refine (HCp.out _).mono ?_
      rintro x w1 ⟨rfl, hb1⟩
      have HZ1 : Hid (At5 w1 X.heap.size (.int .i64 0) (.bool false) (.int .i64 0) (.string { data := #[] }) (.int .i64 0) ∧ Below X.heap.size X w1) := ⟨HZ.out.1.below hb1 HZ.out.1.lt, HZ.out.2.1.trans (hb1.mono HZ.out.2.1.size)⟩
      clear hb1 HZ HCp a0 a1 a2 a3 a4 q0
      go_wp2_with (refine wpList_store_row rfl 29 (.tmp 2) (.tmp 15) rfl X.heap.size #[.int .i64 ka, .bool na, .int .i64 ea, .string sa, .int .i64 0] rfl rfl _ _ HZ1.out.1 (by kernel_rfl) rfl (one5 _ _ _ _ _) ?_)
      have hP := (HZ1.out.1.row (.int .i64 ka) (.bool na) (.int .i64 ea) (.string sa) (.int .i64 0)).cells
      refine bodyPost_ret (results_res rfl _ _ rfl hP.1 hP.2.1 hP.2.2.1 hP.2.2.2.1 hP.2.2.2.2.1) rfl ?_
      exact ⟨.inl rfl, bel_row HZ1.out.2 (Nat.le_refl _) _⟩
    · go_enter Tryz.func90, Tryz.ntmps90
      go_wp2_with fail
      refine (HCp.out _).mono ?_
      rintro x w1 ⟨rfl, hb1⟩
      have HZ1 : Hid (At5 w1 X.heap.size (.int .i64 0) (.bool false) (.int .i64 0) (.string { data := #[] }) (.int .i64 0) ∧ Below X.heap.size X w1) := ⟨HZ.out.1.below hb1 HZ.out.1.lt, HZ.out.2.1.trans (hb1.mono HZ.out.2.1.size)⟩
      clear hb1 HZ HCp a0 a1 a2 a3 a4 q0
      go_wp2_with (refine wpList_store_row rfl 29 (.tmp 2) (.tmp 15) rfl X.heap.size #[.int .i64 ka, .bool na, .int .i64 ea, .string sa, .int .i64 0] rfl rfl _ _ HZ1.out.1 (by kernel_rfl) rfl (one5 _ _ _ _ _) ?_)
      have hP := (HZ1.out.1.row (.int .i64 ka) (.bool na) (.int .i64 ea) (.string sa) (.int .i64 0)).cells
      refine bodyPost_ret (results_res rfl _ _ rfl hP.1 hP.2.1 hP.2.2.1 hP.2.2.2.1 hP.2.2.2.2.1) rfl ?_
      exact ⟨.inl rfl, bel_row HZ1.out.2 (Nat.le_refl _) _⟩
  · have hk1 : ka = 1 := by rcases hr.2.2.1 with c | c; exact c; exact absurd (.inl c) hA
    subst hk1
    have hlt : ¬ (0 ≤ ea) := fun c => hA (.inr c)
    obtain ⟨hs, nk, -, -, l34, l1, hz, he⟩ := hr.tn rfl
    have EX : Hid (whX mode 1 na ea sa = (na, (1, 0, tx (nt (drV mode na (vl (dl sa)) (-ea).toNat)), 0))) := by show _ = _; unfold whX; rw [if_neg hA]
    have e1 : plc (ea - 0) = 0 := by unfold plc; omega
    have e2 : (plc (0 - ea)).toNat = min (-ea).toNat 200 := by unfold plc; omega
    have HWx : Hid (∀ Y, Calls Tryz.prog 91 #[.int .i64 mode, numV 1 na ea sa, .int .i64 0] Y fun x w' => x = .returned (.tuple #[numV 1 na 0 (tx (nt (drV mode na (vl (dl sa)) (-ea).toNat))), .bool (drL (vl (dl sa)) (-ea).toNat)]) ∧ Below Y.heap.size Y w') := fun Y => by
      have := withExp_any mode hm na ea (vl (dl sa)) 0 Y he (by decide) nk (by rw [e1, Int.toNat_zero, Int.pow_zero, Int.mul_one]; exact nk)
      rw [e1, e2, Int.toNat_zero, Int.pow_zero, Int.mul_one, ← hs] at this
      exact this
    rw [EX.out]
    generalize tx (nt (drV mode na (vl (dl sa)) (-ea).toNat)) = T3 at *
    generalize drL (vl (dl sa)) (-ea).toNat = lo at *
    have hbr := build_res0 1 na 0 T3
    clear hA hr hm EX hs nk l34 l1 hz he e1 e2 HCp
    go_enter Tryz.func90, Tryz.ntmps90
    go_wp2_with fail
    refine (HWx.out _).mono ?_
    rintro x w1 ⟨rfl, hb1⟩
    have hb2 : Below w1.heap.size w1 (w1.alloc (.cells #[.int .i64 1, .bool na, .int .i64 0, .string T3] 25)) := (Below.refl _ _).alloc (Nat.le_refl _) _
    have HZ0 : At5 w1 X.heap.size (.int .i64 0) (.bool false) (.int .i64 0) (.string { data := #[] }) (.int .i64 0) ∧ Below X.heap.size X w1 := ⟨HZ.out.1.below hb1 HZ.out.1.lt, HZ.out.2.1.trans (hb1.mono HZ.out.2.1.size)⟩
    have HZ1 : Hid (At5 (w1.alloc (.cells #[.int .i64 1, .bool na, .int .i64 0, .string T3] 25)) X.heap.size (.int .i64 0) (.bool false) (.int .i64 0) (.string { data := #[] }) (.int .i64 0) ∧ Below X.heap.size X (w1.alloc (.cells #[.int .i64 1, .bool na, .int .i64 0, .string T3] 25))) := ⟨HZ0.1.below hb2 HZ0.1.lt, HZ0.2.trans (hb2.mono HZ0.2.size)⟩
    clear hb1 hb2 HZ HZ0 HWx a0 a1 a2 a3 a4 q0
    go_wp2_with (refine wpList_store_row rfl 29 (.tmp 2) (.tmp 23) rfl X.heap.size #[.int .i64 1, .bool na, .int .i64 0, .string T3, .int .i64 0] rfl rfl _ _ HZ1.out.1 (by kernel_rfl) rfl (one5 _ _ _ _ _) ?_)
    have hP := (HZ1.out.1.row (.int .i64 1) (.bool na) (.int .i64 0) (.string T3) (.int .i64 0)).cells
    refine bodyPost_ret (results_res rfl _ _ rfl hP.1 hP.2.1 hP.2.2.1 hP.2.2.2.1 hP.2.2.2.2.1) rfl ?_
    exact ⟨.inl rfl, bel_row HZ1.out.2 (Nat.le_refl _) _⟩
set_option maxRecDepth 100000 in
set_option maxHeartbeats 1000000 in
theorem iWhole_any (f mode : Int) (ka : Int) (na : Bool) (ea : Int) (sa : ByteArray) (w : World) (hsa : sa.size ≤ 4611686018427387904) :
    Calls Tryz.prog 23 #[.int .i64 f, .int .i64 mode, numV ka na ea sa] w fun x w' => x = .returned (rsD (whR f mode ka na ea sa).1 (whR f mode ka na ea sa).2) ∧ Below w.heap.size w w' := by
  have hmf : ∀ (fn : Fn) (first cap : Array Value) (w : World), (Instr.makeFunc fn first cap).run Tryz.prog w = .ok (.func fn first cap) w := fun _ _ _ _ => rfl
  have HE : Hid (∀ args w, (callFunc 90 args).run Tryz.prog w = .ok (.enter 90 args) w) := enters_of Tryz.func90 (by kernel_rfl) rfl
  obtain ⟨W, hW⟩ : ∃ W, ((w.alloc (.cells #[.int .i64 mode] 2)).alloc (.cells #[.int .i64 ka, .bool na, .int .i64 ea, .string sa] 25)).alloc (.cells #[.int .i64 0, .bool false, .int .i64 0, .string { data := #[] }, .int .i64 0] 29) = W := ⟨_, rfl⟩
  have hN : Cp1 W w.heap.size mode ka na ea sa ∧ At5 W (w.heap.size + 2) (.int .i64 0) (.bool false) (.int .i64 0) (.string { data := #[] }) (.int .i64 0) ∧ Below w.heap.size w W ∧ W.heap.size = w.heap.size + 3 := by
    rw [← hW]
    have c1 := new_cell1 w (.int .i64 mode) 2
    have z1 := new_size w (.cells #[.int .i64 mode] 2)
    have b1 : Below w.heap.size w (w.alloc (.cells #[.int .i64 mode] 2)) := (Below.refl _ _).alloc (Nat.le_refl _) _
    generalize w.alloc (.cells #[.int .i64 mode] 2) = w1 at *
    have h2 := at4r_new w1 (.int .i64 ka) (.bool na) (.int .i64 ea) (.string sa)
    have z2 := new_size w1 (.cells #[.int .i64 ka, .bool na, .int .i64 ea, .string sa] 25)
    have b2 : Below w1.heap.size w1 (w1.alloc (.cells #[.int .i64 ka, .bool na, .int .i64 ea, .string sa] 25)) := (Below.refl _ _).alloc (Nat.le_refl _) _
    generalize w1.alloc (.cells #[.int .i64 ka, .bool na, .int .i64 ea, .string sa] 25) = w2 at *
    have h3 := at5_new w2 (.int .i64 0) (.bool false) (.int .i64 0) (.string { data := #[] }) (.int .i64 0)
    have z3 := new_size w2 (.cells #[.int .i64 0, .bool false, .int .i64 0, .string { data := #[] }, .int .i64 0] 29)
    have b3 : Below w2.heap.size w2 (w2.alloc (.cells #[.int .i64 0, .bool false, .int .i64 0, .string { data := #[] }, .int .i64 0] 29)) := (Below.refl _ _).alloc (Nat.le_refl _) _
    rw [z1] at h2
    rw [z2, z1] at h3
    have b23 := b2.trans (b3.mono b2.size)
    exact ⟨⟨(b23.cell (p := ⟨w.heap.size, 0, none⟩) (show w.heap.size < w1.heap.size by omega)).trans c1, h2.next b3⟩, h3, b1.trans (b23.mono b1.size), by omega⟩
  have hb5 : Below W.heap.size W (W.alloc (.cells #[.int .i64 ka, .bool na, .int .i64 ea, .string sa] 25)) := (Below.refl _ _).alloc (Nat.le_refl _) _
  have hg := heap_at W (.cells #[.int .i64 ka, .bool na, .int .i64 ea, .string sa] 25)
  have hz5 := new_size W (.cells #[.int .i64 ka, .bool na, .int .i64 ea, .string sa] 25)
  have HO : Hid (Calls Tryz.prog 46 #[.int .i64 f, .int .i64 mode, .func (.func 90) #[] #[.pointer (some ⟨w.heap.size + 1, 0, none⟩), .pointer (some ⟨w.heap.size, 0, none⟩)], .slice (some ⟨W.heap.size, 0, none⟩) 1 1] (W.alloc (.cells #[.int .i64 ka, .bool na, .int .i64 ea, .string sa] 25)) fun x w' => x = .returned (rsD (whR f mode ka na ea sa).1 (whR f mode ka na ea sa).2) ∧ Below (W.alloc (.cells #[.int .i64 ka, .bool na, .int .i64 ea, .string sa] 25)).heap.size (W.alloc (.cells #[.int .i64 ka, .bool na, .int .i64 ea, .string sa] 25)) w') :=
    ofNumbers_any f mode 90 _ HE.out 1 W.heap.size (fun _ => ka) (fun _ => na) (fun _ => ea) (fun _ => sa) (whX mode ka na ea sa) _ (by decide) (by decide) (by rw [hz5]; omega) (nrwO hg) (fun _ _ => hsa) (fun h1 h2 Y hY => by
      obtain ⟨hm, hr⟩ := rgn_one h1 h2
      exact whole1_any w.heap.size f mode ka na ea sa Y hm hr ((hN.1.next hb5).next hY))
  have HZ : Hid (At5 (W.alloc (.cells #[.int .i64 ka, .bool na, .int .i64 ea, .string sa] 25)) (w.heap.size + 2) (.int .i64 0) (.bool false) (.int .i64 0) (.string { data := #[] }) (.int .i64 0) ∧ Below w.heap.size w (W.alloc (.cells #[.int .i64 ka, .bool na, .int .i64 ea, .string sa] 25))) := ⟨hN.2.1.below hb5 hN.2.1.lt, hN.2.2.1.trans (hb5.mono hN.2.2.1.size)⟩
  rw [hN.2.2.2] at HO
  obtain ⟨q0, qa⟩ := hN.1
  obtain ⟨a0, a1, a2, a3, a4⟩ := qa.cells
  rw [← hW] at HO HZ q0 a0 a1 a2 a3
  clear hW hN hb5 hg hz5 hsa HE qa a4
  generalize whR f mode ka na ea sa = R at *
  obtain ⟨R0, F1, F2, F3, F4⟩ := R
  go_enter Tryz.func23, Tryz.ntmps23
  go_wp2_with fail
  refine HO.out.mono ?_
  rintro x w1 ⟨rfl, hb1⟩
  have HZ1 : Hid (At5 w1 (w.heap.size + 2) (.int .i64 0) (.bool false) (.int .i64 0) (.string { data := #[] }) (.int .i64 0) ∧ Below w.heap.size w w1) := ⟨HZ.out.1.below hb1 HZ.out.1.lt, HZ.out.2.trans (hb1.mono HZ.out.2.size)⟩
  clear hb1 HZ HO q0 a0 a1 a2 a3
  go_wp2_with (refine wpList_store_row rfl 29 (.tmp 6) (.tmp 12) rfl (w.heap.size + 2) #[.int .i64 F1, .bool R0, .int .i64 F2, .string F3, .int .i64 F4] rfl rfl _ _ HZ1.out.1 (by kernel_rfl) rfl (one5 _ _ _ _ _) ?_)
  have hP := (HZ1.out.1.row (.int .i64 F1) (.bool R0) (.int .i64 F2) (.string F3) (.int .i64 F4)).cells
  refine bodyPost_ret (results_res rfl _ _ rfl hP.1 hP.2.1 hP.2.2.1 hP.2.2.2.1 hP.2.2.2.2.1) rfl ?_
  exact ⟨rfl, bel_row HZ1.out.2 (by omega) _⟩
end Go.Proofs.YtnkoeidolmiheaaGreatDoor
