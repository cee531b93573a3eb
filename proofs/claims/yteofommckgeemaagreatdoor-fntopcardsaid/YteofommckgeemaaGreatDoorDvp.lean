/-
  What Div tells: plain facts.
-/
import Derived.Test.YteofommckgeemaaGreatDoorSpq
import Derived.Shelf.Abstract
import Derived.Test.YteofommckgeemaaGreatDoorSpa
import Derived.Test.YteofommckgeemaaGreatDoorFinA
import Derived.Test.YteofommckgeemaaGreatDoorSps
import Derived.Test.YteofommckgeemaaGreatDoorFnb
import Derived.Test.YteofommckgeemaaGreatDoorSpe
import Derived.Test.YteofommckgeemaaGreatDoorSmn
import Derived.Deep.CutBlock
import Derived.Deep.DeepCutAuto
import Derived.Deep.LoopGhost
import Derived.Great.Walk
import Derived.Laws.CopyOwn
import Derived.Laws.Tables
import Derived.Test.YteofommckgeemaaGreatDoorRows
import Derived.WalkKit
import Derived.Test.YteofommckgeemaaGreatDoorFinP
import Derived.Test.YteofommckgeemaaGreatDoorFmt
import Derived.Test.YteofommckgeemaaGreatDoorSl

namespace Go.Proofs.YteofommckgeemaaGreatDoor
open Go.RowKit
set_option linter.unusedVariables false
set_option maxRecDepth 100000
/-- The boxes of an operation on three numbers. -/
abbrev capW3 (w : World) (f mode : Int) (ka : Int) (na : Bool) (ea : Int) (sa : ByteArray) (kb : Int) (nb : Bool) (eb : Int) (sb : ByteArray) (kc : Int) (nc : Bool) (ec : Int) (sc : ByteArray) : World :=
  svmW ((w.alloc (.cells #[.int .i64 f] 2)).alloc (.cells #[.int .i64 mode] 2)) ka na ea sa kb nb eb sb kc nc ec sc
theorem cap3_new (w : World) (f mode : Int) (ka : Int) (na : Bool) (ea : Int) (sa : ByteArray) (kb : Int) (nb : Bool) (eb : Int) (sb : ByteArray) (kc : Int) (nc : Bool) (ec : Int) (sc : ByteArray) :
    Cap3 (capW3 w f mode ka na ea sa kb nb eb sb kc nc ec sc) w.heap.size f mode ka na ea sa kb nb eb sb kc nc ec sc ∧ At5 (capW3 w f mode ka na ea sa kb nb eb sb kc nc ec sc) (w.heap.size + 5) (.int .i64 0) (.bool false) (.int .i64 0) (.string { data := #[] }) (.int .i64 0) ∧ Below w.heap.size w (capW3 w f mode ka na ea sa kb nb eb sb kc nc ec sc) := by
  unfold capW3
  have c1 := new_cell1 w (.int .i64 f) 2
  have z1 := new_size w (.cells #[.int .i64 f] 2)
  have b1 : Below w.heap.size w (w.alloc (.cells #[.int .i64 f] 2)) := (Below.refl _ _).alloc (Nat.le_refl _) _
  generalize w.alloc (.cells #[.int .i64 f] 2) = w1 at *
  have c2 := new_cell1 w1 (.int .i64 mode) 2
  have z2 := new_size w1 (.cells #[.int .i64 mode] 2)
  have b2 : Below w1.heap.size w1 (w1.alloc (.cells #[.int .i64 mode] 2)) := (Below.refl _ _).alloc (Nat.le_refl _) _
  have c1' := (b2.cell (p := ⟨w.heap.size, 0, none⟩) (show w.heap.size < w1.heap.size by omega)).trans c1
  generalize w1.alloc (.cells #[.int .i64 mode] 2) = w2 at *
  have h3 := svm_new w2 ka na ea sa kb nb eb sb kc nc ec sc
  rw [z1] at c2
  have e2 : w2.heap.size = w.heap.size + 2 := by omega
  have hb2 : Below w.heap.size w w2 := b1.trans (b2.mono b1.size)
  have hb3 : Below w2.heap.size w2 (svmW w2 ka na ea sa kb nb eb sb kc nc ec sc) := h3.2.2.2.2.1
  refine ⟨⟨(hb3.cell (p := ⟨w.heap.size, 0, none⟩) (show w.heap.size < w2.heap.size by omega)).trans c1', (hb3.cell (p := ⟨w.heap.size + 1, 0, none⟩) (show w.heap.size + 1 < w2.heap.size by omega)).trans c2, ?_, ?_, ?_⟩, ?_, hb2.trans (hb3.mono hb2.size)⟩
  · have := h3.1; rw [e2] at this; exact this
  · have := h3.2.1; rw [e2] at this; exact this
  · have := h3.2.2.1; rw [e2] at this; exact this
  · have := h3.2.2.2.1; rw [e2] at this; exact this
set_option maxRecDepth 100000 in
set_option maxHeartbeats 1000000 in
theorem iFma_any (f mode : Int) (ka : Int) (na : Bool) (ea : Int) (sa : ByteArray) (kb : Int) (nb : Bool) (eb : Int) (sb : ByteArray) (kc : Int) (nc : Bool) (ec : Int) (sc : ByteArray) (w : World) (hsa : sa.size ≤ 4611686018427387904) (hsb : sb.size ≤ 4611686018427387904) (hsc : sc.size ≤ 4611686018427387904) :
    Calls Tryz.prog 33 #[.int .i64 f, .int .i64 mode, numV ka na ea sa, numV kb nb eb sb, numV kc nc ec sc] w fun x w' => x = .returned (rsD (fmaR f mode ka na ea sa kb nb eb sb kc nc ec sc).1 (fmaR f mode ka na ea sa kb nb eb sb kc nc ec sc).2) ∧ Below w.heap.size w w' := by
  have hmf : ∀ (fn : Fn) (first cap : Array Value) (w : World), (Instr.makeFunc fn first cap).run Tryz.prog w = .ok (.func fn first cap) w := fun _ _ _ _ => rfl
  have HN : Hid (Cap3 (capW3 w f mode ka na ea sa kb nb eb sb kc nc ec sc) w.heap.size f mode ka na ea sa kb nb eb sb kc nc ec sc ∧ At5 (capW3 w f mode ka na ea sa kb nb eb sb kc nc ec sc) (w.heap.size + 5) (.int .i64 0) (.bool false) (.int .i64 0) (.string { data := #[] }) (.int .i64 0) ∧ Below w.heap.size w (capW3 w f mode ka na ea sa kb nb eb sb kc nc ec sc)) := cap3_new w f mode ka na ea sa kb nb eb sb kc nc ec sc
  obtain ⟨R, hR⟩ : ∃ R, fmaR f mode ka na ea sa kb nb eb sb kc nc ec sc = R := ⟨_, rfl⟩
  have H1 : ∀ X, Cap3 X w.heap.size f mode ka na ea sa kb nb eb sb kc nc ec sc → Calls Tryz.prog 90 #[.pointer (some ⟨w.heap.size, 0, none⟩), .pointer (some ⟨w.heap.size + 1, 0, none⟩), .pointer (some ⟨w.heap.size + 2, 0, none⟩), .pointer (some ⟨w.heap.size + 3, 0, none⟩), .pointer (some ⟨w.heap.size + 4, 0, none⟩)] X fun x w' => (x = .returned (rsD R.1 R.2) ∨ x = thrown (rsD R.1 R.2)) ∧ Below X.heap.size X w' := fun X hC => by
    rw [← hR]; exact fma1_any w.heap.size f mode ka na ea sa kb nb eb sb kc nc ec sc X hsa hsb hsc hC
  rw [hR]
  obtain ⟨R0, F1, F2, F3, F4⟩ := R
  have HF : Hid (Calls Tryz.prog 73 #[.func (.func 90) #[] #[.pointer (some ⟨w.heap.size, 0, none⟩), .pointer (some ⟨w.heap.size + 1, 0, none⟩), .pointer (some ⟨w.heap.size + 1 + 1, 0, none⟩), .pointer (some ⟨w.heap.size + 1 + 1 + 1, 0, none⟩), .pointer (some ⟨w.heap.size + 1 + 1 + 1 + 1, 0, none⟩)]] (capW3 w f mode ka na ea sa kb nb eb sb kc nc ec sc) fun e w' => e = .returned (rsV F1 R0 F2 F3 F4) ∧ Below (capW3 w f mode ka na ea sa kb nb eb sb kc nc ec sc).heap.size (capW3 w f mode ka na ea sa kb nb eb sb kc nc ec sc) w') :=
    atFace_any 90 _ (enters_of Tryz.func90 (by kernel_rfl) rfl) F1 R0 F2 F3 F4 _ (fun X hX => H1 X (HN.out.1.next hX))
  clear hR H1 hsa hsb hsc
  go_enter Tryz.func33, Tryz.ntmps33
  go_wp2_with fail
  refine HF.out.mono ?_
  rintro x w1 ⟨rfl, hb1⟩
  have HZ1 : Hid (At5 w1 (w.heap.size + 5) (.int .i64 0) (.bool false) (.int .i64 0) (.string { data := #[] }) (.int .i64 0) ∧ Below w.heap.size w w1) := ⟨HN.out.2.1.below hb1 HN.out.2.1.lt, HN.out.2.2.trans (hb1.mono HN.out.2.2.size)⟩
  clear hb1 HN HF
  go_wp2_with (refine wpList_store_row rfl 90 (.tmp 10) (.tmp 12) rfl (w.heap.size + 5) #[.int .i64 F1, .bool R0, .int .i64 F2, .string F3, .int .i64 F4] rfl rfl _ _ HZ1.out.1 (by kernel_rfl) rfl (one5 _ _ _ _ _) ?_)
  have hP := (HZ1.out.1.row (.int .i64 F1) (.bool R0) (.int .i64 F2) (.string F3) (.int .i64 F4)).cells
  refine bodyPost_ret (results_res rfl _ _ rfl hP.1 hP.2.1 hP.2.2.1 hP.2.2.2.1 hP.2.2.2.2.1) rfl ?_
  exact ⟨rfl, bel_row HZ1.out.2 (by omega) _⟩
end Go.Proofs.YteofommckgeemaaGreatDoor
namespace Go.Proofs.YteofommckgeemaaGreatDoor
open Go.RowKit
set_option linter.unusedVariables false
set_option maxRecDepth 100000
abbrev R5o := Bool × (Int × Int × ByteArray × Int)
/-- What an operation on numbers tells, R being told of right ones that are no NaNs. -/
def ofR (f m : Int) (n : Nat) (K : Nat → Int) (B : Nat → Bool) (E : Nat → Int) (S : Nat → ByteArray) (R : R5o) : R5o :=
  if rightB f m n K B E S then (if spB n K then (false, (3, 0, { data := #[] }, spF n K)) else R) else (false, (0, 0, { data := #[] }, 0))
/-- What the helper's closure sees: format, mode, what is to be done, the numbers. -/
def CapO (X : World) (p : Nat) (f mode : Int) (F : Nat) (caps : Array Value) (g n : Nat) : Prop :=
  X.cell? ⟨p, 0, none⟩ = some (.int .i64 f) ∧ X.cell? ⟨p + 1, 0, none⟩ = some (.int .i64 mode) ∧ X.cell? ⟨p + 2, 0, none⟩ = some (.func (.func F) #[] caps) ∧ X.cell? ⟨p + 3, 0, none⟩ = some (.slice (some ⟨g, 0, none⟩) n n) ∧ p + 3 < X.heap.size
theorem CapO.next {X X' : World} {p : Nat} {f mode : Int} {F : Nat} {caps : Array Value} {g n : Nat} (h : CapO X p f mode F caps g n) (hb : Below X.heap.size X X') : CapO X' p f mode F caps g n := by
  obtain ⟨h0, h1, h2, h3, h4⟩ := h
  exact ⟨(hb.cell (p := ⟨p, 0, none⟩) (show p < X.heap.size by omega)).trans h0, (hb.cell (p := ⟨p + 1, 0, none⟩) (show p + 1 < X.heap.size by omega)).trans h1, (hb.cell (p := ⟨p + 2, 0, none⟩) (show p + 2 < X.heap.size by omega)).trans h2, (hb.cell (p := ⟨p + 3, 0, none⟩) (show p + 3 < X.heap.size by omega)).trans h3, Nat.lt_of_lt_of_le h4 hb.size⟩
theorem capO_new (w : World) (f mode : Int) (F : Nat) (caps : Array Value) (g n : Nat) (t0 t1 t2 t3 : TypeId) :
    CapO ((((w.alloc (.cells #[.int .i64 f] t0)).alloc (.cells #[.int .i64 mode] t1)).alloc (.cells #[.func (.func F) #[] caps] t2)).alloc (.cells #[.slice (some ⟨g, 0, none⟩) n n] t3)) w.heap.size f mode F caps g n ∧ Below w.heap.size w ((((w.alloc (.cells #[.int .i64 f] t0)).alloc (.cells #[.int .i64 mode] t1)).alloc (.cells #[.func (.func F) #[] caps] t2)).alloc (.cells #[.slice (some ⟨g, 0, none⟩) n n] t3)) ∧ ((((w.alloc (.cells #[.int .i64 f] t0)).alloc (.cells #[.int .i64 mode] t1)).alloc (.cells #[.func (.func F) #[] caps] t2)).alloc (.cells #[.slice (some ⟨g, 0, none⟩) n n] t3)).heap.size = w.heap.size + 4 := by
  have c1 := new_cell1 w (.int .i64 f) t0
  have z1 := new_size w (.cells #[.int .i64 f] t0)
  have b1 : Below w.heap.size w (w.alloc (.cells #[.int .i64 f] t0)) := (Below.refl _ _).alloc (Nat.le_refl _) _
  generalize w.alloc (.cells #[.int .i64 f] t0) = w1 at *
  have c2 := new_cell1 w1 (.int .i64 mode) t1
  have z2 := new_size w1 (.cells #[.int .i64 mode] t1)
  have b2 : Below w1.heap.size w1 (w1.alloc (.cells #[.int .i64 mode] t1)) := (Below.refl _ _).alloc (Nat.le_refl _) _
  generalize w1.alloc (.cells #[.int .i64 mode] t1) = w2 at *
  have c3 := new_cell1 w2 (.func (.func F) #[] caps) t2
  have z3 := new_size w2 (.cells #[.func (.func F) #[] caps] t2)
  have b3 : Below w2.heap.size w2 (w2.alloc (.cells #[.func (.func F) #[] caps] t2)) := (Below.refl _ _).alloc (Nat.le_refl _) _
  generalize w2.alloc (.cells #[.func (.func F) #[] caps] t2) = w3 at *
  have c4 := new_cell1 w3 (.slice (some ⟨g, 0, none⟩) n n) t3
  have z4 := new_size w3 (.cells #[.slice (some ⟨g, 0, none⟩) n n] t3)
  have b4 : Below w3.heap.size w3 (w3.alloc (.cells #[.slice (some ⟨g, 0, none⟩) n n] t3)) := (Below.refl _ _).alloc (Nat.le_refl _) _
  generalize w3.alloc (.cells #[.slice (some ⟨g, 0, none⟩) n n] t3) = w4 at *
  rw [z1] at c2
  rw [z2, z1] at c3
  rw [z3, z2, z1] at c4
  have b34 := b3.trans (b4.mono b3.size)
  have b24 := b2.trans (b34.mono b2.size)
  refine ⟨⟨(b24.cell (p := ⟨w.heap.size, 0, none⟩) (show w.heap.size < w1.heap.size by omega)).trans c1, (b34.cell (p := ⟨w.heap.size + 1, 0, none⟩) (show w.heap.size + 1 < w2.heap.size by omega)).trans c2, (b4.cell (p := ⟨w.heap.size + 2, 0, none⟩) (show w.heap.size + 2 < w3.heap.size by omega)).trans c3, c4, by omega⟩, b1.trans (b24.mono b1.size), by omega⟩
set_option maxRecDepth 100000 in
set_option maxHeartbeats 1000000 in
theorem ofNumbers1_any (p : Nat) (f mode : Int) (F : Nat) (caps : Array Value) (hent : ∀ args w, (callFunc F args).run Tryz.prog w = .ok (.enter F args) w) (n g : Nat) (K : Nat → Int) (B : Nat → Bool) (E : Nat → Int) (S : Nat → ByteArray) (R : R5o) (X : World) (h1 : 1 ≤ n) (hn : n ≤ 3) (hg : g < X.heap.size) (hr : NRw X g n K B E S) (hs : ∀ i, i < n → (S i).size ≤ 4611686018427387904) (hC : CapO X p f mode F caps g n)
    (HW : Hid (rightB f mode n K B E S = true → spB n K = false → ∀ Y, Below X.heap.size X Y → Calls Tryz.prog F caps Y fun e w' => (e = .returned (rsD R.1 R.2) ∨ e = thrown (rsD R.1 R.2)) ∧ Below Y.heap.size Y w')) :
    Calls Tryz.prog 156 #[.pointer (some ⟨p, 0, none⟩), .pointer (some ⟨p + 1, 0, none⟩), .pointer (some ⟨p + 3, 0, none⟩), .pointer (some ⟨p + 2, 0, none⟩)] X fun x w' => (x = .returned (rsD (ofR f mode n K B E S R).1 (ofR f mode n K B E S R).2) ∨ x = thrown (rsD (ofR f mode n K B E S R).1 (ofR f mode n K B E S R).2)) ∧ Below X.heap.size X w' := by
  obtain ⟨Q, hQ⟩ : ∃ Q, ofR f mode n K B E S R = Q := ⟨_, rfl⟩
  have HQ : Hid (ofR f mode n K B E S R = Q) := hQ
  rw [hQ]
  clear hQ
  have hb0 : Below X.heap.size X (X.alloc (.cells #[.int .i64 0, .bool false, .int .i64 0, .string { data := #[] }, .int .i64 0] 90)) := (Below.refl _ _).alloc (Nat.le_refl _) _
  have HZ : Hid (At5 (X.alloc (.cells #[.int .i64 0, .bool false, .int .i64 0, .string { data := #[] }, .int .i64 0] 90)) X.heap.size (.int .i64 0) (.bool false) (.int .i64 0) (.string { data := #[] }) (.int .i64 0) ∧ Below X.heap.size X (X.alloc (.cells #[.int .i64 0, .bool false, .int .i64 0, .string { data := #[] }, .int .i64 0] 90)) ∧ CapO (X.alloc (.cells #[.int .i64 0, .bool false, .int .i64 0, .string { data := #[] }, .int .i64 0] 90)) p f mode F caps g n) := ⟨at5_new X _ _ _ _ _, hb0, hC.next hb0⟩
  obtain ⟨q0, q1, q2, q3, -⟩ := HZ.out.2.2
  have HTs : Hid (Calls Tryz.prog 75 #[.int .i64 f, .int .i64 mode, .slice (some ⟨g, 0, none⟩) n n] (X.alloc (.cells #[.int .i64 0, .bool false, .int .i64 0, .string { data := #[] }, .int .i64 0] 90)) fun x w' => x = tsE f mode n K B E S ∧ Below (X.alloc (.cells #[.int .i64 0, .bool false, .int .i64 0, .string { data := #[] }, .int .i64 0] 90)).heap.size (X.alloc (.cells #[.int .i64 0, .bool false, .int .i64 0, .string { data := #[] }, .int .i64 0] 90)) w') := throwSpecials_any f mode n g K B E S _ h1 hn (Nat.lt_of_lt_of_le hg hb0.size) (hr.below hb0 hg) hs
  clear h1 hn hg hr hs hC hb0
  cases hO : rightB f mode n K B E S with
  | false =>
    have ET : Hid (tsE f mode n K B E S = thrown (rsV 0 false 0 { data := #[] } 0)) := by show _ = _; unfold tsE; rw [hO]; rfl
    have EQ : Hid (Q = (false, (0, 0, { data := #[] }, 0))) := by show _ = _; rw [← HQ.out]; unfold ofR; rw [hO]; rfl
    clear HW hO HQ
    go_enter Tryz.func156, Tryz.ntmps156
    go_wp2_with fail
    refine HTs.out.mono ?_
    rintro x w1 ⟨rfl, hb1⟩
    rw [ET.out]
    go_wp2
    exact ⟨rfl, .inr (by rw [EQ.out]), HZ.out.2.1.trans (hb1.mono HZ.out.2.1.size)⟩
  | true =>
    cases hS : spB n K with
    | true =>
      have ET : Hid (tsE f mode n K B E S = thrown (rsV 3 false 0 { data := #[] } (spF n K))) := by show _ = _; unfold tsE; rw [hO, hS]; rfl
      have EQ : Hid (Q = (false, (3, 0, { data := #[] }, spF n K))) := by show _ = _; rw [← HQ.out]; unfold ofR; rw [hO, hS]; rfl
      clear HW hO hS HQ
      generalize spF n K = FL at *
      go_enter Tryz.func156, Tryz.ntmps156
      go_wp2_with fail
      refine HTs.out.mono ?_
      rintro x w1 ⟨rfl, hb1⟩
      rw [ET.out]
      go_wp2
      exact ⟨rfl, .inr (by rw [EQ.out]), HZ.out.2.1.trans (hb1.mono HZ.out.2.1.size)⟩
    | false =>
      have ET : Hid (tsE f mode n K B E S = .returned (.tuple #[])) := by show _ = _; unfold tsE; rw [hO, hS]; rfl
      have EQ : Hid (Q = R) := by show _ = _; rw [← HQ.out]; unfold ofR; rw [hO, hS]; rfl
      have HW2 : Hid (∀ Y, Below X.heap.size X Y → Calls Tryz.prog F caps Y fun e w' => (e = .returned (rsD R.1 R.2) ∨ e = thrown (rsD R.1 R.2)) ∧ Below Y.heap.size Y w') := HW.out hO hS
      clear HW hO hS HQ
      obtain ⟨R0, F1, F2, F3, F4⟩ := R
      go_enter Tryz.func156, Tryz.ntmps156
      go_wp2_with fail
      refine HTs.out.mono ?_
      rintro x w1 ⟨rfl, hb1⟩
      rw [ET.out]
      have HZ1 : Hid (At5 w1 X.heap.size (.int .i64 0) (.bool false) (.int .i64 0) (.string { data := #[] }) (.int .i64 0) ∧ Below X.heap.size X w1 ∧ CapO w1 p f mode F caps g n) := ⟨HZ.out.1.below hb1 HZ.out.1.lt, HZ.out.2.1.trans (hb1.mono HZ.out.2.1.size), HZ.out.2.2.next hb1⟩
      clear hb1 HZ HTs q0 q1 q2 q3 ET
      obtain ⟨q0, q1, q2, q3, -⟩ := HZ1.out.2.2
      go_wp2_with fail
      refine (HW2.out _ HZ1.out.2.1).mono ?_
      rintro x w2 ⟨rfl | rfl, hb2⟩
      · have HZ2 : Hid (At5 w2 X.heap.size (.int .i64 0) (.bool false) (.int .i64 0) (.string { data := #[] }) (.int .i64 0) ∧ Below X.heap.size X w2) := ⟨HZ1.out.1.below hb2 HZ1.out.1.lt, HZ1.out.2.1.trans (hb2.mono HZ1.out.2.1.size)⟩
        clear hb2 HZ1 HW2 q0 q1 q2 q3
        go_wp2_with (refine wpList_store_row rfl 90 (.tmp 4) (.tmp 10) rfl X.heap.size #[.int .i64 F1, .bool R0, .int .i64 F2, .string F3, .int .i64 F4] rfl rfl _ _ HZ2.out.1 (by kernel_rfl) rfl (one5 _ _ _ _ _) ?_)
        have hP := (HZ2.out.1.row (.int .i64 F1) (.bool R0) (.int .i64 F2) (.string F3) (.int .i64 F4)).cells
        refine bodyPost_ret (results_res rfl _ _ rfl hP.1 hP.2.1 hP.2.2.1 hP.2.2.2.1 hP.2.2.2.2.1) rfl ?_
        exact ⟨.inl (by rw [EQ.out]), bel_row HZ2.out.2 (Nat.le_refl _) _⟩
      · have HB2 : Hid (Below X.heap.size X w2) := HZ1.out.2.1.trans (hb2.mono HZ1.out.2.1.size)
        clear hb2 HZ1 HW2 q0 q1 q2 q3
        go_wp2
        exact ⟨rfl, .inr (by rw [EQ.out]), HB2.out⟩
set_option maxRecDepth 100000 in
set_option maxHeartbeats 1000000 in
theorem ofNumbers_any (f mode : Int) (F : Nat) (caps : Array Value) (hent : ∀ args w, (callFunc F args).run Tryz.prog w = .ok (.enter F args) w) (n g : Nat) (K : Nat → Int) (B : Nat → Bool) (E : Nat → Int) (S : Nat → ByteArray) (R : R5o) (w : World) (h1 : 1 ≤ n) (hn : n ≤ 3) (hg : g < w.heap.size) (hr : NRw w g n K B E S) (hs : ∀ i, i < n → (S i).size ≤ 4611686018427387904)
    (HW : Hid (rightB f mode n K B E S = true → spB n K = false → ∀ Y, Below w.heap.size w Y → Calls Tryz.prog F caps Y fun e w' => (e = .returned (rsD R.1 R.2) ∨ e = thrown (rsD R.1 R.2)) ∧ Below Y.heap.size Y w')) :
    Calls Tryz.prog 82 #[.int .i64 f, .int .i64 mode, .func (.func F) #[] caps, .slice (some ⟨g, 0, none⟩) n n] w fun x w' => x = .returned (rsD (ofR f mode n K B E S R).1 (ofR f mode n K B E S R).2) ∧ Below w.heap.size w w' := by
  have hmf : ∀ (fn : Fn) (first cap : Array Value) (w : World), (Instr.makeFunc fn first cap).run Tryz.prog w = .ok (.func fn first cap) w := fun _ _ _ _ => rfl
  have H1 : Hid (∀ X, Below w.heap.size w X → CapO X w.heap.size f mode F caps g n → Calls Tryz.prog 156 #[.pointer (some ⟨w.heap.size, 0, none⟩), .pointer (some ⟨w.heap.size + 1, 0, none⟩), .pointer (some ⟨w.heap.size + 3, 0, none⟩), .pointer (some ⟨w.heap.size + 2, 0, none⟩)] X fun x w' => (x = .returned (rsD (ofR f mode n K B E S R).1 (ofR f mode n K B E S R).2) ∨ x = thrown (rsD (ofR f mode n K B E S R).1 (ofR f mode n K B E S R).2)) ∧ Below X.heap.size X w') := fun X hX hC =>
    ofNumbers1_any w.heap.size f mode F caps hent n g K B E S R X h1 hn (Nat.lt_of_lt_of_le hg hX.size) (hr.below hX hg) hs hC (fun a b Y hY => HW.out a b Y (hX.trans (hY.mono hX.size)))
  generalize ofR f mode n K B E S R = Q at *
  obtain ⟨R0, F1, F2, F3, F4⟩ := Q
  have HN : Hid (∀ t0 t1 t2 t3, CapO ((((w.alloc (.cells #[.int .i64 f] t0)).alloc (.cells #[.int .i64 mode] t1)).alloc (.cells #[.func (.func F) #[] caps] t2)).alloc (.cells #[.slice (some ⟨g, 0, none⟩) n n] t3)) w.heap.size f mode F caps g n ∧ Below w.heap.size w ((((w.alloc (.cells #[.int .i64 f] t0)).alloc (.cells #[.int .i64 mode] t1)).alloc (.cells #[.func (.func F) #[] caps] t2)).alloc (.cells #[.slice (some ⟨g, 0, none⟩) n n] t3)) ∧ ((((w.alloc (.cells #[.int .i64 f] t0)).alloc (.cells #[.int .i64 mode] t1)).alloc (.cells #[.func (.func F) #[] caps] t2)).alloc (.cells #[.slice (some ⟨g, 0, none⟩) n n] t3)).heap.size = w.heap.size + 4) := capO_new w f mode F caps g n
  clear h1 hn hg hr hs HW hent
  have HE : Hid (∀ args w, (callFunc 156 args).run Tryz.prog w = .ok (.enter 156 args) w) := enters_of Tryz.func156 (by kernel_rfl) rfl
  go_enter Tryz.func82, Tryz.ntmps82
  go_wp2_with fail
  generalize hW : (((w.alloc _).alloc _).alloc _).alloc _ = W
  obtain ⟨hC0, hb0, hz0⟩ := HN.out _ _ _ _
  rw [hW] at hC0 hb0 hz0
  clear hW
  have hb1 : Below W.heap.size W (W.alloc (.cells #[.int .i64 0, .bool false, .int .i64 0, .string { data := #[] }, .int .i64 0] 90)) := (Below.refl _ _).alloc (Nat.le_refl _) _
  have HZ0 : Hid (At5 (W.alloc (.cells #[.int .i64 0, .bool false, .int .i64 0, .string { data := #[] }, .int .i64 0] 90)) (w.heap.size + 4) (.int .i64 0) (.bool false) (.int .i64 0) (.string { data := #[] }) (.int .i64 0) ∧ Below w.heap.size w (W.alloc (.cells #[.int .i64 0, .bool false, .int .i64 0, .string { data := #[] }, .int .i64 0] 90)) ∧ CapO (W.alloc (.cells #[.int .i64 0, .bool false, .int .i64 0, .string { data := #[] }, .int .i64 0] 90)) w.heap.size f mode F caps g n) := ⟨by rw [← hz0]; exact at5_new W _ _ _ _ _, hb0.trans (hb1.mono hb0.size), hC0.next hb1⟩
  clear hC0 hb0 hb1 hz0 HN
  refine (atFace_any 156 _ HE.out F1 R0 F2 F3 F4 _ (fun X hX => H1.out X (HZ0.out.2.1.trans (hX.mono HZ0.out.2.1.size)) (HZ0.out.2.2.next hX))).mono ?_
  rintro x w1 ⟨rfl, hb1⟩
  have HZ1 : Hid (At5 w1 (w.heap.size + 4) (.int .i64 0) (.bool false) (.int .i64 0) (.string { data := #[] }) (.int .i64 0) ∧ Below w.heap.size w w1) := ⟨HZ0.out.1.below hb1 HZ0.out.1.lt, HZ0.out.2.1.trans (hb1.mono HZ0.out.2.1.size)⟩
  clear hb1 HZ0 H1 HE
  go_wp2_with (refine wpList_store_row rfl 90 (.tmp 8) (.tmp 10) rfl (w.heap.size + 4) #[.int .i64 F1, .bool R0, .int .i64 F2, .string F3, .int .i64 F4] rfl rfl _ _ HZ1.out.1 (by kernel_rfl) rfl (one5 _ _ _ _ _) ?_)
  have hP := (HZ1.out.1.row (.int .i64 F1) (.bool R0) (.int .i64 F2) (.string F3) (.int .i64 F4)).cells
  refine bodyPost_ret (results_res rfl _ _ rfl hP.1 hP.2.1 hP.2.2.1 hP.2.2.2.1 hP.2.2.2.2.1) rfl ?_
  exact ⟨rfl, bel_row HZ1.out.2 (by omega) _⟩
end Go.Proofs.YteofommckgeemaaGreatDoor

namespace Go.Proofs.YteofommckgeemaaGreatDoor
open Go.RowKit
set_option linter.unusedVariables false
set_option maxRecDepth 100000
theorem nrwO {W : World} {g : Nat} {T : TypeId} {k : Int} {n : Bool} {e : Int} {s : ByteArray} (h : W.heap[g]? = some (.cells #[.int .i64 k, .bool n, .int .i64 e, .string s] T (0, 0))) : NRw W g 1 (fun _ => k) (fun _ => n) (fun _ => e) (fun _ => s) := fun i hi => by
  obtain rfl : i = 0 := by omega
  exact ⟨(cell_lit h 0).trans rfl, (cell_lit h 1).trans rfl, (cell_lit h 2).trans rfl, (cell_lit h 3).trans rfl⟩
theorem shift_tn {v n : Int} (h : Nok v) (h2 : Nok (v * 10 ^ n.toNat)) (h0 : 0 ≤ n) (h1 : n ≤ 200) : shiftS (tn v) n = tn (v * 10 ^ n.toNat) := by
  unfold shiftS
  rw [tn_ok h, decide_eq_true h0, decide_eq_true h1, nv_tn h, fit_tn h2]
  rfl
theorem tnSz (v : Int) : (tn v).size ≤ 4611686018427387904 := Nat.le_trans (tn_size v) (by decide)
/-- A number's box and a result's. -/
def N2 (w : World) (kx : Int) (nx : Bool) (ex : Int) (sx : ByteArray) (W : World) : Prop :=
  At4r W w.heap.size (.int .i64 kx) (.bool nx) (.int .i64 ex) (.string sx) ∧ At4r W (w.heap.size + 1) (.int .i64 0) (.bool false) (.int .i64 0) (.string { data := #[] }) ∧ Below w.heap.size w W
theorem N2.next {w W W' : World} {kx : Int} {nx : Bool} {ex : Int} {sx : ByteArray} (h : N2 w kx nx ex sx W) (hb : Below W.heap.size W W') : N2 w kx nx ex sx W' :=
  ⟨h.1.next hb, h.2.1.next hb, h.2.2.trans (hb.mono h.2.2.size)⟩
end Go.Proofs.YteofommckgeemaaGreatDoor

namespace Go.Proofs.YteofommckgeemaaGreatDoor
open Go.RowKit
set_option linter.unusedVariables false
set_option maxRecDepth 100000
/-- A right number that is no NaN, as the walks want it. -/
def Rgn (f : Int) (k : Int) (e : Int) (s : ByteArray) : Prop := (f = 64 ∨ f = 128) ∧ s = tx (dl s) ∧ (k = 1 ∨ k = 2) ∧ (k = 1 → Canon (dl s) ∧ ((dl s).length : Int) ≤ limP f ∧ limL f ≤ e ∧ e ≤ limH f) ∧ (k = 2 → e = 0 ∧ s = { data := #[] })
theorem rgn_of (f k : Int) (b : Bool) (e : Int) (s : ByteArray) (h : numB f k b e s = true) (h3 : k ≠ 3) (h4 : k ≠ 4) : Rgn f k e s := by
  obtain ⟨a, b', c, d⟩ := right_two f k b e s h h3 h4
  refine ⟨a, b', c, d, fun hk => ?_⟩
  subst hk
  unfold numB at h
  by_cases h0 : limP f = 0
  · rw [if_pos h0] at h; cases h
  rw [if_neg h0, if_neg (by decide), if_pos rfl] at h
  simp only [Bool.and_eq_true, decide_eq_true_eq] at h
  refine ⟨h.1, ?_⟩
  have hs : s.size = 0 := by
    have := h.2
    rw [ByteArray.toList_eq, List.isEmpty_iff] at this
    show s.data.size = 0
    rw [← Array.length_toList, this]; rfl
  apply ByteArray.ext
  exact Array.eq_empty_of_size_eq_zero hs
/-- Of one number that is right and no NaN. -/
theorem rgn_one {f m : Int} {k : Int} {b : Bool} {e : Int} {s : ByteArray} (h : rightB f m 1 (fun _ => k) (fun _ => b) (fun _ => e) (fun _ => s) = true) (hs : spB 1 (fun _ => k) = false) : (1 ≤ m ∧ m ≤ 5) ∧ Rgn f k e s := by
  unfold rightB at h
  simp only [Bool.and_eq_true, decide_eq_true_eq] at h
  have hn := of_decide_eq_false hs
  exact ⟨h.1, rgn_of f k b e s (h.2 0 (by decide)) (fun c => hn ⟨0, by decide, .inl c⟩) (fun c => hn ⟨0, by decide, .inr c⟩)⟩
/-- Of two. -/
theorem rgn_two {f m : Int} {ka kb : Int} {na nb : Bool} {ea eb : Int} {sa sb : ByteArray} (h : rightB f m 2 (tw2 ka kb) (tw2 na nb) (tw2 ea eb) (tw2 sa sb) = true) (hs : spB 2 (tw2 ka kb) = false) : (1 ≤ m ∧ m ≤ 5) ∧ Rgn f ka ea sa ∧ Rgn f kb eb sb := by
  unfold rightB at h
  simp only [Bool.and_eq_true, decide_eq_true_eq] at h
  have hn := of_decide_eq_false hs
  exact ⟨h.1, rgn_of f ka na ea sa (h.2 0 (by decide)) (fun c => hn ⟨0, by decide, .inl c⟩) (fun c => hn ⟨0, by decide, .inr c⟩), rgn_of f kb nb eb sb (h.2 1 (by decide)) (fun c => hn ⟨1, by decide, .inl c⟩) (fun c => hn ⟨1, by decide, .inr c⟩)⟩
theorem Rgn.tn {f k e : Int} {s : ByteArray} (h : Rgn f k e s) (hk : k = 1) : s = tn (vl (dl s)) ∧ Nok (vl (dl s)) ∧ 0 ≤ vl (dl s) ∧ vl (dl s) < 10 ^ (limP f).toNat ∧ (dl s).length ≤ 34 ∧ 1 ≤ (dl s).length ∧ s.size = (dl s).length ∧ (-7000 ≤ e ∧ e ≤ 7000) := by
  obtain ⟨hf, hs, -, h1, -⟩ := h
  obtain ⟨c, l, x, y⟩ := h1 hk
  have hL := lims f hf
  have hb := vl_bd (dl s) c.1
  have h34 : (dl s).length ≤ 34 := by omega
  have hp := c.2.1
  refine ⟨?_, ⟨hb.1, Int.lt_of_lt_of_le hb.2 (pow_mono _ _ (by omega))⟩, hb.1, Int.lt_of_lt_of_le hb.2 (pow_mono _ _ (by omega)), h34, hp, ?_, by omega, by omega⟩
  · show s = tx (nt (vl (dl s)))
    rw [← nt_of (dl s) (vl (dl s)) c rfl (by omega)]; exact hs
  · rw [hs, tx_size, ← hs]
theorem Rgn.small {f k e : Int} {s : ByteArray} (h : Rgn f k e s) : s.size ≤ 600 := by
  rcases h.2.2.1 with c | c
  · obtain ⟨-, -, -, -, l, -, z, -⟩ := h.tn c; omega
  · rw [(h.2.2.2.2 c).2]; decide
/-- What the closures of operations on one number see. -/
def Cp1 (X : World) (p : Nat) (mode : Int) (ka : Int) (na : Bool) (ea : Int) (sa : ByteArray) : Prop := X.cell? ⟨p, 0, none⟩ = some (.int .i64 mode) ∧ At4r X (p + 1) (.int .i64 ka) (.bool na) (.int .i64 ea) (.string sa)
theorem Cp1.next {X X' : World} {p : Nat} {mode : Int} {ka : Int} {na : Bool} {ea : Int} {sa : ByteArray} (h : Cp1 X p mode ka na ea sa) (hb : Below X.heap.size X X') : Cp1 X' p mode ka na ea sa :=
  ⟨(hb.cell (p := ⟨p, 0, none⟩) (show p < X.heap.size by have := h.2.lt; omega)).trans h.1, h.2.next hb⟩
end Go.Proofs.YteofommckgeemaaGreatDoor

namespace Go.Proofs.YteofommckgeemaaGreatDoor
open Go.RowKit
set_option linter.unusedVariables false
set_option maxRecDepth 100000
/-- Is a finite number nought? -/
def zB (k : Int) (s : ByteArray) : Bool := decide (k = 1) && decide (vl (dl s) = 0)
theorem isNought_rgn {f k e : Int} {s : ByteArray} (h : Rgn f k e s) (b : Bool) (w : World) : Calls Tryz.prog 93 #[numV k b e s] w fun x w' => x = .returned (.bool (zB k s)) ∧ Below w.heap.size w w' := by
  rcases h.2.2.1 with rfl | rfl
  · obtain ⟨hs, nk, -⟩ := h.tn rfl
    have := isNought_fin b e (vl (dl s)) w nk
    rw [← hs] at this
    exact this
  · exact isNought_inf b e s w
/-- Format, mode, two numbers. -/
def Cp2 (X : World) (p : Nat) (f mode : Int) (ka : Int) (na : Bool) (ea : Int) (sa : ByteArray) (kb : Int) (nb : Bool) (eb : Int) (sb : ByteArray) : Prop :=
  X.cell? ⟨p, 0, none⟩ = some (.int .i64 f) ∧ X.cell? ⟨p + 1, 0, none⟩ = some (.int .i64 mode) ∧ At4r X (p + 2) (.int .i64 ka) (.bool na) (.int .i64 ea) (.string sa) ∧ At4r X (p + 3) (.int .i64 kb) (.bool nb) (.int .i64 eb) (.string sb)
theorem Cp2.next {X X' : World} {p : Nat} {f mode : Int} {ka : Int} {na : Bool} {ea : Int} {sa : ByteArray} {kb : Int} {nb : Bool} {eb : Int} {sb : ByteArray} (h : Cp2 X p f mode ka na ea sa kb nb eb sb) (hb : Below X.heap.size X X') : Cp2 X' p f mode ka na ea sa kb nb eb sb := by
  have l3 := h.2.2.2.lt
  exact ⟨(hb.cell (p := ⟨p, 0, none⟩) (show p < X.heap.size by omega)).trans h.1, (hb.cell (p := ⟨p + 1, 0, none⟩) (show p + 1 < X.heap.size by omega)).trans h.2.1, h.2.2.1.next hb, h.2.2.2.next hb⟩
/-- The boxes of an operation on two numbers. -/
abbrev cp2W (w : World) (f mode : Int) (ka : Int) (na : Bool) (ea : Int) (sa : ByteArray) (kb : Int) (nb : Bool) (eb : Int) (sb : ByteArray) : World :=
  ((((w.alloc (.cells #[.int .i64 f] 2)).alloc (.cells #[.int .i64 mode] 2)).alloc (.cells #[.int .i64 ka, .bool na, .int .i64 ea, .string sa] 78)).alloc (.cells #[.int .i64 kb, .bool nb, .int .i64 eb, .string sb] 78)).alloc (.cells #[.int .i64 0, .bool false, .int .i64 0, .string { data := #[] }, .int .i64 0] 90)
theorem cp2_new (w : World) (f mode : Int) (ka : Int) (na : Bool) (ea : Int) (sa : ByteArray) (kb : Int) (nb : Bool) (eb : Int) (sb : ByteArray) :
    Cp2 (cp2W w f mode ka na ea sa kb nb eb sb) w.heap.size f mode ka na ea sa kb nb eb sb ∧ At5 (cp2W w f mode ka na ea sa kb nb eb sb) (w.heap.size + 4) (.int .i64 0) (.bool false) (.int .i64 0) (.string { data := #[] }) (.int .i64 0) ∧ Below w.heap.size w (cp2W w f mode ka na ea sa kb nb eb sb) ∧ (cp2W w f mode ka na ea sa kb nb eb sb).heap.size = w.heap.size + 5 := by
  unfold cp2W
  have c1 := new_cell1 w (.int .i64 f) 2
  have z1 := new_size w (.cells #[.int .i64 f] 2)
  have b1 : Below w.heap.size w (w.alloc (.cells #[.int .i64 f] 2)) := (Below.refl _ _).alloc (Nat.le_refl _) _
  generalize w.alloc (.cells #[.int .i64 f] 2) = w1 at *
  have c2 := new_cell1 w1 (.int .i64 mode) 2
  have z2 := new_size w1 (.cells #[.int .i64 mode] 2)
  have b2 : Below w1.heap.size w1 (w1.alloc (.cells #[.int .i64 mode] 2)) := (Below.refl _ _).alloc (Nat.le_refl _) _
  have c1' := (b2.cell (p := ⟨w.heap.size, 0, none⟩) (show w.heap.size < w1.heap.size by omega)).trans c1
  generalize w1.alloc (.cells #[.int .i64 mode] 2) = w2 at *
  have h3 := su_new w2 ka na ea sa kb nb eb sb
  have z3 : (suW w2 ka na ea sa kb nb eb sb).heap.size = w2.heap.size + 3 := by
    unfold suW
    rw [new_size, new_size, new_size]
  rw [z1] at c2
  have e2 : w2.heap.size = w.heap.size + 2 := by omega
  have hb2 : Below w.heap.size w w2 := b1.trans (b2.mono b1.size)
  have hb3 : Below w2.heap.size w2 (suW w2 ka na ea sa kb nb eb sb) := h3.2.2.2.1
  refine ⟨⟨(hb3.cell (p := ⟨w.heap.size, 0, none⟩) (show w.heap.size < w2.heap.size by omega)).trans c1', (hb3.cell (p := ⟨w.heap.size + 1, 0, none⟩) (show w.heap.size + 1 < w2.heap.size by omega)).trans c2, ?_, ?_⟩, ?_, hb2.trans (hb3.mono hb2.size), ?_⟩
  · have := h3.1; rw [e2] at this; exact this
  · have := h3.2.1; rw [e2] at this; exact this
  · have := h3.2.2.1; rw [e2] at this; exact this
  · show (suW w2 ka na ea sa kb nb eb sb).heap.size = _
    omega
theorem row2_new (W : World) (ka : Int) (na : Bool) (ea : Int) (sa : ByteArray) (kb : Int) (nb : Bool) (eb : Int) (sb : ByteArray) : NRw (W.alloc (.cells #[.int .i64 ka, .bool na, .int .i64 ea, .string sa, .int .i64 kb, .bool nb, .int .i64 eb, .string sb] 78)) W.heap.size 2 (tw2 ka kb) (tw2 na nb) (tw2 ea eb) (tw2 sa sb) ∧ W.heap.size < (W.alloc (.cells #[.int .i64 ka, .bool na, .int .i64 ea, .string sa, .int .i64 kb, .bool nb, .int .i64 eb, .string sb] 78)).heap.size :=
  ⟨nrw2 (heap_at W _), by rw [new_size]; omega⟩
/-- What roomIn gives: a closure over the number of a format's digits. -/
def RmV (b : Nat) : Value := .func (.func 158) #[] #[.pointer (some ⟨b, 0, none⟩)]
theorem roomIn_any (f : Int) (w : World) : Calls Tryz.prog 85 #[.int .i64 f] w fun x w' => ∃ b, x = .returned (RmV b) ∧ w'.cell? ⟨b, 0, none⟩ = some (.int .i64 (limP f)) ∧ w.heap.size ≤ b ∧ b < w'.heap.size ∧ Below w.heap.size w w' := by
  have hmf : ∀ (fn : Fn) (first cap : Array Value) (w : World), (Instr.makeFunc fn first cap).run Tryz.prog w = .ok (.func fn first cap) w := fun _ _ _ _ => rfl
  have HLm : Hid (∀ X, Calls Tryz.prog 157 #[.int .i64 f] X fun e w' => e = .returned (.tuple #[.int .i64 (limP f), .int .i64 (limL f), .int .i64 (limH f)]) ∧ Below X.heap.size X w') := fun X => iLimits_any f X
  generalize limL f = L0 at *
  generalize limH f = H0 at *
  generalize limP f = P at *
  go_enter Tryz.func85, Tryz.ntmps85
  go_wp2_with fail
  refine (HLm.out _).mono ?_
  rintro x w1 ⟨rfl, hb1⟩
  have HB1 : Hid (Below w.heap.size w w1) := hb1
  clear hb1 HLm
  go_wp2
  go_ret
  exact ⟨w1.heap.size, rfl, new_cell1 w1 _ _, HB1.out.size, by rw [new_size]; omega, HB1.out.alloc HB1.out.size _⟩
theorem room1_any (b : Nat) (P : Int) (s : ByteArray) (w : World) (hb : w.cell? ⟨b, 0, none⟩ = some (.int .i64 P)) (hP : 0 ≤ P ∧ P ≤ 34) (hs : s.size ≤ 600) :
    Calls Tryz.prog 158 #[.string s, .pointer (some ⟨b, 0, none⟩)] w fun x w' => x = .returned (.int .i64 (P - s.size)) ∧ w' = w := by
  have hw : IntKind.i64.wrap (P - (s.size : Int)) = P - s.size := by rw [IntKind.wrap_i64]; omega
  clear hP hs
  go_enter Tryz.func158, Tryz.ntmps158
  go_wp2
  go_ret
  exact ⟨rfl, rfl⟩
end Go.Proofs.YteofommckgeemaaGreatDoor
namespace Go.Proofs.YteofommckgeemaaGreatDoor
open Go.RowKit
set_option linter.unusedVariables false
set_option maxRecDepth 100000
/-- How many noughts stand behind the dividend. -/
def dvK (f : Int) (la lb : Nat) : Nat := (limP f - la + lb + 1).toNat
/-- What Div tells of two right numbers that are no NaNs. -/
def dvX (f mode : Int) (ka : Int) (na : Bool) (ea : Int) (sa : ByteArray) (kb : Int) (nb : Bool) (eb : Int) (sb : ByteArray) : R5o :=
  if (ka = 2 ∧ kb = 2) ∨ (zB ka sa = true ∧ zB kb sb = true) then (false, (3, 0, { data := #[] }, 1))
  else if ka = 2 then (!(na == nb), (2, 0, { data := #[] }, 0))
  else if kb = 2 then (!(na == nb), (1, limL f, { data := #[48] }, 0))
  else if zB kb sb = true then (!(na == nb), (2, 0, { data := #[] }, 2))
  else (!(na == nb), finD f mode (!(na == nb)) (nt (vl (dl sa) * 10 ^ dvK f (dl sa).length (dl sb).length / vl (dl sb))) (ea - eb - dvK f (dl sa).length (dl sb).length) (!decide (vl (dl sa) * 10 ^ dvK f (dl sa).length (dl sb).length % vl (dl sb) = 0)) (ea - eb))
/-- What Div tells. -/
def dvR (f mode : Int) (ka : Int) (na : Bool) (ea : Int) (sa : ByteArray) (kb : Int) (nb : Bool) (eb : Int) (sb : ByteArray) : R5o := ofR f mode 2 (tw2 ka kb) (tw2 na nb) (tw2 ea eb) (tw2 sa sb) (dvX f mode ka na ea sa kb nb eb sb)
theorem len_lo (R : List Int) (h : Canon R) (m : Nat) (h0 : 10 ^ m ≤ vl R) : m < R.length := by
  rcases Nat.lt_or_ge m R.length with c | c
  · exact c
  · have b := (vl_bd R h.1).2
    have d := pow_mono R.length m c
    omega
/-- The quotient's digits: all that the format has, and one more at the least. -/
theorem dv_size (f : Int) (hf : f = 64 ∨ f = 128) (da db : List Int) (ca : Canon da) (cb : Canon db) (la : (da.length : Int) ≤ limP f) (lb : (db.length : Int) ≤ limP f) (hb : vl db ≠ 0) :
    Nok (vl da * 10 ^ dvK f da.length db.length) ∧ Nok (vl da * 10 ^ dvK f da.length db.length / vl db) ∧ Nok (vl da * 10 ^ dvK f da.length db.length % vl db) ∧ (vl da ≠ 0 → 10 ^ (limP f).toNat ≤ vl da * 10 ^ dvK f da.length db.length / vl db) ∧ vl da * 10 ^ dvK f da.length db.length / vl db < 10 ^ 70 := by
  have hP : 1 ≤ limP f ∧ limP f ≤ 34 := by rcases hf with rfl | rfl <;> decide
  have a := vl_bd da ca.1
  have b := vl_bd db cb.1
  have pa := ca.2.1
  have pb := cb.2.1
  obtain ⟨k, hk⟩ : ∃ k, dvK f da.length db.length = k := ⟨_, rfl⟩
  have hk2 : (da.length : Int) + k = limP f + db.length + 1 := by rw [← hk]; unfold dvK; omega
  rw [hk]
  have h1 : vl da * 10 ^ k < 10 ^ 70 := by
    have := Int.mul_lt_mul_of_pos_right a.2 (ten_pos k)
    rw [← Int.pow_add] at this
    exact Int.lt_of_lt_of_le this (pow_mono _ _ (by omega))
  have h0 : 0 ≤ vl da * 10 ^ k := Int.mul_nonneg a.1 (Int.le_of_lt (ten_pos k))
  have hbp : 0 < vl db := by have := b.1; omega
  have hq0 := Int.ediv_nonneg h0 (Int.le_of_lt hbp)
  have hq1 := Int.ediv_le_self (vl db) h0
  have hr0 := Int.emod_nonneg (vl da * 10 ^ k) hb
  have hr1 := Int.emod_lt_of_pos (vl da * 10 ^ k) hbp
  have p7 := pow_mono 70 200 (by decide)
  have p3 : vl db < 10 ^ 200 := Int.lt_of_lt_of_le b.2 (pow_mono _ _ (by omega))
  refine ⟨⟨h0, by omega⟩, ⟨hq0, by omega⟩, ⟨hr0, by omega⟩, fun hz => ?_, by omega⟩
  refine Int.le_ediv_of_mul_le hbp ?_
  have hlo := canon_lo da ca (fun c => hz (by rw [c]; rfl))
  have h2 := Int.mul_le_mul_of_nonneg_right hlo (Int.le_of_lt (ten_pos k))
  rw [← Int.pow_add] at h2
  have h3 : (10 : Int) ^ (limP f).toNat * vl db ≤ 10 ^ (limP f).toNat * 10 ^ db.length := Int.mul_le_mul_of_nonneg_left (by omega) (Int.le_of_lt (ten_pos _))
  rw [← Int.pow_add] at h3
  rw [show da.length - 1 + k = (limP f).toNat + db.length by omega] at h2
  omega
end Go.Proofs.YteofommckgeemaaGreatDoor
