/-
  NextDown of both, walked.
-/
import Derived.Test.YtmndemegiimagatGreatDoorNxt
import Derived.Test.YtmndemegiimagatGreatDoorSph
namespace Go.Proofs.YtmndemegiimagatGreatDoor
open Go.RowKit
set_option linter.unusedVariables false
set_option maxRecDepth 100000
def tg (k : Int) (n : Bool) : Bool := if k = 1 ∨ k = 2 then !n else n
/-- What NextDown tells. -/
def ndR (f : Int) (k : Int) (n : Bool) (e : Int) (s : ByteArray) : R5o := (tg (nuR f k (tg k n) e s).2.1 (nuR f k (tg k n) e s).1, (nuR f k (tg k n) e s).2)
theorem numB_tg (f : Int) (k : Int) (n : Bool) (e : Int) (s : ByteArray) : numB f k (tg k n) e s = numB f k n e s := by
  by_cases h12 : k = 1 ∨ k = 2
  · unfold numB
    rcases h12 with rfl | rfl
    · rfl
    · rfl
  · have e : tg k n = n := if_neg h12
    rw [e]
theorem nd_no (f : Int) (k : Int) (n : Bool) (e : Int) (s : ByteArray) (h : numB f k n e s = false) : ndR f k n e s = (false, (0, 0, { data := #[] }, 0)) := by
  have e1 : nuR f k (tg k n) e s = (false, (0, 0, { data := #[] }, 0)) := by
    unfold nuR ofR
    rw [nu_right, numB_tg, h]; rfl
  unfold ndR
  rw [e1]; rfl
def DB (w : World) (k : Int) (n : Bool) (e : Int) (s : ByteArray) (W : World) : Prop := At4r W w.heap.size (.int .i64 k) (.bool n) (.int .i64 e) (.string s) ∧ At5 W (w.heap.size + 1) (.int .i64 0) (.bool false) (.int .i64 0) (.string { data := #[] }) (.int .i64 0) ∧ Below w.heap.size w W ∧ w.heap.size + 1 < W.heap.size
theorem DB.next {w W W' : World} {k : Int} {n : Bool} {e : Int} {s : ByteArray} (h : DB w k n e s W) (hb : Below W.heap.size W W') : DB w k n e s W' := ⟨h.1.next hb, h.2.1.below hb h.2.1.lt, h.2.2.1.trans (hb.mono h.2.2.1.size), Nat.lt_of_lt_of_le h.2.2.2 hb.size⟩
theorem db_new (w : World) (k : Int) (n : Bool) (e : Int) (s : ByteArray) : DB w k n e s ((w.alloc (.cells #[.int .i64 k, .bool n, .int .i64 e, .string s] 25)).alloc (.cells #[.int .i64 0, .bool false, .int .i64 0, .string { data := #[] }, .int .i64 0] 27)) := by
  have h1 := at4r_new w (.int .i64 k) (.bool n) (.int .i64 e) (.string s)
  have z1 := new_size w (.cells #[.int .i64 k, .bool n, .int .i64 e, .string s] 25)
  have b1 : Below w.heap.size w (w.alloc (.cells #[.int .i64 k, .bool n, .int .i64 e, .string s] 25)) := (Below.refl _ _).alloc (Nat.le_refl _) _
  generalize w.alloc (.cells #[.int .i64 k, .bool n, .int .i64 e, .string s] 25) = w1 at *
  have h2 := at5_new w1 (.int .i64 0) (.bool false) (.int .i64 0) (.string { data := #[] }) (.int .i64 0)
  have z2 := new_size w1 (.cells #[.int .i64 0, .bool false, .int .i64 0, .string { data := #[] }, .int .i64 0] 27)
  have b2 : Below w1.heap.size w1 (w1.alloc (.cells #[.int .i64 0, .bool false, .int .i64 0, .string { data := #[] }, .int .i64 0] 27)) := (Below.refl _ _).alloc (Nat.le_refl _) _
  rw [z1] at h2
  exact ⟨h1.next b2, h2, b1.trans (b2.mono b1.size), by omega⟩
/-- The number of a Result is written anew. -/
abbrev rnW (W : World) (p : Nat) (a : Int) (b : Bool) (c : Int) (d : ByteArray) : World := (((W.setCell ⟨p, 0, none⟩ (.int .i64 a)).setCell ⟨p, 1, none⟩ (.bool b)).setCell ⟨p, 2, none⟩ (.int .i64 c)).setCell ⟨p, 3, none⟩ (.string d)
theorem rn_at {W : World} {p : Nat} {x y z u v : Value} (h : At5 W p x y z u v) (a : Int) (b : Bool) (c : Int) (d : ByteArray) : At5 (rnW W p a b c d) p (.int .i64 a) (.bool b) (.int .i64 c) (.string d) v := by
  unfold At5 at *
  simp [rnW, World.setCell, Array.getElem?_modify, h]
theorem rn_far {W : World} {p q : Nat} {x y z u v : Value} (h : At5 W q x y z u v) (hpq : p ≠ q) (a : Int) (b : Bool) (c : Int) (d : ByteArray) : At5 (rnW W p a b c d) q x y z u v := by
  unfold At5 at *
  simp [rnW, World.setCell, Array.getElem?_modify, h, hpq]
theorem rn_bel {B : Nat} {w W : World} (h : Below B w W) {p : Nat} (hp : B ≤ p) (a : Int) (b : Bool) (c : Int) (d : ByteArray) : Below B w (rnW W p a b c d) := by
  have q : ∀ {X : World} (i : Nat) (v : Value), Below B w X → Below B w (X.setCell ⟨p, i, none⟩ v) := fun i v hX => hX.setCell (p := ⟨p, i, none⟩) hp v
  exact q _ _ (q _ _ (q _ _ (q _ _ h)))
set_option maxRecDepth 100000 in
set_option maxHeartbeats 1000000 in
theorem iNextDown_any (f : Int) (k : Int) (n : Bool) (e : Int) (s : ByteArray) (w : World) (hsa : s.size ≤ 4611686018427387904) :
    Calls Tryz.prog 11 #[.int .i64 f, numV k n e s] w fun x w' => x = .returned (rsD (ndR f k n e s).1 (ndR f k n e s).2) ∧ Below w.heap.size w w' := by
  have HN : Hid (DB w k n e s ((w.alloc (.cells #[.int .i64 k, .bool n, .int .i64 e, .string s] 25)).alloc (.cells #[.int .i64 0, .bool false, .int .i64 0, .string { data := #[] }, .int .i64 0] 27))) := db_new w k n e s
  have HT1 : Hid (∀ X, Calls Tryz.prog 28 #[numV k n e s] X fun x w' => x = .returned (numV k (tg k n) e s) ∧ Below X.heap.size X w') := fun X => otherSign_any k n e s X
  have HU : Hid (∀ X, Calls Tryz.prog 8 #[.int .i64 f, numV k (tg k n) e s] X fun x w' => x = .returned (rsD (nuR f k (tg k n) e s).1 (nuR f k (tg k n) e s).2) ∧ Below X.heap.size X w') := fun X => iNextUp_ok f k (tg k n) e s X hsa
  have E : Hid (ndR f k n e s = (tg (nuR f k (tg k n) e s).2.1 (nuR f k (tg k n) e s).1, (nuR f k (tg k n) e s).2)) := rfl
  rw [E.out]
  clear E hsa
  generalize nuR f k (tg k n) e s = R at *
  obtain ⟨R0, F1, F2, F3, F4⟩ := R
  have HT2 : Hid (∀ X, Calls Tryz.prog 28 #[numV F1 R0 F2 F3] X fun x w' => x = .returned (numV F1 (tg F1 R0) F2 F3) ∧ Below X.heap.size X w') := fun X => otherSign_any F1 R0 F2 F3 X
  dsimp only at HU ⊢
  generalize tg F1 R0 = G0 at *
  generalize tg k n = N0 at *
  go_enter Tryz.func11, Tryz.ntmps11
  go_wp2_with fail
  refine (HT1.out _).mono ?_
  rintro x w1 ⟨rfl, hb1⟩
  have HN1 : Hid (DB w k n e s w1) := HN.out.next hb1
  clear hb1 HN HT1
  try clear c0 c1 c2 c3 c4
  go_wp2_with fail
  refine (HU.out _).mono ?_
  rintro x w2 ⟨rfl, hb2⟩
  have HN2 : Hid (DB w k n e s (w2.alloc (.cells #[.int .i64 F1, .bool R0, .int .i64 F2, .string F3, .int .i64 F4] 27)) ∧ At5 (w2.alloc (.cells #[.int .i64 F1, .bool R0, .int .i64 F2, .string F3, .int .i64 F4] 27)) w2.heap.size (.int .i64 F1) (.bool R0) (.int .i64 F2) (.string F3) (.int .i64 F4) ∧ w.heap.size + 1 < w2.heap.size) := ⟨(HN1.out.next hb2).next ((Below.refl _ _).alloc (Nat.le_refl _) _), at5_new w2 _ _ _ _ _, (HN1.out.next hb2).2.2.2⟩
  clear hb2 HN1 HU
  obtain ⟨a0, a1, a2, a3, a4, a5⟩ := HN2.out.2.1.cells
  go_wp2_with fail
  refine (HT2.out _).mono ?_
  rintro x w3 ⟨rfl, hb3⟩
  have HN3 : Hid (DB w k n e s w3 ∧ At5 w3 w2.heap.size (.int .i64 F1) (.bool R0) (.int .i64 F2) (.string F3) (.int .i64 F4) ∧ w.heap.size + 1 < w2.heap.size) := ⟨HN2.out.1.next hb3, HN2.out.2.1.below hb3 HN2.out.2.1.lt, HN2.out.2.2⟩
  clear hb3 HN2 HT2 a0 a1 a2 a3 a4 a5
  generalize w2.heap.size = p9 at *
  obtain ⟨a0, a1, a2, a3, a4, a5⟩ := HN3.out.2.1.cells
  obtain ⟨b0, b1, b2, b3, b4, b5⟩ := (rn_at HN3.out.2.1 F1 G0 F2 F3).cells
  have HZ : Hid (At5 (rnW w3 p9 F1 G0 F2 F3) (w.heap.size + 1) (.int .i64 0) (.bool false) (.int .i64 0) (.string { data := #[] }) (.int .i64 0) ∧ Below w.heap.size w (rnW w3 p9 F1 G0 F2 F3)) := ⟨rn_far HN3.out.1.2.1 (by have := HN3.out.2.2; omega) _ _ _ _, rn_bel HN3.out.1.2.2.1 (by have := HN3.out.2.2; omega) _ _ _ _⟩
  unfold rnW at b0 b1 b2 b3 b4 b5 HZ
  go_upto_region 3 with fail
  go_wp2_with (refine wpList_store_row rfl 27 (.tmp 4) (.tmp 14) rfl (w.heap.size + 1) #[.int .i64 F1, .bool G0, .int .i64 F2, .string F3, .int .i64 F4] rfl rfl _ _ HZ.out.1 (by kernel_rfl) rfl (one5 _ _ _ _ _) ?_)
  have hP := (HZ.out.1.row (.int .i64 F1) (.bool G0) (.int .i64 F2) (.string F3) (.int .i64 F4)).cells
  refine bodyPost_ret (results_res rfl _ _ rfl hP.1 hP.2.1 hP.2.2.1 hP.2.2.2.1 hP.2.2.2.2.1) rfl ?_
  exact ⟨rfl, bel_row HZ.out.2 (by omega) _⟩
set_option maxRecDepth 100000 in
set_option maxHeartbeats 1000000 in
theorem sNextDown_any (f : Int) (k : Int) (n : Bool) (e : Int) (s : ByteArray) (w : World) (hsa : s.size ≤ 4611686018427387904) :
    Calls Tryz.prog 10 #[.int .i64 f, numV k n e s] w fun x w' => x = .returned (rsD (ndR f k n e s).1 (ndR f k n e s).2) ∧ Below w.heap.size w w' := by
  have HN : Hid (DB w k n e s ((w.alloc (.cells #[.int .i64 k, .bool n, .int .i64 e, .string s] 25)).alloc (.cells #[.int .i64 0, .bool false, .int .i64 0, .string { data := #[] }, .int .i64 0] 27))) := db_new w k n e s
  have HT1 : Hid (∀ X, Calls Tryz.prog 27 #[numV k n e s] X fun x w' => x = .returned (numV k (tg k n) e s) ∧ Below X.heap.size X w') := fun X => l13Turn_any k n e s X
  have HU : Hid (∀ X, Calls Tryz.prog 6 #[.int .i64 f, numV k (tg k n) e s] X fun x w' => x = .returned (rsD (nuR f k (tg k n) e s).1 (nuR f k (tg k n) e s).2) ∧ Below X.heap.size X w') := fun X => sNextUp_any f k (tg k n) e s X hsa
  have hb00 : ∀ w, (Instr.build 27 #[]).run Tryz.prog w = .ok (rsV 0 false 0 { data := #[] } 0) w := fun w => run_build w _ _ _ (by kernel_rfl)
  have HOk : Hid (∀ X, Calls Tryz.prog 26 #[.int .i64 f, numV k n e s] X fun x w' => x = .returned (.bool (numB f k n e s)) ∧ Below X.heap.size X w') := fun X => sNumOk_any f k n e s X hsa
  cases hr : numB f k n e s with
  | false =>
    rw [nd_no f k n e s hr]
    rw [hr] at HOk
    clear HT1 HU hr hsa
    go_enter Tryz.func10, Tryz.ntmps10
    go_wp2_with fail
    refine (HOk.out _).mono ?_
    rintro x w1 ⟨rfl, hb1⟩
    have HN1 : Hid (DB w k n e s w1) := HN.out.next hb1
    clear hb1 HN HOk
    go_wp2_with (refine wpList_store_row rfl 27 (.tmp 4) (.tmp 10) rfl (w.heap.size + 1) #[.int .i64 0, .bool false, .int .i64 0, .string { data := #[] }, .int .i64 0] rfl rfl _ _ HN1.out.2.1 (by kernel_rfl) rfl (one5 _ _ _ _ _) ?_)
    have hP := (HN1.out.2.1.row (.int .i64 0) (.bool false) (.int .i64 0) (.string { data := #[] }) (.int .i64 0)).cells
    refine bodyPost_ret (results_res rfl _ _ rfl hP.1 hP.2.1 hP.2.2.1 hP.2.2.2.1 hP.2.2.2.2.1) rfl ?_
    exact ⟨rfl, bel_row HN1.out.2.2.1 (by omega) _⟩
  | true =>
    rw [hr] at HOk
    clear hr
    have E : Hid (ndR f k n e s = (tg (nuR f k (tg k n) e s).2.1 (nuR f k (tg k n) e s).1, (nuR f k (tg k n) e s).2)) := rfl
    rw [E.out]
    clear E hsa
    generalize nuR f k (tg k n) e s = R at *
    obtain ⟨R0, F1, F2, F3, F4⟩ := R
    have HT2 : Hid (∀ X, Calls Tryz.prog 27 #[numV F1 R0 F2 F3] X fun x w' => x = .returned (numV F1 (tg F1 R0) F2 F3) ∧ Below X.heap.size X w') := fun X => l13Turn_any F1 R0 F2 F3 X
    dsimp only at HU ⊢
    generalize tg F1 R0 = G0 at *
    generalize tg k n = N0 at *
    go_enter Tryz.func10, Tryz.ntmps10
    go_wp2_with fail
    refine (HOk.out _).mono ?_
    rintro x w0 ⟨rfl, hb0⟩
    have HN0 : Hid (DB w k n e s w0) := HN.out.next hb0
    clear hb0 HN HOk
    obtain ⟨c0, c1, c2, c3, c4⟩ := HN0.out.1.cells
    go_wp2_with fail
    refine (HT1.out _).mono ?_
    rintro x w1 ⟨rfl, hb1⟩
    have HN1 : Hid (DB w k n e s w1) := HN0.out.next hb1
    clear hb1 HN0 HT1
    try clear c0 c1 c2 c3 c4
    go_wp2_with fail
    refine (HU.out _).mono ?_
    rintro x w2 ⟨rfl, hb2⟩
    have HN2 : Hid (DB w k n e s (w2.alloc (.cells #[.int .i64 F1, .bool R0, .int .i64 F2, .string F3, .int .i64 F4] 27)) ∧ At5 (w2.alloc (.cells #[.int .i64 F1, .bool R0, .int .i64 F2, .string F3, .int .i64 F4] 27)) w2.heap.size (.int .i64 F1) (.bool R0) (.int .i64 F2) (.string F3) (.int .i64 F4) ∧ w.heap.size + 1 < w2.heap.size) := ⟨(HN1.out.next hb2).next ((Below.refl _ _).alloc (Nat.le_refl _) _), at5_new w2 _ _ _ _ _, (HN1.out.next hb2).2.2.2⟩
    clear hb2 HN1 HU
    obtain ⟨a0, a1, a2, a3, a4, a5⟩ := HN2.out.2.1.cells
    go_wp2_with fail
    refine (HT2.out _).mono ?_
    rintro x w3 ⟨rfl, hb3⟩
    have HN3 : Hid (DB w k n e s w3 ∧ At5 w3 w2.heap.size (.int .i64 F1) (.bool R0) (.int .i64 F2) (.string F3) (.int .i64 F4) ∧ w.heap.size + 1 < w2.heap.size) := ⟨HN2.out.1.next hb3, HN2.out.2.1.below hb3 HN2.out.2.1.lt, HN2.out.2.2⟩
    clear hb3 HN2 HT2 a0 a1 a2 a3 a4 a5
    generalize w2.heap.size = p9 at *
    obtain ⟨a0, a1, a2, a3, a4, a5⟩ := HN3.out.2.1.cells
    obtain ⟨b0, b1, b2, b3, b4, b5⟩ := (rn_at HN3.out.2.1 F1 G0 F2 F3).cells
    have HZ : Hid (At5 (rnW w3 p9 F1 G0 F2 F3) (w.heap.size + 1) (.int .i64 0) (.bool false) (.int .i64 0) (.string { data := #[] }) (.int .i64 0) ∧ Below w.heap.size w (rnW w3 p9 F1 G0 F2 F3)) := ⟨rn_far HN3.out.1.2.1 (by have := HN3.out.2.2; omega) _ _ _ _, rn_bel HN3.out.1.2.2.1 (by have := HN3.out.2.2; omega) _ _ _ _⟩
    unfold rnW at b0 b1 b2 b3 b4 b5 HZ
    go_upto_region 5 with fail
    go_wp2_with (refine wpList_store_row rfl 27 (.tmp 4) (.tmp 19) rfl (w.heap.size + 1) #[.int .i64 F1, .bool G0, .int .i64 F2, .string F3, .int .i64 F4] rfl rfl _ _ HZ.out.1 (by kernel_rfl) rfl (one5 _ _ _ _ _) ?_)
    have hP := (HZ.out.1.row (.int .i64 F1) (.bool G0) (.int .i64 F2) (.string F3) (.int .i64 F4)).cells
    refine bodyPost_ret (results_res rfl _ _ rfl hP.1 hP.2.1 hP.2.2.1 hP.2.2.2.1 hP.2.2.2.2.1) rfl ?_
    exact ⟨rfl, bel_row HZ.out.2 (by omega) _⟩
end Go.Proofs.YtmndemegiimagatGreatDoor
