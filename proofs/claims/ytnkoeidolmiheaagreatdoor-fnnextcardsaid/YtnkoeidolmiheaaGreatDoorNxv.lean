/-
  Plain facts on neighbours by value: the next one is more, nothing lies between, and from it one is back.
-/
import Derived.Test.YtnkoeidolmiheaaGreatDoorNxi
import Derived.Test.YtnkoeidolmiheaaGreatDoorSph
import Derived.Test.YtnkoeidolmiheaaGreatDoorSdr
namespace Go.Proofs.YtnkoeidolmiheaaGreatDoor
open Go.RowKit
set_option linter.unusedVariables false
set_option maxRecDepth 100000
theorem nx_end {P : Program} {ops : Array Oper} {Q : Exit → Act → World → Prop} {K : Act → World → Prop} {a : Act} {w : World} (hK : ∀ a w, Code.wp P Code.ret Q a w → K a w) (h : Q .ret a w) : Hid (wpList P ops (Exit.then K Q) [] a w) := hK _ _ (wp_ret h)
/-- The boxes: the number, the result, the row. -/
def NB (w : World) (k : Int) (n : Bool) (e : Int) (s : ByteArray) (W : World) : Prop := At4r W w.heap.size (.int .i64 k) (.bool n) (.int .i64 e) (.string s) ∧ At5 W (w.heap.size + 1) (.int .i64 0) (.bool false) (.int .i64 0) (.string { data := #[] }) (.int .i64 0) ∧ NRw W (w.heap.size + 2) 1 (fun _ => k) (fun _ => n) (fun _ => e) (fun _ => s) ∧ Below w.heap.size w W ∧ w.heap.size + 2 < W.heap.size
theorem NB.next {w W W' : World} {k : Int} {n : Bool} {e : Int} {s : ByteArray} (h : NB w k n e s W) (hb : Below W.heap.size W W') : NB w k n e s W' := ⟨h.1.next hb, h.2.1.below hb h.2.1.lt, h.2.2.1.below hb h.2.2.2.2, h.2.2.2.1.trans (hb.mono h.2.2.2.1.size), Nat.lt_of_lt_of_le h.2.2.2.2 hb.size⟩
theorem nb_new (w : World) (k : Int) (n : Bool) (e : Int) (s : ByteArray) : NB w k n e s (((w.alloc (.cells #[.int .i64 k, .bool n, .int .i64 e, .string s] 25)).alloc (.cells #[.int .i64 0, .bool false, .int .i64 0, .string { data := #[] }, .int .i64 0] 29)).alloc (.cells #[.int .i64 k, .bool n, .int .i64 e, .string s] 25)) := by
  have h1 := at4r_new w (.int .i64 k) (.bool n) (.int .i64 e) (.string s)
  have z1 := new_size w (.cells #[.int .i64 k, .bool n, .int .i64 e, .string s] 25)
  have b1 : Below w.heap.size w (w.alloc (.cells #[.int .i64 k, .bool n, .int .i64 e, .string s] 25)) := (Below.refl _ _).alloc (Nat.le_refl _) _
  generalize w.alloc (.cells #[.int .i64 k, .bool n, .int .i64 e, .string s] 25) = w1 at *
  have h2 := at5_new w1 (.int .i64 0) (.bool false) (.int .i64 0) (.string { data := #[] }) (.int .i64 0)
  have z2 := new_size w1 (.cells #[.int .i64 0, .bool false, .int .i64 0, .string { data := #[] }, .int .i64 0] 29)
  have b2 : Below w1.heap.size w1 (w1.alloc (.cells #[.int .i64 0, .bool false, .int .i64 0, .string { data := #[] }, .int .i64 0] 29)) := (Below.refl _ _).alloc (Nat.le_refl _) _
  generalize w1.alloc (.cells #[.int .i64 0, .bool false, .int .i64 0, .string { data := #[] }, .int .i64 0] 29) = w2 at *
  have h3 := at4r_new w2 (.int .i64 k) (.bool n) (.int .i64 e) (.string s)
  have z3 := new_size w2 (.cells #[.int .i64 k, .bool n, .int .i64 e, .string s] 25)
  have b3 : Below w2.heap.size w2 (w2.alloc (.cells #[.int .i64 k, .bool n, .int .i64 e, .string s] 25)) := (Below.refl _ _).alloc (Nat.le_refl _) _
  rw [z2, z1] at h3
  rw [z1] at h2
  have b23 := b2.trans (b3.mono b2.size)
  refine ⟨(h1.next b2).next b3, h2.below b3 h2.lt, ?_, b1.trans (b23.mono b1.size), by omega⟩
  obtain ⟨q0, q1, q2, q3, -⟩ := h3.cells
  intro i hi
  obtain rfl : i = 0 := by omega
  exact ⟨q0, q1, q2, q3⟩
theorem hid_of {p : Prop} (h : p) : Hid p := h
theorem ok1_is (b : Bool) [Decidable (∀ i : Nat, i < 1 → b = true)] : decide (∀ i : Nat, i < 1 → b = true) = b := by
  by_cases h : b = true
  · rw [show decide (∀ i : Nat, i < 1 → b = true) = true from decide_eq_true fun _ _ => h, h]
  · have h' : b = false := by simpa using h
    rw [show decide (∀ i : Nat, i < 1 → b = true) = false from decide_eq_false fun c => h (c 0 (by decide)), h']
theorem tx_19 : ({ data := #[49] } : ByteArray) = tx [1] := by apply ByteArray.ext; rw [tx_data]; rfl
set_option maxRecDepth 100000 in
set_option maxHeartbeats 2000000 in
theorem sNx_no (f : Int) (k : Int) (n : Bool) (e : Int) (s : ByteArray) (w : World) (hsa : s.size ≤ 4611686018427387904) (hr : numB f k n e s = false) :
    Calls Tryz.prog 15 #[.int .i64 f, numV k n e s] w fun x w' => x = .returned (rsV 0 false 0 { data := #[] } 0) ∧ Below w.heap.size w w' := by
  have hb00 : ∀ w, (Instr.build 29 #[]).run Tryz.prog w = .ok (rsV 0 false 0 { data := #[] } 0) w := fun w => run_build w _ _ _ (by kernel_rfl)
  have HN : Hid (NB w k n e s (((w.alloc (.cells #[.int .i64 k, .bool n, .int .i64 e, .string s] 25)).alloc (.cells #[.int .i64 0, .bool false, .int .i64 0, .string { data := #[] }, .int .i64 0] 29)).alloc (.cells #[.int .i64 k, .bool n, .int .i64 e, .string s] 25))) := nb_new w k n e s
  have HOk : Hid (Calls Tryz.prog 57 #[.int .i64 f, .int .i64 1, .slice (some ⟨w.heap.size + 2, 0, none⟩) 1 1] (((w.alloc (.cells #[.int .i64 k, .bool n, .int .i64 e, .string s] 25)).alloc (.cells #[.int .i64 0, .bool false, .int .i64 0, .string { data := #[] }, .int .i64 0] 29)).alloc (.cells #[.int .i64 k, .bool n, .int .i64 e, .string s] 25)) fun x w' => x = .returned (.bool (numB f k n e s)) ∧ Below (((w.alloc (.cells #[.int .i64 k, .bool n, .int .i64 e, .string s] 25)).alloc (.cells #[.int .i64 0, .bool false, .int .i64 0, .string { data := #[] }, .int .i64 0] 29)).alloc (.cells #[.int .i64 k, .bool n, .int .i64 e, .string s] 25)).heap.size (((w.alloc (.cells #[.int .i64 k, .bool n, .int .i64 e, .string s] 25)).alloc (.cells #[.int .i64 0, .bool false, .int .i64 0, .string { data := #[] }, .int .i64 0] 29)).alloc (.cells #[.int .i64 k, .bool n, .int .i64 e, .string s] 25)) w') := by
    have := l13Ok_any f 1 1 (w.heap.size + 2) (fun _ => k) (fun _ => n) (fun _ => e) (fun _ => s) (((w.alloc (.cells #[.int .i64 k, .bool n, .int .i64 e, .string s] 25)).alloc (.cells #[.int .i64 0, .bool false, .int .i64 0, .string { data := #[] }, .int .i64 0] 29)).alloc (.cells #[.int .i64 k, .bool n, .int .i64 e, .string s] 25)) (by decide) HN.out.2.2.2.2 HN.out.2.2.1 (fun _ _ => hsa)
    rw [show (decide (1 ≤ (1 : Int) ∧ (1 : Int) ≤ 5)) = true from rfl, Bool.true_and] at this
    rw [ok1_is] at this
    exact this
  have HSp : Hid (∀ X, NRw X (w.heap.size + 2) 1 (fun _ => k) (fun _ => n) (fun _ => e) (fun _ => s) → w.heap.size + 2 < X.heap.size → Calls Tryz.prog 58 #[.slice (some ⟨w.heap.size + 2, 0, none⟩) 1 1] X fun x w' => x = .returned (.tuple #[rsV 3 false 0 { data := #[] } (spF 1 (fun _ => k)), .bool (spB 1 (fun _ => k))]) ∧ Below X.heap.size X w') := fun X h1 h2 => l13Special_any 1 (w.heap.size + 2) _ _ _ _ X (by decide) h2 h1
  generalize spF 1 (fun _ => k) = SF at *
  rw [hr] at HOk
  clear HSp hsa hr
  go_enter Tryz.func15, Tryz.ntmps15
  go_wp2_with fail
  refine (HOk.out).mono ?_
  rintro x w1 ⟨rfl, hb1⟩
  have HN1 : Hid (NB w k n e s w1) := HN.out.next hb1
  clear hb1 HN
  try clear c0 c1 c2 c3 c4
  obtain ⟨c0, c1, c2, c3, c4⟩ := HN1.out.1.cells
  go_wp2_with (refine wpList_store_row rfl 29 (.tmp 4) (.tmp 20) rfl (w.heap.size + 1) #[.int .i64 0, .bool false, .int .i64 0, .string { data := #[] }, .int .i64 0] rfl rfl _ _ HN1.out.2.1 (by kernel_rfl) rfl (one5 _ _ _ _ _) (Hid.out ?_))
  refine nx_end (by assumption) ?_
  try simp only [Exit.then]
  have hP := (HN1.out.2.1.row (.int .i64 0) (.bool false) (.int .i64 0) (.string { data := #[] }) (.int .i64 0)).cells
  refine bodyPost_ret (results_res rfl _ _ rfl hP.1 hP.2.1 hP.2.2.1 hP.2.2.2.1 hP.2.2.2.2.1) rfl ?_
  exact ⟨rfl, bel_row HN1.out.2.2.2.1 (by omega) _⟩
set_option maxRecDepth 100000 in
set_option maxHeartbeats 2000000 in
theorem sNx_nan (f : Int) (k : Int) (n : Bool) (e : Int) (s : ByteArray) (w : World) (hsa : s.size ≤ 4611686018427387904) (hr : numB f k n e s = true) (hs : spB 1 (fun _ => k) = true) :
    Calls Tryz.prog 15 #[.int .i64 f, numV k n e s] w fun x w' => x = .returned (rsV 3 false 0 { data := #[] } (spF 1 (fun _ => k))) ∧ Below w.heap.size w w' := by
  have hb00 : ∀ w, (Instr.build 29 #[]).run Tryz.prog w = .ok (rsV 0 false 0 { data := #[] } 0) w := fun w => run_build w _ _ _ (by kernel_rfl)
  have HN : Hid (NB w k n e s (((w.alloc (.cells #[.int .i64 k, .bool n, .int .i64 e, .string s] 25)).alloc (.cells #[.int .i64 0, .bool false, .int .i64 0, .string { data := #[] }, .int .i64 0] 29)).alloc (.cells #[.int .i64 k, .bool n, .int .i64 e, .string s] 25))) := nb_new w k n e s
  have HOk : Hid (Calls Tryz.prog 57 #[.int .i64 f, .int .i64 1, .slice (some ⟨w.heap.size + 2, 0, none⟩) 1 1] (((w.alloc (.cells #[.int .i64 k, .bool n, .int .i64 e, .string s] 25)).alloc (.cells #[.int .i64 0, .bool false, .int .i64 0, .string { data := #[] }, .int .i64 0] 29)).alloc (.cells #[.int .i64 k, .bool n, .int .i64 e, .string s] 25)) fun x w' => x = .returned (.bool (numB f k n e s)) ∧ Below (((w.alloc (.cells #[.int .i64 k, .bool n, .int .i64 e, .string s] 25)).alloc (.cells #[.int .i64 0, .bool false, .int .i64 0, .string { data := #[] }, .int .i64 0] 29)).alloc (.cells #[.int .i64 k, .bool n, .int .i64 e, .string s] 25)).heap.size (((w.alloc (.cells #[.int .i64 k, .bool n, .int .i64 e, .string s] 25)).alloc (.cells #[.int .i64 0, .bool false, .int .i64 0, .string { data := #[] }, .int .i64 0] 29)).alloc (.cells #[.int .i64 k, .bool n, .int .i64 e, .string s] 25)) w') := by
    have := l13Ok_any f 1 1 (w.heap.size + 2) (fun _ => k) (fun _ => n) (fun _ => e) (fun _ => s) (((w.alloc (.cells #[.int .i64 k, .bool n, .int .i64 e, .string s] 25)).alloc (.cells #[.int .i64 0, .bool false, .int .i64 0, .string { data := #[] }, .int .i64 0] 29)).alloc (.cells #[.int .i64 k, .bool n, .int .i64 e, .string s] 25)) (by decide) HN.out.2.2.2.2 HN.out.2.2.1 (fun _ _ => hsa)
    rw [show (decide (1 ≤ (1 : Int) ∧ (1 : Int) ≤ 5)) = true from rfl, Bool.true_and] at this
    rw [ok1_is] at this
    exact this
  have HSp : Hid (∀ X, NRw X (w.heap.size + 2) 1 (fun _ => k) (fun _ => n) (fun _ => e) (fun _ => s) → w.heap.size + 2 < X.heap.size → Calls Tryz.prog 58 #[.slice (some ⟨w.heap.size + 2, 0, none⟩) 1 1] X fun x w' => x = .returned (.tuple #[rsV 3 false 0 { data := #[] } (spF 1 (fun _ => k)), .bool (spB 1 (fun _ => k))]) ∧ Below X.heap.size X w') := fun X h1 h2 => l13Special_any 1 (w.heap.size + 2) _ _ _ _ X (by decide) h2 h1
  generalize spF 1 (fun _ => k) = SF at *
  rw [hr] at HOk
  rw [hs] at HSp
  clear hsa hr hs
  go_enter Tryz.func15, Tryz.ntmps15
  go_wp2_with fail
  refine (HOk.out).mono ?_
  rintro x w1 ⟨rfl, hb1⟩
  have HN1 : Hid (NB w k n e s w1) := HN.out.next hb1
  clear hb1 HN
  try clear c0 c1 c2 c3 c4
  obtain ⟨c0, c1, c2, c3, c4⟩ := HN1.out.1.cells
  go_wp2_with fail
  refine (HSp.out _ HN1.out.2.2.1 HN1.out.2.2.2.2).mono ?_
  rintro x w2 ⟨rfl, hb2⟩
  have HN2 : Hid (NB w k n e s w2) := HN1.out.next hb2
  clear hb2 HN1
  try clear c0 c1 c2 c3 c4
  obtain ⟨c0, c1, c2, c3, c4⟩ := HN2.out.1.cells
  have HN3 : Hid (NB w k n e s (w2.alloc (.cells #[.int .i64 3, .bool false, .int .i64 0, .string { data := #[] }, .int .i64 SF] 29))) := HN2.out.next ((Below.refl _ _).alloc (Nat.le_refl _) _)
  go_wp2_with (refine wpList_store_row rfl 29 (.tmp 4) (.tmp 27) rfl (w.heap.size + 1) #[.int .i64 3, .bool false, .int .i64 0, .string { data := #[] }, .int .i64 SF] rfl rfl _ _ HN3.out.2.1 (by kernel_rfl) rfl (one5 _ _ _ _ _) (Hid.out ?_))
  refine nx_end (by assumption) ?_
  try simp only [Exit.then]
  have hP := (HN3.out.2.1.row (.int .i64 3) (.bool false) (.int .i64 0) (.string { data := #[] }) (.int .i64 SF)).cells
  refine bodyPost_ret (results_res rfl _ _ rfl hP.1 hP.2.1 hP.2.2.1 hP.2.2.2.1 hP.2.2.2.2.1) rfl ?_
  exact ⟨rfl, bel_row HN3.out.2.2.2.1 (by omega) _⟩
set_option maxRecDepth 100000 in
set_option maxHeartbeats 2000000 in
theorem sNx_inft (f : Int) (k : Int) (n : Bool) (e : Int) (s : ByteArray) (w : World) (hsa : s.size ≤ 4611686018427387904) (hr : numB f k n e s = true) (hs : spB 1 (fun _ => k) = false) (hf : f = 64 ∨ f = 128) (hk : k = 2) (hn : n = true) :
    Calls Tryz.prog 15 #[.int .i64 f, numV k n e s] w fun x w' => x = .returned (rsV 1 true (limH f) (tx (List.replicate (limP f).toNat 9)) 0) ∧ Below w.heap.size w w' := by
  have hb00 : ∀ w, (Instr.build 29 #[]).run Tryz.prog w = .ok (rsV 0 false 0 { data := #[] } 0) w := fun w => run_build w _ _ _ (by kernel_rfl)
  have HN : Hid (NB w k n e s (((w.alloc (.cells #[.int .i64 k, .bool n, .int .i64 e, .string s] 25)).alloc (.cells #[.int .i64 0, .bool false, .int .i64 0, .string { data := #[] }, .int .i64 0] 29)).alloc (.cells #[.int .i64 k, .bool n, .int .i64 e, .string s] 25))) := nb_new w k n e s
  have HOk : Hid (Calls Tryz.prog 57 #[.int .i64 f, .int .i64 1, .slice (some ⟨w.heap.size + 2, 0, none⟩) 1 1] (((w.alloc (.cells #[.int .i64 k, .bool n, .int .i64 e, .string s] 25)).alloc (.cells #[.int .i64 0, .bool false, .int .i64 0, .string { data := #[] }, .int .i64 0] 29)).alloc (.cells #[.int .i64 k, .bool n, .int .i64 e, .string s] 25)) fun x w' => x = .returned (.bool (numB f k n e s)) ∧ Below (((w.alloc (.cells #[.int .i64 k, .bool n, .int .i64 e, .string s] 25)).alloc (.cells #[.int .i64 0, .bool false, .int .i64 0, .string { data := #[] }, .int .i64 0] 29)).alloc (.cells #[.int .i64 k, .bool n, .int .i64 e, .string s] 25)).heap.size (((w.alloc (.cells #[.int .i64 k, .bool n, .int .i64 e, .string s] 25)).alloc (.cells #[.int .i64 0, .bool false, .int .i64 0, .string { data := #[] }, .int .i64 0] 29)).alloc (.cells #[.int .i64 k, .bool n, .int .i64 e, .string s] 25)) w') := by
    have := l13Ok_any f 1 1 (w.heap.size + 2) (fun _ => k) (fun _ => n) (fun _ => e) (fun _ => s) (((w.alloc (.cells #[.int .i64 k, .bool n, .int .i64 e, .string s] 25)).alloc (.cells #[.int .i64 0, .bool false, .int .i64 0, .string { data := #[] }, .int .i64 0] 29)).alloc (.cells #[.int .i64 k, .bool n, .int .i64 e, .string s] 25)) (by decide) HN.out.2.2.2.2 HN.out.2.2.1 (fun _ _ => hsa)
    rw [show (decide (1 ≤ (1 : Int) ∧ (1 : Int) ≤ 5)) = true from rfl, Bool.true_and] at this
    rw [ok1_is] at this
    exact this
  have HSp : Hid (∀ X, NRw X (w.heap.size + 2) 1 (fun _ => k) (fun _ => n) (fun _ => e) (fun _ => s) → w.heap.size + 2 < X.heap.size → Calls Tryz.prog 58 #[.slice (some ⟨w.heap.size + 2, 0, none⟩) 1 1] X fun x w' => x = .returned (.tuple #[rsV 3 false 0 { data := #[] } (spF 1 (fun _ => k)), .bool (spB 1 (fun _ => k))]) ∧ Below X.heap.size X w') := fun X h1 h2 => l13Special_any 1 (w.heap.size + 2) _ _ _ _ X (by decide) h2 h1
  generalize spF 1 (fun _ => k) = SF at *
  obtain ⟨p2, p34, pP, lh, l1, l2⟩ := lims3 f hf
  have HLm : Hid (∀ X, Calls Tryz.prog 44 #[.int .i64 f] X fun r w' => r = .returned (.tuple #[.int .i64 ((limP f).toNat : Int), .int .i64 (limL f), .int .i64 (limH f)]) ∧ w' = X) := fun X => by
    have := Limits_any f X
    rw [pP] at this
    exact this
  generalize (limP f).toNat = P at *
  generalize limL f = low at *
  generalize limH f = high at *
  have HX9 : Hid (∀ i, ∃ S m', S = tx (List.replicate i 9) ∧ S.size = m' ∧ m' = i ∧ S ++ { data := #[57] } = tx (List.replicate (i + 1) 9)) := fun i => ⟨_, _, rfl, by rw [tx_size, List.length_replicate], rfl, by rw [tx_nine, ← List.replicate_succ']⟩
  obtain ⟨NN, hNN⟩ : ∃ NN, tx (List.replicate P 9) = NN := ⟨_, rfl⟩
  have HNN : Hid (tx (List.replicate P 9) = NN) := hNN
  rw [hr] at HOk
  rw [hs] at HSp
  rw [hNN]
  subst hk hn
  clear hsa hr hs hf pP l1 l2 lh hNN
  go_enter Tryz.func15, Tryz.ntmps15
  go_wp2_with fail
  refine (HOk.out).mono ?_
  rintro x w1 ⟨rfl, hb1⟩
  have HN1 : Hid (NB w 2 true e s w1) := HN.out.next hb1
  clear hb1 HN
  try clear c0 c1 c2 c3 c4
  obtain ⟨c0, c1, c2, c3, c4⟩ := HN1.out.1.cells
  go_wp2_with fail
  refine (HSp.out _ HN1.out.2.2.1 HN1.out.2.2.2.2).mono ?_
  rintro x w2 ⟨rfl, hb2⟩
  have HN2 : Hid (NB w 2 true e s w2) := HN1.out.next hb2
  clear hb2 HN1
  try clear c0 c1 c2 c3 c4
  obtain ⟨c0, c1, c2, c3, c4⟩ := HN2.out.1.cells
  have HN3 : Hid (NB w 2 true e s (w2.alloc (.cells #[.int .i64 3, .bool false, .int .i64 0, .string { data := #[] }, .int .i64 SF] 29))) := HN2.out.next ((Below.refl _ _).alloc (Nat.le_refl _) _)
  clear HN2 c0 c1 c2 c3 c4
  obtain ⟨c0, c1, c2, c3, c4⟩ := HN3.out.1.cells
  go_wp2_with fail
  refine (HLm.out _).mono ?_
  rintro x w3 ⟨rfl, rfl⟩
  generalize w2.alloc (.cells #[.int .i64 3, .bool false, .int .i64 0, .string { data := #[] }, .int .i64 SF] 29) = w3 at *
  clear HLm
  go_wp2
  go_loopg [11] P (fun gk s wx => ∃ i : Nat, i ≤ P ∧ gk = P - i ∧ s = .string (tx (List.replicate i 9)) ∧ wx = w3)
  case atStart => exact ⟨0, Nat.zero_le _, rfl, rfl, rfl⟩
  case round =>
    obtain ⟨i, hi, hgk, rfl, hwr⟩ := hrel
    have HG : Hid (gk = P - i) := hgk
    clear hgk
    obtain ⟨S, m', hS, y1, hm', y3⟩ := HX9.out i
    rw [← hS]
    have HSS : Hid (S = tx (List.replicate i 9)) := hS
    clear hS
    by_cases hlt : i < P
    · have HW : Hid (wr = w3) := hwr
      have z4 : (m' : Int) < (P : Int) := by omega
      have z5 : (m' : Int) ≤ 8388608 := by omega
      clear hm' hwr
      go_wp2
      go_roundg (P - (i + 1))
      case measure => have := HG.out; omega
      case rel => exact ⟨i + 1, by omega, rfl, rfl, HW.out⟩
    · have ei : i = P := by omega
      subst ei
      have hwr' := hwr.symm
      subst hwr'
      have z4 : ¬ (m' : Int) < (i : Int) := by omega
      have HSN : Hid (S = NN) := by show _ = _; rw [HSS.out]; exact HNN.out
      clear hm' hlt y3 HG HSS HX9 HNN
      go_wp2_with fail
      refine (l12Finite_any true S high _).mono ?_
      rintro x w4 ⟨rfl, hb4⟩
      have HN4 : Hid (NB w 2 true e s w4) := HN3.out.next hb4
      clear hb4 HN3
      have hbl := build_res0 1 true high S w4
      go_wp2_with (refine wpList_store_row rfl 29 (.tmp 4) (.tmp 48) rfl (w.heap.size + 1) #[.int .i64 1, .bool true, .int .i64 (high), .string S, .int .i64 0] rfl rfl _ _ HN4.out.2.1 (by kernel_rfl) rfl (one5 _ _ _ _ _) (Hid.out ?_))
      refine nx_end (by assumption) ?_
      try simp only [Exit.then]
      have hP := (HN4.out.2.1.row (.int .i64 1) (.bool true) (.int .i64 (high)) (.string S) (.int .i64 0)).cells
      refine bodyPost_ret (results_res rfl _ _ rfl hP.1 hP.2.1 hP.2.2.1 hP.2.2.2.1 hP.2.2.2.2.1) rfl ?_
      exact ⟨by rw [HSN.out], bel_row HN4.out.2.2.2.1 (by omega) _⟩
set_option maxRecDepth 100000 in
set_option maxHeartbeats 2000000 in
theorem sNx_inff (f : Int) (k : Int) (n : Bool) (e : Int) (s : ByteArray) (w : World) (hsa : s.size ≤ 4611686018427387904) (hr : numB f k n e s = true) (hs : spB 1 (fun _ => k) = false) (hf : f = 64 ∨ f = 128) (hk : k = 2) (hn : n = false) :
    Calls Tryz.prog 15 #[.int .i64 f, numV k n e s] w fun x w' => x = .returned (rsV 2 false e s 0) ∧ Below w.heap.size w w' := by
  have hb00 : ∀ w, (Instr.build 29 #[]).run Tryz.prog w = .ok (rsV 0 false 0 { data := #[] } 0) w := fun w => run_build w _ _ _ (by kernel_rfl)
  have HN : Hid (NB w k n e s (((w.alloc (.cells #[.int .i64 k, .bool n, .int .i64 e, .string s] 25)).alloc (.cells #[.int .i64 0, .bool false, .int .i64 0, .string { data := #[] }, .int .i64 0] 29)).alloc (.cells #[.int .i64 k, .bool n, .int .i64 e, .string s] 25))) := nb_new w k n e s
  have HOk : Hid (Calls Tryz.prog 57 #[.int .i64 f, .int .i64 1, .slice (some ⟨w.heap.size + 2, 0, none⟩) 1 1] (((w.alloc (.cells #[.int .i64 k, .bool n, .int .i64 e, .string s] 25)).alloc (.cells #[.int .i64 0, .bool false, .int .i64 0, .string { data := #[] }, .int .i64 0] 29)).alloc (.cells #[.int .i64 k, .bool n, .int .i64 e, .string s] 25)) fun x w' => x = .returned (.bool (numB f k n e s)) ∧ Below (((w.alloc (.cells #[.int .i64 k, .bool n, .int .i64 e, .string s] 25)).alloc (.cells #[.int .i64 0, .bool false, .int .i64 0, .string { data := #[] }, .int .i64 0] 29)).alloc (.cells #[.int .i64 k, .bool n, .int .i64 e, .string s] 25)).heap.size (((w.alloc (.cells #[.int .i64 k, .bool n, .int .i64 e, .string s] 25)).alloc (.cells #[.int .i64 0, .bool false, .int .i64 0, .string { data := #[] }, .int .i64 0] 29)).alloc (.cells #[.int .i64 k, .bool n, .int .i64 e, .string s] 25)) w') := by
    have := l13Ok_any f 1 1 (w.heap.size + 2) (fun _ => k) (fun _ => n) (fun _ => e) (fun _ => s) (((w.alloc (.cells #[.int .i64 k, .bool n, .int .i64 e, .string s] 25)).alloc (.cells #[.int .i64 0, .bool false, .int .i64 0, .string { data := #[] }, .int .i64 0] 29)).alloc (.cells #[.int .i64 k, .bool n, .int .i64 e, .string s] 25)) (by decide) HN.out.2.2.2.2 HN.out.2.2.1 (fun _ _ => hsa)
    rw [show (decide (1 ≤ (1 : Int) ∧ (1 : Int) ≤ 5)) = true from rfl, Bool.true_and] at this
    rw [ok1_is] at this
    exact this
  have HSp : Hid (∀ X, NRw X (w.heap.size + 2) 1 (fun _ => k) (fun _ => n) (fun _ => e) (fun _ => s) → w.heap.size + 2 < X.heap.size → Calls Tryz.prog 58 #[.slice (some ⟨w.heap.size + 2, 0, none⟩) 1 1] X fun x w' => x = .returned (.tuple #[rsV 3 false 0 { data := #[] } (spF 1 (fun _ => k)), .bool (spB 1 (fun _ => k))]) ∧ Below X.heap.size X w') := fun X h1 h2 => l13Special_any 1 (w.heap.size + 2) _ _ _ _ X (by decide) h2 h1
  generalize spF 1 (fun _ => k) = SF at *
  obtain ⟨p2, p34, pP, lh, l1, l2⟩ := lims3 f hf
  have HLm : Hid (∀ X, Calls Tryz.prog 44 #[.int .i64 f] X fun r w' => r = .returned (.tuple #[.int .i64 ((limP f).toNat : Int), .int .i64 (limL f), .int .i64 (limH f)]) ∧ w' = X) := fun X => by
    have := Limits_any f X
    rw [pP] at this
    exact this
  generalize (limP f).toNat = P at *
  generalize limL f = low at *
  generalize limH f = high at *
  have HX9 : Hid (∀ i, ∃ S m', S = tx (List.replicate i 9) ∧ S.size = m' ∧ m' = i ∧ S ++ { data := #[57] } = tx (List.replicate (i + 1) 9)) := fun i => ⟨_, _, rfl, by rw [tx_size, List.length_replicate], rfl, by rw [tx_nine, ← List.replicate_succ']⟩
  obtain ⟨NN, hNN⟩ : ∃ NN, tx (List.replicate P 9) = NN := ⟨_, rfl⟩
  have HNN : Hid (tx (List.replicate P 9) = NN) := hNN
  rw [hr] at HOk
  rw [hs] at HSp
  subst hk hn
  clear hsa hr hs hf pP l1 l2 lh hNN
  have hbl := build_res0 2 false e s
  go_enter Tryz.func15, Tryz.ntmps15
  go_wp2_with fail
  refine (HOk.out).mono ?_
  rintro x w1 ⟨rfl, hb1⟩
  have HN1 : Hid (NB w 2 false e s w1) := HN.out.next hb1
  clear hb1 HN
  try clear c0 c1 c2 c3 c4
  obtain ⟨c0, c1, c2, c3, c4⟩ := HN1.out.1.cells
  go_wp2_with fail
  refine (HSp.out _ HN1.out.2.2.1 HN1.out.2.2.2.2).mono ?_
  rintro x w2 ⟨rfl, hb2⟩
  have HN2 : Hid (NB w 2 false e s w2) := HN1.out.next hb2
  clear hb2 HN1
  try clear c0 c1 c2 c3 c4
  obtain ⟨c0, c1, c2, c3, c4⟩ := HN2.out.1.cells
  have HN3 : Hid (NB w 2 false e s (w2.alloc (.cells #[.int .i64 3, .bool false, .int .i64 0, .string { data := #[] }, .int .i64 SF] 29))) := HN2.out.next ((Below.refl _ _).alloc (Nat.le_refl _) _)
  clear HN2 c0 c1 c2 c3 c4
  obtain ⟨c0, c1, c2, c3, c4⟩ := HN3.out.1.cells
  go_wp2_with fail
  refine (HLm.out _).mono ?_
  rintro x w3 ⟨rfl, rfl⟩
  generalize w2.alloc (.cells #[.int .i64 3, .bool false, .int .i64 0, .string { data := #[] }, .int .i64 SF] 29) = w3 at *
  clear HLm
  go_wp2
  go_loopg [11] P (fun gk s wx => ∃ i : Nat, i ≤ P ∧ gk = P - i ∧ s = .string (tx (List.replicate i 9)) ∧ wx = w3)
  case atStart => exact ⟨0, Nat.zero_le _, rfl, rfl, rfl⟩
  case round =>
    obtain ⟨i, hi, hgk, rfl, hwr⟩ := hrel
    have HG : Hid (gk = P - i) := hgk
    clear hgk
    obtain ⟨S, m', hS, y1, hm', y3⟩ := HX9.out i
    rw [← hS]
    have HSS : Hid (S = tx (List.replicate i 9)) := hS
    clear hS
    by_cases hlt : i < P
    · have HW : Hid (wr = w3) := hwr
      have z4 : (m' : Int) < (P : Int) := by omega
      have z5 : (m' : Int) ≤ 8388608 := by omega
      clear hm' hwr
      go_wp2
      go_roundg (P - (i + 1))
      case measure => have := HG.out; omega
      case rel => exact ⟨i + 1, by omega, rfl, rfl, HW.out⟩
    · have ei : i = P := by omega
      subst ei
      have hwr' := hwr.symm
      subst hwr'
      have z4 : ¬ (m' : Int) < (i : Int) := by omega
      have HSN : Hid (S = NN) := by show _ = _; rw [HSS.out]; exact HNN.out
      clear hm' hlt y3 HG HSS HX9 HNN
      go_wp2_with (refine wpList_store_row rfl 29 (.tmp 4) (.tmp 50) rfl (w.heap.size + 1) #[.int .i64 2, .bool false, .int .i64 e, .string s, .int .i64 0] rfl rfl _ _ HN3.out.2.1 (by kernel_rfl) rfl (one5 _ _ _ _ _) (Hid.out ?_))
      refine nx_end (by assumption) ?_
      try simp only [Exit.then]
      have hP := (HN3.out.2.1.row (.int .i64 2) (.bool false) (.int .i64 e) (.string s) (.int .i64 0)).cells
      refine bodyPost_ret (results_res rfl _ _ rfl hP.1 hP.2.1 hP.2.2.1 hP.2.2.2.1 hP.2.2.2.2.1) rfl ?_
      exact ⟨rfl, bel_row HN3.out.2.2.2.1 (by omega) _⟩
set_option maxRecDepth 100000 in
set_option maxHeartbeats 2000000 in
theorem sNx_0 (f : Int) (k : Int) (n : Bool) (e : Int) (s : ByteArray) (w : World) (hsa : s.size ≤ 4611686018427387904) (hr : numB f k n e s = true) (hs : spB 1 (fun _ => k) = false) (hf : f = 64 ∨ f = 128) (hk : k = 1) (hz : (s.toList == [48]) = true) :
    Calls Tryz.prog 15 #[.int .i64 f, numV k n e s] w fun x w' => x = .returned (rsV 1 false (limL f) (tx [1]) 0) ∧ Below w.heap.size w w' := by
  have hb00 : ∀ w, (Instr.build 29 #[]).run Tryz.prog w = .ok (rsV 0 false 0 { data := #[] } 0) w := fun w => run_build w _ _ _ (by kernel_rfl)
  have HN : Hid (NB w k n e s (((w.alloc (.cells #[.int .i64 k, .bool n, .int .i64 e, .string s] 25)).alloc (.cells #[.int .i64 0, .bool false, .int .i64 0, .string { data := #[] }, .int .i64 0] 29)).alloc (.cells #[.int .i64 k, .bool n, .int .i64 e, .string s] 25))) := nb_new w k n e s
  have HOk : Hid (Calls Tryz.prog 57 #[.int .i64 f, .int .i64 1, .slice (some ⟨w.heap.size + 2, 0, none⟩) 1 1] (((w.alloc (.cells #[.int .i64 k, .bool n, .int .i64 e, .string s] 25)).alloc (.cells #[.int .i64 0, .bool false, .int .i64 0, .string { data := #[] }, .int .i64 0] 29)).alloc (.cells #[.int .i64 k, .bool n, .int .i64 e, .string s] 25)) fun x w' => x = .returned (.bool (numB f k n e s)) ∧ Below (((w.alloc (.cells #[.int .i64 k, .bool n, .int .i64 e, .string s] 25)).alloc (.cells #[.int .i64 0, .bool false, .int .i64 0, .string { data := #[] }, .int .i64 0] 29)).alloc (.cells #[.int .i64 k, .bool n, .int .i64 e, .string s] 25)).heap.size (((w.alloc (.cells #[.int .i64 k, .bool n, .int .i64 e, .string s] 25)).alloc (.cells #[.int .i64 0, .bool false, .int .i64 0, .string { data := #[] }, .int .i64 0] 29)).alloc (.cells #[.int .i64 k, .bool n, .int .i64 e, .string s] 25)) w') := by
    have := l13Ok_any f 1 1 (w.heap.size + 2) (fun _ => k) (fun _ => n) (fun _ => e) (fun _ => s) (((w.alloc (.cells #[.int .i64 k, .bool n, .int .i64 e, .string s] 25)).alloc (.cells #[.int .i64 0, .bool false, .int .i64 0, .string { data := #[] }, .int .i64 0] 29)).alloc (.cells #[.int .i64 k, .bool n, .int .i64 e, .string s] 25)) (by decide) HN.out.2.2.2.2 HN.out.2.2.1 (fun _ _ => hsa)
    rw [show (decide (1 ≤ (1 : Int) ∧ (1 : Int) ≤ 5)) = true from rfl, Bool.true_and] at this
    rw [ok1_is] at this
    exact this
  have HSp : Hid (∀ X, NRw X (w.heap.size + 2) 1 (fun _ => k) (fun _ => n) (fun _ => e) (fun _ => s) → w.heap.size + 2 < X.heap.size → Calls Tryz.prog 58 #[.slice (some ⟨w.heap.size + 2, 0, none⟩) 1 1] X fun x w' => x = .returned (.tuple #[rsV 3 false 0 { data := #[] } (spF 1 (fun _ => k)), .bool (spB 1 (fun _ => k))]) ∧ Below X.heap.size X w') := fun X h1 h2 => l13Special_any 1 (w.heap.size + 2) _ _ _ _ X (by decide) h2 h1
  generalize spF 1 (fun _ => k) = SF at *
  obtain ⟨p2, p34, pP, lh, l1, l2⟩ := lims3 f hf
  have HLm : Hid (∀ X, Calls Tryz.prog 44 #[.int .i64 f] X fun r w' => r = .returned (.tuple #[.int .i64 ((limP f).toNat : Int), .int .i64 (limL f), .int .i64 (limH f)]) ∧ w' = X) := fun X => by
    have := Limits_any f X
    rw [pP] at this
    exact this
  generalize (limP f).toNat = P at *
  generalize limL f = low at *
  generalize limH f = high at *
  have HX9 : Hid (∀ i, ∃ S m', S = tx (List.replicate i 9) ∧ S.size = m' ∧ m' = i ∧ S ++ { data := #[57] } = tx (List.replicate (i + 1) 9)) := fun i => ⟨_, _, rfl, by rw [tx_size, List.length_replicate], rfl, by rw [tx_nine, ← List.replicate_succ']⟩
  obtain ⟨NN, hNN⟩ : ∃ NN, tx (List.replicate P 9) = NN := ⟨_, rfl⟩
  have HNN : Hid (tx (List.replicate P 9) = NN) := hNN
  rw [hr] at HOk
  rw [hs] at HSp
  rw [← tx_19]
  subst hk
  clear hsa hr hs hf pP l1 l2 lh hNN
  go_enter Tryz.func15, Tryz.ntmps15
  go_wp2_with fail
  refine (HOk.out).mono ?_
  rintro x w1 ⟨rfl, hb1⟩
  have HN1 : Hid (NB w 1 n e s w1) := HN.out.next hb1
  clear hb1 HN
  try clear c0 c1 c2 c3 c4
  obtain ⟨c0, c1, c2, c3, c4⟩ := HN1.out.1.cells
  go_wp2_with fail
  refine (HSp.out _ HN1.out.2.2.1 HN1.out.2.2.2.2).mono ?_
  rintro x w2 ⟨rfl, hb2⟩
  have HN2 : Hid (NB w 1 n e s w2) := HN1.out.next hb2
  clear hb2 HN1
  try clear c0 c1 c2 c3 c4
  obtain ⟨c0, c1, c2, c3, c4⟩ := HN2.out.1.cells
  have HN3 : Hid (NB w 1 n e s (w2.alloc (.cells #[.int .i64 3, .bool false, .int .i64 0, .string { data := #[] }, .int .i64 SF] 29))) := HN2.out.next ((Below.refl _ _).alloc (Nat.le_refl _) _)
  clear HN2 c0 c1 c2 c3 c4
  obtain ⟨c0, c1, c2, c3, c4⟩ := HN3.out.1.cells
  go_wp2_with fail
  refine (HLm.out _).mono ?_
  rintro x w3 ⟨rfl, rfl⟩
  generalize w2.alloc (.cells #[.int .i64 3, .bool false, .int .i64 0, .string { data := #[] }, .int .i64 SF] 29) = w3 at *
  clear HLm
  go_wp2
  go_loopg [11] P (fun gk s wx => ∃ i : Nat, i ≤ P ∧ gk = P - i ∧ s = .string (tx (List.replicate i 9)) ∧ wx = w3)
  case atStart => exact ⟨0, Nat.zero_le _, rfl, rfl, rfl⟩
  case round =>
    obtain ⟨i, hi, hgk, rfl, hwr⟩ := hrel
    have HG : Hid (gk = P - i) := hgk
    clear hgk
    obtain ⟨S, m', hS, y1, hm', y3⟩ := HX9.out i
    rw [← hS]
    have HSS : Hid (S = tx (List.replicate i 9)) := hS
    clear hS
    by_cases hlt : i < P
    · have HW : Hid (wr = w3) := hwr
      have z4 : (m' : Int) < (P : Int) := by omega
      have z5 : (m' : Int) ≤ 8388608 := by omega
      clear hm' hwr
      go_wp2
      go_roundg (P - (i + 1))
      case measure => have := HG.out; omega
      case rel => exact ⟨i + 1, by omega, rfl, rfl, HW.out⟩
    · have ei : i = P := by omega
      subst ei
      have hwr' := hwr.symm
      subst hwr'
      have z4 : ¬ (m' : Int) < (i : Int) := by omega
      have HSN : Hid (S = NN) := by show _ = _; rw [HSS.out]; exact HNN.out
      clear hm' hlt y3 HG HSS HX9 HNN
      go_wp2_with fail
      refine (l12Finite_any false { data := #[49] } low _).mono ?_
      rintro x w4 ⟨rfl, hb4⟩
      have HN4 : Hid (NB w 1 n e s w4) := HN3.out.next hb4
      clear hb4 HN3
      have hbl := build_res0 1 false low { data := #[49] } w4
      go_wp2_with (refine wpList_store_row rfl 29 (.tmp 4) (.tmp 56) rfl (w.heap.size + 1) #[.int .i64 1, .bool false, .int .i64 low, .string { data := #[49] }, .int .i64 0] rfl rfl _ _ HN4.out.2.1 (by kernel_rfl) rfl (one5 _ _ _ _ _) (Hid.out ?_))
      refine nx_end (by assumption) ?_
      try simp only [Exit.then]
      have hP := (HN4.out.2.1.row (.int .i64 1) (.bool false) (.int .i64 low) (.string { data := #[49] }) (.int .i64 0)).cells
      refine bodyPost_ret (results_res rfl _ _ rfl hP.1 hP.2.1 hP.2.2.1 hP.2.2.2.1 hP.2.2.2.2.1) rfl ?_
      exact ⟨rfl, bel_row HN4.out.2.2.2.1 (by omega) _⟩
set_option maxRecDepth 100000 in
set_option maxHeartbeats 2000000 in
theorem sNx_pos1 (f : Int) (n : Bool) (e : Int) (d : List Int) (w : World) (hr : numB f 1 n e (tx d) = true) (hf : f = 64 ∨ f = 128) (hc : Canon d) (hz : d ≠ [0]) (hl : d.length ≤ (limP f).toNat) (he : limL f ≤ e) (hh : e ≤ limH f) (hn : n = false) (hfit : (nt (vl d * 10 ^ nxJ (limP f).toNat d.length e (limL f) + 1)).length ≤ (limP f).toNat) :
    Calls Tryz.prog 15 #[.int .i64 f, numV 1 n e (tx d)] w fun x w' => x = .returned (rsV 1 false (e - nxJ (limP f).toNat d.length e (limL f)) (tx (nt (vl d * 10 ^ nxJ (limP f).toNat d.length e (limL f) + 1))) 0) ∧ Below w.heap.size w w' := by
  have hsa : (tx d).size ≤ 4611686018427387904 := by
    rw [tx_size]
    obtain ⟨p2, p34, -⟩ := lims3 f hf
    omega
  have hsz := tx_size d
  have hz0 : ((tx d).toList == [48]) = false := tx_is0 d hc.1 hz
  have hs : spB 1 (fun _ => (1 : Int)) = false := decide_eq_false (by rintro ⟨i, -, h⟩; rcases h with h | h <;> cases h)
  have hb00 : ∀ w, (Instr.build 29 #[]).run Tryz.prog w = .ok (rsV 0 false 0 { data := #[] } 0) w := fun w => run_build w _ _ _ (by kernel_rfl)
  have HN : Hid (NB w 1 n e (tx d) (((w.alloc (.cells #[.int .i64 1, .bool n, .int .i64 e, .string (tx d)] 25)).alloc (.cells #[.int .i64 0, .bool false, .int .i64 0, .string { data := #[] }, .int .i64 0] 29)).alloc (.cells #[.int .i64 1, .bool n, .int .i64 e, .string (tx d)] 25))) := nb_new w 1 n e (tx d)
  have HOk : Hid (Calls Tryz.prog 57 #[.int .i64 f, .int .i64 1, .slice (some ⟨w.heap.size + 2, 0, none⟩) 1 1] (((w.alloc (.cells #[.int .i64 1, .bool n, .int .i64 e, .string (tx d)] 25)).alloc (.cells #[.int .i64 0, .bool false, .int .i64 0, .string { data := #[] }, .int .i64 0] 29)).alloc (.cells #[.int .i64 1, .bool n, .int .i64 e, .string (tx d)] 25)) fun x w' => x = .returned (.bool (numB f 1 n e (tx d))) ∧ Below (((w.alloc (.cells #[.int .i64 1, .bool n, .int .i64 e, .string (tx d)] 25)).alloc (.cells #[.int .i64 0, .bool false, .int .i64 0, .string { data := #[] }, .int .i64 0] 29)).alloc (.cells #[.int .i64 1, .bool n, .int .i64 e, .string (tx d)] 25)).heap.size (((w.alloc (.cells #[.int .i64 1, .bool n, .int .i64 e, .string (tx d)] 25)).alloc (.cells #[.int .i64 0, .bool false, .int .i64 0, .string { data := #[] }, .int .i64 0] 29)).alloc (.cells #[.int .i64 1, .bool n, .int .i64 e, .string (tx d)] 25)) w') := by
    have := l13Ok_any f 1 1 (w.heap.size + 2) (fun _ => 1) (fun _ => n) (fun _ => e) (fun _ => tx d) (((w.alloc (.cells #[.int .i64 1, .bool n, .int .i64 e, .string (tx d)] 25)).alloc (.cells #[.int .i64 0, .bool false, .int .i64 0, .string { data := #[] }, .int .i64 0] 29)).alloc (.cells #[.int .i64 1, .bool n, .int .i64 e, .string (tx d)] 25)) (by decide) HN.out.2.2.2.2 HN.out.2.2.1 (fun _ _ => hsa)
    rw [show (decide (1 ≤ (1 : Int) ∧ (1 : Int) ≤ 5)) = true from rfl, Bool.true_and] at this
    rw [ok1_is] at this
    exact this
  have HSp : Hid (∀ X, NRw X (w.heap.size + 2) 1 (fun _ => 1) (fun _ => n) (fun _ => e) (fun _ => tx d) → w.heap.size + 2 < X.heap.size → Calls Tryz.prog 58 #[.slice (some ⟨w.heap.size + 2, 0, none⟩) 1 1] X fun x w' => x = .returned (.tuple #[rsV 3 false 0 { data := #[] } (spF 1 (fun _ => 1)), .bool (spB 1 (fun _ => 1))]) ∧ Below X.heap.size X w') := fun X h1 h2 => l13Special_any 1 (w.heap.size + 2) _ _ _ _ X (by decide) h2 h1
  generalize spF 1 (fun _ => 1) = SF at *
  obtain ⟨p2, p34, pP, lh, l1, l2⟩ := lims3 f hf
  have HLm : Hid (∀ X, Calls Tryz.prog 44 #[.int .i64 f] X fun r w' => r = .returned (.tuple #[.int .i64 ((limP f).toNat : Int), .int .i64 (limL f), .int .i64 (limH f)]) ∧ w' = X) := fun X => by
    have := Limits_any f X
    rw [pP] at this
    exact this
  generalize (limP f).toNat = P at *
  generalize limL f = low at *
  generalize limH f = high at *
  have HX9 : Hid (∀ i, ∃ S m', S = tx (List.replicate i 9) ∧ S.size = m' ∧ m' = i ∧ S ++ { data := #[57] } = tx (List.replicate (i + 1) 9)) := fun i => ⟨_, _, rfl, by rw [tx_size, List.length_replicate], rfl, by rw [tx_nine, ← List.replicate_succ']⟩
  obtain ⟨NN, hNN⟩ : ∃ NN, tx (List.replicate P 9) = NN := ⟨_, rfl⟩
  have HNN : Hid (tx (List.replicate P 9) = NN) := hNN
  rw [hr] at HOk
  rw [hs] at HSp
  obtain ⟨J, hJ⟩ : ∃ J, nxJ P d.length e low = J := ⟨_, rfl⟩
  have hJ1 : J ≤ P - d.length ∧ (J : Int) ≤ e - low ∧ (J = P - d.length ∨ (J : Int) = e - low) := by rw [← hJ]; unfold nxJ; omega
  have hd1 := hc.2.1
  have cU := canon_noughts d J hc hz
  have vU := vl_noughts d J
  have lU : (d ++ List.replicate J 0).length ≤ 34 := by rw [List.length_append, List.length_replicate]; omega
  have bU := vl_bd d hc.1
  obtain ⟨U0, hU0⟩ : ∃ U, tx (d ++ List.replicate J 0) = U := ⟨_, rfl⟩
  have HU0 : Hid (tx (d ++ List.replicate J 0) = U0) := hU0
  have HAd : Hid (∀ X, Calls Tryz.prog 73 #[.string U0, .string { data := #[49] }] X fun x w' => x = .returned (.string (tx (nt (vl d * 10 ^ J + 1)))) ∧ Below X.heap.size X w') := fun X => by
    rw [← hU0, tx_19]
    refine (l11Add_any _ [1] X cU (canon_one 1 (by decide) (by decide)) (by omega) (by decide)).mono ?_
    rintro x w' ⟨R, rfl, cR, vR, lR, hb⟩
    rw [vU, show vl [1] = 1 from rfl] at vR
    rw [← nt_of R _ cR vR (by have : ([1] : List Int).length = 1 := rfl; omega)]
    exact ⟨rfl, hb⟩
  obtain ⟨D, hD⟩ : ∃ D, nt (vl d * 10 ^ J + 1) = D := ⟨_, rfl⟩
  have sD := tx_size D
  rw [hJ, hD] at hfit
  rw [hJ, hD]
  rw [hD] at HAd
  have wJ1 : IntKind.i64.wrap (e - (J : Int) + 1) = e - (J : Int) + 1 := by rw [IntKind.wrap_i64]; omega
  clear cU vU lU bU hU0 hD
  have HXd : Hid (∀ i, i ≤ J → ∃ S m', S = tx (d ++ List.replicate i 0) ∧ S.size = m' ∧ m' = d.length + i ∧ S ++ { data := #[48] } = tx (d ++ List.replicate (i + 1) 0)) := fun i hi => ⟨_, _, rfl, by rw [tx_size, List.length_append, List.length_replicate], rfl, by rw [tx_more, List.append_assoc, ← List.replicate_succ']⟩
  have HS0 : Hid (tx d = tx (d ++ List.replicate 0 0)) := by show _ = _; simp
  obtain ⟨L, hL⟩ : ∃ L, d.length = L := ⟨_, rfl⟩
  rw [hL] at hsz hJ1 hl hd1 HXd
  clear hsa hr hs hf pP hJ hNN hc hz hL
  have Hfit := hid_of hfit
  clear hfit
  subst hn
  go_enter Tryz.func15, Tryz.ntmps15
  go_wp2_with fail
  refine (HOk.out).mono ?_
  rintro x w1 ⟨rfl, hb1⟩
  have HN1 : Hid (NB w 1 false e (tx d) w1) := HN.out.next hb1
  clear hb1 HN
  try clear c0 c1 c2 c3 c4
  obtain ⟨c0, c1, c2, c3, c4⟩ := HN1.out.1.cells
  go_wp2_with fail
  refine (HSp.out _ HN1.out.2.2.1 HN1.out.2.2.2.2).mono ?_
  rintro x w2 ⟨rfl, hb2⟩
  have HN2 : Hid (NB w 1 false e (tx d) w2) := HN1.out.next hb2
  clear hb2 HN1
  try clear c0 c1 c2 c3 c4
  obtain ⟨c0, c1, c2, c3, c4⟩ := HN2.out.1.cells
  have HN3 : Hid (NB w 1 false e (tx d) (w2.alloc (.cells #[.int .i64 3, .bool false, .int .i64 0, .string { data := #[] }, .int .i64 SF] 29))) := HN2.out.next ((Below.refl _ _).alloc (Nat.le_refl _) _)
  clear HN2 c0 c1 c2 c3 c4
  obtain ⟨c0, c1, c2, c3, c4⟩ := HN3.out.1.cells
  go_wp2_with fail
  refine (HLm.out _).mono ?_
  rintro x w3 ⟨rfl, rfl⟩
  generalize w2.alloc (.cells #[.int .i64 3, .bool false, .int .i64 0, .string { data := #[] }, .int .i64 SF] 29) = w3 at *
  clear HLm
  go_wp2
  go_loopg [11] P (fun gk s wx => ∃ i : Nat, i ≤ P ∧ gk = P - i ∧ s = .string (tx (List.replicate i 9)) ∧ wx = w3)
  case atStart => exact ⟨0, Nat.zero_le _, rfl, rfl, rfl⟩
  case round =>
    obtain ⟨i, hi, hgk, rfl, hwr⟩ := hrel
    have HG : Hid (gk = P - i) := hgk
    clear hgk
    obtain ⟨S, m', hS, y1, hm', y3⟩ := HX9.out i
    rw [← hS]
    have HSS : Hid (S = tx (List.replicate i 9)) := hS
    clear hS
    by_cases hlt : i < P
    · have HW : Hid (wr = w3) := hwr
      have z4 : (m' : Int) < (P : Int) := by omega
      have z5 : (m' : Int) ≤ 8388608 := by omega
      clear hm' hwr
      go_wp2
      go_roundg (P - (i + 1))
      case measure => have := HG.out; omega
      case rel => exact ⟨i + 1, by omega, rfl, rfl, HW.out⟩
    · have ei : i = P := by omega
      subst ei
      have hwr' := hwr.symm
      subst hwr'
      have z4 : ¬ (m' : Int) < (i : Int) := by omega
      have HSN : Hid (S = NN) := by show _ = _; rw [HSS.out]; exact HNN.out
      clear hm' hlt y3 HG HSS HX9 HNN
      go_wp2
      go_loopg [12, 13] J (fun gk t x wx => ∃ i : Nat, i ≤ J ∧ gk = J - i ∧ t = .string (tx (d ++ List.replicate i 0)) ∧ x = .int .i64 (e - (i : Int)) ∧ wx = w3)
      case atStart => exact ⟨0, Nat.zero_le _, rfl, by rw [← HS0.out], by simp, rfl⟩
      case round =>
        obtain ⟨j, hj, hgk, rfl, rfl, hwr⟩ := hrel
        have HG : Hid (gk = J - j) := hgk
        clear hgk
        obtain ⟨T, m2, hT, y1, hm2, y3⟩ := HXd.out j hj
        rw [← hT]
        have HTT : Hid (T = tx (d ++ List.replicate j 0)) := hT
        have wj : IntKind.i64.wrap (e - (j : Int) - 1) = e - (j : Int) - 1 := by rw [IntKind.wrap_i64]; omega
        clear hT
        by_cases hlt : j < J
        · have HW : Hid (wr = w3) := hwr
          have z4 : (m2 : Int) < (i : Int) := by omega
          have z5 : (m2 : Int) ≤ 8388608 := by omega
          have z6 : low < e - (j : Int) := by omega
          clear hm2 hwr
          go_wp2
          go_roundg (J - (j + 1))
          case measure => have := HG.out; omega
          case rel => exact ⟨j + 1, by omega, rfl, rfl, by go_num, HW.out⟩
        · have ej : j = J := by omega
          subst ej
          have hwr' := hwr.symm
          subst hwr'
          have eTU : T = U0 := by rw [HTT.out]; exact HU0.out
          subst eTU
          clear hlt y3 HG HTT HXd HU0
          by_cases z4 : (m2 : Int) < (i : Int)
          · have z6 : ¬ low < e - (j : Int) := by omega
            clear hm2
            have hfit := Hfit.out
            clear Hfit
            go_wp2_with fail
            refine (HAd.out _).mono ?_
            rintro x w5 ⟨rfl, hb5⟩
            have HN5 : Hid (NB w 1 false e (tx d) w5) := HN3.out.next hb5
            clear hb5 HN3 HAd c0 c1 c2 c3 c4
            have y4 : ¬ (i : Int) < (D.length : Int) := by omega
            have y5 : ¬ high < e - (j : Int) := by omega
            go_wp2_with fail
            refine (l12Finite_any false (tx D) (e - (j : Int)) _).mono ?_
            rintro x w6 ⟨rfl, hb6⟩
            have HN6 : Hid (NB w 1 false e (tx d) w6) := HN5.out.next hb6
            clear hb6 HN5
            have hbl := build_res0 1 false (e - (j : Int)) (tx D) w6
            go_wp2_with (refine wpList_store_row rfl 29 (.tmp 4) (.tmp 95) rfl (w.heap.size + 1) #[.int .i64 1, .bool false, .int .i64 (e - (j : Int)), .string (tx D), .int .i64 0] rfl rfl _ _ HN6.out.2.1 (by kernel_rfl) rfl (one5 _ _ _ _ _) (Hid.out ?_))
            refine nx_end (by assumption) ?_
            try simp only [Exit.then]
            have hP := (HN6.out.2.1.row (.int .i64 1) (.bool false) (.int .i64 (e - (j : Int))) (.string (tx D)) (.int .i64 0)).cells
            refine bodyPost_ret (results_res rfl _ _ rfl hP.1 hP.2.1 hP.2.2.1 hP.2.2.2.1 hP.2.2.2.2.1) rfl ?_
            exact ⟨rfl, bel_row HN6.out.2.2.2.1 (by omega) _⟩
          · clear hm2
            have hfit := Hfit.out
            clear Hfit
            go_wp2_with fail
            refine (HAd.out _).mono ?_
            rintro x w5 ⟨rfl, hb5⟩
            have HN5 : Hid (NB w 1 false e (tx d) w5) := HN3.out.next hb5
            clear hb5 HN3 HAd c0 c1 c2 c3 c4
            have y4 : ¬ (i : Int) < (D.length : Int) := by omega
            have y5 : ¬ high < e - (j : Int) := by omega
            go_wp2_with fail
            refine (l12Finite_any false (tx D) (e - (j : Int)) _).mono ?_
            rintro x w6 ⟨rfl, hb6⟩
            have HN6 : Hid (NB w 1 false e (tx d) w6) := HN5.out.next hb6
            clear hb6 HN5
            have hbl := build_res0 1 false (e - (j : Int)) (tx D) w6
            go_wp2_with (refine wpList_store_row rfl 29 (.tmp 4) (.tmp 95) rfl (w.heap.size + 1) #[.int .i64 1, .bool false, .int .i64 (e - (j : Int)), .string (tx D), .int .i64 0] rfl rfl _ _ HN6.out.2.1 (by kernel_rfl) rfl (one5 _ _ _ _ _) (Hid.out ?_))
            refine nx_end (by assumption) ?_
            try simp only [Exit.then]
            have hP := (HN6.out.2.1.row (.int .i64 1) (.bool false) (.int .i64 (e - (j : Int))) (.string (tx D)) (.int .i64 0)).cells
            refine bodyPost_ret (results_res rfl _ _ rfl hP.1 hP.2.1 hP.2.2.1 hP.2.2.2.1 hP.2.2.2.2.1) rfl ?_
            exact ⟨rfl, bel_row HN6.out.2.2.2.1 (by omega) _⟩
set_option maxRecDepth 100000 in
set_option maxHeartbeats 2000000 in
theorem sNx_pos2 (f : Int) (n : Bool) (e : Int) (d : List Int) (w : World) (hr : numB f 1 n e (tx d) = true) (hf : f = 64 ∨ f = 128) (hc : Canon d) (hz : d ≠ [0]) (hl : d.length ≤ (limP f).toNat) (he : limL f ≤ e) (hh : e ≤ limH f) (hn : n = false) (hfit : (limP f).toNat < (nt (vl d * 10 ^ nxJ (limP f).toNat d.length e (limL f) + 1)).length ∧ e - nxJ (limP f).toNat d.length e (limL f) + 1 ≤ limH f) :
    Calls Tryz.prog 15 #[.int .i64 f, numV 1 n e (tx d)] w fun x w' => x = .returned (rsV 1 false (e - nxJ (limP f).toNat d.length e (limL f) + 1) (tx ((nt (vl d * 10 ^ nxJ (limP f).toNat d.length e (limL f) + 1)).take (limP f).toNat)) 0) ∧ Below w.heap.size w w' := by
  have hsa : (tx d).size ≤ 4611686018427387904 := by
    rw [tx_size]
    obtain ⟨p2, p34, -⟩ := lims3 f hf
    omega
  have hsz := tx_size d
  have hz0 : ((tx d).toList == [48]) = false := tx_is0 d hc.1 hz
  have hs : spB 1 (fun _ => (1 : Int)) = false := decide_eq_false (by rintro ⟨i, -, h⟩; rcases h with h | h <;> cases h)
  have hb00 : ∀ w, (Instr.build 29 #[]).run Tryz.prog w = .ok (rsV 0 false 0 { data := #[] } 0) w := fun w => run_build w _ _ _ (by kernel_rfl)
  have HN : Hid (NB w 1 n e (tx d) (((w.alloc (.cells #[.int .i64 1, .bool n, .int .i64 e, .string (tx d)] 25)).alloc (.cells #[.int .i64 0, .bool false, .int .i64 0, .string { data := #[] }, .int .i64 0] 29)).alloc (.cells #[.int .i64 1, .bool n, .int .i64 e, .string (tx d)] 25))) := nb_new w 1 n e (tx d)
  have HOk : Hid (Calls Tryz.prog 57 #[.int .i64 f, .int .i64 1, .slice (some ⟨w.heap.size + 2, 0, none⟩) 1 1] (((w.alloc (.cells #[.int .i64 1, .bool n, .int .i64 e, .string (tx d)] 25)).alloc (.cells #[.int .i64 0, .bool false, .int .i64 0, .string { data := #[] }, .int .i64 0] 29)).alloc (.cells #[.int .i64 1, .bool n, .int .i64 e, .string (tx d)] 25)) fun x w' => x = .returned (.bool (numB f 1 n e (tx d))) ∧ Below (((w.alloc (.cells #[.int .i64 1, .bool n, .int .i64 e, .string (tx d)] 25)).alloc (.cells #[.int .i64 0, .bool false, .int .i64 0, .string { data := #[] }, .int .i64 0] 29)).alloc (.cells #[.int .i64 1, .bool n, .int .i64 e, .string (tx d)] 25)).heap.size (((w.alloc (.cells #[.int .i64 1, .bool n, .int .i64 e, .string (tx d)] 25)).alloc (.cells #[.int .i64 0, .bool false, .int .i64 0, .string { data := #[] }, .int .i64 0] 29)).alloc (.cells #[.int .i64 1, .bool n, .int .i64 e, .string (tx d)] 25)) w') := by
    have := l13Ok_any f 1 1 (w.heap.size + 2) (fun _ => 1) (fun _ => n) (fun _ => e) (fun _ => tx d) (((w.alloc (.cells #[.int .i64 1, .bool n, .int .i64 e, .string (tx d)] 25)).alloc (.cells #[.int .i64 0, .bool false, .int .i64 0, .string { data := #[] }, .int .i64 0] 29)).alloc (.cells #[.int .i64 1, .bool n, .int .i64 e, .string (tx d)] 25)) (by decide) HN.out.2.2.2.2 HN.out.2.2.1 (fun _ _ => hsa)
    rw [show (decide (1 ≤ (1 : Int) ∧ (1 : Int) ≤ 5)) = true from rfl, Bool.true_and] at this
    rw [ok1_is] at this
    exact this
  have HSp : Hid (∀ X, NRw X (w.heap.size + 2) 1 (fun _ => 1) (fun _ => n) (fun _ => e) (fun _ => tx d) → w.heap.size + 2 < X.heap.size → Calls Tryz.prog 58 #[.slice (some ⟨w.heap.size + 2, 0, none⟩) 1 1] X fun x w' => x = .returned (.tuple #[rsV 3 false 0 { data := #[] } (spF 1 (fun _ => 1)), .bool (spB 1 (fun _ => 1))]) ∧ Below X.heap.size X w') := fun X h1 h2 => l13Special_any 1 (w.heap.size + 2) _ _ _ _ X (by decide) h2 h1
  generalize spF 1 (fun _ => 1) = SF at *
  obtain ⟨p2, p34, pP, lh, l1, l2⟩ := lims3 f hf
  have HLm : Hid (∀ X, Calls Tryz.prog 44 #[.int .i64 f] X fun r w' => r = .returned (.tuple #[.int .i64 ((limP f).toNat : Int), .int .i64 (limL f), .int .i64 (limH f)]) ∧ w' = X) := fun X => by
    have := Limits_any f X
    rw [pP] at this
    exact this
  generalize (limP f).toNat = P at *
  generalize limL f = low at *
  generalize limH f = high at *
  have HX9 : Hid (∀ i, ∃ S m', S = tx (List.replicate i 9) ∧ S.size = m' ∧ m' = i ∧ S ++ { data := #[57] } = tx (List.replicate (i + 1) 9)) := fun i => ⟨_, _, rfl, by rw [tx_size, List.length_replicate], rfl, by rw [tx_nine, ← List.replicate_succ']⟩
  obtain ⟨NN, hNN⟩ : ∃ NN, tx (List.replicate P 9) = NN := ⟨_, rfl⟩
  have HNN : Hid (tx (List.replicate P 9) = NN) := hNN
  rw [hr] at HOk
  rw [hs] at HSp
  obtain ⟨J, hJ⟩ : ∃ J, nxJ P d.length e low = J := ⟨_, rfl⟩
  have hJ1 : J ≤ P - d.length ∧ (J : Int) ≤ e - low ∧ (J = P - d.length ∨ (J : Int) = e - low) := by rw [← hJ]; unfold nxJ; omega
  have hd1 := hc.2.1
  have cU := canon_noughts d J hc hz
  have vU := vl_noughts d J
  have lU : (d ++ List.replicate J 0).length ≤ 34 := by rw [List.length_append, List.length_replicate]; omega
  have bU := vl_bd d hc.1
  obtain ⟨U0, hU0⟩ : ∃ U, tx (d ++ List.replicate J 0) = U := ⟨_, rfl⟩
  have HU0 : Hid (tx (d ++ List.replicate J 0) = U0) := hU0
  have HAd : Hid (∀ X, Calls Tryz.prog 73 #[.string U0, .string { data := #[49] }] X fun x w' => x = .returned (.string (tx (nt (vl d * 10 ^ J + 1)))) ∧ Below X.heap.size X w') := fun X => by
    rw [← hU0, tx_19]
    refine (l11Add_any _ [1] X cU (canon_one 1 (by decide) (by decide)) (by omega) (by decide)).mono ?_
    rintro x w' ⟨R, rfl, cR, vR, lR, hb⟩
    rw [vU, show vl [1] = 1 from rfl] at vR
    rw [← nt_of R _ cR vR (by have : ([1] : List Int).length = 1 := rfl; omega)]
    exact ⟨rfl, hb⟩
  obtain ⟨D, hD⟩ : ∃ D, nt (vl d * 10 ^ J + 1) = D := ⟨_, rfl⟩
  have sD := tx_size D
  rw [hJ, hD] at hfit
  rw [hJ, hD]
  rw [hD] at HAd
  have wJ1 : IntKind.i64.wrap (e - (J : Int) + 1) = e - (J : Int) + 1 := by rw [IntKind.wrap_i64]; omega
  clear cU vU lU bU hU0 hD
  have hx := tx_take D P (by omega)
  have HXd : Hid (∀ i, i ≤ J → ∃ S m', S = tx (d ++ List.replicate i 0) ∧ S.size = m' ∧ m' = d.length + i ∧ S ++ { data := #[48] } = tx (d ++ List.replicate (i + 1) 0)) := fun i hi => ⟨_, _, rfl, by rw [tx_size, List.length_append, List.length_replicate], rfl, by rw [tx_more, List.append_assoc, ← List.replicate_succ']⟩
  have HS0 : Hid (tx d = tx (d ++ List.replicate 0 0)) := by show _ = _; simp
  obtain ⟨L, hL⟩ : ∃ L, d.length = L := ⟨_, rfl⟩
  rw [hL] at hsz hJ1 hl hd1 HXd
  clear hsa hr hs hf pP hJ hNN hc hz hL
  have Hfit := hid_of hfit
  clear hfit
  subst hn
  go_enter Tryz.func15, Tryz.ntmps15
  go_wp2_with fail
  refine (HOk.out).mono ?_
  rintro x w1 ⟨rfl, hb1⟩
  have HN1 : Hid (NB w 1 false e (tx d) w1) := HN.out.next hb1
  clear hb1 HN
  try clear c0 c1 c2 c3 c4
  obtain ⟨c0, c1, c2, c3, c4⟩ := HN1.out.1.cells
  go_wp2_with fail
  refine (HSp.out _ HN1.out.2.2.1 HN1.out.2.2.2.2).mono ?_
  rintro x w2 ⟨rfl, hb2⟩
  have HN2 : Hid (NB w 1 false e (tx d) w2) := HN1.out.next hb2
  clear hb2 HN1
  try clear c0 c1 c2 c3 c4
  obtain ⟨c0, c1, c2, c3, c4⟩ := HN2.out.1.cells
  have HN3 : Hid (NB w 1 false e (tx d) (w2.alloc (.cells #[.int .i64 3, .bool false, .int .i64 0, .string { data := #[] }, .int .i64 SF] 29))) := HN2.out.next ((Below.refl _ _).alloc (Nat.le_refl _) _)
  clear HN2 c0 c1 c2 c3 c4
  obtain ⟨c0, c1, c2, c3, c4⟩ := HN3.out.1.cells
  go_wp2_with fail
  refine (HLm.out _).mono ?_
  rintro x w3 ⟨rfl, rfl⟩
  generalize w2.alloc (.cells #[.int .i64 3, .bool false, .int .i64 0, .string { data := #[] }, .int .i64 SF] 29) = w3 at *
  clear HLm
  go_wp2
  go_loopg [11] P (fun gk s wx => ∃ i : Nat, i ≤ P ∧ gk = P - i ∧ s = .string (tx (List.replicate i 9)) ∧ wx = w3)
  case atStart => exact ⟨0, Nat.zero_le _, rfl, rfl, rfl⟩
  case round =>
    obtain ⟨i, hi, hgk, rfl, hwr⟩ := hrel
    have HG : Hid (gk = P - i) := hgk
    clear hgk
    obtain ⟨S, m', hS, y1, hm', y3⟩ := HX9.out i
    rw [← hS]
    have HSS : Hid (S = tx (List.replicate i 9)) := hS
    clear hS
    by_cases hlt : i < P
    · have HW : Hid (wr = w3) := hwr
      have z4 : (m' : Int) < (P : Int) := by omega
      have z5 : (m' : Int) ≤ 8388608 := by omega
      clear hm' hwr
      go_wp2
      go_roundg (P - (i + 1))
      case measure => have := HG.out; omega
      case rel => exact ⟨i + 1, by omega, rfl, rfl, HW.out⟩
    · have ei : i = P := by omega
      subst ei
      have hwr' := hwr.symm
      subst hwr'
      have z4 : ¬ (m' : Int) < (i : Int) := by omega
      have HSN : Hid (S = NN) := by show _ = _; rw [HSS.out]; exact HNN.out
      clear hm' hlt y3 HG HSS HX9 HNN
      go_wp2
      go_loopg [12, 13] J (fun gk t x wx => ∃ i : Nat, i ≤ J ∧ gk = J - i ∧ t = .string (tx (d ++ List.replicate i 0)) ∧ x = .int .i64 (e - (i : Int)) ∧ wx = w3)
      case atStart => exact ⟨0, Nat.zero_le _, rfl, by rw [← HS0.out], by simp, rfl⟩
      case round =>
        obtain ⟨j, hj, hgk, rfl, rfl, hwr⟩ := hrel
        have HG : Hid (gk = J - j) := hgk
        clear hgk
        obtain ⟨T, m2, hT, y1, hm2, y3⟩ := HXd.out j hj
        rw [← hT]
        have HTT : Hid (T = tx (d ++ List.replicate j 0)) := hT
        have wj : IntKind.i64.wrap (e - (j : Int) - 1) = e - (j : Int) - 1 := by rw [IntKind.wrap_i64]; omega
        clear hT
        by_cases hlt : j < J
        · have HW : Hid (wr = w3) := hwr
          have z4 : (m2 : Int) < (i : Int) := by omega
          have z5 : (m2 : Int) ≤ 8388608 := by omega
          have z6 : low < e - (j : Int) := by omega
          clear hm2 hwr
          go_wp2
          go_roundg (J - (j + 1))
          case measure => have := HG.out; omega
          case rel => exact ⟨j + 1, by omega, rfl, rfl, by go_num, HW.out⟩
        · have ej : j = J := by omega
          subst ej
          have hwr' := hwr.symm
          subst hwr'
          have eTU : T = U0 := by rw [HTT.out]; exact HU0.out
          subst eTU
          clear hlt y3 HG HTT HXd HU0
          by_cases z4 : (m2 : Int) < (i : Int)
          · have z6 : ¬ low < e - (j : Int) := by omega
            clear hm2
            have hfit := Hfit.out
            clear Hfit
            go_wp2_with fail
            refine (HAd.out _).mono ?_
            rintro x w5 ⟨rfl, hb5⟩
            have HN5 : Hid (NB w 1 false e (tx d) w5) := HN3.out.next hb5
            clear hb5 HN3 HAd c0 c1 c2 c3 c4
            have y4 : (i : Int) < (D.length : Int) := by omega
            have y5 : ¬ high < e - (j : Int) + 1 := by omega
            have y6 : ¬ (D.length : Int) < (i : Int) := by omega
            have y7 : i ≤ D.length := by omega
            go_wp2_with fail
            refine (l12Finite_any false (tx (D.take i)) (e - (j : Int) + 1) _).mono ?_
            rintro x w6 ⟨rfl, hb6⟩
            have HN6 : Hid (NB w 1 false e (tx d) w6) := HN5.out.next hb6
            clear hb6 HN5
            have hbl := build_res0 1 false (e - (j : Int) + 1) (tx (D.take i)) w6
            go_wp2_with (refine wpList_store_row rfl 29 (.tmp 4) (.tmp 95) rfl (w.heap.size + 1) #[.int .i64 1, .bool false, .int .i64 (e - (j : Int) + 1), .string (tx (D.take i)), .int .i64 0] rfl rfl _ _ HN6.out.2.1 (by kernel_rfl) rfl (one5 _ _ _ _ _) (Hid.out ?_))
            refine nx_end (by assumption) ?_
            try simp only [Exit.then]
            have hP := (HN6.out.2.1.row (.int .i64 1) (.bool false) (.int .i64 (e - (j : Int) + 1)) (.string (tx (D.take i))) (.int .i64 0)).cells
            refine bodyPost_ret (results_res rfl _ _ rfl hP.1 hP.2.1 hP.2.2.1 hP.2.2.2.1 hP.2.2.2.2.1) rfl ?_
            exact ⟨rfl, bel_row HN6.out.2.2.2.1 (by omega) _⟩
          · clear hm2
            have hfit := Hfit.out
            clear Hfit
            go_wp2_with fail
            refine (HAd.out _).mono ?_
            rintro x w5 ⟨rfl, hb5⟩
            have HN5 : Hid (NB w 1 false e (tx d) w5) := HN3.out.next hb5
            clear hb5 HN3 HAd c0 c1 c2 c3 c4
            have y4 : (i : Int) < (D.length : Int) := by omega
            have y5 : ¬ high < e - (j : Int) + 1 := by omega
            have y6 : ¬ (D.length : Int) < (i : Int) := by omega
            have y7 : i ≤ D.length := by omega
            go_wp2_with fail
            refine (l12Finite_any false (tx (D.take i)) (e - (j : Int) + 1) _).mono ?_
            rintro x w6 ⟨rfl, hb6⟩
            have HN6 : Hid (NB w 1 false e (tx d) w6) := HN5.out.next hb6
            clear hb6 HN5
            have hbl := build_res0 1 false (e - (j : Int) + 1) (tx (D.take i)) w6
            go_wp2_with (refine wpList_store_row rfl 29 (.tmp 4) (.tmp 95) rfl (w.heap.size + 1) #[.int .i64 1, .bool false, .int .i64 (e - (j : Int) + 1), .string (tx (D.take i)), .int .i64 0] rfl rfl _ _ HN6.out.2.1 (by kernel_rfl) rfl (one5 _ _ _ _ _) (Hid.out ?_))
            refine nx_end (by assumption) ?_
            try simp only [Exit.then]
            have hP := (HN6.out.2.1.row (.int .i64 1) (.bool false) (.int .i64 (e - (j : Int) + 1)) (.string (tx (D.take i))) (.int .i64 0)).cells
            refine bodyPost_ret (results_res rfl _ _ rfl hP.1 hP.2.1 hP.2.2.1 hP.2.2.2.1 hP.2.2.2.2.1) rfl ?_
            exact ⟨rfl, bel_row HN6.out.2.2.2.1 (by omega) _⟩
set_option maxRecDepth 100000 in
set_option maxHeartbeats 2000000 in
theorem sNx_pos3 (f : Int) (n : Bool) (e : Int) (d : List Int) (w : World) (hr : numB f 1 n e (tx d) = true) (hf : f = 64 ∨ f = 128) (hc : Canon d) (hz : d ≠ [0]) (hl : d.length ≤ (limP f).toNat) (he : limL f ≤ e) (hh : e ≤ limH f) (hn : n = false) (hfit : (limP f).toNat < (nt (vl d * 10 ^ nxJ (limP f).toNat d.length e (limL f) + 1)).length ∧ ¬ e - nxJ (limP f).toNat d.length e (limL f) + 1 ≤ limH f) :
    Calls Tryz.prog 15 #[.int .i64 f, numV 1 n e (tx d)] w fun x w' => x = .returned (rsV 2 false 0 { data := #[] } 0) ∧ Below w.heap.size w w' := by
  have hsa : (tx d).size ≤ 4611686018427387904 := by
    rw [tx_size]
    obtain ⟨p2, p34, -⟩ := lims3 f hf
    omega
  have hsz := tx_size d
  have hz0 : ((tx d).toList == [48]) = false := tx_is0 d hc.1 hz
  have hs : spB 1 (fun _ => (1 : Int)) = false := decide_eq_false (by rintro ⟨i, -, h⟩; rcases h with h | h <;> cases h)
  have hb00 : ∀ w, (Instr.build 29 #[]).run Tryz.prog w = .ok (rsV 0 false 0 { data := #[] } 0) w := fun w => run_build w _ _ _ (by kernel_rfl)
  have HN : Hid (NB w 1 n e (tx d) (((w.alloc (.cells #[.int .i64 1, .bool n, .int .i64 e, .string (tx d)] 25)).alloc (.cells #[.int .i64 0, .bool false, .int .i64 0, .string { data := #[] }, .int .i64 0] 29)).alloc (.cells #[.int .i64 1, .bool n, .int .i64 e, .string (tx d)] 25))) := nb_new w 1 n e (tx d)
  have HOk : Hid (Calls Tryz.prog 57 #[.int .i64 f, .int .i64 1, .slice (some ⟨w.heap.size + 2, 0, none⟩) 1 1] (((w.alloc (.cells #[.int .i64 1, .bool n, .int .i64 e, .string (tx d)] 25)).alloc (.cells #[.int .i64 0, .bool false, .int .i64 0, .string { data := #[] }, .int .i64 0] 29)).alloc (.cells #[.int .i64 1, .bool n, .int .i64 e, .string (tx d)] 25)) fun x w' => x = .returned (.bool (numB f 1 n e (tx d))) ∧ Below (((w.alloc (.cells #[.int .i64 1, .bool n, .int .i64 e, .string (tx d)] 25)).alloc (.cells #[.int .i64 0, .bool false, .int .i64 0, .string { data := #[] }, .int .i64 0] 29)).alloc (.cells #[.int .i64 1, .bool n, .int .i64 e, .string (tx d)] 25)).heap.size (((w.alloc (.cells #[.int .i64 1, .bool n, .int .i64 e, .string (tx d)] 25)).alloc (.cells #[.int .i64 0, .bool false, .int .i64 0, .string { data := #[] }, .int .i64 0] 29)).alloc (.cells #[.int .i64 1, .bool n, .int .i64 e, .string (tx d)] 25)) w') := by
    have := l13Ok_any f 1 1 (w.heap.size + 2) (fun _ => 1) (fun _ => n) (fun _ => e) (fun _ => tx d) (((w.alloc (.cells #[.int .i64 1, .bool n, .int .i64 e, .string (tx d)] 25)).alloc (.cells #[.int .i64 0, .bool false, .int .i64 0, .string { data := #[] }, .int .i64 0] 29)).alloc (.cells #[.int .i64 1, .bool n, .int .i64 e, .string (tx d)] 25)) (by decide) HN.out.2.2.2.2 HN.out.2.2.1 (fun _ _ => hsa)
    rw [show (decide (1 ≤ (1 : Int) ∧ (1 : Int) ≤ 5)) = true from rfl, Bool.true_and] at this
    rw [ok1_is] at this
    exact this
  have HSp : Hid (∀ X, NRw X (w.heap.size + 2) 1 (fun _ => 1) (fun _ => n) (fun _ => e) (fun _ => tx d) → w.heap.size + 2 < X.heap.size → Calls Tryz.prog 58 #[.slice (some ⟨w.heap.size + 2, 0, none⟩) 1 1] X fun x w' => x = .returned (.tuple #[rsV 3 false 0 { data := #[] } (spF 1 (fun _ => 1)), .bool (spB 1 (fun _ => 1))]) ∧ Below X.heap.size X w') := fun X h1 h2 => l13Special_any 1 (w.heap.size + 2) _ _ _ _ X (by decide) h2 h1
  generalize spF 1 (fun _ => 1) = SF at *
  obtain ⟨p2, p34, pP, lh, l1, l2⟩ := lims3 f hf
  have HLm : Hid (∀ X, Calls Tryz.prog 44 #[.int .i64 f] X fun r w' => r = .returned (.tuple #[.int .i64 ((limP f).toNat : Int), .int .i64 (limL f), .int .i64 (limH f)]) ∧ w' = X) := fun X => by
    have := Limits_any f X
    rw [pP] at this
    exact this
  generalize (limP f).toNat = P at *
  generalize limL f = low at *
  generalize limH f = high at *
  have HX9 : Hid (∀ i, ∃ S m', S = tx (List.replicate i 9) ∧ S.size = m' ∧ m' = i ∧ S ++ { data := #[57] } = tx (List.replicate (i + 1) 9)) := fun i => ⟨_, _, rfl, by rw [tx_size, List.length_replicate], rfl, by rw [tx_nine, ← List.replicate_succ']⟩
  obtain ⟨NN, hNN⟩ : ∃ NN, tx (List.replicate P 9) = NN := ⟨_, rfl⟩
  have HNN : Hid (tx (List.replicate P 9) = NN) := hNN
  rw [hr] at HOk
  rw [hs] at HSp
  obtain ⟨J, hJ⟩ : ∃ J, nxJ P d.length e low = J := ⟨_, rfl⟩
  have hJ1 : J ≤ P - d.length ∧ (J : Int) ≤ e - low ∧ (J = P - d.length ∨ (J : Int) = e - low) := by rw [← hJ]; unfold nxJ; omega
  have hd1 := hc.2.1
  have cU := canon_noughts d J hc hz
  have vU := vl_noughts d J
  have lU : (d ++ List.replicate J 0).length ≤ 34 := by rw [List.length_append, List.length_replicate]; omega
  have bU := vl_bd d hc.1
  obtain ⟨U0, hU0⟩ : ∃ U, tx (d ++ List.replicate J 0) = U := ⟨_, rfl⟩
  have HU0 : Hid (tx (d ++ List.replicate J 0) = U0) := hU0
  have HAd : Hid (∀ X, Calls Tryz.prog 73 #[.string U0, .string { data := #[49] }] X fun x w' => x = .returned (.string (tx (nt (vl d * 10 ^ J + 1)))) ∧ Below X.heap.size X w') := fun X => by
    rw [← hU0, tx_19]
    refine (l11Add_any _ [1] X cU (canon_one 1 (by decide) (by decide)) (by omega) (by decide)).mono ?_
    rintro x w' ⟨R, rfl, cR, vR, lR, hb⟩
    rw [vU, show vl [1] = 1 from rfl] at vR
    rw [← nt_of R _ cR vR (by have : ([1] : List Int).length = 1 := rfl; omega)]
    exact ⟨rfl, hb⟩
  obtain ⟨D, hD⟩ : ∃ D, nt (vl d * 10 ^ J + 1) = D := ⟨_, rfl⟩
  have sD := tx_size D
  rw [hJ, hD] at hfit
  rw [hD] at HAd
  have wJ1 : IntKind.i64.wrap (e - (J : Int) + 1) = e - (J : Int) + 1 := by rw [IntKind.wrap_i64]; omega
  clear cU vU lU bU hU0 hD
  have hx := tx_take D P (by omega)
  have HXd : Hid (∀ i, i ≤ J → ∃ S m', S = tx (d ++ List.replicate i 0) ∧ S.size = m' ∧ m' = d.length + i ∧ S ++ { data := #[48] } = tx (d ++ List.replicate (i + 1) 0)) := fun i hi => ⟨_, _, rfl, by rw [tx_size, List.length_append, List.length_replicate], rfl, by rw [tx_more, List.append_assoc, ← List.replicate_succ']⟩
  have HS0 : Hid (tx d = tx (d ++ List.replicate 0 0)) := by show _ = _; simp
  obtain ⟨L, hL⟩ : ∃ L, d.length = L := ⟨_, rfl⟩
  rw [hL] at hsz hJ1 hl hd1 HXd
  clear hsa hr hs hf pP hJ hNN hc hz hL
  have Hfit := hid_of hfit
  clear hfit
  subst hn
  go_enter Tryz.func15, Tryz.ntmps15
  go_wp2_with fail
  refine (HOk.out).mono ?_
  rintro x w1 ⟨rfl, hb1⟩
  have HN1 : Hid (NB w 1 false e (tx d) w1) := HN.out.next hb1
  clear hb1 HN
  try clear c0 c1 c2 c3 c4
  obtain ⟨c0, c1, c2, c3, c4⟩ := HN1.out.1.cells
  go_wp2_with fail
  refine (HSp.out _ HN1.out.2.2.1 HN1.out.2.2.2.2).mono ?_
  rintro x w2 ⟨rfl, hb2⟩
  have HN2 : Hid (NB w 1 false e (tx d) w2) := HN1.out.next hb2
  clear hb2 HN1
  try clear c0 c1 c2 c3 c4
  obtain ⟨c0, c1, c2, c3, c4⟩ := HN2.out.1.cells
  have HN3 : Hid (NB w 1 false e (tx d) (w2.alloc (.cells #[.int .i64 3, .bool false, .int .i64 0, .string { data := #[] }, .int .i64 SF] 29))) := HN2.out.next ((Below.refl _ _).alloc (Nat.le_refl _) _)
  clear HN2 c0 c1 c2 c3 c4
  obtain ⟨c0, c1, c2, c3, c4⟩ := HN3.out.1.cells
  go_wp2_with fail
  refine (HLm.out _).mono ?_
  rintro x w3 ⟨rfl, rfl⟩
  generalize w2.alloc (.cells #[.int .i64 3, .bool false, .int .i64 0, .string { data := #[] }, .int .i64 SF] 29) = w3 at *
  clear HLm
  go_wp2
  go_loopg [11] P (fun gk s wx => ∃ i : Nat, i ≤ P ∧ gk = P - i ∧ s = .string (tx (List.replicate i 9)) ∧ wx = w3)
  case atStart => exact ⟨0, Nat.zero_le _, rfl, rfl, rfl⟩
  case round =>
    obtain ⟨i, hi, hgk, rfl, hwr⟩ := hrel
    have HG : Hid (gk = P - i) := hgk
    clear hgk
    obtain ⟨S, m', hS, y1, hm', y3⟩ := HX9.out i
    rw [← hS]
    have HSS : Hid (S = tx (List.replicate i 9)) := hS
    clear hS
    by_cases hlt : i < P
    · have HW : Hid (wr = w3) := hwr
      have z4 : (m' : Int) < (P : Int) := by omega
      have z5 : (m' : Int) ≤ 8388608 := by omega
      clear hm' hwr
      go_wp2
      go_roundg (P - (i + 1))
      case measure => have := HG.out; omega
      case rel => exact ⟨i + 1, by omega, rfl, rfl, HW.out⟩
    · have ei : i = P := by omega
      subst ei
      have hwr' := hwr.symm
      subst hwr'
      have z4 : ¬ (m' : Int) < (i : Int) := by omega
      have HSN : Hid (S = NN) := by show _ = _; rw [HSS.out]; exact HNN.out
      clear hm' hlt y3 HG HSS HX9 HNN
      go_wp2
      go_loopg [12, 13] J (fun gk t x wx => ∃ i : Nat, i ≤ J ∧ gk = J - i ∧ t = .string (tx (d ++ List.replicate i 0)) ∧ x = .int .i64 (e - (i : Int)) ∧ wx = w3)
      case atStart => exact ⟨0, Nat.zero_le _, rfl, by rw [← HS0.out], by simp, rfl⟩
      case round =>
        obtain ⟨j, hj, hgk, rfl, rfl, hwr⟩ := hrel
        have HG : Hid (gk = J - j) := hgk
        clear hgk
        obtain ⟨T, m2, hT, y1, hm2, y3⟩ := HXd.out j hj
        rw [← hT]
        have HTT : Hid (T = tx (d ++ List.replicate j 0)) := hT
        have wj : IntKind.i64.wrap (e - (j : Int) - 1) = e - (j : Int) - 1 := by rw [IntKind.wrap_i64]; omega
        clear hT
        by_cases hlt : j < J
        · have HW : Hid (wr = w3) := hwr
          have z4 : (m2 : Int) < (i : Int) := by omega
          have z5 : (m2 : Int) ≤ 8388608 := by omega
          have z6 : low < e - (j : Int) := by omega
          clear hm2 hwr
          go_wp2
          go_roundg (J - (j + 1))
          case measure => have := HG.out; omega
          case rel => exact ⟨j + 1, by omega, rfl, rfl, by go_num, HW.out⟩
        · have ej : j = J := by omega
          subst ej
          have hwr' := hwr.symm
          subst hwr'
          have eTU : T = U0 := by rw [HTT.out]; exact HU0.out
          subst eTU
          clear hlt y3 HG HTT HXd HU0
          by_cases z4 : (m2 : Int) < (i : Int)
          · have z6 : ¬ low < e - (j : Int) := by omega
            clear hm2
            have hfit := Hfit.out
            clear Hfit
            go_wp2_with fail
            refine (HAd.out _).mono ?_
            rintro x w5 ⟨rfl, hb5⟩
            have HN5 : Hid (NB w 1 false e (tx d) w5) := HN3.out.next hb5
            clear hb5 HN3 HAd c0 c1 c2 c3 c4
            have y4 : (i : Int) < (D.length : Int) := by omega
            have y5 : high < e - (j : Int) + 1 := by omega
            have y6 : ¬ (D.length : Int) < (i : Int) := by omega
            have y7 : i ≤ D.length := by omega
            go_wp2_with fail
            refine (l13Inf_any false _).mono ?_
            rintro x w6 ⟨rfl, hb6⟩
            have HN6 : Hid (NB w 1 false e (tx d) w6) := HN5.out.next hb6
            clear hb6 HN5
            go_wp2_with (refine wpList_store_row rfl 29 (.tmp 4) (.tmp 91) rfl (w.heap.size + 1) #[.int .i64 2, .bool false, .int .i64 0, .string { data := #[] }, .int .i64 0] rfl rfl _ _ HN6.out.2.1 (by kernel_rfl) rfl (one5 _ _ _ _ _) (Hid.out ?_))
            refine nx_end (by assumption) ?_
            try simp only [Exit.then]
            have hP := (HN6.out.2.1.row (.int .i64 2) (.bool false) (.int .i64 0) (.string { data := #[] }) (.int .i64 0)).cells
            refine bodyPost_ret (results_res rfl _ _ rfl hP.1 hP.2.1 hP.2.2.1 hP.2.2.2.1 hP.2.2.2.2.1) rfl ?_
            exact ⟨rfl, bel_row HN6.out.2.2.2.1 (by omega) _⟩
          · clear hm2
            have hfit := Hfit.out
            clear Hfit
            go_wp2_with fail
            refine (HAd.out _).mono ?_
            rintro x w5 ⟨rfl, hb5⟩
            have HN5 : Hid (NB w 1 false e (tx d) w5) := HN3.out.next hb5
            clear hb5 HN3 HAd c0 c1 c2 c3 c4
            have y4 : (i : Int) < (D.length : Int) := by omega
            have y5 : high < e - (j : Int) + 1 := by omega
            have y6 : ¬ (D.length : Int) < (i : Int) := by omega
            have y7 : i ≤ D.length := by omega
            go_wp2_with fail
            refine (l13Inf_any false _).mono ?_
            rintro x w6 ⟨rfl, hb6⟩
            have HN6 : Hid (NB w 1 false e (tx d) w6) := HN5.out.next hb6
            clear hb6 HN5
            go_wp2_with (refine wpList_store_row rfl 29 (.tmp 4) (.tmp 91) rfl (w.heap.size + 1) #[.int .i64 2, .bool false, .int .i64 0, .string { data := #[] }, .int .i64 0] rfl rfl _ _ HN6.out.2.1 (by kernel_rfl) rfl (one5 _ _ _ _ _) (Hid.out ?_))
            refine nx_end (by assumption) ?_
            try simp only [Exit.then]
            have hP := (HN6.out.2.1.row (.int .i64 2) (.bool false) (.int .i64 0) (.string { data := #[] }) (.int .i64 0)).cells
            refine bodyPost_ret (results_res rfl _ _ rfl hP.1 hP.2.1 hP.2.2.1 hP.2.2.2.1 hP.2.2.2.2.1) rfl ?_
            exact ⟨rfl, bel_row HN6.out.2.2.2.1 (by omega) _⟩
set_option maxRecDepth 100000 in
set_option maxHeartbeats 2000000 in
theorem sNx_neg1 (f : Int) (n : Bool) (e : Int) (d : List Int) (w : World) (hr : numB f 1 n e (tx d) = true) (hf : f = 64 ∨ f = 128) (hc : Canon d) (hz : d ≠ [0]) (hl : d.length ≤ (limP f).toNat) (he : limL f ≤ e) (hh : e ≤ limH f) (hn : n = true) (hfit : (nt (vl d * 10 ^ nxJ (limP f).toNat d.length e (limL f) - 1)).length < (limP f).toNat ∧ limL f < e - nxJ (limP f).toNat d.length e (limL f)) :
    Calls Tryz.prog 15 #[.int .i64 f, numV 1 n e (tx d)] w fun x w' => x = .returned (rsV 1 true (e - nxJ (limP f).toNat d.length e (limL f) - 1) (tx (List.replicate (limP f).toNat 9)) 0) ∧ Below w.heap.size w w' := by
  have hsa : (tx d).size ≤ 4611686018427387904 := by
    rw [tx_size]
    obtain ⟨p2, p34, -⟩ := lims3 f hf
    omega
  have hsz := tx_size d
  have hz0 : ((tx d).toList == [48]) = false := tx_is0 d hc.1 hz
  have hs : spB 1 (fun _ => (1 : Int)) = false := decide_eq_false (by rintro ⟨i, -, h⟩; rcases h with h | h <;> cases h)
  have hb00 : ∀ w, (Instr.build 29 #[]).run Tryz.prog w = .ok (rsV 0 false 0 { data := #[] } 0) w := fun w => run_build w _ _ _ (by kernel_rfl)
  have HN : Hid (NB w 1 n e (tx d) (((w.alloc (.cells #[.int .i64 1, .bool n, .int .i64 e, .string (tx d)] 25)).alloc (.cells #[.int .i64 0, .bool false, .int .i64 0, .string { data := #[] }, .int .i64 0] 29)).alloc (.cells #[.int .i64 1, .bool n, .int .i64 e, .string (tx d)] 25))) := nb_new w 1 n e (tx d)
  have HOk : Hid (Calls Tryz.prog 57 #[.int .i64 f, .int .i64 1, .slice (some ⟨w.heap.size + 2, 0, none⟩) 1 1] (((w.alloc (.cells #[.int .i64 1, .bool n, .int .i64 e, .string (tx d)] 25)).alloc (.cells #[.int .i64 0, .bool false, .int .i64 0, .string { data := #[] }, .int .i64 0] 29)).alloc (.cells #[.int .i64 1, .bool n, .int .i64 e, .string (tx d)] 25)) fun x w' => x = .returned (.bool (numB f 1 n e (tx d))) ∧ Below (((w.alloc (.cells #[.int .i64 1, .bool n, .int .i64 e, .string (tx d)] 25)).alloc (.cells #[.int .i64 0, .bool false, .int .i64 0, .string { data := #[] }, .int .i64 0] 29)).alloc (.cells #[.int .i64 1, .bool n, .int .i64 e, .string (tx d)] 25)).heap.size (((w.alloc (.cells #[.int .i64 1, .bool n, .int .i64 e, .string (tx d)] 25)).alloc (.cells #[.int .i64 0, .bool false, .int .i64 0, .string { data := #[] }, .int .i64 0] 29)).alloc (.cells #[.int .i64 1, .bool n, .int .i64 e, .string (tx d)] 25)) w') := by
    have := l13Ok_any f 1 1 (w.heap.size + 2) (fun _ => 1) (fun _ => n) (fun _ => e) (fun _ => tx d) (((w.alloc (.cells #[.int .i64 1, .bool n, .int .i64 e, .string (tx d)] 25)).alloc (.cells #[.int .i64 0, .bool false, .int .i64 0, .string { data := #[] }, .int .i64 0] 29)).alloc (.cells #[.int .i64 1, .bool n, .int .i64 e, .string (tx d)] 25)) (by decide) HN.out.2.2.2.2 HN.out.2.2.1 (fun _ _ => hsa)
    rw [show (decide (1 ≤ (1 : Int) ∧ (1 : Int) ≤ 5)) = true from rfl, Bool.true_and] at this
    rw [ok1_is] at this
    exact this
  have HSp : Hid (∀ X, NRw X (w.heap.size + 2) 1 (fun _ => 1) (fun _ => n) (fun _ => e) (fun _ => tx d) → w.heap.size + 2 < X.heap.size → Calls Tryz.prog 58 #[.slice (some ⟨w.heap.size + 2, 0, none⟩) 1 1] X fun x w' => x = .returned (.tuple #[rsV 3 false 0 { data := #[] } (spF 1 (fun _ => 1)), .bool (spB 1 (fun _ => 1))]) ∧ Below X.heap.size X w') := fun X h1 h2 => l13Special_any 1 (w.heap.size + 2) _ _ _ _ X (by decide) h2 h1
  generalize spF 1 (fun _ => 1) = SF at *
  obtain ⟨p2, p34, pP, lh, l1, l2⟩ := lims3 f hf
  have HLm : Hid (∀ X, Calls Tryz.prog 44 #[.int .i64 f] X fun r w' => r = .returned (.tuple #[.int .i64 ((limP f).toNat : Int), .int .i64 (limL f), .int .i64 (limH f)]) ∧ w' = X) := fun X => by
    have := Limits_any f X
    rw [pP] at this
    exact this
  generalize (limP f).toNat = P at *
  generalize limL f = low at *
  generalize limH f = high at *
  have HX9 : Hid (∀ i, ∃ S m', S = tx (List.replicate i 9) ∧ S.size = m' ∧ m' = i ∧ S ++ { data := #[57] } = tx (List.replicate (i + 1) 9)) := fun i => ⟨_, _, rfl, by rw [tx_size, List.length_replicate], rfl, by rw [tx_nine, ← List.replicate_succ']⟩
  obtain ⟨NN, hNN⟩ : ∃ NN, tx (List.replicate P 9) = NN := ⟨_, rfl⟩
  have HNN : Hid (tx (List.replicate P 9) = NN) := hNN
  rw [hr] at HOk
  rw [hs] at HSp
  obtain ⟨J, hJ⟩ : ∃ J, nxJ P d.length e low = J := ⟨_, rfl⟩
  have hJ1 : J ≤ P - d.length ∧ (J : Int) ≤ e - low ∧ (J = P - d.length ∨ (J : Int) = e - low) := by rw [← hJ]; unfold nxJ; omega
  have hd1 := hc.2.1
  have cU := canon_noughts d J hc hz
  have vU := vl_noughts d J
  have lU : (d ++ List.replicate J 0).length ≤ 34 := by rw [List.length_append, List.length_replicate]; omega
  have bU := vl_bd d hc.1
  obtain ⟨U0, hU0⟩ : ∃ U, tx (d ++ List.replicate J 0) = U := ⟨_, rfl⟩
  have HU0 : Hid (tx (d ++ List.replicate J 0) = U0) := hU0
  have v1 : (1 : Int) ≤ vl d := by have := canon_lo d hc hz; have := ten_pos (d.length - 1); omega
  have HSb : Hid (∀ X, Calls Tryz.prog 74 #[.string U0, .string { data := #[49] }] X fun x w' => x = .returned (.string (tx (nt (vl d * 10 ^ J - 1)))) ∧ Below X.heap.size X w') := fun X => by
    rw [← hU0, tx_19]
    refine (l11Sub_any _ [1] X cU (canon_one 1 (by decide) (by decide)) (by omega) (by
      rw [vU, show vl [1] = 1 from rfl]
      have : 1 * 10 ^ J ≤ vl d * 10 ^ J := Int.mul_le_mul_of_nonneg_right v1 (Int.le_of_lt (ten_pos J))
      have := ten_pos J
      omega)).mono ?_
    rintro x w' ⟨R, rfl, cR, vR, lR, hb⟩
    rw [vU, show vl [1] = 1 from rfl] at vR
    rw [← nt_of R _ cR vR (by omega)]
    exact ⟨rfl, hb⟩
  obtain ⟨D, hD⟩ : ∃ D, nt (vl d * 10 ^ J - 1) = D := ⟨_, rfl⟩
  have sD := tx_size D
  rw [hJ, hD] at hfit
  rw [hJ]
  rw [hD] at HSb
  have wJ1 : IntKind.i64.wrap (e - (J : Int) - 1) = e - (J : Int) - 1 := by rw [IntKind.wrap_i64]; omega
  rw [hNN]
  clear cU vU lU bU hU0 hD v1
  have HXd : Hid (∀ i, i ≤ J → ∃ S m', S = tx (d ++ List.replicate i 0) ∧ S.size = m' ∧ m' = d.length + i ∧ S ++ { data := #[48] } = tx (d ++ List.replicate (i + 1) 0)) := fun i hi => ⟨_, _, rfl, by rw [tx_size, List.length_append, List.length_replicate], rfl, by rw [tx_more, List.append_assoc, ← List.replicate_succ']⟩
  have HS0 : Hid (tx d = tx (d ++ List.replicate 0 0)) := by show _ = _; simp
  obtain ⟨L, hL⟩ : ∃ L, d.length = L := ⟨_, rfl⟩
  rw [hL] at hsz hJ1 hl hd1 HXd
  clear hsa hr hs hf pP hJ hNN hc hz hL
  have Hfit := hid_of hfit
  clear hfit
  subst hn
  go_enter Tryz.func15, Tryz.ntmps15
  go_wp2_with fail
  refine (HOk.out).mono ?_
  rintro x w1 ⟨rfl, hb1⟩
  have HN1 : Hid (NB w 1 true e (tx d) w1) := HN.out.next hb1
  clear hb1 HN
  try clear c0 c1 c2 c3 c4
  obtain ⟨c0, c1, c2, c3, c4⟩ := HN1.out.1.cells
  go_wp2_with fail
  refine (HSp.out _ HN1.out.2.2.1 HN1.out.2.2.2.2).mono ?_
  rintro x w2 ⟨rfl, hb2⟩
  have HN2 : Hid (NB w 1 true e (tx d) w2) := HN1.out.next hb2
  clear hb2 HN1
  try clear c0 c1 c2 c3 c4
  obtain ⟨c0, c1, c2, c3, c4⟩ := HN2.out.1.cells
  have HN3 : Hid (NB w 1 true e (tx d) (w2.alloc (.cells #[.int .i64 3, .bool false, .int .i64 0, .string { data := #[] }, .int .i64 SF] 29))) := HN2.out.next ((Below.refl _ _).alloc (Nat.le_refl _) _)
  clear HN2 c0 c1 c2 c3 c4
  obtain ⟨c0, c1, c2, c3, c4⟩ := HN3.out.1.cells
  go_wp2_with fail
  refine (HLm.out _).mono ?_
  rintro x w3 ⟨rfl, rfl⟩
  generalize w2.alloc (.cells #[.int .i64 3, .bool false, .int .i64 0, .string { data := #[] }, .int .i64 SF] 29) = w3 at *
  clear HLm
  go_wp2
  go_loopg [11] P (fun gk s wx => ∃ i : Nat, i ≤ P ∧ gk = P - i ∧ s = .string (tx (List.replicate i 9)) ∧ wx = w3)
  case atStart => exact ⟨0, Nat.zero_le _, rfl, rfl, rfl⟩
  case round =>
    obtain ⟨i, hi, hgk, rfl, hwr⟩ := hrel
    have HG : Hid (gk = P - i) := hgk
    clear hgk
    obtain ⟨S, m', hS, y1, hm', y3⟩ := HX9.out i
    rw [← hS]
    have HSS : Hid (S = tx (List.replicate i 9)) := hS
    clear hS
    by_cases hlt : i < P
    · have HW : Hid (wr = w3) := hwr
      have z4 : (m' : Int) < (P : Int) := by omega
      have z5 : (m' : Int) ≤ 8388608 := by omega
      clear hm' hwr
      go_wp2
      go_roundg (P - (i + 1))
      case measure => have := HG.out; omega
      case rel => exact ⟨i + 1, by omega, rfl, rfl, HW.out⟩
    · have ei : i = P := by omega
      subst ei
      have hwr' := hwr.symm
      subst hwr'
      have z4 : ¬ (m' : Int) < (i : Int) := by omega
      have HSN : Hid (S = NN) := by show _ = _; rw [HSS.out]; exact HNN.out
      clear hm' hlt y3 HG HSS HX9 HNN
      go_wp2
      go_loopg [12, 13] J (fun gk t x wx => ∃ i : Nat, i ≤ J ∧ gk = J - i ∧ t = .string (tx (d ++ List.replicate i 0)) ∧ x = .int .i64 (e - (i : Int)) ∧ wx = w3)
      case atStart => exact ⟨0, Nat.zero_le _, rfl, by rw [← HS0.out], by simp, rfl⟩
      case round =>
        obtain ⟨j, hj, hgk, rfl, rfl, hwr⟩ := hrel
        have HG : Hid (gk = J - j) := hgk
        clear hgk
        obtain ⟨T, m2, hT, y1, hm2, y3⟩ := HXd.out j hj
        rw [← hT]
        have HTT : Hid (T = tx (d ++ List.replicate j 0)) := hT
        have wj : IntKind.i64.wrap (e - (j : Int) - 1) = e - (j : Int) - 1 := by rw [IntKind.wrap_i64]; omega
        clear hT
        by_cases hlt : j < J
        · have HW : Hid (wr = w3) := hwr
          have z4 : (m2 : Int) < (i : Int) := by omega
          have z5 : (m2 : Int) ≤ 8388608 := by omega
          have z6 : low < e - (j : Int) := by omega
          clear hm2 hwr
          go_wp2
          go_roundg (J - (j + 1))
          case measure => have := HG.out; omega
          case rel => exact ⟨j + 1, by omega, rfl, rfl, by go_num, HW.out⟩
        · have ej : j = J := by omega
          subst ej
          have hwr' := hwr.symm
          subst hwr'
          have eTU : T = U0 := by rw [HTT.out]; exact HU0.out
          subst eTU
          clear hlt y3 HG HTT HXd HU0
          by_cases z4 : (m2 : Int) < (i : Int)
          · have z6 : ¬ low < e - (j : Int) := by omega
            clear hm2
            have hfit := Hfit.out
            clear Hfit
            exfalso
            omega
          · clear hm2
            have hfit := Hfit.out
            clear Hfit
            go_wp2_with fail
            refine (HSb.out _).mono ?_
            rintro x w5 ⟨rfl, hb5⟩
            have HN5 : Hid (NB w 1 true e (tx d) w5) := HN3.out.next hb5
            clear hb5 HN3 HSb c0 c1 c2 c3 c4
            have y4 : (D.length : Int) < (i : Int) := by omega
            have y5 : low < e - (j : Int) := by omega
            go_wp2_with fail
            refine (l12Finite_any true S (e - (j : Int) - 1) _).mono ?_
            rintro x w6 ⟨rfl, hb6⟩
            have HN6 : Hid (NB w 1 true e (tx d) w6) := HN5.out.next hb6
            clear hb6 HN5
            have hbl := build_res0 1 true (e - (j : Int) - 1) S w6
            go_wp2_with (refine wpList_store_row rfl 29 (.tmp 4) (.tmp 113) rfl (w.heap.size + 1) #[.int .i64 1, .bool true, .int .i64 (e - (j : Int) - 1), .string S, .int .i64 0] rfl rfl _ _ HN6.out.2.1 (by kernel_rfl) rfl (one5 _ _ _ _ _) (Hid.out ?_))
            refine nx_end (by assumption) ?_
            try simp only [Exit.then]
            have hP := (HN6.out.2.1.row (.int .i64 1) (.bool true) (.int .i64 (e - (j : Int) - 1)) (.string S) (.int .i64 0)).cells
            refine bodyPost_ret (results_res rfl _ _ rfl hP.1 hP.2.1 hP.2.2.1 hP.2.2.2.1 hP.2.2.2.2.1) rfl ?_
            exact ⟨by rw [HSN.out], bel_row HN6.out.2.2.2.1 (by omega) _⟩
set_option maxRecDepth 100000 in
set_option maxHeartbeats 2000000 in
theorem sNx_neg2 (f : Int) (n : Bool) (e : Int) (d : List Int) (w : World) (hr : numB f 1 n e (tx d) = true) (hf : f = 64 ∨ f = 128) (hc : Canon d) (hz : d ≠ [0]) (hl : d.length ≤ (limP f).toNat) (he : limL f ≤ e) (hh : e ≤ limH f) (hn : n = true) (hfit : ¬ ((nt (vl d * 10 ^ nxJ (limP f).toNat d.length e (limL f) - 1)).length < (limP f).toNat ∧ limL f < e - nxJ (limP f).toNat d.length e (limL f))) :
    Calls Tryz.prog 15 #[.int .i64 f, numV 1 n e (tx d)] w fun x w' => x = .returned (rsV 1 true (e - nxJ (limP f).toNat d.length e (limL f)) (tx (nt (vl d * 10 ^ nxJ (limP f).toNat d.length e (limL f) - 1))) 0) ∧ Below w.heap.size w w' := by
  have hsa : (tx d).size ≤ 4611686018427387904 := by
    rw [tx_size]
    obtain ⟨p2, p34, -⟩ := lims3 f hf
    omega
  have hsz := tx_size d
  have hz0 : ((tx d).toList == [48]) = false := tx_is0 d hc.1 hz
  have hs : spB 1 (fun _ => (1 : Int)) = false := decide_eq_false (by rintro ⟨i, -, h⟩; rcases h with h | h <;> cases h)
  have hb00 : ∀ w, (Instr.build 29 #[]).run Tryz.prog w = .ok (rsV 0 false 0 { data := #[] } 0) w := fun w => run_build w _ _ _ (by kernel_rfl)
  have HN : Hid (NB w 1 n e (tx d) (((w.alloc (.cells #[.int .i64 1, .bool n, .int .i64 e, .string (tx d)] 25)).alloc (.cells #[.int .i64 0, .bool false, .int .i64 0, .string { data := #[] }, .int .i64 0] 29)).alloc (.cells #[.int .i64 1, .bool n, .int .i64 e, .string (tx d)] 25))) := nb_new w 1 n e (tx d)
  have HOk : Hid (Calls Tryz.prog 57 #[.int .i64 f, .int .i64 1, .slice (some ⟨w.heap.size + 2, 0, none⟩) 1 1] (((w.alloc (.cells #[.int .i64 1, .bool n, .int .i64 e, .string (tx d)] 25)).alloc (.cells #[.int .i64 0, .bool false, .int .i64 0, .string { data := #[] }, .int .i64 0] 29)).alloc (.cells #[.int .i64 1, .bool n, .int .i64 e, .string (tx d)] 25)) fun x w' => x = .returned (.bool (numB f 1 n e (tx d))) ∧ Below (((w.alloc (.cells #[.int .i64 1, .bool n, .int .i64 e, .string (tx d)] 25)).alloc (.cells #[.int .i64 0, .bool false, .int .i64 0, .string { data := #[] }, .int .i64 0] 29)).alloc (.cells #[.int .i64 1, .bool n, .int .i64 e, .string (tx d)] 25)).heap.size (((w.alloc (.cells #[.int .i64 1, .bool n, .int .i64 e, .string (tx d)] 25)).alloc (.cells #[.int .i64 0, .bool false, .int .i64 0, .string { data := #[] }, .int .i64 0] 29)).alloc (.cells #[.int .i64 1, .bool n, .int .i64 e, .string (tx d)] 25)) w') := by
    have := l13Ok_any f 1 1 (w.heap.size + 2) (fun _ => 1) (fun _ => n) (fun _ => e) (fun _ => tx d) (((w.alloc (.cells #[.int .i64 1, .bool n, .int .i64 e, .string (tx d)] 25)).alloc (.cells #[.int .i64 0, .bool false, .int .i64 0, .string { data := #[] }, .int .i64 0] 29)).alloc (.cells #[.int .i64 1, .bool n, .int .i64 e, .string (tx d)] 25)) (by decide) HN.out.2.2.2.2 HN.out.2.2.1 (fun _ _ => hsa)
    rw [show (decide (1 ≤ (1 : Int) ∧ (1 : Int) ≤ 5)) = true from rfl, Bool.true_and] at this
    rw [ok1_is] at this
    exact this
  have HSp : Hid (∀ X, NRw X (w.heap.size + 2) 1 (fun _ => 1) (fun _ => n) (fun _ => e) (fun _ => tx d) → w.heap.size + 2 < X.heap.size → Calls Tryz.prog 58 #[.slice (some ⟨w.heap.size + 2, 0, none⟩) 1 1] X fun x w' => x = .returned (.tuple #[rsV 3 false 0 { data := #[] } (spF 1 (fun _ => 1)), .bool (spB 1 (fun _ => 1))]) ∧ Below X.heap.size X w') := fun X h1 h2 => l13Special_any 1 (w.heap.size + 2) _ _ _ _ X (by decide) h2 h1
  generalize spF 1 (fun _ => 1) = SF at *
  obtain ⟨p2, p34, pP, lh, l1, l2⟩ := lims3 f hf
  have HLm : Hid (∀ X, Calls Tryz.prog 44 #[.int .i64 f] X fun r w' => r = .returned (.tuple #[.int .i64 ((limP f).toNat : Int), .int .i64 (limL f), .int .i64 (limH f)]) ∧ w' = X) := fun X => by
    have := Limits_any f X
    rw [pP] at this
    exact this
  generalize (limP f).toNat = P at *
  generalize limL f = low at *
  generalize limH f = high at *
  have HX9 : Hid (∀ i, ∃ S m', S = tx (List.replicate i 9) ∧ S.size = m' ∧ m' = i ∧ S ++ { data := #[57] } = tx (List.replicate (i + 1) 9)) := fun i => ⟨_, _, rfl, by rw [tx_size, List.length_replicate], rfl, by rw [tx_nine, ← List.replicate_succ']⟩
  obtain ⟨NN, hNN⟩ : ∃ NN, tx (List.replicate P 9) = NN := ⟨_, rfl⟩
  have HNN : Hid (tx (List.replicate P 9) = NN) := hNN
  rw [hr] at HOk
  rw [hs] at HSp
  obtain ⟨J, hJ⟩ : ∃ J, nxJ P d.length e low = J := ⟨_, rfl⟩
  have hJ1 : J ≤ P - d.length ∧ (J : Int) ≤ e - low ∧ (J = P - d.length ∨ (J : Int) = e - low) := by rw [← hJ]; unfold nxJ; omega
  have hd1 := hc.2.1
  have cU := canon_noughts d J hc hz
  have vU := vl_noughts d J
  have lU : (d ++ List.replicate J 0).length ≤ 34 := by rw [List.length_append, List.length_replicate]; omega
  have bU := vl_bd d hc.1
  obtain ⟨U0, hU0⟩ : ∃ U, tx (d ++ List.replicate J 0) = U := ⟨_, rfl⟩
  have HU0 : Hid (tx (d ++ List.replicate J 0) = U0) := hU0
  have v1 : (1 : Int) ≤ vl d := by have := canon_lo d hc hz; have := ten_pos (d.length - 1); omega
  have HSb : Hid (∀ X, Calls Tryz.prog 74 #[.string U0, .string { data := #[49] }] X fun x w' => x = .returned (.string (tx (nt (vl d * 10 ^ J - 1)))) ∧ Below X.heap.size X w') := fun X => by
    rw [← hU0, tx_19]
    refine (l11Sub_any _ [1] X cU (canon_one 1 (by decide) (by decide)) (by omega) (by
      rw [vU, show vl [1] = 1 from rfl]
      have : 1 * 10 ^ J ≤ vl d * 10 ^ J := Int.mul_le_mul_of_nonneg_right v1 (Int.le_of_lt (ten_pos J))
      have := ten_pos J
      omega)).mono ?_
    rintro x w' ⟨R, rfl, cR, vR, lR, hb⟩
    rw [vU, show vl [1] = 1 from rfl] at vR
    rw [← nt_of R _ cR vR (by omega)]
    exact ⟨rfl, hb⟩
  obtain ⟨D, hD⟩ : ∃ D, nt (vl d * 10 ^ J - 1) = D := ⟨_, rfl⟩
  have sD := tx_size D
  rw [hJ, hD] at hfit
  rw [hJ]
  rw [hD] at HSb
  have wJ1 : IntKind.i64.wrap (e - (J : Int) - 1) = e - (J : Int) - 1 := by rw [IntKind.wrap_i64]; omega
  rw [hD]
  clear cU vU lU bU hU0 hD v1
  have HXd : Hid (∀ i, i ≤ J → ∃ S m', S = tx (d ++ List.replicate i 0) ∧ S.size = m' ∧ m' = d.length + i ∧ S ++ { data := #[48] } = tx (d ++ List.replicate (i + 1) 0)) := fun i hi => ⟨_, _, rfl, by rw [tx_size, List.length_append, List.length_replicate], rfl, by rw [tx_more, List.append_assoc, ← List.replicate_succ']⟩
  have HS0 : Hid (tx d = tx (d ++ List.replicate 0 0)) := by show _ = _; simp
  obtain ⟨L, hL⟩ : ∃ L, d.length = L := ⟨_, rfl⟩
  rw [hL] at hsz hJ1 hl hd1 HXd
  clear hsa hr hs hf pP hJ hNN hc hz hL
  have Hfit := hid_of hfit
  clear hfit
  subst hn
  go_enter Tryz.func15, Tryz.ntmps15
  go_wp2_with fail
  refine (HOk.out).mono ?_
  rintro x w1 ⟨rfl, hb1⟩
  have HN1 : Hid (NB w 1 true e (tx d) w1) := HN.out.next hb1
  clear hb1 HN
  try clear c0 c1 c2 c3 c4
  obtain ⟨c0, c1, c2, c3, c4⟩ := HN1.out.1.cells
  go_wp2_with fail
  refine (HSp.out _ HN1.out.2.2.1 HN1.out.2.2.2.2).mono ?_
  rintro x w2 ⟨rfl, hb2⟩
  have HN2 : Hid (NB w 1 true e (tx d) w2) := HN1.out.next hb2
  clear hb2 HN1
  try clear c0 c1 c2 c3 c4
  obtain ⟨c0, c1, c2, c3, c4⟩ := HN2.out.1.cells
  have HN3 : Hid (NB w 1 true e (tx d) (w2.alloc (.cells #[.int .i64 3, .bool false, .int .i64 0, .string { data := #[] }, .int .i64 SF] 29))) := HN2.out.next ((Below.refl _ _).alloc (Nat.le_refl _) _)
  clear HN2 c0 c1 c2 c3 c4
  obtain ⟨c0, c1, c2, c3, c4⟩ := HN3.out.1.cells
  go_wp2_with fail
  refine (HLm.out _).mono ?_
  rintro x w3 ⟨rfl, rfl⟩
  generalize w2.alloc (.cells #[.int .i64 3, .bool false, .int .i64 0, .string { data := #[] }, .int .i64 SF] 29) = w3 at *
  clear HLm
  go_wp2
  go_loopg [11] P (fun gk s wx => ∃ i : Nat, i ≤ P ∧ gk = P - i ∧ s = .string (tx (List.replicate i 9)) ∧ wx = w3)
  case atStart => exact ⟨0, Nat.zero_le _, rfl, rfl, rfl⟩
  case round =>
    obtain ⟨i, hi, hgk, rfl, hwr⟩ := hrel
    have HG : Hid (gk = P - i) := hgk
    clear hgk
    obtain ⟨S, m', hS, y1, hm', y3⟩ := HX9.out i
    rw [← hS]
    have HSS : Hid (S = tx (List.replicate i 9)) := hS
    clear hS
    by_cases hlt : i < P
    · have HW : Hid (wr = w3) := hwr
      have z4 : (m' : Int) < (P : Int) := by omega
      have z5 : (m' : Int) ≤ 8388608 := by omega
      clear hm' hwr
      go_wp2
      go_roundg (P - (i + 1))
      case measure => have := HG.out; omega
      case rel => exact ⟨i + 1, by omega, rfl, rfl, HW.out⟩
    · have ei : i = P := by omega
      subst ei
      have hwr' := hwr.symm
      subst hwr'
      have z4 : ¬ (m' : Int) < (i : Int) := by omega
      have HSN : Hid (S = NN) := by show _ = _; rw [HSS.out]; exact HNN.out
      clear hm' hlt y3 HG HSS HX9 HNN
      go_wp2
      go_loopg [12, 13] J (fun gk t x wx => ∃ i : Nat, i ≤ J ∧ gk = J - i ∧ t = .string (tx (d ++ List.replicate i 0)) ∧ x = .int .i64 (e - (i : Int)) ∧ wx = w3)
      case atStart => exact ⟨0, Nat.zero_le _, rfl, by rw [← HS0.out], by simp, rfl⟩
      case round =>
        obtain ⟨j, hj, hgk, rfl, rfl, hwr⟩ := hrel
        have HG : Hid (gk = J - j) := hgk
        clear hgk
        obtain ⟨T, m2, hT, y1, hm2, y3⟩ := HXd.out j hj
        rw [← hT]
        have HTT : Hid (T = tx (d ++ List.replicate j 0)) := hT
        have wj : IntKind.i64.wrap (e - (j : Int) - 1) = e - (j : Int) - 1 := by rw [IntKind.wrap_i64]; omega
        clear hT
        by_cases hlt : j < J
        · have HW : Hid (wr = w3) := hwr
          have z4 : (m2 : Int) < (i : Int) := by omega
          have z5 : (m2 : Int) ≤ 8388608 := by omega
          have z6 : low < e - (j : Int) := by omega
          clear hm2 hwr
          go_wp2
          go_roundg (J - (j + 1))
          case measure => have := HG.out; omega
          case rel => exact ⟨j + 1, by omega, rfl, rfl, by go_num, HW.out⟩
        · have ej : j = J := by omega
          subst ej
          have hwr' := hwr.symm
          subst hwr'
          have eTU : T = U0 := by rw [HTT.out]; exact HU0.out
          subst eTU
          clear hlt y3 HG HTT HXd HU0
          by_cases z4 : (m2 : Int) < (i : Int)
          · have z6 : ¬ low < e - (j : Int) := by omega
            clear hm2
            have hfit := Hfit.out
            clear Hfit
            go_wp2_with fail
            refine (HSb.out _).mono ?_
            rintro x w5 ⟨rfl, hb5⟩
            have HN5 : Hid (NB w 1 true e (tx d) w5) := HN3.out.next hb5
            clear hb5 HN3 HSb c0 c1 c2 c3 c4
            by_cases y4 : (D.length : Int) < (i : Int)
            · have y5 : ¬ low < e - (j : Int) := by omega
              go_wp2_with fail
              refine (l12Finite_any true (tx D) (e - (j : Int)) _).mono ?_
              rintro x w6 ⟨rfl, hb6⟩
              have HN6 : Hid (NB w 1 true e (tx d) w6) := HN5.out.next hb6
              clear hb6 HN5
              have hbl := build_res0 1 true (e - (j : Int)) (tx D) w6
              go_wp2_with (refine wpList_store_row rfl 29 (.tmp 4) (.tmp 113) rfl (w.heap.size + 1) #[.int .i64 1, .bool true, .int .i64 (e - (j : Int)), .string (tx D), .int .i64 0] rfl rfl _ _ HN6.out.2.1 (by kernel_rfl) rfl (one5 _ _ _ _ _) (Hid.out ?_))
              refine nx_end (by assumption) ?_
              try simp only [Exit.then]
              have hP := (HN6.out.2.1.row (.int .i64 1) (.bool true) (.int .i64 (e - (j : Int))) (.string (tx D)) (.int .i64 0)).cells
              refine bodyPost_ret (results_res rfl _ _ rfl hP.1 hP.2.1 hP.2.2.1 hP.2.2.2.1 hP.2.2.2.2.1) rfl ?_
              exact ⟨rfl, bel_row HN6.out.2.2.2.1 (by omega) _⟩
            · skip
              go_wp2_with fail
              refine (l12Finite_any true (tx D) (e - (j : Int)) _).mono ?_
              rintro x w6 ⟨rfl, hb6⟩
              have HN6 : Hid (NB w 1 true e (tx d) w6) := HN5.out.next hb6
              clear hb6 HN5
              have hbl := build_res0 1 true (e - (j : Int)) (tx D) w6
              go_wp2_with (refine wpList_store_row rfl 29 (.tmp 4) (.tmp 113) rfl (w.heap.size + 1) #[.int .i64 1, .bool true, .int .i64 (e - (j : Int)), .string (tx D), .int .i64 0] rfl rfl _ _ HN6.out.2.1 (by kernel_rfl) rfl (one5 _ _ _ _ _) (Hid.out ?_))
              refine nx_end (by assumption) ?_
              try simp only [Exit.then]
              have hP := (HN6.out.2.1.row (.int .i64 1) (.bool true) (.int .i64 (e - (j : Int))) (.string (tx D)) (.int .i64 0)).cells
              refine bodyPost_ret (results_res rfl _ _ rfl hP.1 hP.2.1 hP.2.2.1 hP.2.2.2.1 hP.2.2.2.2.1) rfl ?_
              exact ⟨rfl, bel_row HN6.out.2.2.2.1 (by omega) _⟩
          · clear hm2
            have hfit := Hfit.out
            clear Hfit
            go_wp2_with fail
            refine (HSb.out _).mono ?_
            rintro x w5 ⟨rfl, hb5⟩
            have HN5 : Hid (NB w 1 true e (tx d) w5) := HN3.out.next hb5
            clear hb5 HN3 HSb c0 c1 c2 c3 c4
            by_cases y4 : (D.length : Int) < (i : Int)
            · have y5 : ¬ low < e - (j : Int) := by omega
              go_wp2_with fail
              refine (l12Finite_any true (tx D) (e - (j : Int)) _).mono ?_
              rintro x w6 ⟨rfl, hb6⟩
              have HN6 : Hid (NB w 1 true e (tx d) w6) := HN5.out.next hb6
              clear hb6 HN5
              have hbl := build_res0 1 true (e - (j : Int)) (tx D) w6
              go_wp2_with (refine wpList_store_row rfl 29 (.tmp 4) (.tmp 113) rfl (w.heap.size + 1) #[.int .i64 1, .bool true, .int .i64 (e - (j : Int)), .string (tx D), .int .i64 0] rfl rfl _ _ HN6.out.2.1 (by kernel_rfl) rfl (one5 _ _ _ _ _) (Hid.out ?_))
              refine nx_end (by assumption) ?_
              try simp only [Exit.then]
              have hP := (HN6.out.2.1.row (.int .i64 1) (.bool true) (.int .i64 (e - (j : Int))) (.string (tx D)) (.int .i64 0)).cells
              refine bodyPost_ret (results_res rfl _ _ rfl hP.1 hP.2.1 hP.2.2.1 hP.2.2.2.1 hP.2.2.2.2.1) rfl ?_
              exact ⟨rfl, bel_row HN6.out.2.2.2.1 (by omega) _⟩
            · skip
              go_wp2_with fail
              refine (l12Finite_any true (tx D) (e - (j : Int)) _).mono ?_
              rintro x w6 ⟨rfl, hb6⟩
              have HN6 : Hid (NB w 1 true e (tx d) w6) := HN5.out.next hb6
              clear hb6 HN5
              have hbl := build_res0 1 true (e - (j : Int)) (tx D) w6
              go_wp2_with (refine wpList_store_row rfl 29 (.tmp 4) (.tmp 113) rfl (w.heap.size + 1) #[.int .i64 1, .bool true, .int .i64 (e - (j : Int)), .string (tx D), .int .i64 0] rfl rfl _ _ HN6.out.2.1 (by kernel_rfl) rfl (one5 _ _ _ _ _) (Hid.out ?_))
              refine nx_end (by assumption) ?_
              try simp only [Exit.then]
              have hP := (HN6.out.2.1.row (.int .i64 1) (.bool true) (.int .i64 (e - (j : Int))) (.string (tx D)) (.int .i64 0)).cells
              refine bodyPost_ret (results_res rfl _ _ rfl hP.1 hP.2.1 hP.2.2.1 hP.2.2.2.1 hP.2.2.2.2.1) rfl ?_
              exact ⟨rfl, bel_row HN6.out.2.2.2.1 (by omega) _⟩
end Go.Proofs.YtnkoeidolmiheaaGreatDoor
namespace Go.Proofs.YtnkoeidolmiheaaGreatDoor
open Go.RowKit
set_option linter.unusedVariables false
set_option maxRecDepth 100000
/-- What NextUp tells. -/
def nuR (f : Int) (k : Int) (n : Bool) (e : Int) (s : ByteArray) : R5o := ofR f 4 1 (fun _ => k) (fun _ => n) (fun _ => e) (fun _ => s) (nuX f k n e s)
theorem nu_right (f : Int) (k : Int) (n : Bool) (e : Int) (s : ByteArray) : rightB f 4 1 (fun _ => k) (fun _ => n) (fun _ => e) (fun _ => s) = numB f k n e s := by
  unfold rightB
  rw [show (decide (1 ≤ (4 : Int) ∧ (4 : Int) ≤ 5)) = true from rfl, Bool.true_and]
  exact ok1_is (numB f k n e s)
theorem sNextUp_any (f : Int) (k : Int) (n : Bool) (e : Int) (s : ByteArray) (w : World) (hsa : s.size ≤ 4611686018427387904) :
    Calls Tryz.prog 15 #[.int .i64 f, numV k n e s] w fun x w' => x = .returned (rsD (nuR f k n e s).1 (nuR f k n e s).2) ∧ Below w.heap.size w w' := by
  unfold nuR ofR
  rw [nu_right]
  cases hr : numB f k n e s with
  | false => exact sNx_no f k n e s w hsa hr
  | true =>
    rw [if_pos rfl]
    cases hs : spB 1 (fun _ => k) with
    | true =>
      rw [if_pos rfl]
      exact sNx_nan f k n e s w hsa hr hs
    | false =>
      rw [if_neg (by decide)]
      have hn := of_decide_eq_false hs
      obtain ⟨hf, hss, hk12, h1⟩ := right_two f k n e s hr (fun c => hn ⟨0, by decide, .inl c⟩) (fun c => hn ⟨0, by decide, .inr c⟩)
      unfold nuX
      rcases hk12 with rfl | rfl
      · rw [if_neg (by decide)]
        obtain ⟨hc, hl, he, hh⟩ := h1 rfl
        obtain ⟨p2, p34, pP, lh, l1, l2⟩ := lims3 f hf
        have hln : (dl s).length ≤ (limP f).toNat := by omega
        obtain ⟨d, hd⟩ : ∃ d, dl s = d := ⟨_, rfl⟩
        rw [hd] at hss hc hln ⊢
        subst hss
        clear hd h1 hl
        unfold nxX
        by_cases hz : d = [0]
        · subst hz
          rw [if_pos rfl]
          exact sNx_0 f 1 n e (tx [0]) w hsa hr hs hf rfl (by rw [ByteArray.toList_eq, tx_data]; rfl)
        · rw [if_neg hz]
          cases n with
          | false =>
            rw [if_neg (by decide)]
            unfold nxPos
            simp only
            by_cases hfit : (nt (vl d * 10 ^ nxJ (limP f).toNat d.length e (limL f) + 1)).length ≤ (limP f).toNat
            · have e1 : finTE (limP f).toNat (nt (vl d * 10 ^ nxJ (limP f).toNat d.length e (limL f) + 1)) (e - nxJ (limP f).toNat d.length e (limL f)) = e - nxJ (limP f).toNat d.length e (limL f) := by unfold finTE; rw [if_neg (by omega)]
              have e2 : finT (limP f).toNat (nt (vl d * 10 ^ nxJ (limP f).toNat d.length e (limL f) + 1)) = nt (vl d * 10 ^ nxJ (limP f).toNat d.length e (limL f) + 1) := by unfold finT; rw [if_neg (by omega)]
              rw [e1, e2, if_pos (by omega)]
              exact sNx_pos1 f false e d w hr hf hc hz hln he hh rfl hfit
            · have e1 : finTE (limP f).toNat (nt (vl d * 10 ^ nxJ (limP f).toNat d.length e (limL f) + 1)) (e - nxJ (limP f).toNat d.length e (limL f)) = e - nxJ (limP f).toNat d.length e (limL f) + 1 := by unfold finTE; rw [if_pos (by omega)]
              have e2 : finT (limP f).toNat (nt (vl d * 10 ^ nxJ (limP f).toNat d.length e (limL f) + 1)) = (nt (vl d * 10 ^ nxJ (limP f).toNat d.length e (limL f) + 1)).take (limP f).toNat := by unfold finT; rw [if_pos (by omega)]
              rw [e1, e2]
              by_cases hin : e - nxJ (limP f).toNat d.length e (limL f) + 1 ≤ limH f
              · rw [if_pos hin]
                exact sNx_pos2 f false e d w hr hf hc hz hln he hh rfl ⟨by omega, hin⟩
              · rw [if_neg hin]
                exact sNx_pos3 f false e d w hr hf hc hz hln he hh rfl ⟨by omega, hin⟩
          | true =>
            rw [if_pos rfl]
            unfold nxNeg
            simp only
            by_cases hfit : (nt (vl d * 10 ^ nxJ (limP f).toNat d.length e (limL f) - 1)).length < (limP f).toNat ∧ limL f < e - nxJ (limP f).toNat d.length e (limL f)
            · rw [if_pos hfit]
              exact sNx_neg1 f true e d w hr hf hc hz hln he hh rfl hfit
            · rw [if_neg hfit]
              exact sNx_neg2 f true e d w hr hf hc hz hln he hh rfl hfit
      · rw [if_pos rfl]
        obtain ⟨rfl, rfl⟩ := inf_is f n e s hr
        cases n with
        | true => exact sNx_inft f 2 true 0 { data := #[] } w hsa hr hs hf rfl rfl
        | false => exact sNx_inff f 2 false 0 { data := #[] } w hsa hr hs hf rfl rfl
theorem iNextUp_ok (f : Int) (k : Int) (n : Bool) (e : Int) (s : ByteArray) (w : World) (hsa : s.size ≤ 4611686018427387904) :
    Calls Tryz.prog 35 #[.int .i64 f, numV k n e s] w fun x w' => x = .returned (rsD (nuR f k n e s).1 (nuR f k n e s).2) ∧ Below w.heap.size w w' := iNextUp_any f k n e s w hsa
end Go.Proofs.YtnkoeidolmiheaaGreatDoor
namespace Go.Proofs.YtnkoeidolmiheaaGreatDoor
open Go.RowKit
set_option linter.unusedVariables false
set_option maxRecDepth 100000
def tg (k : Int) (n : Bool) : Bool := if k = 1 ∨ k = 2 then !n else n
/-- What NextDown tells. -/
def ndR (f : Int) (k : Int) (n : Bool) (e : Int) (s : ByteArray) : R5o := (tg (nuR f k (tg k n) e s).2.1 (nuR f k (tg k n) e s).1, (nuR f k (tg k n) e s).2)
theorem numB_tg (f : Int) (k : Int) (n : Bool) (e : Int) (s : ByteArray) : numB f k (tg k n) e s = numB f k n e s := by
  by_cases h12 : k = 1 ∨ k = 2
  · unfold numB
    rcases h12 with rfl | rfl
    · rfl
    · rfl
  · have e : tg k n = n := if_neg h12
    rw [e]
theorem nd_no (f : Int) (k : Int) (n : Bool) (e : Int) (s : ByteArray) (h : numB f k n e s = false) : ndR f k n e s = (false, (0, 0, { data := #[] }, 0)) := by
  have e1 : nuR f k (tg k n) e s = (false, (0, 0, { data := #[] }, 0)) := by
    unfold nuR ofR
    rw [nu_right, numB_tg, h]; rfl
  unfold ndR
  rw [e1]; rfl
def DB (w : World) (k : Int) (n : Bool) (e : Int) (s : ByteArray) (W : World) : Prop := At4r W w.heap.size (.int .i64 k) (.bool n) (.int .i64 e) (.string s) ∧ At5 W (w.heap.size + 1) (.int .i64 0) (.bool false) (.int .i64 0) (.string { data := #[] }) (.int .i64 0) ∧ Below w.heap.size w W ∧ w.heap.size + 1 < W.heap.size
theorem DB.next {w W W' : World} {k : Int} {n : Bool} {e : Int} {s : ByteArray} (h : DB w k n e s W) (hb : Below W.heap.size W W') : DB w k n e s W' := ⟨h.1.next hb, h.2.1.below hb h.2.1.lt, h.2.2.1.trans (hb.mono h.2.2.1.size), Nat.lt_of_lt_of_le h.2.2.2 hb.size⟩
theorem db_new (w : World) (k : Int) (n : Bool) (e : Int) (s : ByteArray) : DB w k n e s ((w.alloc (.cells #[.int .i64 k, .bool n, .int .i64 e, .string s] 25)).alloc (.cells #[.int .i64 0, .bool false, .int .i64 0, .string { data := #[] }, .int .i64 0] 29)) := by
  have h1 := at4r_new w (.int .i64 k) (.bool n) (.int .i64 e) (.string s)
  have z1 := new_size w (.cells #[.int .i64 k, .bool n, .int .i64 e, .string s] 25)
  have b1 : Below w.heap.size w (w.alloc (.cells #[.int .i64 k, .bool n, .int .i64 e, .string s] 25)) := (Below.refl _ _).alloc (Nat.le_refl _) _
  generalize w.alloc (.cells #[.int .i64 k, .bool n, .int .i64 e, .string s] 25) = w1 at *
  have h2 := at5_new w1 (.int .i64 0) (.bool false) (.int .i64 0) (.string { data := #[] }) (.int .i64 0)
  have z2 := new_size w1 (.cells #[.int .i64 0, .bool false, .int .i64 0, .string { data := #[] }, .int .i64 0] 29)
  have b2 : Below w1.heap.size w1 (w1.alloc (.cells #[.int .i64 0, .bool false, .int .i64 0, .string { data := #[] }, .int .i64 0] 29)) := (Below.refl _ _).alloc (Nat.le_refl _) _
  rw [z1] at h2
  exact ⟨h1.next b2, h2, b1.trans (b2.mono b1.size), by omega⟩
/-- The number of a Result is written anew. -/
abbrev rnW (W : World) (p : Nat) (a : Int) (b : Bool) (c : Int) (d : ByteArray) : World := (((W.setCell ⟨p, 0, none⟩ (.int .i64 a)).setCell ⟨p, 1, none⟩ (.bool b)).setCell ⟨p, 2, none⟩ (.int .i64 c)).setCell ⟨p, 3, none⟩ (.string d)
theorem rn_at {W : World} {p : Nat} {x y z u v : Value} (h : At5 W p x y z u v) (a : Int) (b : Bool) (c : Int) (d : ByteArray) : At5 (rnW W p a b c d) p (.int .i64 a) (.bool b) (.int .i64 c) (.string d) v := by
  unfold At5 at *
  simp [rnW, World.setCell, Array.getElem?_modify, h]
theorem rn_far {W : World} {p q : Nat} {x y z u v : Value} (h : At5 W q x y z u v) (hpq : p ≠ q) (a : Int) (b : Bool) (c : Int) (d : ByteArray) : At5 (rnW W p a b c d) q x y z u v := by
  unfold At5 at *
  simp [rnW, World.setCell, Array.getElem?_modify, h, hpq]
theorem rn_bel {B : Nat} {w W : World} (h : Below B w W) {p : Nat} (hp : B ≤ p) (a : Int) (b : Bool) (c : Int) (d : ByteArray) : Below B w (rnW W p a b c d) := by
  have q : ∀ {X : World} (i : Nat) (v : Value), Below B w X → Below B w (X.setCell ⟨p, i, none⟩ v) := fun i v hX => hX.setCell (p := ⟨p, i, none⟩) hp v
  exact q _ _ (q _ _ (q _ _ (q _ _ h)))
set_option maxRecDepth 100000 in
set_option maxHeartbeats 1000000 in
theorem iNextDown_any (f : Int) (k : Int) (n : Bool) (e : Int) (s : ByteArray) (w : World) (hsa : s.size ≤ 4611686018427387904) :
    Calls Tryz.prog 36 #[.int .i64 f, numV k n e s] w fun x w' => x = .returned (rsD (ndR f k n e s).1 (ndR f k n e s).2) ∧ Below w.heap.size w w' := by
  have HN : Hid (DB w k n e s ((w.alloc (.cells #[.int .i64 k, .bool n, .int .i64 e, .string s] 25)).alloc (.cells #[.int .i64 0, .bool false, .int .i64 0, .string { data := #[] }, .int .i64 0] 29))) := db_new w k n e s
  have HT1 : Hid (∀ X, Calls Tryz.prog 94 #[numV k n e s] X fun x w' => x = .returned (numV k (tg k n) e s) ∧ Below X.heap.size X w') := fun X => otherSign_any k n e s X
  have HU : Hid (∀ X, Calls Tryz.prog 35 #[.int .i64 f, numV k (tg k n) e s] X fun x w' => x = .returned (rsD (nuR f k (tg k n) e s).1 (nuR f k (tg k n) e s).2) ∧ Below X.heap.size X w') := fun X => iNextUp_ok f k (tg k n) e s X hsa
  have E : Hid (ndR f k n e s = (tg (nuR f k (tg k n) e s).2.1 (nuR f k (tg k n) e s).1, (nuR f k (tg k n) e s).2)) := rfl
  rw [E.out]
  clear E hsa
  generalize nuR f k (tg k n) e s = R at *
  obtain ⟨R0, F1, F2, F3, F4⟩ := R
  have HT2 : Hid (∀ X, Calls Tryz.prog 94 #[numV F1 R0 F2 F3] X fun x w' => x = .returned (numV F1 (tg F1 R0) F2 F3) ∧ Below X.heap.size X w') := fun X => otherSign_any F1 R0 F2 F3 X
  dsimp only at HU ⊢
  generalize tg F1 R0 = G0 at *
  generalize tg k n = N0 at *
  go_enter Tryz.func36, Tryz.ntmps36
  go_wp2_with fail
  refine (HT1.out _).mono ?_
  rintro x w1 ⟨rfl, hb1⟩
  have HN1 : Hid (DB w k n e s w1) := HN.out.next hb1
  clear hb1 HN HT1
  try clear c0 c1 c2 c3 c4
  go_wp2_with fail
  refine (HU.out _).mono ?_
  rintro x w2 ⟨rfl, hb2⟩
  have HN2 : Hid (DB w k n e s (w2.alloc (.cells #[.int .i64 F1, .bool R0, .int .i64 F2, .string F3, .int .i64 F4] 29)) ∧ At5 (w2.alloc (.cells #[.int .i64 F1, .bool R0, .int .i64 F2, .string F3, .int .i64 F4] 29)) w2.heap.size (.int .i64 F1) (.bool R0) (.int .i64 F2) (.string F3) (.int .i64 F4) ∧ w.heap.size + 1 < w2.heap.size) := ⟨(HN1.out.next hb2).next ((Below.refl _ _).alloc (Nat.le_refl _) _), at5_new w2 _ _ _ _ _, (HN1.out.next hb2).2.2.2⟩
  clear hb2 HN1 HU
  obtain ⟨a0, a1, a2, a3, a4, a5⟩ := HN2.out.2.1.cells
  go_wp2_with fail
  refine (HT2.out _).mono ?_
  rintro x w3 ⟨rfl, hb3⟩
  have HN3 : Hid (DB w k n e s w3 ∧ At5 w3 w2.heap.size (.int .i64 F1) (.bool R0) (.int .i64 F2) (.string F3) (.int .i64 F4) ∧ w.heap.size + 1 < w2.heap.size) := ⟨HN2.out.1.next hb3, HN2.out.2.1.below hb3 HN2.out.2.1.lt, HN2.out.2.2⟩
  clear hb3 HN2 HT2 a0 a1 a2 a3 a4 a5
  generalize w2.heap.size = p9 at *
  obtain ⟨a0, a1, a2, a3, a4, a5⟩ := HN3.out.2.1.cells
  obtain ⟨b0, b1, b2, b3, b4, b5⟩ := (rn_at HN3.out.2.1 F1 G0 F2 F3).cells
  have HZ : Hid (At5 (rnW w3 p9 F1 G0 F2 F3) (w.heap.size + 1) (.int .i64 0) (.bool false) (.int .i64 0) (.string { data := #[] }) (.int .i64 0) ∧ Below w.heap.size w (rnW w3 p9 F1 G0 F2 F3)) := ⟨rn_far HN3.out.1.2.1 (by have := HN3.out.2.2; omega) _ _ _ _, rn_bel HN3.out.1.2.2.1 (by have := HN3.out.2.2; omega) _ _ _ _⟩
  unfold rnW at b0 b1 b2 b3 b4 b5 HZ
  go_upto_region 3 with fail
  go_wp2_with (refine wpList_store_row rfl 29 (.tmp 4) (.tmp 14) rfl (w.heap.size + 1) #[.int .i64 F1, .bool G0, .int .i64 F2, .string F3, .int .i64 F4] rfl rfl _ _ HZ.out.1 (by kernel_rfl) rfl (one5 _ _ _ _ _) ?_)
  have hP := (HZ.out.1.row (.int .i64 F1) (.bool G0) (.int .i64 F2) (.string F3) (.int .i64 F4)).cells
  refine bodyPost_ret (results_res rfl _ _ rfl hP.1 hP.2.1 hP.2.2.1 hP.2.2.2.1 hP.2.2.2.2.1) rfl ?_
  exact ⟨rfl, bel_row HZ.out.2 (by omega) _⟩
set_option maxRecDepth 100000 in
set_option maxHeartbeats 1000000 in
theorem sNextDown_any (f : Int) (k : Int) (n : Bool) (e : Int) (s : ByteArray) (w : World) (hsa : s.size ≤ 4611686018427387904) :
    Calls Tryz.prog 37 #[.int .i64 f, numV k n e s] w fun x w' => x = .returned (rsD (ndR f k n e s).1 (ndR f k n e s).2) ∧ Below w.heap.size w w' := by
  have HN : Hid (DB w k n e s ((w.alloc (.cells #[.int .i64 k, .bool n, .int .i64 e, .string s] 25)).alloc (.cells #[.int .i64 0, .bool false, .int .i64 0, .string { data := #[] }, .int .i64 0] 29))) := db_new w k n e s
  have HT1 : Hid (∀ X, Calls Tryz.prog 106 #[numV k n e s] X fun x w' => x = .returned (numV k (tg k n) e s) ∧ Below X.heap.size X w') := fun X => l13Turn_any k n e s X
  have HU : Hid (∀ X, Calls Tryz.prog 15 #[.int .i64 f, numV k (tg k n) e s] X fun x w' => x = .returned (rsD (nuR f k (tg k n) e s).1 (nuR f k (tg k n) e s).2) ∧ Below X.heap.size X w') := fun X => sNextUp_any f k (tg k n) e s X hsa
  have hb00 : ∀ w, (Instr.build 29 #[]).run Tryz.prog w = .ok (rsV 0 false 0 { data := #[] } 0) w := fun w => run_build w _ _ _ (by kernel_rfl)
  have HOk : Hid (∀ X, Calls Tryz.prog 43 #[.int .i64 f, numV k n e s] X fun x w' => x = .returned (.bool (numB f k n e s)) ∧ Below X.heap.size X w') := fun X => sNumOk_any f k n e s X hsa
  cases hr : numB f k n e s with
  | false =>
    rw [nd_no f k n e s hr]
    rw [hr] at HOk
    clear HT1 HU hr hsa
    go_enter Tryz.func37, Tryz.ntmps37
    go_wp2_with fail
    refine (HOk.out _).mono ?_
    rintro x w1 ⟨rfl, hb1⟩
    have HN1 : Hid (DB w k n e s w1) := HN.out.next hb1
    clear hb1 HN HOk
    go_wp2_with (refine wpList_store_row rfl 29 (.tmp 4) (.tmp 10) rfl (w.heap.size + 1) #[.int .i64 0, .bool false, .int .i64 0, .string { data := #[] }, .int .i64 0] rfl rfl _ _ HN1.out.2.1 (by kernel_rfl) rfl (one5 _ _ _ _ _) ?_)
    have hP := (HN1.out.2.1.row (.int .i64 0) (.bool false) (.int .i64 0) (.string { data := #[] }) (.int .i64 0)).cells
    refine bodyPost_ret (results_res rfl _ _ rfl hP.1 hP.2.1 hP.2.2.1 hP.2.2.2.1 hP.2.2.2.2.1) rfl ?_
    exact ⟨rfl, bel_row HN1.out.2.2.1 (by omega) _⟩
  | true =>
    rw [hr] at HOk
    clear hr
    have E : Hid (ndR f k n e s = (tg (nuR f k (tg k n) e s).2.1 (nuR f k (tg k n) e s).1, (nuR f k (tg k n) e s).2)) := rfl
    rw [E.out]
    clear E hsa
    generalize nuR f k (tg k n) e s = R at *
    obtain ⟨R0, F1, F2, F3, F4⟩ := R
    have HT2 : Hid (∀ X, Calls Tryz.prog 106 #[numV F1 R0 F2 F3] X fun x w' => x = .returned (numV F1 (tg F1 R0) F2 F3) ∧ Below X.heap.size X w') := fun X => l13Turn_any F1 R0 F2 F3 X
    dsimp only at HU ⊢
    generalize tg F1 R0 = G0 at *
    generalize tg k n = N0 at *
    go_enter Tryz.func37, Tryz.ntmps37
    go_wp2_with fail
    refine (HOk.out _).mono ?_
    rintro x w0 ⟨rfl, hb0⟩
    have HN0 : Hid (DB w k n e s w0) := HN.out.next hb0
    clear hb0 HN HOk
    obtain ⟨c0, c1, c2, c3, c4⟩ := HN0.out.1.cells
    go_wp2_with fail
    refine (HT1.out _).mono ?_
    rintro x w1 ⟨rfl, hb1⟩
    have HN1 : Hid (DB w k n e s w1) := HN0.out.next hb1
    clear hb1 HN0 HT1
    try clear c0 c1 c2 c3 c4
    go_wp2_with fail
    refine (HU.out _).mono ?_
    rintro x w2 ⟨rfl, hb2⟩
    have HN2 : Hid (DB w k n e s (w2.alloc (.cells #[.int .i64 F1, .bool R0, .int .i64 F2, .string F3, .int .i64 F4] 29)) ∧ At5 (w2.alloc (.cells #[.int .i64 F1, .bool R0, .int .i64 F2, .string F3, .int .i64 F4] 29)) w2.heap.size (.int .i64 F1) (.bool R0) (.int .i64 F2) (.string F3) (.int .i64 F4) ∧ w.heap.size + 1 < w2.heap.size) := ⟨(HN1.out.next hb2).next ((Below.refl _ _).alloc (Nat.le_refl _) _), at5_new w2 _ _ _ _ _, (HN1.out.next hb2).2.2.2⟩
    clear hb2 HN1 HU
    obtain ⟨a0, a1, a2, a3, a4, a5⟩ := HN2.out.2.1.cells
    go_wp2_with fail
    refine (HT2.out _).mono ?_
    rintro x w3 ⟨rfl, hb3⟩
    have HN3 : Hid (DB w k n e s w3 ∧ At5 w3 w2.heap.size (.int .i64 F1) (.bool R0) (.int .i64 F2) (.string F3) (.int .i64 F4) ∧ w.heap.size + 1 < w2.heap.size) := ⟨HN2.out.1.next hb3, HN2.out.2.1.below hb3 HN2.out.2.1.lt, HN2.out.2.2⟩
    clear hb3 HN2 HT2 a0 a1 a2 a3 a4 a5
    generalize w2.heap.size = p9 at *
    obtain ⟨a0, a1, a2, a3, a4, a5⟩ := HN3.out.2.1.cells
    obtain ⟨b0, b1, b2, b3, b4, b5⟩ := (rn_at HN3.out.2.1 F1 G0 F2 F3).cells
    have HZ : Hid (At5 (rnW w3 p9 F1 G0 F2 F3) (w.heap.size + 1) (.int .i64 0) (.bool false) (.int .i64 0) (.string { data := #[] }) (.int .i64 0) ∧ Below w.heap.size w (rnW w3 p9 F1 G0 F2 F3)) := ⟨rn_far HN3.out.1.2.1 (by have := HN3.out.2.2; omega) _ _ _ _, rn_bel HN3.out.1.2.2.1 (by have := HN3.out.2.2; omega) _ _ _ _⟩
    unfold rnW at b0 b1 b2 b3 b4 b5 HZ
    go_upto_region 5 with fail
    go_wp2_with (refine wpList_store_row rfl 29 (.tmp 4) (.tmp 19) rfl (w.heap.size + 1) #[.int .i64 F1, .bool G0, .int .i64 F2, .string F3, .int .i64 F4] rfl rfl _ _ HZ.out.1 (by kernel_rfl) rfl (one5 _ _ _ _ _) ?_)
    have hP := (HZ.out.1.row (.int .i64 F1) (.bool G0) (.int .i64 F2) (.string F3) (.int .i64 F4)).cells
    refine bodyPost_ret (results_res rfl _ _ rfl hP.1 hP.2.1 hP.2.2.1 hP.2.2.2.1 hP.2.2.2.2.1) rfl ?_
    exact ⟨rfl, bel_row HZ.out.2 (by omega) _⟩
end Go.Proofs.YtnkoeidolmiheaaGreatDoor
namespace Go.Proofs.YtnkoeidolmiheaaGreatDoor
set_option linter.unusedVariables false
set_option maxRecDepth 100000
/-- Nothing of at most P digits lies between a number of P digits (or of the least exponent) and the next one. -/
theorem lat_up (P k k2 : Nat) (D D2 : Int) (hP : 1 ≤ P) (h0 : 0 ≤ D2) (h1 : D2 < 10 ^ P) (hn : 10 ^ (P - 1) ≤ D ∨ k = 0) (h : D * 10 ^ k < D2 * 10 ^ k2) : (D + 1) * 10 ^ k ≤ D2 * 10 ^ k2 := by
  by_cases hk : k ≤ k2
  · have e : (10 : Int) ^ k2 = 10 ^ (k2 - k) * 10 ^ k := by rw [← Int.pow_add, show k2 - k + k = k2 by omega]
    rw [e, ← Int.mul_assoc] at h ⊢
    have := Int.lt_of_mul_lt_mul_right h (Int.le_of_lt (ten_pos k))
    exact Int.mul_le_mul_of_nonneg_right (by omega) (Int.le_of_lt (ten_pos k))
  · exfalso
    rcases hn with hn | hn
    · have q1 : D2 * 10 ^ k2 < 10 ^ P * 10 ^ k2 := Int.mul_lt_mul_of_pos_right h1 (ten_pos k2)
      have q2 : 10 ^ (P - 1) * 10 ^ k ≤ D * 10 ^ k := Int.mul_le_mul_of_nonneg_right hn (Int.le_of_lt (ten_pos k))
      rw [← Int.pow_add] at q1 q2
      have := pow_mono (P + k2) (P - 1 + k) (by omega)
      omega
    · omega
theorem lat_dn1 (P k k2 : Nat) (D D2 : Int) (hP : 1 ≤ P) (h0 : 0 ≤ D2) (h1 : D2 < 10 ^ P) (hn : 10 ^ (P - 1) < D ∨ k = 0) (h : D2 * 10 ^ k2 < D * 10 ^ k) : D2 * 10 ^ k2 ≤ (D - 1) * 10 ^ k := by
  by_cases hk : k ≤ k2
  · have e : (10 : Int) ^ k2 = 10 ^ (k2 - k) * 10 ^ k := by rw [← Int.pow_add, show k2 - k + k = k2 by omega]
    rw [e, ← Int.mul_assoc] at h ⊢
    have := Int.lt_of_mul_lt_mul_right h (Int.le_of_lt (ten_pos k))
    exact Int.mul_le_mul_of_nonneg_right (by omega) (Int.le_of_lt (ten_pos k))
  · rcases hn with hn | hn
    · have q1 : D2 * 10 ^ k2 < 10 ^ P * 10 ^ k2 := Int.mul_lt_mul_of_pos_right h1 (ten_pos k2)
      have q2 : 10 ^ (P - 1) * 10 ^ k ≤ (D - 1) * 10 ^ k := Int.mul_le_mul_of_nonneg_right (by omega) (Int.le_of_lt (ten_pos k))
      rw [← Int.pow_add] at q1 q2
      have := pow_mono (P + k2) (P - 1 + k) (by omega)
      omega
    · omega
theorem lat_dn2 (P k k2 : Nat) (D2 : Int) (hP : 1 ≤ P) (h0 : 0 ≤ D2) (h1 : D2 < 10 ^ P) (h : D2 * 10 ^ k2 < 10 ^ (P - 1) * 10 ^ (k + 1)) : D2 * 10 ^ k2 ≤ (10 ^ P - 1) * 10 ^ k := by
  have ht := ten_pos k
  by_cases hk : k ≤ k2
  · have e : (10 : Int) ^ k2 = 10 ^ (k2 - k) * 10 ^ k := by rw [← Int.pow_add, show k2 - k + k = k2 by omega]
    have e2 : (10 : Int) ^ (P - 1) * 10 ^ (k + 1) = 10 ^ P * 10 ^ k := by rw [← Int.pow_add, ← Int.pow_add, show P - 1 + (k + 1) = P + k by omega]
    rw [e2, e, ← Int.mul_assoc] at h
    rw [e, ← Int.mul_assoc]
    have := Int.lt_of_mul_lt_mul_right h (Int.le_of_lt ht)
    exact Int.mul_le_mul_of_nonneg_right (by omega) (Int.le_of_lt ht)
  · have q1 : D2 * 10 ^ k2 ≤ D2 * 10 ^ k := Int.mul_le_mul_of_nonneg_left (pow_mono k2 k (by omega)) h0
    have q2 : D2 * 10 ^ k ≤ (10 ^ P - 1) * 10 ^ k := Int.mul_le_mul_of_nonneg_right (by omega) (Int.le_of_lt ht)
    omega
theorem sgv_f (v : Int) : sgv false v = v := rfl
/-- A right finite number by its digits, and its value in parts of the least. -/
def Fi (f : Int) (e : Int) (d : List Int) : Prop := Canon d ∧ d.length ≤ (limP f).toNat ∧ limL f ≤ e ∧ e ≤ limH f
def NV (f : Int) (n : Bool) (e : Int) (d : List Int) : Int := sgv n (vl d) * 10 ^ (e - limL f).toNat
theorem nvF_neg (f : Int) (n : Bool) (e : Int) (d : List Int) : NV f (!n) e d = -NV f n e d := by
  unfold NV sgv
  cases n
  · show (if true then _ else _) * _ = _
    rw [if_pos rfl, if_neg (by decide), Int.neg_mul]
  · show (if false then _ else _) * _ = _
    rw [if_neg (by decide), if_pos rfl, Int.neg_mul, Int.neg_neg]
theorem fi_num (f : Int) (hf : f = 64 ∨ f = 128) (n : Bool) (e : Int) (d : List Int) (h : Fi f e d) : numB f 1 n e (tx d) = true := by
  obtain ⟨cD, lD, h1, h2⟩ := h
  have hp : limP f ≠ 0 := by rcases hf with rfl | rfl <;> decide
  have h3 := (lims3 f hf).2.2.1
  unfold numB
  rw [if_neg hp, if_pos rfl, natB_tx (limP f) d cD (by omega)]
  simp [h1, h2]
theorem fi_of (f : Int) (n : Bool) (e : Int) (s : ByteArray) (h : numB f 1 n e s = true) : (f = 64 ∨ f = 128) ∧ s = tx (dl s) ∧ Fi f e (dl s) := by
  obtain ⟨hf, h1, -, h2⟩ := right_two f 1 n e s h (by decide) (by decide)
  obtain ⟨q1, q2, q3, q4⟩ := h2 rfl
  have h3 := (lims3 f hf).2.2.1
  exact ⟨hf, h1, q1, by omega, q3, q4⟩
theorem cp_nv (f : Int) (hf : f = 64 ∨ f = 128) (na : Bool) (ea : Int) (da : List Int) (nb : Bool) (eb : Int) (db : List Int) (hA : Fi f ea da) (hB : Fi f eb db) : cpR f 1 na ea (tx da) 1 nb eb (tx db) = cI (NV f na ea da) (NV f nb eb db) :=
  cp_val f na ea da nb eb db (fi_num f hf na ea da hA) (fi_num f hf nb eb db hB) hA.1 hB.1 (limL f) hA.2.2.1 hB.2.2.1
theorem nvF_bd (f : Int) (e : Int) (d : List Int) (h : Fi f e d) : 0 ≤ NV f false e d ∧ ∃ k2 : Nat, NV f false e d = vl d * 10 ^ k2 ∧ 0 ≤ vl d ∧ vl d < 10 ^ (limP f).toNat ∧ k2 ≤ (limH f - limL f).toNat := by
  have hv := vl_bd d h.1.1
  have := pow_mono d.length (limP f).toNat h.2.1
  have h3 := h.2.2.1
  have h4 := h.2.2.2
  refine ⟨Int.mul_nonneg hv.1 (Int.le_of_lt (ten_pos _)), (e - limL f).toNat, rfl, hv.1, by omega, by omega⟩
/-- What the next number is, by value. -/
def UpF (f : Int) (n : Bool) (e : Int) (d : List Int) (r : R5o) : Prop :=
  (∃ n' e' d', r = (n', (1, e', tx d', 0)) ∧ Fi f e' d' ∧ NV f n e d < NV f n' e' d' ∧ ∀ nb eb db, Fi f eb db → NV f n e d < NV f nb eb db → NV f n' e' d' ≤ NV f nb eb db)
  ∨ (r = (false, (2, 0, { data := #[] }, 0)) ∧ ∀ nb eb db, Fi f eb db → NV f nb eb db ≤ NV f n e d)
theorem nu_fin (f : Int) (hf : f = 64 ∨ f = 128) (n : Bool) (e : Int) (d : List Int) (h : Fi f e d) : nuR f 1 n e (tx d) = ((nxX f n e d).1, ((nxX f n e d).2.1, (nxX f n e d).2.2.1, (nxX f n e d).2.2.2, 0)) := by
  have hA := fi_num f hf n e d h
  unfold nuR ofR
  rw [nu_right, hA, if_pos rfl, if_neg (by unfold spB; simp)]
  unfold nuX
  rw [if_neg (by decide), dl_tx d h.1.1]
set_option maxHeartbeats 1000000 in
theorem up_pos (f : Int) (hf : f = 64 ∨ f = 128) (e : Int) (d : List Int) (h : Fi f e d) (hz : d ≠ [0]) : UpF f false e d (nuR f 1 false e (tx d)) := by
  obtain ⟨P2, P34, hP, hLH, -, -⟩ := lims3 f hf
  rw [nu_fin f hf false e d h]
  obtain ⟨cd, ld, e1, e2⟩ := h
  unfold nxX
  rw [if_neg hz, if_neg (by decide)]
  have lo := canon_lo d cd hz
  have hi := (vl_bd d cd.1).2
  have v1 := vl_pos d cd hz
  have hd0 := cd.2.1
  have hj : nxJ (limP f).toNat d.length e (limL f) = min ((limP f).toNat - d.length) (e - limL f).toNat := rfl
  unfold nxPos
  dsimp only
  generalize nxJ (limP f).toNat d.length e (limL f) = j at *
  generalize hPP : (limP f).toNat = P at *
  obtain ⟨k, hk⟩ : ∃ k : Nat, (e - (j : Int) - limL f) = k := ⟨(e - (j : Int) - limL f).toNat, by omega⟩
  have hA : NV f false e d = vl d * 10 ^ j * 10 ^ k := by
    unfold NV
    rw [sgv_f, Int.mul_assoc, ← Int.pow_add]
    rw [show (e - limL f).toNat = j + k by omega]
  have hu : vl d * 10 ^ j < 10 ^ P := by
    have q : vl d * 10 ^ j < 10 ^ d.length * 10 ^ j := Int.mul_lt_mul_of_pos_right hi (ten_pos j)
    rw [← Int.pow_add] at q
    have := pow_mono (d.length + j) P (by omega)
    omega
  have hnrm : 10 ^ (P - 1) ≤ vl d * 10 ^ j ∨ k = 0 := by
    by_cases q : j = P - d.length
    · left
      have q1 : 10 ^ (d.length - 1) * 10 ^ j ≤ vl d * 10 ^ j := Int.mul_le_mul_of_nonneg_right lo (Int.le_of_lt (ten_pos j))
      rw [← Int.pow_add, show d.length - 1 + j = P - 1 by omega] at q1
      exact q1
    · right; omega
  have hp0 : 0 < vl d * 10 ^ j := Int.mul_pos (by omega) (ten_pos j)
  generalize vl d * 10 ^ j = D at *
  have tk := ten_pos k
  have hA0 : 0 < NV f false e d := by rw [hA]; exact Int.mul_pos hp0 tk
  have hbetw : ∀ nb eb db, Fi f eb db → NV f false e d < NV f nb eb db → (D + 1) * 10 ^ k ≤ NV f nb eb db := fun nb eb db hb hlt => by
    obtain ⟨b0, k2, b1, b2, b3, -⟩ := nvF_bd f eb db hb
    rw [hPP] at b3
    cases nb with
    | true =>
      have := nvF_neg f false eb db
      rw [show (!false) = true from rfl] at this
      omega
    | false =>
      rw [b1] at hlt ⊢
      rw [hA] at hlt
      exact lat_up P k k2 D (vl db) (by omega) b2 b3 hnrm hlt
  have svT := finT_value P (D + 1) (e - (j : Int)) (by omega) (by omega) (by omega) P34
  obtain ⟨cq, vq⟩ := nt_spec (D + 1) (by omega) (Int.lt_of_le_of_lt (show D + 1 ≤ 10 ^ P by omega) (Int.lt_of_lt_of_le (show (10 : Int) ^ P < 10 ^ (P + 1) by rw [Int.pow_succ]; have := ten_pos P; omega) (pow_mono _ _ (by omega))))
  have lq : (nt (D + 1)).length ≤ P + 1 := canon_le _ cq (P + 1) (by omega) (by rw [vq, Int.pow_succ]; have := ten_pos P; omega)
  obtain ⟨t1, t2, -⟩ := finT_right P (by omega) (nt (D + 1)) cq lq
  have te : e - (j : Int) ≤ finTE P (nt (D + 1)) (e - (j : Int)) ∧ finTE P (nt (D + 1)) (e - (j : Int)) ≤ e - (j : Int) + 1 := by unfold finTE; split <;> omega
  by_cases hH : finTE P (nt (D + 1)) (e - (j : Int)) ≤ limH f
  · rw [if_pos hH]
    left
    generalize finTE P (nt (D + 1)) (e - (j : Int)) = E at *
    generalize finT P (nt (D + 1)) = R at *
    refine ⟨false, E, R, rfl, ⟨t1, by rw [hPP]; exact t2, by omega, hH⟩, ?_, ?_⟩
    · have := sv_at svT (limL f) (by omega) (by omega)
      rw [show (e - (j : Int) - limL f).toNat = k by omega] at this
      rw [hA]
      unfold NV
      rw [sgv_f, this]
      exact Int.mul_lt_mul_of_pos_right (by omega) tk
    · intro nb eb db hb hlt
      have := sv_at svT (limL f) (by omega) (by omega)
      rw [show (e - (j : Int) - limL f).toNat = k by omega] at this
      have e3 : NV f false E R = (D + 1) * 10 ^ k := this
      rw [e3]
      exact hbetw nb eb db hb hlt
  · rw [if_neg hH]
    right
    refine ⟨rfl, fun nb eb db hb => ?_⟩
    refine Int.not_lt.1 fun hlt => ?_
    have h1 := hbetw nb eb db hb hlt
    have hE : P < (nt (D + 1)).length := by
      refine Nat.not_le.1 fun q => hH ?_
      unfold finTE
      rw [if_neg (by omega)]
      omega
    have hD : 10 ^ P ≤ D + 1 := by
      rw [← vq]
      have := canon_low _ cq (by omega)
      have := pow_mono P ((nt (D + 1)).length - 1) (by omega)
      omega
    obtain ⟨b0, k2, b1, b2, b3, b4⟩ := nvF_bd f eb db hb
    rw [hPP] at b3
    have hkH : k = (limH f - limL f).toNat := by omega
    have q1 : vl db * 10 ^ k2 < 10 ^ P * 10 ^ k2 := Int.mul_lt_mul_of_pos_right b3 (ten_pos k2)
    have q2 : (10 : Int) ^ P * 10 ^ k2 ≤ 10 ^ P * 10 ^ k := Int.mul_le_mul_of_nonneg_left (pow_mono k2 k (by omega)) (Int.le_of_lt (ten_pos P))
    have q3 : 10 ^ P * 10 ^ k ≤ (D + 1) * 10 ^ k := Int.mul_le_mul_of_nonneg_right hD (Int.le_of_lt tk)
    cases nb with
    | true =>
      have := nvF_neg f false eb db
      rw [show (!false) = true from rfl] at this
      omega
    | false => omega
set_option maxHeartbeats 1000000 in
theorem up_neg (f : Int) (hf : f = 64 ∨ f = 128) (e : Int) (d : List Int) (h : Fi f e d) (hz : d ≠ [0]) : UpF f true e d (nuR f 1 true e (tx d)) := by
  obtain ⟨P2, P34, hP, hLH, -, -⟩ := lims3 f hf
  rw [nu_fin f hf true e d h]
  obtain ⟨cd, ld, e1, e2⟩ := h
  unfold nxX
  rw [if_neg hz, if_pos rfl]
  have lo := canon_lo d cd hz
  have hi := (vl_bd d cd.1).2
  have v1 := vl_pos d cd hz
  have hd0 := cd.2.1
  have hj : nxJ (limP f).toNat d.length e (limL f) = min ((limP f).toNat - d.length) (e - limL f).toNat := rfl
  unfold nxNeg
  dsimp only
  generalize nxJ (limP f).toNat d.length e (limL f) = j at *
  generalize hPP : (limP f).toNat = P at *
  obtain ⟨k, hk⟩ : ∃ k : Nat, (e - (j : Int) - limL f) = k := ⟨(e - (j : Int) - limL f).toNat, by omega⟩
  have hA : NV f true e d = -(vl d * 10 ^ j * 10 ^ k) := by
    unfold NV
    rw [show sgv true (vl d) = -vl d from rfl, Int.neg_mul, Int.mul_assoc, ← Int.pow_add]
    rw [show (e - limL f).toNat = j + k by omega]
  have hu : vl d * 10 ^ j < 10 ^ P := by
    have q : vl d * 10 ^ j < 10 ^ d.length * 10 ^ j := Int.mul_lt_mul_of_pos_right hi (ten_pos j)
    rw [← Int.pow_add] at q
    have := pow_mono (d.length + j) P (by omega)
    omega
  have hnrm : 10 ^ (P - 1) ≤ vl d * 10 ^ j ∨ k = 0 := by
    by_cases q : j = P - d.length
    · left
      have q1 : 10 ^ (d.length - 1) * 10 ^ j ≤ vl d * 10 ^ j := Int.mul_le_mul_of_nonneg_right lo (Int.le_of_lt (ten_pos j))
      rw [← Int.pow_add, show d.length - 1 + j = P - 1 by omega] at q1
      exact q1
    · right; omega
  have hp0 : 0 < vl d * 10 ^ j := Int.mul_pos (by omega) (ten_pos j)
  generalize vl d * 10 ^ j = D at *
  have tk := ten_pos k
  have hDk : 0 < D * 10 ^ k := Int.mul_pos hp0 tk
  -- it is enough to tell the size of what is next, and that nothing less is nearer
  have key : ∀ (E : Int) (R : List Int), Fi f E R → NV f false E R < D * 10 ^ k → (∀ eb db, Fi f eb db → NV f false eb db < D * 10 ^ k → NV f false eb db ≤ NV f false E R) →
      UpF f true e d (true, (1, E, tx R, 0)) := fun E R hF hlt hb => by
    have hR0 := (nvF_bd f E R hF).1
    have hn : NV f true E R = -NV f false E R := nvF_neg f false E R
    refine .inl ⟨true, E, R, rfl, hF, by rw [hA, hn]; omega, fun nb eb db hB hl => ?_⟩
    have b0 := (nvF_bd f eb db hB).1
    rw [hn]
    rw [hA] at hl
    cases nb with
    | false => omega
    | true =>
      have hn2 : NV f true eb db = -NV f false eb db := nvF_neg f false eb db
      rw [hn2] at hl ⊢
      have := hb eb db hB (by omega)
      omega
  obtain ⟨cq, vq⟩ := nt_spec (D - 1) (by omega) (Int.lt_of_lt_of_le (show D - 1 < 10 ^ P by omega) (pow_mono _ _ (by omega)))
  have lq : (nt (D - 1)).length ≤ P := canon_le _ cq P (by omega) (by rw [vq]; omega)
  by_cases hc : (nt (D - 1)).length < P ∧ limL f < e - (j : Int)
  · rw [if_pos hc]
    obtain ⟨k', rfl⟩ : ∃ k', k = k' + 1 := ⟨k - 1, by omega⟩
    have hlt : D - 1 < 10 ^ (P - 1) := by
      have q1 := (vl_bd _ cq.1).2
      rw [vq] at q1
      have := pow_mono (nt (D - 1)).length (P - 1) (by omega)
      omega
    have hD : D = 10 ^ (P - 1) := by rcases hnrm with q | q <;> omega
    obtain ⟨P', hP'⟩ : ∃ P', P = P' + 1 := ⟨P - 1, by omega⟩
    obtain ⟨n1, n2⟩ := nines_is P'
    rw [← hP'] at n1 n2
    have hNV : NV f false (e - (j : Int) - 1) (List.replicate P 9) = (10 ^ P - 1) * 10 ^ k' := by
      unfold NV
      rw [sgv_f, n2, show (e - (j : Int) - 1 - limL f).toNat = k' by omega]
    refine key (e - (j : Int) - 1) (List.replicate P 9) ⟨n1, by rw [hPP]; simp, by omega, by omega⟩ ?_ ?_
    · rw [hNV, hD]
      have : (10 : Int) ^ (P - 1) * 10 ^ (k' + 1) = 10 ^ P * 10 ^ k' := by rw [← Int.pow_add, ← Int.pow_add, show P - 1 + (k' + 1) = P + k' by omega]
      rw [this]
      exact Int.mul_lt_mul_of_pos_right (by omega) (ten_pos k')
    · intro eb db hB hl
      obtain ⟨-, k2, b1, b2, b3, -⟩ := nvF_bd f eb db hB
      rw [hPP] at b3
      rw [hNV, b1]
      rw [b1, hD] at hl
      exact lat_dn2 P k' k2 (vl db) (by omega) b2 b3 hl
  · rw [if_neg hc]
    have hnrm2 : 10 ^ (P - 1) < D ∨ k = 0 := by
      by_cases q : k = 0
      · exact .inr q
      · left
        have hl2 : ¬ (nt (D - 1)).length < P := fun c => hc ⟨c, by omega⟩
        have := canon_low _ cq (by omega)
        have := pow_mono (P - 1) ((nt (D - 1)).length - 1) (by omega)
        omega
    have hNV : NV f false (e - (j : Int)) (nt (D - 1)) = (D - 1) * 10 ^ k := by
      unfold NV
      rw [sgv_f, vq, show (e - (j : Int) - limL f).toNat = k by omega]
    refine key (e - (j : Int)) (nt (D - 1)) ⟨cq, by rw [hPP]; exact lq, by omega, by omega⟩ ?_ ?_
    · rw [hNV]
      exact Int.mul_lt_mul_of_pos_right (by omega) tk
    · intro eb db hB hl
      obtain ⟨-, k2, b1, b2, b3, -⟩ := nvF_bd f eb db hB
      rw [hPP] at b3
      rw [hNV, b1]
      rw [b1] at hl
      exact lat_dn1 P k k2 D (vl db) (by omega) b2 b3 hnrm2 hl
theorem up_any (f : Int) (hf : f = 64 ∨ f = 128) (n : Bool) (e : Int) (d : List Int) (h : Fi f e d) : UpF f n e d (nuR f 1 n e (tx d)) := by
  by_cases hz : d = [0]
  · subst hz
    obtain ⟨P2, P34, hP, hLH, -, -⟩ := lims3 f hf
    have hA : NV f n e [0] = 0 := by
      unfold NV
      rw [show vl [0] = 0 from rfl, sgv_0, Int.zero_mul]
    rw [nu_fin f hf n e [0] h]
    have hx : nxX f n e [0] = (false, 1, limL f, tx [1]) := by unfold nxX; rw [if_pos rfl]
    rw [hx]
    have hu : NV f false (limL f) [1] = 1 := by
      unfold NV
      rw [show limL f - limL f = 0 by omega]
      rfl
    refine .inl ⟨false, limL f, [1], rfl, ⟨canon_one 1 (by decide) (by decide), by simp; omega, Int.le_refl _, hLH⟩, by rw [hA, hu]; decide, fun nb eb db hB hl => ?_⟩
    rw [hu]
    rw [hA] at hl
    omega
  · cases n with
    | false => exact up_pos f hf e d h hz
    | true => exact up_neg f hf e d h hz
/-- What the next one downward is, by value. -/
def DnF (f : Int) (n : Bool) (e : Int) (d : List Int) (r : R5o) : Prop :=
  (∃ n' e' d', r = (n', (1, e', tx d', 0)) ∧ Fi f e' d' ∧ NV f n' e' d' < NV f n e d ∧ ∀ nb eb db, Fi f eb db → NV f nb eb db < NV f n e d → NV f nb eb db ≤ NV f n' e' d')
  ∨ (r = (true, (2, 0, { data := #[] }, 0)) ∧ ∀ nb eb db, Fi f eb db → NV f n e d ≤ NV f nb eb db)
theorem tg_1 (n : Bool) : tg 1 n = !n := if_pos (.inl rfl)
theorem tg_2 (n : Bool) : tg 2 n = !n := if_pos (.inr rfl)
theorem dn_any (f : Int) (hf : f = 64 ∨ f = 128) (n : Bool) (e : Int) (d : List Int) (h : Fi f e d) : DnF f n e d (ndR f 1 n e (tx d)) := by
  unfold ndR
  rw [tg_1]
  have hm := nvF_neg f n e d
  rcases up_any f hf (!n) e d h with ⟨n', e', d', hr, hF, h1, h2⟩ | ⟨hr, h2⟩
  · rw [hr]
    have hm2 := nvF_neg f n' e' d'
    refine .inl ⟨!n', e', d', by rw [tg_1], hF, by omega, fun nb eb db hB hl => ?_⟩
    have hm3 := nvF_neg f nb eb db
    have := h2 (!nb) eb db hB (by omega)
    omega
  · rw [hr]
    refine .inr ⟨by rw [tg_2]; rfl, fun nb eb db hB => ?_⟩
    have hm3 := nvF_neg f nb eb db
    have := h2 (!nb) eb db hB
    omega
theorem cp_iA (f : Int) (na : Bool) (ea : Int) (sa : ByteArray) (nb : Bool) (eb : Int) (sb : ByteArray) (hA : numB f 2 na ea sa = true) (hB : numB f 1 nb eb sb = true) : cpR f 2 na ea sa 1 nb eb sb = if na then -1 else 1 := by
  have hn : nouB 2 sa = false := rfl
  unfold cpR
  rw [hA, hB, Bool.and_self, if_pos rfl, if_neg (by decide), hn, Bool.false_and, if_neg (by decide)]
  have e1 := cu_infb eb sb ea sa
  have e2 := cu_infa ea sa eb sb
  unfold cmpR
  cases na <;> cases nb <;> simp [e1, e2]
theorem inf_num (f : Int) (hf : f = 64 ∨ f = 128) (n : Bool) : numB f 2 n 0 { data := #[] } = true := by
  have hp0 : limP f ≠ 0 := by rcases hf with rfl | rfl <;> decide
  unfold numB
  rw [if_neg hp0, if_neg (by decide), if_pos rfl, ByteArray.toList_eq]
  rfl
theorem nines_fi (f : Int) (hf : f = 64 ∨ f = 128) : Fi f (limH f) (List.replicate (limP f).toNat 9) ∧ ∀ nb eb db, Fi f eb db → NV f nb eb db ≤ NV f false (limH f) (List.replicate (limP f).toNat 9) := by
  obtain ⟨P2, P34, hP, hLH, -, -⟩ := lims3 f hf
  obtain ⟨P', hP'⟩ : ∃ P', (limP f).toNat = P' + 1 := ⟨(limP f).toNat - 1, by omega⟩
  obtain ⟨n1, n2⟩ := nines_is P'
  rw [← hP'] at n1 n2
  refine ⟨⟨n1, by simp, hLH, Int.le_refl _⟩, fun nb eb db hB => ?_⟩
  obtain ⟨b0, k2, b1, b2, b3, b4⟩ := nvF_bd f eb db hB
  have hN : NV f false (limH f) (List.replicate (limP f).toNat 9) = (10 ^ (limP f).toNat - 1) * 10 ^ (limH f - limL f).toNat := by
    unfold NV
    rw [sgv_f, n2]
  have q1 : vl db * 10 ^ k2 ≤ (10 ^ (limP f).toNat - 1) * 10 ^ k2 := Int.mul_le_mul_of_nonneg_right (by omega) (Int.le_of_lt (ten_pos k2))
  have q2 : ((10 : Int) ^ (limP f).toNat - 1) * 10 ^ k2 ≤ (10 ^ (limP f).toNat - 1) * 10 ^ (limH f - limL f).toNat := Int.mul_le_mul_of_nonneg_left (pow_mono _ _ b4) (by have := ten_pos (limP f).toNat; omega)
  rw [hN]
  cases nb with
  | false => omega
  | true =>
    have := nvF_neg f false eb db
    rw [show (!false) = true from rfl] at this
    omega
theorem nu_inf (f : Int) (hf : f = 64 ∨ f = 128) : nuR f 2 true 0 { data := #[] } = (true, (1, limH f, tx (List.replicate (limP f).toNat 9), 0)) := by
  have hA := inf_num f hf true
  unfold nuR ofR
  rw [nu_right, hA, if_pos rfl, if_neg (by unfold spB; simp)]
  unfold nuX
  rw [if_pos rfl, if_pos rfl]
theorem nd_inf (f : Int) (hf : f = 64 ∨ f = 128) : ndR f 2 false 0 { data := #[] } = (false, (1, limH f, tx (List.replicate (limP f).toNat 9), 0)) := by
  unfold ndR
  rw [tg_2, show (!false) = true from rfl, nu_inf f hf]
  rfl
/-- ALL THAT FnNext WANTS of a finite number. -/
theorem next_all (f : Int) (n : Bool) (e : Int) (s : ByteArray) (hA : numB f 1 n e s = true) :
    ∃ (uk : Int) (un : Bool) (ue : Int) (us : ByteArray) (dk : Int) (dn : Bool) (de : Int) (ds : ByteArray) (bk : Int) (bn : Bool) (be : Int) (bs : ByteArray) (bf : Int) (fk : Int) (fn : Bool) (fe : Int) (fs : ByteArray) (ff : Int),
      nuR f 1 n e s = (un, (uk, ue, us, 0)) ∧ ndR f 1 n e s = (dn, (dk, de, ds, 0)) ∧ uk ≠ 0 ∧ numB f uk un ue us = true ∧ numB f dk dn de ds = true
      ∧ cpR f uk un ue us 1 n e s = 1 ∧ cpR f dk dn de ds 1 n e s = -1
      ∧ (∀ nb eb sb, numB f 1 nb eb sb = true → 0 < cpR f 1 nb eb sb 1 n e s → ¬ cpR f 1 nb eb sb uk un ue us < 0)
      ∧ ndR f uk un ue us = (bn, (bk, be, bs, bf)) ∧ nuR f dk dn de ds = (fn, (fk, fe, fs, ff))
      ∧ numB f bk bn be bs = true ∧ numB f fk fn fe fs = true
      ∧ cpR f bk bn be bs 1 n e s = 0 ∧ cpR f fk fn fe fs 1 n e s = 0 := by
  obtain ⟨hf, hs, hF⟩ := fi_of f n e s hA
  generalize dl s = d at *
  subst hs
  have cI0 : ∀ x : Int, cI x x = 0 := cI_same
  obtain ⟨nF, nM⟩ := nines_fi f hf
  -- upward and back
  obtain ⟨uk, un, ue, us, hu, u0, uN, uC, uB, bk, bn, be, bs, bf, hb, bN, bC⟩ : ∃ (uk : Int) (un : Bool) (ue : Int) (us : ByteArray), nuR f 1 n e (tx d) = (un, (uk, ue, us, 0)) ∧ uk ≠ 0 ∧ numB f uk un ue us = true ∧ cpR f uk un ue us 1 n e (tx d) = 1
      ∧ (∀ nb eb sb, numB f 1 nb eb sb = true → 0 < cpR f 1 nb eb sb 1 n e (tx d) → ¬ cpR f 1 nb eb sb uk un ue us < 0)
      ∧ ∃ (bk : Int) (bn : Bool) (be : Int) (bs : ByteArray) (bf : Int), ndR f uk un ue us = (bn, (bk, be, bs, bf)) ∧ numB f bk bn be bs = true ∧ cpR f bk bn be bs 1 n e (tx d) = 0 := by
    rcases up_any f hf n e d hF with ⟨n', e', d', hr, hF', h1, h2⟩ | ⟨hr, h2⟩
    · refine ⟨1, n', e', tx d', hr, by decide, fi_num f hf n' e' d' hF', ?_, ?_, ?_⟩
      · rw [cp_nv f hf n' e' d' n e d hF' hF]; exact cI_gt _ _ h1
      · intro nb eb sb hB hlt
        obtain ⟨-, hsb, hFb⟩ := fi_of f nb eb sb hB
        generalize dl sb = db at *
        subst hsb
        rw [cp_nv f hf nb eb db n e d hFb hF] at hlt
        rw [cp_nv f hf nb eb db n' e' d' hFb hF']
        have hg : NV f n e d < NV f nb eb db := by
          refine Int.not_le.1 fun q => ?_
          have := cI_le _ _ q
          omega
        have := cI_ge _ _ (h2 nb eb db hFb hg)
        omega
      · rcases dn_any f hf n' e' d' hF' with ⟨n'', e'', d'', hr2, hF2, g1, g2⟩ | ⟨hr2, g2⟩
        · refine ⟨1, n'', e'', tx d'', 0, hr2, fi_num f hf n'' e'' d'' hF2, ?_⟩
          rw [cp_nv f hf n'' e'' d'' n e d hF2 hF]
          have a1 := g2 n e d hF h1
          have a2 : NV f n'' e'' d'' ≤ NV f n e d := Int.not_lt.1 fun q => by
            have := h2 n'' e'' d'' hF2 q
            omega
          rw [show NV f n'' e'' d'' = NV f n e d by omega]
          exact cI0 _
        · have := g2 n e d hF
          omega
    · have hI := inf_num f hf false
      refine ⟨2, false, 0, { data := #[] }, hr, by decide, hI, cp_iA f false 0 { data := #[] } n e (tx d) hI hA, ?_, ?_⟩
      · intro nb eb sb hB hlt
        obtain ⟨-, hsb, hFb⟩ := fi_of f nb eb sb hB
        generalize dl sb = db at *
        subst hsb
        rw [cp_nv f hf nb eb db n e d hFb hF] at hlt
        have := cI_le _ _ (h2 nb eb db hFb)
        omega
      · refine ⟨1, false, limH f, tx (List.replicate (limP f).toNat 9), 0, nd_inf f hf, fi_num f hf _ _ _ nF, ?_⟩
        rw [cp_nv f hf _ _ _ n e d nF hF]
        have a1 := h2 false _ _ nF
        have a2 := nM n e d hF
        rw [show NV f false (limH f) (List.replicate (limP f).toNat 9) = NV f n e d by omega]
        exact cI0 _
  -- downward and forth
  obtain ⟨dk, dn, de, ds, hd, dN, dC, fk, fn, fe, fs, ff, hff, fN, fC⟩ : ∃ (dk : Int) (dn : Bool) (de : Int) (ds : ByteArray), ndR f 1 n e (tx d) = (dn, (dk, de, ds, 0)) ∧ numB f dk dn de ds = true ∧ cpR f dk dn de ds 1 n e (tx d) = -1
      ∧ ∃ (fk : Int) (fn : Bool) (fe : Int) (fs : ByteArray) (ff : Int), nuR f dk dn de ds = (fn, (fk, fe, fs, ff)) ∧ numB f fk fn fe fs = true ∧ cpR f fk fn fe fs 1 n e (tx d) = 0 := by
    rcases dn_any f hf n e d hF with ⟨n', e', d', hr, hF', h1, h2⟩ | ⟨hr, h2⟩
    · refine ⟨1, n', e', tx d', hr, fi_num f hf n' e' d' hF', ?_, ?_⟩
      · rw [cp_nv f hf n' e' d' n e d hF' hF]; exact cI_lt _ _ h1
      · rcases up_any f hf n' e' d' hF' with ⟨n'', e'', d'', hr2, hF2, g1, g2⟩ | ⟨hr2, g2⟩
        · refine ⟨1, n'', e'', tx d'', 0, hr2, fi_num f hf n'' e'' d'' hF2, ?_⟩
          rw [cp_nv f hf n'' e'' d'' n e d hF2 hF]
          have a1 := g2 n e d hF h1
          have a2 : NV f n e d ≤ NV f n'' e'' d'' := Int.not_lt.1 fun q => by
            have := h2 n'' e'' d'' hF2 q
            omega
          rw [show NV f n'' e'' d'' = NV f n e d by omega]
          exact cI0 _
        · have := g2 n e d hF
          omega
    · have hI := inf_num f hf true
      refine ⟨2, true, 0, { data := #[] }, hr, hI, cp_iA f true 0 { data := #[] } n e (tx d) hI hA, ?_⟩
      refine ⟨1, true, limH f, tx (List.replicate (limP f).toNat 9), 0, nu_inf f hf, fi_num f hf _ _ _ nF, ?_⟩
      rw [cp_nv f hf _ _ _ n e d nF hF]
      have a1 := h2 true _ _ nF
      have a2 := nM (!n) e d hF
      have e1 := nvF_neg f false (limH f) (List.replicate (limP f).toNat 9)
      have e2 := nvF_neg f n e d
      rw [show (!false) = true from rfl] at e1
      rw [show NV f true (limH f) (List.replicate (limP f).toNat 9) = NV f n e d by omega]
      exact cI0 _
  exact ⟨uk, un, ue, us, dk, dn, de, ds, bk, bn, be, bs, bf, fk, fn, fe, fs, ff, hu, hd, u0, uN, dN, uC, dC, uB, hb, hff, bN, fN, bC, fC⟩
end Go.Proofs.YtnkoeidolmiheaaGreatDoor
