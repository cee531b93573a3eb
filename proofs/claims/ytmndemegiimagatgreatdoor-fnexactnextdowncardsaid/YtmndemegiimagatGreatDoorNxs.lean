/-
  NextUp of the model, walked.
-/
import Derived.Test.YtmndemegiimagatGreatDoorNxi
namespace Go.Proofs.YtmndemegiimagatGreatDoor
open Go.RowKit
set_option linter.unusedVariables false
set_option maxRecDepth 100000
theorem nx_end {P : Program} {ops : Array Oper} {Q : Exit → Act → World → Prop} {K : Act → World → Prop} {a : Act} {w : World} (hK : ∀ a w, Code.wp P Code.ret Q a w → K a w) (h : Q .ret a w) : Hid (wpList P ops (Exit.then K Q) [] a w) := hK _ _ (wp_ret h)
/-- The boxes: the number, the result, the row. -/
def NB (w : World) (k : Int) (n : Bool) (e : Int) (s : ByteArray) (W : World) : Prop := At4r W w.heap.size (.int .i64 k) (.bool n) (.int .i64 e) (.string s) ∧ At5 W (w.heap.size + 1) (.int .i64 0) (.bool false) (.int .i64 0) (.string { data := #[] }) (.int .i64 0) ∧ NRw W (w.heap.size + 2) 1 (fun _ => k) (fun _ => n) (fun _ => e) (fun _ => s) ∧ Below w.heap.size w W ∧ w.heap.size + 2 < W.heap.size
theorem NB.next {w W W' : World} {k : Int} {n : Bool} {e : Int} {s : ByteArray} (h : NB w k n e s W) (hb : Below W.heap.size W W') : NB w k n e s W' := ⟨h.1.next hb, h.2.1.below hb h.2.1.lt, h.2.2.1.below hb h.2.2.2.2, h.2.2.2.1.trans (hb.mono h.2.2.2.1.size), Nat.lt_of_lt_of_le h.2.2.2.2 hb.size⟩
theorem nb_new (w : World) (k : Int) (n : Bool) (e : Int) (s : ByteArray) : NB w k n e s (((w.alloc (.cells #[.int .i64 k, .bool n, .int .i64 e, .string s] 25)).alloc (.cells #[.int .i64 0, .bool false, .int .i64 0, .string { data := #[] }, .int .i64 0] 27)).alloc (.cells #[.int .i64 k, .bool n, .int .i64 e, .string s] 25)) := by
  have h1 := at4r_new w (.int .i64 k) (.bool n) (.int .i64 e) (.string s)
  have z1 := new_size w (.cells #[.int .i64 k, .bool n, .int .i64 e, .string s] 25)
  have b1 : Below w.heap.size w (w.alloc (.cells #[.int .i64 k, .bool n, .int .i64 e, .string s] 25)) := (Below.refl _ _).alloc (Nat.le_refl _) _
  generalize w.alloc (.cells #[.int .i64 k, .bool n, .int .i64 e, .string s] 25) = w1 at *
  have h2 := at5_new w1 (.int .i64 0) (.bool false) (.int .i64 0) (.string { data := #[] }) (.int .i64 0)
  have z2 := new_size w1 (.cells #[.int .i64 0, .bool false, .int .i64 0, .string { data := #[] }, .int .i64 0] 27)
  have b2 : Below w1.heap.size w1 (w1.alloc (.cells #[.int .i64 0, .bool false, .int .i64 0, .string { data := #[] }, .int .i64 0] 27)) := (Below.refl _ _).alloc (Nat.le_refl _) _
  generalize w1.alloc (.cells #[.int .i64 0, .bool false, .int .i64 0, .string { data := #[] }, .int .i64 0] 27) = w2 at *
  have h3 := at4r_new w2 (.int .i64 k) (.bool n) (.int .i64 e) (.string s)
  have z3 := new_size w2 (.cells #[.int .i64 k, .bool n, .int .i64 e, .string s] 25)
  have b3 : Below w2.heap.size w2 (w2.alloc (.cells #[.int .i64 k, .bool n, .int .i64 e, .string s] 25)) := (Below.refl _ _).alloc (Nat.le_refl _) _
  rw [z2, z1] at h3
  rw [z1] at h2
  have b23 := b2.trans (b3.mono b2.size)
  refine ⟨(h1.next b2).next b3, h2.below b3 h2.lt, ?_, b1.trans (b23.mono b1.size), by omega⟩
  obtain ⟨q0, q1, q2, q3, -⟩ := h3.cells
  intro i hi
  obtain rfl : i = 0 := by omega
  exact ⟨q0, q1, q2, q3⟩
theorem hid_of {p : Prop} (h : p) : Hid p := h
theorem ok1_is (b : Bool) [Decidable (∀ i : Nat, i < 1 → b = true)] : decide (∀ i : Nat, i < 1 → b = true) = b := by
  by_cases h : b = true
  · rw [show decide (∀ i : Nat, i < 1 → b = true) = true from decide_eq_true fun _ _ => h, h]
  · have h' : b = false := by simpa using h
    rw [show decide (∀ i : Nat, i < 1 → b = true) = false from decide_eq_false fun c => h (c 0 (by decide)), h']
theorem tx_19 : ({ data := #[49] } : ByteArray) = tx [1] := by apply ByteArray.ext; rw [tx_data]; rfl
set_option maxRecDepth 100000 in
set_option maxHeartbeats 2000000 in
theorem sNx_no (f : Int) (k : Int) (n : Bool) (e : Int) (s : ByteArray) (w : World) (hsa : s.size ≤ 4611686018427387904) (hr : numB f k n e s = false) :
    Calls Tryz.prog 6 #[.int .i64 f, numV k n e s] w fun x w' => x = .returned (rsV 0 false 0 { data := #[] } 0) ∧ Below w.heap.size w w' := by
  have hb00 : ∀ w, (Instr.build 27 #[]).run Tryz.prog w = .ok (rsV 0 false 0 { data := #[] } 0) w := fun w => run_build w _ _ _ (by kernel_rfl)
  have HN : Hid (NB w k n e s (((w.alloc (.cells #[.int .i64 k, .bool n, .int .i64 e, .string s] 25)).alloc (.cells #[.int .i64 0, .bool false, .int .i64 0, .string { data := #[] }, .int .i64 0] 27)).alloc (.cells #[.int .i64 k, .bool n, .int .i64 e, .string s] 25))) := nb_new w k n e s
  have HOk : Hid (Calls Tryz.prog 12 #[.int .i64 f, .int .i64 1, .slice (some ⟨w.heap.size + 2, 0, none⟩) 1 1] (((w.alloc (.cells #[.int .i64 k, .bool n, .int .i64 e, .string s] 25)).alloc (.cells #[.int .i64 0, .bool false, .int .i64 0, .string { data := #[] }, .int .i64 0] 27)).alloc (.cells #[.int .i64 k, .bool n, .int .i64 e, .string s] 25)) fun x w' => x = .returned (.bool (numB f k n e s)) ∧ Below (((w.alloc (.cells #[.int .i64 k, .bool n, .int .i64 e, .string s] 25)).alloc (.cells #[.int .i64 0, .bool false, .int .i64 0, .string { data := #[] }, .int .i64 0] 27)).alloc (.cells #[.int .i64 k, .bool n, .int .i64 e, .string s] 25)).heap.size (((w.alloc (.cells #[.int .i64 k, .bool n, .int .i64 e, .string s] 25)).alloc (.cells #[.int .i64 0, .bool false, .int .i64 0, .string { data := #[] }, .int .i64 0] 27)).alloc (.cells #[.int .i64 k, .bool n, .int .i64 e, .string s] 25)) w') := by
    have := l13Ok_any f 1 1 (w.heap.size + 2) (fun _ => k) (fun _ => n) (fun _ => e) (fun _ => s) (((w.alloc (.cells #[.int .i64 k, .bool n, .int .i64 e, .string s] 25)).alloc (.cells #[.int .i64 0, .bool false, .int .i64 0, .string { data := #[] }, .int .i64 0] 27)).alloc (.cells #[.int .i64 k, .bool n, .int .i64 e, .string s] 25)) (by decide) HN.out.2.2.2.2 HN.out.2.2.1 (fun _ _ => hsa)
    rw [show (decide (1 ≤ (1 : Int) ∧ (1 : Int) ≤ 5)) = true from rfl, Bool.true_and] at this
    rw [ok1_is] at this
    exact this
  have HSp : Hid (∀ X, NRw X (w.heap.size + 2) 1 (fun _ => k) (fun _ => n) (fun _ => e) (fun _ => s) → w.heap.size + 2 < X.heap.size → Calls Tryz.prog 13 #[.slice (some ⟨w.heap.size + 2, 0, none⟩) 1 1] X fun x w' => x = .returned (.tuple #[rsV 3 false 0 { data := #[] } (spF 1 (fun _ => k)), .bool (spB 1 (fun _ => k))]) ∧ Below X.heap.size X w') := fun X h1 h2 => l13Special_any 1 (w.heap.size + 2) _ _ _ _ X (by decide) h2 h1
  generalize spF 1 (fun _ => k) = SF at *
  rw [hr] at HOk
  clear HSp hsa hr
  go_enter Tryz.func6, Tryz.ntmps6
  go_wp2_with fail
  refine (HOk.out).mono ?_
  rintro x w1 ⟨rfl, hb1⟩
  have HN1 : Hid (NB w k n e s w1) := HN.out.next hb1
  clear hb1 HN
  try clear c0 c1 c2 c3 c4
  obtain ⟨c0, c1, c2, c3, c4⟩ := HN1.out.1.cells
  go_wp2_with (refine wpList_store_row rfl 27 (.tmp 4) (.tmp 20) rfl (w.heap.size + 1) #[.int .i64 0, .bool false, .int .i64 0, .string { data := #[] }, .int .i64 0] rfl rfl _ _ HN1.out.2.1 (by kernel_rfl) rfl (one5 _ _ _ _ _) (Hid.out ?_))
  refine nx_end (by assumption) ?_
  try simp only [Exit.then]
  have hP := (HN1.out.2.1.row (.int .i64 0) (.bool false) (.int .i64 0) (.string { data := #[] }) (.int .i64 0)).cells
  refine bodyPost_ret (results_res rfl _ _ rfl hP.1 hP.2.1 hP.2.2.1 hP.2.2.2.1 hP.2.2.2.2.1) rfl ?_
  exact ⟨rfl, bel_row HN1.out.2.2.2.1 (by omega) _⟩
set_option maxRecDepth 100000 in
set_option maxHeartbeats 2000000 in
theorem sNx_nan (f : Int) (k : Int) (n : Bool) (e : Int) (s : ByteArray) (w : World) (hsa : s.size ≤ 4611686018427387904) (hr : numB f k n e s = true) (hs : spB 1 (fun _ => k) = true) :
    Calls Tryz.prog 6 #[.int .i64 f, numV k n e s] w fun x w' => x = .returned (rsV 3 false 0 { data := #[] } (spF 1 (fun _ => k))) ∧ Below w.heap.size w w' := by
  have hb00 : ∀ w, (Instr.build 27 #[]).run Tryz.prog w = .ok (rsV 0 false 0 { data := #[] } 0) w := fun w => run_build w _ _ _ (by kernel_rfl)
  have HN : Hid (NB w k n e s (((w.alloc (.cells #[.int .i64 k, .bool n, .int .i64 e, .string s] 25)).alloc (.cells #[.int .i64 0, .bool false, .int .i64 0, .string { data := #[] }, .int .i64 0] 27)).alloc (.cells #[.int .i64 k, .bool n, .int .i64 e, .string s] 25))) := nb_new w k n e s
  have HOk : Hid (Calls Tryz.prog 12 #[.int .i64 f, .int .i64 1, .slice (some ⟨w.heap.size + 2, 0, none⟩) 1 1] (((w.alloc (.cells #[.int .i64 k, .bool n, .int .i64 e, .string s] 25)).alloc (.cells #[.int .i64 0, .bool false, .int .i64 0, .string { data := #[] }, .int .i64 0] 27)).alloc (.cells #[.int .i64 k, .bool n, .int .i64 e, .string s] 25)) fun x w' => x = .returned (.bool (numB f k n e s)) ∧ Below (((w.alloc (.cells #[.int .i64 k, .bool n, .int .i64 e, .string s] 25)).alloc (.cells #[.int .i64 0, .bool false, .int .i64 0, .string { data := #[] }, .int .i64 0] 27)).alloc (.cells #[.int .i64 k, .bool n, .int .i64 e, .string s] 25)).heap.size (((w.alloc (.cells #[.int .i64 k, .bool n, .int .i64 e, .string s] 25)).alloc (.cells #[.int .i64 0, .bool false, .int .i64 0, .string { data := #[] }, .int .i64 0] 27)).alloc (.cells #[.int .i64 k, .bool n, .int .i64 e, .string s] 25)) w') := by
    have := l13Ok_any f 1 1 (w.heap.size + 2) (fun _ => k) (fun _ => n) (fun _ => e) (fun _ => s) (((w.alloc (.cells #[.int .i64 k, .bool n, .int .i64 e, .string s] 25)).alloc (.cells #[.int .i64 0, .bool false, .int .i64 0, .string { data := #[] }, .int .i64 0] 27)).alloc (.cells #[.int .i64 k, .bool n, .int .i64 e, .string s] 25)) (by decide) HN.out.2.2.2.2 HN.out.2.2.1 (fun _ _ => hsa)
    rw [show (decide (1 ≤ (1 : Int) ∧ (1 : Int) ≤ 5)) = true from rfl, Bool.true_and] at this
    rw [ok1_is] at this
    exact this
  have HSp : Hid (∀ X, NRw X (w.heap.size + 2) 1 (fun _ => k) (fun _ => n) (fun _ => e) (fun _ => s) → w.heap.size + 2 < X.heap.size → Calls Tryz.prog 13 #[.slice (some ⟨w.heap.size + 2, 0, none⟩) 1 1] X fun x w' => x = .returned (.tuple #[rsV 3 false 0 { data := #[] } (spF 1 (fun _ => k)), .bool (spB 1 (fun _ => k))]) ∧ Below X.heap.size X w') := fun X h1 h2 => l13Special_any 1 (w.heap.size + 2) _ _ _ _ X (by decide) h2 h1
  generalize spF 1 (fun _ => k) = SF at *
  rw [hr] at HOk
  rw [hs] at HSp
  clear hsa hr hs
  go_enter Tryz.func6, Tryz.ntmps6
  go_wp2_with fail
  refine (HOk.out).mono ?_
  rintro x w1 ⟨rfl, hb1⟩
  have HN1 : Hid (NB w k n e s w1) := HN.out.next hb1
  clear hb1 HN
  try clear c0 c1 c2 c3 c4
  obtain ⟨c0, c1, c2, c3, c4⟩ := HN1.out.1.cells
  go_wp2_with fail
  refine (HSp.out _ HN1.out.2.2.1 HN1.out.2.2.2.2).mono ?_
  rintro x w2 ⟨rfl, hb2⟩
  have HN2 : Hid (NB w k n e s w2) := HN1.out.next hb2
  clear hb2 HN1
  try clear c0 c1 c2 c3 c4
  obtain ⟨c0, c1, c2, c3, c4⟩ := HN2.out.1.cells
  have HN3 : Hid (NB w k n e s (w2.alloc (.cells #[.int .i64 3, .bool false, .int .i64 0, .string { data := #[] }, .int .i64 SF] 27))) := HN2.out.next ((Below.refl _ _).alloc (Nat.le_refl _) _)
  go_wp2_with (refine wpList_store_row rfl 27 (.tmp 4) (.tmp 27) rfl (w.heap.size + 1) #[.int .i64 3, .bool false, .int .i64 0, .string { data := #[] }, .int .i64 SF] rfl rfl _ _ HN3.out.2.1 (by kernel_rfl) rfl (one5 _ _ _ _ _) (Hid.out ?_))
  refine nx_end (by assumption) ?_
  try simp only [Exit.then]
  have hP := (HN3.out.2.1.row (.int .i64 3) (.bool false) (.int .i64 0) (.string { data := #[] }) (.int .i64 SF)).cells
  refine bodyPost_ret (results_res rfl _ _ rfl hP.1 hP.2.1 hP.2.2.1 hP.2.2.2.1 hP.2.2.2.2.1) rfl ?_
  exact ⟨rfl, bel_row HN3.out.2.2.2.1 (by omega) _⟩
set_option maxRecDepth 100000 in
set_option maxHeartbeats 2000000 in
theorem sNx_inft (f : Int) (k : Int) (n : Bool) (e : Int) (s : ByteArray) (w : World) (hsa : s.size ≤ 4611686018427387904) (hr : numB f k n e s = true) (hs : spB 1 (fun _ => k) = false) (hf : f = 64 ∨ f = 128) (hk : k = 2) (hn : n = true) :
    Calls Tryz.prog 6 #[.int .i64 f, numV k n e s] w fun x w' => x = .returned (rsV 1 true (limH f) (tx (List.replicate (limP f).toNat 9)) 0) ∧ Below w.heap.size w w' := by
  have hb00 : ∀ w, (Instr.build 27 #[]).run Tryz.prog w = .ok (rsV 0 false 0 { data := #[] } 0) w := fun w => run_build w _ _ _ (by kernel_rfl)
  have HN : Hid (NB w k n e s (((w.alloc (.cells #[.int .i64 k, .bool n, .int .i64 e, .string s] 25)).alloc (.cells #[.int .i64 0, .bool false, .int .i64 0, .string { data := #[] }, .int .i64 0] 27)).alloc (.cells #[.int .i64 k, .bool n, .int .i64 e, .string s] 25))) := nb_new w k n e s
  have HOk : Hid (Calls Tryz.prog 12 #[.int .i64 f, .int .i64 1, .slice (some ⟨w.heap.size + 2, 0, none⟩) 1 1] (((w.alloc (.cells #[.int .i64 k, .bool n, .int .i64 e, .string s] 25)).alloc (.cells #[.int .i64 0, .bool false, .int .i64 0, .string { data := #[] }, .int .i64 0] 27)).alloc (.cells #[.int .i64 k, .bool n, .int .i64 e, .string s] 25)) fun x w' => x = .returned (.bool (numB f k n e s)) ∧ Below (((w.alloc (.cells #[.int .i64 k, .bool n, .int .i64 e, .string s] 25)).alloc (.cells #[.int .i64 0, .bool false, .int .i64 0, .string { data := #[] }, .int .i64 0] 27)).alloc (.cells #[.int .i64 k, .bool n, .int .i64 e, .string s] 25)).heap.size (((w.alloc (.cells #[.int .i64 k, .bool n, .int .i64 e, .string s] 25)).alloc (.cells #[.int .i64 0, .bool false, .int .i64 0, .string { data := #[] }, .int .i64 0] 27)).alloc (.cells #[.int .i64 k, .bool n, .int .i64 e, .string s] 25)) w') := by
    have := l13Ok_any f 1 1 (w.heap.size + 2) (fun _ => k) (fun _ => n) (fun _ => e) (fun _ => s) (((w.alloc (.cells #[.int .i64 k, .bool n, .int .i64 e, .string s] 25)).alloc (.cells #[.int .i64 0, .bool false, .int .i64 0, .string { data := #[] }, .int .i64 0] 27)).alloc (.cells #[.int .i64 k, .bool n, .int .i64 e, .string s] 25)) (by decide) HN.out.2.2.2.2 HN.out.2.2.1 (fun _ _ => hsa)
    rw [show (decide (1 ≤ (1 : Int) ∧ (1 : Int) ≤ 5)) = true from rfl, Bool.true_and] at this
    rw [ok1_is] at this
    exact this
  have HSp : Hid (∀ X, NRw X (w.heap.size + 2) 1 (fun _ => k) (fun _ => n) (fun _ => e) (fun _ => s) → w.heap.size + 2 < X.heap.size → Calls Tryz.prog 13 #[.slice (some ⟨w.heap.size + 2, 0, none⟩) 1 1] X fun x w' => x = .returned (.tuple #[rsV 3 false 0 { data := #[] } (spF 1 (fun _ => k)), .bool (spB 1 (fun _ => k))]) ∧ Below X.heap.size X w') := fun X h1 h2 => l13Special_any 1 (w.heap.size + 2) _ _ _ _ X (by decide) h2 h1
  generalize spF 1 (fun _ => k) = SF at *
  obtain ⟨p2, p34, pP, lh, l1, l2⟩ := lims3 f hf
  have HLm : Hid (∀ X, Calls Tryz.prog 14 #[.int .i64 f] X fun r w' => r = .returned (.tuple #[.int .i64 ((limP f).toNat : Int), .int .i64 (limL f), .int .i64 (limH f)]) ∧ w' = X) := fun X => by
    have := Limits_any f X
    rw [pP] at this
    exact this
  generalize (limP f).toNat = P at *
  generalize limL f = low at *
  generalize limH f = high at *
  have HX9 : Hid (∀ i, ∃ S m', S = tx (List.replicate i 9) ∧ S.size = m' ∧ m' = i ∧ S ++ { data := #[57] } = tx (List.replicate (i + 1) 9)) := fun i => ⟨_, _, rfl, by rw [tx_size, List.length_replicate], rfl, by rw [tx_nine, ← List.replicate_succ']⟩
  obtain ⟨NN, hNN⟩ : ∃ NN, tx (List.replicate P 9) = NN := ⟨_, rfl⟩
  have HNN : Hid (tx (List.replicate P 9) = NN) := hNN
  rw [hr] at HOk
  rw [hs] at HSp
  rw [hNN]
  subst hk hn
  clear hsa hr hs hf pP l1 l2 lh hNN
  go_enter Tryz.func6, Tryz.ntmps6
  go_wp2_with fail
  refine (HOk.out).mono ?_
  rintro x w1 ⟨rfl, hb1⟩
  have HN1 : Hid (NB w 2 true e s w1) := HN.out.next hb1
  clear hb1 HN
  try clear c0 c1 c2 c3 c4
  obtain ⟨c0, c1, c2, c3, c4⟩ := HN1.out.1.cells
  go_wp2_with fail
  refine (HSp.out _ HN1.out.2.2.1 HN1.out.2.2.2.2).mono ?_
  rintro x w2 ⟨rfl, hb2⟩
  have HN2 : Hid (NB w 2 true e s w2) := HN1.out.next hb2
  clear hb2 HN1
  try clear c0 c1 c2 c3 c4
  obtain ⟨c0, c1, c2, c3, c4⟩ := HN2.out.1.cells
  have HN3 : Hid (NB w 2 true e s (w2.alloc (.cells #[.int .i64 3, .bool false, .int .i64 0, .string { data := #[] }, .int .i64 SF] 27))) := HN2.out.next ((Below.refl _ _).alloc (Nat.le_refl _) _)
  clear HN2 c0 c1 c2 c3 c4
  obtain ⟨c0, c1, c2, c3, c4⟩ := HN3.out.1.cells
  go_wp2_with fail
  refine (HLm.out _).mono ?_
  rintro x w3 ⟨rfl, rfl⟩
  generalize w2.alloc (.cells #[.int .i64 3, .bool false, .int .i64 0, .string { data := #[] }, .int .i64 SF] 27) = w3 at *
  clear HLm
  go_wp2
  go_loopg [11] P (fun gk s wx => ∃ i : Nat, i ≤ P ∧ gk = P - i ∧ s = .string (tx (List.replicate i 9)) ∧ wx = w3)
  case atStart => exact ⟨0, Nat.zero_le _, rfl, rfl, rfl⟩
  case round =>
    obtain ⟨i, hi, hgk, rfl, hwr⟩ := hrel
    have HG : Hid (gk = P - i) := hgk
    clear hgk
    obtain ⟨S, m', hS, y1, hm', y3⟩ := HX9.out i
    rw [← hS]
    have HSS : Hid (S = tx (List.replicate i 9)) := hS
    clear hS
    by_cases hlt : i < P
    · have HW : Hid (wr = w3) := hwr
      have z4 : (m' : Int) < (P : Int) := by omega
      have z5 : (m' : Int) ≤ 8388608 := by omega
      clear hm' hwr
      go_wp2
      go_roundg (P - (i + 1))
      case measure => have := HG.out; omega
      case rel => exact ⟨i + 1, by omega, rfl, rfl, HW.out⟩
    · have ei : i = P := by omega
      subst ei
      have hwr' := hwr.symm
      subst hwr'
      have z4 : ¬ (m' : Int) < (i : Int) := by omega
      have HSN : Hid (S = NN) := by show _ = _; rw [HSS.out]; exact HNN.out
      clear hm' hlt y3 HG HSS HX9 HNN
      go_wp2_with fail
      refine (l12Finite_any true S high _).mono ?_
      rintro x w4 ⟨rfl, hb4⟩
      have HN4 : Hid (NB w 2 true e s w4) := HN3.out.next hb4
      clear hb4 HN3
      have hbl := build_res0 1 true high S w4
      go_wp2_with (refine wpList_store_row rfl 27 (.tmp 4) (.tmp 48) rfl (w.heap.size + 1) #[.int .i64 1, .bool true, .int .i64 (high), .string S, .int .i64 0] rfl rfl _ _ HN4.out.2.1 (by kernel_rfl) rfl (one5 _ _ _ _ _) (Hid.out ?_))
      refine nx_end (by assumption) ?_
      try simp only [Exit.then]
      have hP := (HN4.out.2.1.row (.int .i64 1) (.bool true) (.int .i64 (high)) (.string S) (.int .i64 0)).cells
      refine bodyPost_ret (results_res rfl _ _ rfl hP.1 hP.2.1 hP.2.2.1 hP.2.2.2.1 hP.2.2.2.2.1) rfl ?_
      exact ⟨by rw [HSN.out], bel_row HN4.out.2.2.2.1 (by omega) _⟩
set_option maxRecDepth 100000 in
set_option maxHeartbeats 2000000 in
theorem sNx_inff (f : Int) (k : Int) (n : Bool) (e : Int) (s : ByteArray) (w : World) (hsa : s.size ≤ 4611686018427387904) (hr : numB f k n e s = true) (hs : spB 1 (fun _ => k) = false) (hf : f = 64 ∨ f = 128) (hk : k = 2) (hn : n = false) :
    Calls Tryz.prog 6 #[.int .i64 f, numV k n e s] w fun x w' => x = .returned (rsV 2 false e s 0) ∧ Below w.heap.size w w' := by
  have hb00 : ∀ w, (Instr.build 27 #[]).run Tryz.prog w = .ok (rsV 0 false 0 { data := #[] } 0) w := fun w => run_build w _ _ _ (by kernel_rfl)
  have HN : Hid (NB w k n e s (((w.alloc (.cells #[.int .i64 k, .bool n, .int .i64 e, .string s] 25)).alloc (.cells #[.int .i64 0, .bool false, .int .i64 0, .string { data := #[] }, .int .i64 0] 27)).alloc (.cells #[.int .i64 k, .bool n, .int .i64 e, .string s] 25))) := nb_new w k n e s
  have HOk : Hid (Calls Tryz.prog 12 #[.int .i64 f, .int .i64 1, .slice (some ⟨w.heap.size + 2, 0, none⟩) 1 1] (((w.alloc (.cells #[.int .i64 k, .bool n, .int .i64 e, .string s] 25)).alloc (.cells #[.int .i64 0, .bool false, .int .i64 0, .string { data := #[] }, .int .i64 0] 27)).alloc (.cells #[.int .i64 k, .bool n, .int .i64 e, .string s] 25)) fun x w' => x = .returned (.bool (numB f k n e s)) ∧ Below (((w.alloc (.cells #[.int .i64 k, .bool n, .int .i64 e, .string s] 25)).alloc (.cells #[.int .i64 0, .bool false, .int .i64 0, .string { data := #[] }, .int .i64 0] 27)).alloc (.cells #[.int .i64 k, .bool n, .int .i64 e, .string s] 25)).heap.size (((w.alloc (.cells #[.int .i64 k, .bool n, .int .i64 e, .string s] 25)).alloc (.cells #[.int .i64 0, .bool false, .int .i64 0, .string { data := #[] }, .int .i64 0] 27)).alloc (.cells #[.int .i64 k, .bool n, .int .i64 e, .string s] 25)) w') := by
    have := l13Ok_any f 1 1 (w.heap.size + 2) (fun _ => k) (fun _ => n) (fun _ => e) (fun _ => s) (((w.alloc (.cells #[.int .i64 k, .bool n, .int .i64 e, .string s] 25)).alloc (.cells #[.int .i64 0, .bool false, .int .i64 0, .string { data := #[] }, .int .i64 0] 27)).alloc (.cells #[.int .i64 k, .bool n, .int .i64 e, .string s] 25)) (by decide) HN.out.2.2.2.2 HN.out.2.2.1 (fun _ _ => hsa)
    rw [show (decide (1 ≤ (1 : Int) ∧ (1 : Int) ≤ 5)) = true from rfl, Bool.true_and] at this
    rw [ok1_is] at this
    exact this
  have HSp : Hid (∀ X, NRw X (w.heap.size + 2) 1 (fun _ => k) (fun _ => n) (fun _ => e) (fun _ => s) → w.heap.size + 2 < X.heap.size → Calls Tryz.prog 13 #[.slice (some ⟨w.heap.size + 2, 0, none⟩) 1 1] X fun x w' => x = .returned (.tuple #[rsV 3 false 0 { data := #[] } (spF 1 (fun _ => k)), .bool (spB 1 (fun _ => k))]) ∧ Below X.heap.size X w') := fun X h1 h2 => l13Special_any 1 (w.heap.size + 2) _ _ _ _ X (by decide) h2 h1
  generalize spF 1 (fun _ => k) = SF at *
  obtain ⟨p2, p34, pP, lh, l1, l2⟩ := lims3 f hf
  have HLm : Hid (∀ X, Calls Tryz.prog 14 #[.int .i64 f] X fun r w' => r = .returned (.tuple #[.int .i64 ((limP f).toNat : Int), .int .i64 (limL f), .int .i64 (limH f)]) ∧ w' = X) := fun X => by
    have := Limits_any f X
    rw [pP] at this
    exact this
  generalize (limP f).toNat = P at *
  generalize limL f = low at *
  generalize limH f = high at *
  have HX9 : Hid (∀ i, ∃ S m', S = tx (List.replicate i 9) ∧ S.size = m' ∧ m' = i ∧ S ++ { data := #[57] } = tx (List.replicate (i + 1) 9)) := fun i => ⟨_, _, rfl, by rw [tx_size, List.length_replicate], rfl, by rw [tx_nine, ← List.replicate_succ']⟩
  obtain ⟨NN, hNN⟩ : ∃ NN, tx (List.replicate P 9) = NN := ⟨_, rfl⟩
  have HNN : Hid (tx (List.replicate P 9) = NN) := hNN
  rw [hr] at HOk
  rw [hs] at HSp
  subst hk hn
  clear hsa hr hs hf pP l1 l2 lh hNN
  have hbl := build_res0 2 false e s
  go_enter Tryz.func6, Tryz.ntmps6
  go_wp2_with fail
  refine (HOk.out).mono ?_
  rintro x w1 ⟨rfl, hb1⟩
  have HN1 : Hid (NB w 2 false e s w1) := HN.out.next hb1
  clear hb1 HN
  try clear c0 c1 c2 c3 c4
  obtain ⟨c0, c1, c2, c3, c4⟩ := HN1.out.1.cells
  go_wp2_with fail
  refine (HSp.out _ HN1.out.2.2.1 HN1.out.2.2.2.2).mono ?_
  rintro x w2 ⟨rfl, hb2⟩
  have HN2 : Hid (NB w 2 false e s w2) := HN1.out.next hb2
  clear hb2 HN1
  try clear c0 c1 c2 c3 c4
  obtain ⟨c0, c1, c2, c3, c4⟩ := HN2.out.1.cells
  have HN3 : Hid (NB w 2 false e s (w2.alloc (.cells #[.int .i64 3, .bool false, .int .i64 0, .string { data := #[] }, .int .i64 SF] 27))) := HN2.out.next ((Below.refl _ _).alloc (Nat.le_refl _) _)
  clear HN2 c0 c1 c2 c3 c4
  obtain ⟨c0, c1, c2, c3, c4⟩ := HN3.out.1.cells
  go_wp2_with fail
  refine (HLm.out _).mono ?_
  rintro x w3 ⟨rfl, rfl⟩
  generalize w2.alloc (.cells #[.int .i64 3, .bool false, .int .i64 0, .string { data := #[] }, .int .i64 SF] 27) = w3 at *
  clear HLm
  go_wp2
  go_loopg [11] P (fun gk s wx => ∃ i : Nat, i ≤ P ∧ gk = P - i ∧ s = .string (tx (List.replicate i 9)) ∧ wx = w3)
  case atStart => exact ⟨0, Nat.zero_le _, rfl, rfl, rfl⟩
  case round =>
    obtain ⟨i, hi, hgk, rfl, hwr⟩ := hrel
    have HG : Hid (gk = P - i) := hgk
    clear hgk
    obtain ⟨S, m', hS, y1, hm', y3⟩ := HX9.out i
    rw [← hS]
    have HSS : Hid (S = tx (List.replicate i 9)) := hS
    clear hS
    by_cases hlt : i < P
    · have HW : Hid (wr = w3) := hwr
      have z4 : (m' : Int) < (P : Int) := by omega
      have z5 : (m' : Int) ≤ 8388608 := by omega
      clear hm' hwr
      go_wp2
      go_roundg (P - (i + 1))
      case measure => have := HG.out; omega
      case rel => exact ⟨i + 1, by omega, rfl, rfl, HW.out⟩
    · have ei : i = P := by omega
      subst ei
      have hwr' := hwr.symm
      subst hwr'
      have z4 : ¬ (m' : Int) < (i : Int) := by omega
      have HSN : Hid (S = NN) := by show _ = _; rw [HSS.out]; exact HNN.out
      clear hm' hlt y3 HG HSS HX9 HNN
      go_wp2_with (refine wpList_store_row rfl 27 (.tmp 4) (.tmp 50) rfl (w.heap.size + 1) #[.int .i64 2, .bool false, .int .i64 e, .string s, .int .i64 0] rfl rfl _ _ HN3.out.2.1 (by kernel_rfl) rfl (one5 _ _ _ _ _) (Hid.out ?_))
      refine nx_end (by assumption) ?_
      try simp only [Exit.then]
      have hP := (HN3.out.2.1.row (.int .i64 2) (.bool false) (.int .i64 e) (.string s) (.int .i64 0)).cells
      refine bodyPost_ret (results_res rfl _ _ rfl hP.1 hP.2.1 hP.2.2.1 hP.2.2.2.1 hP.2.2.2.2.1) rfl ?_
      exact ⟨rfl, bel_row HN3.out.2.2.2.1 (by omega) _⟩
set_option maxRecDepth 100000 in
set_option maxHeartbeats 2000000 in
theorem sNx_0 (f : Int) (k : Int) (n : Bool) (e : Int) (s : ByteArray) (w : World) (hsa : s.size ≤ 4611686018427387904) (hr : numB f k n e s = true) (hs : spB 1 (fun _ => k) = false) (hf : f = 64 ∨ f = 128) (hk : k = 1) (hz : (s.toList == [48]) = true) :
    Calls Tryz.prog 6 #[.int .i64 f, numV k n e s] w fun x w' => x = .returned (rsV 1 false (limL f) (tx [1]) 0) ∧ Below w.heap.size w w' := by
  have hb00 : ∀ w, (Instr.build 27 #[]).run Tryz.prog w = .ok (rsV 0 false 0 { data := #[] } 0) w := fun w => run_build w _ _ _ (by kernel_rfl)
  have HN : Hid (NB w k n e s (((w.alloc (.cells #[.int .i64 k, .bool n, .int .i64 e, .string s] 25)).alloc (.cells #[.int .i64 0, .bool false, .int .i64 0, .string { data := #[] }, .int .i64 0] 27)).alloc (.cells #[.int .i64 k, .bool n, .int .i64 e, .string s] 25))) := nb_new w k n e s
  have HOk : Hid (Calls Tryz.prog 12 #[.int .i64 f, .int .i64 1, .slice (some ⟨w.heap.size + 2, 0, none⟩) 1 1] (((w.alloc (.cells #[.int .i64 k, .bool n, .int .i64 e, .string s] 25)).alloc (.cells #[.int .i64 0, .bool false, .int .i64 0, .string { data := #[] }, .int .i64 0] 27)).alloc (.cells #[.int .i64 k, .bool n, .int .i64 e, .string s] 25)) fun x w' => x = .returned (.bool (numB f k n e s)) ∧ Below (((w.alloc (.cells #[.int .i64 k, .bool n, .int .i64 e, .string s] 25)).alloc (.cells #[.int .i64 0, .bool false, .int .i64 0, .string { data := #[] }, .int .i64 0] 27)).alloc (.cells #[.int .i64 k, .bool n, .int .i64 e, .string s] 25)).heap.size (((w.alloc (.cells #[.int .i64 k, .bool n, .int .i64 e, .string s] 25)).alloc (.cells #[.int .i64 0, .bool false, .int .i64 0, .string { data := #[] }, .int .i64 0] 27)).alloc (.cells #[.int .i64 k, .bool n, .int .i64 e, .string s] 25)) w') := by
    have := l13Ok_any f 1 1 (w.heap.size + 2) (fun _ => k) (fun _ => n) (fun _ => e) (fun _ => s) (((w.alloc (.cells #[.int .i64 k, .bool n, .int .i64 e, .string s] 25)).alloc (.cells #[.int .i64 0, .bool false, .int .i64 0, .string { data := #[] }, .int .i64 0] 27)).alloc (.cells #[.int .i64 k, .bool n, .int .i64 e, .string s] 25)) (by decide) HN.out.2.2.2.2 HN.out.2.2.1 (fun _ _ => hsa)
    rw [show (decide (1 ≤ (1 : Int) ∧ (1 : Int) ≤ 5)) = true from rfl, Bool.true_and] at this
    rw [ok1_is] at this
    exact this
  have HSp : Hid (∀ X, NRw X (w.heap.size + 2) 1 (fun _ => k) (fun _ => n) (fun _ => e) (fun _ => s) → w.heap.size + 2 < X.heap.size → Calls Tryz.prog 13 #[.slice (some ⟨w.heap.size + 2, 0, none⟩) 1 1] X fun x w' => x = .returned (.tuple #[rsV 3 false 0 { data := #[] } (spF 1 (fun _ => k)), .bool (spB 1 (fun _ => k))]) ∧ Below X.heap.size X w') := fun X h1 h2 => l13Special_any 1 (w.heap.size + 2) _ _ _ _ X (by decide) h2 h1
  generalize spF 1 (fun _ => k) = SF at *
  obtain ⟨p2, p34, pP, lh, l1, l2⟩ := lims3 f hf
  have HLm : Hid (∀ X, Calls Tryz.prog 14 #[.int .i64 f] X fun r w' => r = .returned (.tuple #[.int .i64 ((limP f).toNat : Int), .int .i64 (limL f), .int .i64 (limH f)]) ∧ w' = X) := fun X => by
    have := Limits_any f X
    rw [pP] at this
    exact this
  generalize (limP f).toNat = P at *
  generalize limL f = low at *
  generalize limH f = high at *
  have HX9 : Hid (∀ i, ∃ S m', S = tx (List.replicate i 9) ∧ S.size = m' ∧ m' = i ∧ S ++ { data := #[57] } = tx (List.replicate (i + 1) 9)) := fun i => ⟨_, _, rfl, by rw [tx_size, List.length_replicate], rfl, by rw [tx_nine, ← List.replicate_succ']⟩
  obtain ⟨NN, hNN⟩ : ∃ NN, tx (List.replicate P 9) = NN := ⟨_, rfl⟩
  have HNN : Hid (tx (List.replicate P 9) = NN) := hNN
  rw [hr] at HOk
  rw [hs] at HSp
  rw [← tx_19]
  subst hk
  clear hsa hr hs hf pP l1 l2 lh hNN
  go_enter Tryz.func6, Tryz.ntmps6
  go_wp2_with fail
  refine (HOk.out).mono ?_
  rintro x w1 ⟨rfl, hb1⟩
  have HN1 : Hid (NB w 1 n e s w1) := HN.out.next hb1
  clear hb1 HN
  try clear c0 c1 c2 c3 c4
  obtain ⟨c0, c1, c2, c3, c4⟩ := HN1.out.1.cells
  go_wp2_with fail
  refine (HSp.out _ HN1.out.2.2.1 HN1.out.2.2.2.2).mono ?_
  rintro x w2 ⟨rfl, hb2⟩
  have HN2 : Hid (NB w 1 n e s w2) := HN1.out.next hb2
  clear hb2 HN1
  try clear c0 c1 c2 c3 c4
  obtain ⟨c0, c1, c2, c3, c4⟩ := HN2.out.1.cells
  have HN3 : Hid (NB w 1 n e s (w2.alloc (.cells #[.int .i64 3, .bool false, .int .i64 0, .string { data := #[] }, .int .i64 SF] 27))) := HN2.out.next ((Below.refl _ _).alloc (Nat.le_refl _) _)
  clear HN2 c0 c1 c2 c3 c4
  obtain ⟨c0, c1, c2, c3, c4⟩ := HN3.out.1.cells
  go_wp2_with fail
  refine (HLm.out _).mono ?_
  rintro x w3 ⟨rfl, rfl⟩
  generalize w2.alloc (.cells #[.int .i64 3, .bool false, .int .i64 0, .string { data := #[] }, .int .i64 SF] 27) = w3 at *
  clear HLm
  go_wp2
  go_loopg [11] P (fun gk s wx => ∃ i : Nat, i ≤ P ∧ gk = P - i ∧ s = .string (tx (List.replicate i 9)) ∧ wx = w3)
  case atStart => exact ⟨0, Nat.zero_le _, rfl, rfl, rfl⟩
  case round =>
    obtain ⟨i, hi, hgk, rfl, hwr⟩ := hrel
    have HG : Hid (gk = P - i) := hgk
    clear hgk
    obtain ⟨S, m', hS, y1, hm', y3⟩ := HX9.out i
    rw [← hS]
    have HSS : Hid (S = tx (List.replicate i 9)) := hS
    clear hS
    by_cases hlt : i < P
    · have HW : Hid (wr = w3) := hwr
      have z4 : (m' : Int) < (P : Int) := by omega
      have z5 : (m' : Int) ≤ 8388608 := by omega
      clear hm' hwr
      go_wp2
      go_roundg (P - (i + 1))
      case measure => have := HG.out; omega
      case rel => exact ⟨i + 1, by omega, rfl, rfl, HW.out⟩
    · have ei : i = P := by omega
      subst ei
      have hwr' := hwr.symm
      subst hwr'
      have z4 : ¬ (m' : Int) < (i : Int) := by omega
      have HSN : Hid (S = NN) := by show _ = _; rw [HSS.out]; exact HNN.out
      clear hm' hlt y3 HG HSS HX9 HNN
      go_wp2_with fail
      refine (l12Finite_any false { data := #[49] } low _).mono ?_
      rintro x w4 ⟨rfl, hb4⟩
      have HN4 : Hid (NB w 1 n e s w4) := HN3.out.next hb4
      clear hb4 HN3
      have hbl := build_res0 1 false low { data := #[49] } w4
      go_wp2_with (refine wpList_store_row rfl 27 (.tmp 4) (.tmp 56) rfl (w.heap.size + 1) #[.int .i64 1, .bool false, .int .i64 low, .string { data := #[49] }, .int .i64 0] rfl rfl _ _ HN4.out.2.1 (by kernel_rfl) rfl (one5 _ _ _ _ _) (Hid.out ?_))
      refine nx_end (by assumption) ?_
      try simp only [Exit.then]
      have hP := (HN4.out.2.1.row (.int .i64 1) (.bool false) (.int .i64 low) (.string { data := #[49] }) (.int .i64 0)).cells
      refine bodyPost_ret (results_res rfl _ _ rfl hP.1 hP.2.1 hP.2.2.1 hP.2.2.2.1 hP.2.2.2.2.1) rfl ?_
      exact ⟨rfl, bel_row HN4.out.2.2.2.1 (by omega) _⟩
set_option maxRecDepth 100000 in
set_option maxHeartbeats 2000000 in
theorem sNx_pos1 (f : Int) (n : Bool) (e : Int) (d : List Int) (w : World) (hr : numB f 1 n e (tx d) = true) (hf : f = 64 ∨ f = 128) (hc : Canon d) (hz : d ≠ [0]) (hl : d.length ≤ (limP f).toNat) (he : limL f ≤ e) (hh : e ≤ limH f) (hn : n = false) (hfit : (nt (vl d * 10 ^ nxJ (limP f).toNat d.length e (limL f) + 1)).length ≤ (limP f).toNat) :
    Calls Tryz.prog 6 #[.int .i64 f, numV 1 n e (tx d)] w fun x w' => x = .returned (rsV 1 false (e - nxJ (limP f).toNat d.length e (limL f)) (tx (nt (vl d * 10 ^ nxJ (limP f).toNat d.length e (limL f) + 1))) 0) ∧ Below w.heap.size w w' := by
  have hsa : (tx d).size ≤ 4611686018427387904 := by
    rw [tx_size]
    obtain ⟨p2, p34, -⟩ := lims3 f hf
    omega
  have hsz := tx_size d
  have hz0 : ((tx d).toList == [48]) = false := tx_is0 d hc.1 hz
  have hs : spB 1 (fun _ => (1 : Int)) = false := decide_eq_false (by rintro ⟨i, -, h⟩; rcases h with h | h <;> cases h)
  have hb00 : ∀ w, (Instr.build 27 #[]).run Tryz.prog w = .ok (rsV 0 false 0 { data := #[] } 0) w := fun w => run_build w _ _ _ (by kernel_rfl)
  have HN : Hid (NB w 1 n e (tx d) (((w.alloc (.cells #[.int .i64 1, .bool n, .int .i64 e, .string (tx d)] 25)).alloc (.cells #[.int .i64 0, .bool false, .int .i64 0, .string { data := #[] }, .int .i64 0] 27)).alloc (.cells #[.int .i64 1, .bool n, .int .i64 e, .string (tx d)] 25))) := nb_new w 1 n e (tx d)
  have HOk : Hid (Calls Tryz.prog 12 #[.int .i64 f, .int .i64 1, .slice (some ⟨w.heap.size + 2, 0, none⟩) 1 1] (((w.alloc (.cells #[.int .i64 1, .bool n, .int .i64 e, .string (tx d)] 25)).alloc (.cells #[.int .i64 0, .bool false, .int .i64 0, .string { data := #[] }, .int .i64 0] 27)).alloc (.cells #[.int .i64 1, .bool n, .int .i64 e, .string (tx d)] 25)) fun x w' => x = .returned (.bool (numB f 1 n e (tx d))) ∧ Below (((w.alloc (.cells #[.int .i64 1, .bool n, .int .i64 e, .string (tx d)] 25)).alloc (.cells #[.int .i64 0, .bool false, .int .i64 0, .string { data := #[] }, .int .i64 0] 27)).alloc (.cells #[.int .i64 1, .bool n, .int .i64 e, .string (tx d)] 25)).heap.size (((w.alloc (.cells #[.int .i64 1, .bool n, .int .i64 e, .string (tx d)] 25)).alloc (.cells #[.int .i64 0, .bool false, .int .i64 0, .string { data := #[] }, .int .i64 0] 27)).alloc (.cells #[.int .i64 1, .bool n, .int .i64 e, .string (tx d)] 25)) w') := by
    have := l13Ok_any f 1 1 (w.heap.size + 2) (fun _ => 1) (fun _ => n) (fun _ => e) (fun _ => tx d) (((w.alloc (.cells #[.int .i64 1, .bool n, .int .i64 e, .string (tx d)] 25)).alloc (.cells #[.int .i64 0, .bool false, .int .i64 0, .string { data := #[] }, .int .i64 0] 27)).alloc (.cells #[.int .i64 1, .bool n, .int .i64 e, .string (tx d)] 25)) (by decide) HN.out.2.2.2.2 HN.out.2.2.1 (fun _ _ => hsa)
    rw [show (decide (1 ≤ (1 : Int) ∧ (1 : Int) ≤ 5)) = true from rfl, Bool.true_and] at this
    rw [ok1_is] at this
    exact this
  have HSp : Hid (∀ X, NRw X (w.heap.size + 2) 1 (fun _ => 1) (fun _ => n) (fun _ => e) (fun _ => tx d) → w.heap.size + 2 < X.heap.size → Calls Tryz.prog 13 #[.slice (some ⟨w.heap.size + 2, 0, none⟩) 1 1] X fun x w' => x = .returned (.tuple #[rsV 3 false 0 { data := #[] } (spF 1 (fun _ => 1)), .bool (spB 1 (fun _ => 1))]) ∧ Below X.heap.size X w') := fun X h1 h2 => l13Special_any 1 (w.heap.size + 2) _ _ _ _ X (by decide) h2 h1
  generalize spF 1 (fun _ => 1) = SF at *
  obtain ⟨p2, p34, pP, lh, l1, l2⟩ := lims3 f hf
  have HLm : Hid (∀ X, Calls Tryz.prog 14 #[.int .i64 f] X fun r w' => r = .returned (.tuple #[.int .i64 ((limP f).toNat : Int), .int .i64 (limL f), .int .i64 (limH f)]) ∧ w' = X) := fun X => by
    have := Limits_any f X
    rw [pP] at this
    exact this
  generalize (limP f).toNat = P at *
  generalize limL f = low at *
  generalize limH f = high at *
  have HX9 : Hid (∀ i, ∃ S m', S = tx (List.replicate i 9) ∧ S.size = m' ∧ m' = i ∧ S ++ { data := #[57] } = tx (List.replicate (i + 1) 9)) := fun i => ⟨_, _, rfl, by rw [tx_size, List.length_replicate], rfl, by rw [tx_nine, ← List.replicate_succ']⟩
  obtain ⟨NN, hNN⟩ : ∃ NN, tx (List.replicate P 9) = NN := ⟨_, rfl⟩
  have HNN : Hid (tx (List.replicate P 9) = NN) := hNN
  rw [hr] at HOk
  rw [hs] at HSp
  obtain ⟨J, hJ⟩ : ∃ J, nxJ P d.length e low = J := ⟨_, rfl⟩
  have hJ1 : J ≤ P - d.length ∧ (J : Int) ≤ e - low ∧ (J = P - d.length ∨ (J : Int) = e - low) := by rw [← hJ]; unfold nxJ; omega
  have hd1 := hc.2.1
  have cU := canon_noughts d J hc hz
  have vU := vl_noughts d J
  have lU : (d ++ List.replicate J 0).length ≤ 34 := by rw [List.length_append, List.length_replicate]; omega
  have bU := vl_bd d hc.1
  obtain ⟨U0, hU0⟩ : ∃ U, tx (d ++ List.replicate J 0) = U := ⟨_, rfl⟩
  have HU0 : Hid (tx (d ++ List.replicate J 0) = U0) := hU0
  have HAd : Hid (∀ X, Calls Tryz.prog 16 #[.string U0, .string { data := #[49] }] X fun x w' => x = .returned (.string (tx (nt (vl d * 10 ^ J + 1)))) ∧ Below X.heap.size X w') := fun X => by
    rw [← hU0, tx_19]
    refine (l11Add_any _ [1] X cU (canon_one 1 (by decide) (by decide)) (by omega) (by decide)).mono ?_
    rintro x w' ⟨R, rfl, cR, vR, lR, hb⟩
    rw [vU, show vl [1] = 1 from rfl] at vR
    rw [← nt_of R _ cR vR (by have : ([1] : List Int).length = 1 := rfl; omega)]
    exact ⟨rfl, hb⟩
  obtain ⟨D, hD⟩ : ∃ D, nt (vl d * 10 ^ J + 1) = D := ⟨_, rfl⟩
  have sD := tx_size D
  rw [hJ, hD] at hfit
  rw [hJ, hD]
  rw [hD] at HAd
  have wJ1 : IntKind.i64.wrap (e - (J : Int) + 1) = e - (J : Int) + 1 := by rw [IntKind.wrap_i64]; omega
  clear cU vU lU bU hU0 hD
  have HXd : Hid (∀ i, i ≤ J → ∃ S m', S = tx (d ++ List.replicate i 0) ∧ S.size = m' ∧ m' = d.length + i ∧ S ++ { data := #[48] } = tx (d ++ List.replicate (i + 1) 0)) := fun i hi => ⟨_, _, rfl, by rw [tx_size, List.length_append, List.length_replicate], rfl, by rw [tx_more, List.append_assoc, ← List.replicate_succ']⟩
  have HS0 : Hid (tx d = tx (d ++ List.replicate 0 0)) := by show _ = _; simp
  obtain ⟨L, hL⟩ : ∃ L, d.length = L := ⟨_, rfl⟩
  rw [hL] at hsz hJ1 hl hd1 HXd
  clear hsa hr hs hf pP hJ hNN hc hz hL
  have Hfit := hid_of hfit
  clear hfit
  subst hn
  go_enter Tryz.func6, Tryz.ntmps6
  go_wp2_with fail
  refine (HOk.out).mono ?_
  rintro x w1 ⟨rfl, hb1⟩
  have HN1 : Hid (NB w 1 false e (tx d) w1) := HN.out.next hb1
  clear hb1 HN
  try clear c0 c1 c2 c3 c4
  obtain ⟨c0, c1, c2, c3, c4⟩ := HN1.out.1.cells
  go_wp2_with fail
  refine (HSp.out _ HN1.out.2.2.1 HN1.out.2.2.2.2).mono ?_
  rintro x w2 ⟨rfl, hb2⟩
  have HN2 : Hid (NB w 1 false e (tx d) w2) := HN1.out.next hb2
  clear hb2 HN1
  try clear c0 c1 c2 c3 c4
  obtain ⟨c0, c1, c2, c3, c4⟩ := HN2.out.1.cells
  have HN3 : Hid (NB w 1 false e (tx d) (w2.alloc (.cells #[.int .i64 3, .bool false, .int .i64 0, .string { data := #[] }, .int .i64 SF] 27))) := HN2.out.next ((Below.refl _ _).alloc (Nat.le_refl _) _)
  clear HN2 c0 c1 c2 c3 c4
  obtain ⟨c0, c1, c2, c3, c4⟩ := HN3.out.1.cells
  go_wp2_with fail
  refine (HLm.out _).mono ?_
  rintro x w3 ⟨rfl, rfl⟩
  generalize w2.alloc (.cells #[.int .i64 3, .bool false, .int .i64 0, .string { data := #[] }, .int .i64 SF] 27) = w3 at *
  clear HLm
  go_wp2
  go_loopg [11] P (fun gk s wx => ∃ i : Nat, i ≤ P ∧ gk = P - i ∧ s = .string (tx (List.replicate i 9)) ∧ wx = w3)
  case atStart => exact ⟨0, Nat.zero_le _, rfl, rfl, rfl⟩
  case round =>
    obtain ⟨i, hi, hgk, rfl, hwr⟩ := hrel
    have HG : Hid (gk = P - i) := hgk
    clear hgk
    obtain ⟨S, m', hS, y1, hm', y3⟩ := HX9.out i
    rw [← hS]
    have HSS : Hid (S = tx (List.replicate i 9)) := hS
    clear hS
    by_cases hlt : i < P
    · have HW : Hid (wr = w3) := hwr
      have z4 : (m' : Int) < (P : Int) := by omega
      have z5 : (m' : Int) ≤ 8388608 := by omega
      clear hm' hwr
      go_wp2
      go_roundg (P - (i + 1))
      case measure => have := HG.out; omega
      case rel => exact ⟨i + 1, by omega, rfl, rfl, HW.out⟩
    · have ei : i = P := by omega
      subst ei
      have hwr' := hwr.symm
      subst hwr'
      have z4 : ¬ (m' : Int) < (i : Int) := by omega
      have HSN : Hid (S = NN) := by show _ = _; rw [HSS.out]; exact HNN.out
      clear hm' hlt y3 HG HSS HX9 HNN
      go_wp2
      go_loopg [12, 13] J (fun gk t x wx => ∃ i : Nat, i ≤ J ∧ gk = J - i ∧ t = .string (tx (d ++ List.replicate i 0)) ∧ x = .int .i64 (e - (i : Int)) ∧ wx = w3)
      case atStart => exact ⟨0, Nat.zero_le _, rfl, by rw [← HS0.out], by simp, rfl⟩
      case round =>
        obtain ⟨j, hj, hgk, rfl, rfl, hwr⟩ := hrel
        have HG : Hid (gk = J - j) := hgk
        clear hgk
        obtain ⟨T, m2, hT, y1, hm2, y3⟩ := HXd.out j hj
        rw [← hT]
        have HTT : Hid (T = tx (d ++ List.replicate j 0)) := hT
        have wj : IntKind.i64.wrap (e - (j : Int) - 1) = e - (j : Int) - 1 := by rw [IntKind.wrap_i64]; omega
        clear hT
        by_cases hlt : j < J
        · have HW : Hid (wr = w3) := hwr
          have z4 : (m2 : Int) < (i : Int) := by omega
          have z5 : (m2 : Int) ≤ 8388608 := by omega
          have z6 : low < e - (j : Int) := by omega
          clear hm2 hwr
          go_wp2
          go_roundg (J - (j + 1))
          case measure => have := HG.out; omega
          case rel => exact ⟨j + 1, by omega, rfl, rfl, by go_num, HW.out⟩
        · have ej : j = J := by omega
          subst ej
          have hwr' := hwr.symm
          subst hwr'
          have eTU : T = U0 := by rw [HTT.out]; exact HU0.out
          subst eTU
          clear hlt y3 HG HTT HXd HU0
          by_cases z4 : (m2 : Int) < (i : Int)
          · have z6 : ¬ low < e - (j : Int) := by omega
            clear hm2
            have hfit := Hfit.out
            clear Hfit
            go_wp2_with fail
            refine (HAd.out _).mono ?_
            rintro x w5 ⟨rfl, hb5⟩
            have HN5 : Hid (NB w 1 false e (tx d) w5) := HN3.out.next hb5
            clear hb5 HN3 HAd c0 c1 c2 c3 c4
            have y4 : ¬ (i : Int) < (D.length : Int) := by omega
            have y5 : ¬ high < e - (j : Int) := by omega
            go_wp2_with fail
            refine (l12Finite_any false (tx D) (e - (j : Int)) _).mono ?_
            rintro x w6 ⟨rfl, hb6⟩
            have HN6 : Hid (NB w 1 false e (tx d) w6) := HN5.out.next hb6
            clear hb6 HN5
            have hbl := build_res0 1 false (e - (j : Int)) (tx D) w6
            go_wp2_with (refine wpList_store_row rfl 27 (.tmp 4) (.tmp 95) rfl (w.heap.size + 1) #[.int .i64 1, .bool false, .int .i64 (e - (j : Int)), .string (tx D), .int .i64 0] rfl rfl _ _ HN6.out.2.1 (by kernel_rfl) rfl (one5 _ _ _ _ _) (Hid.out ?_))
            refine nx_end (by assumption) ?_
            try simp only [Exit.then]
            have hP := (HN6.out.2.1.row (.int .i64 1) (.bool false) (.int .i64 (e - (j : Int))) (.string (tx D)) (.int .i64 0)).cells
            refine bodyPost_ret (results_res rfl _ _ rfl hP.1 hP.2.1 hP.2.2.1 hP.2.2.2.1 hP.2.2.2.2.1) rfl ?_
            exact ⟨rfl, bel_row HN6.out.2.2.2.1 (by omega) _⟩
          · clear hm2
            have hfit := Hfit.out
            clear Hfit
            go_wp2_with fail
            refine (HAd.out _).mono ?_
            rintro x w5 ⟨rfl, hb5⟩
            have HN5 : Hid (NB w 1 false e (tx d) w5) := HN3.out.next hb5
            clear hb5 HN3 HAd c0 c1 c2 c3 c4
            have y4 : ¬ (i : Int) < (D.length : Int) := by omega
            have y5 : ¬ high < e - (j : Int) := by omega
            go_wp2_with fail
            refine (l12Finite_any false (tx D) (e - (j : Int)) _).mono ?_
            rintro x w6 ⟨rfl, hb6⟩
            have HN6 : Hid (NB w 1 false e (tx d) w6) := HN5.out.next hb6
            clear hb6 HN5
            have hbl := build_res0 1 false (e - (j : Int)) (tx D) w6
            go_wp2_with (refine wpList_store_row rfl 27 (.tmp 4) (.tmp 95) rfl (w.heap.size + 1) #[.int .i64 1, .bool false, .int .i64 (e - (j : Int)), .string (tx D), .int .i64 0] rfl rfl _ _ HN6.out.2.1 (by kernel_rfl) rfl (one5 _ _ _ _ _) (Hid.out ?_))
            refine nx_end (by assumption) ?_
            try simp only [Exit.then]
            have hP := (HN6.out.2.1.row (.int .i64 1) (.bool false) (.int .i64 (e - (j : Int))) (.string (tx D)) (.int .i64 0)).cells
            refine bodyPost_ret (results_res rfl _ _ rfl hP.1 hP.2.1 hP.2.2.1 hP.2.2.2.1 hP.2.2.2.2.1) rfl ?_
            exact ⟨rfl, bel_row HN6.out.2.2.2.1 (by omega) _⟩
set_option maxRecDepth 100000 in
set_option maxHeartbeats 2000000 in
theorem sNx_pos2 (f : Int) (n : Bool) (e : Int) (d : List Int) (w : World) (hr : numB f 1 n e (tx d) = true) (hf : f = 64 ∨ f = 128) (hc : Canon d) (hz : d ≠ [0]) (hl : d.length ≤ (limP f).toNat) (he : limL f ≤ e) (hh : e ≤ limH f) (hn : n = false) (hfit : (limP f).toNat < (nt (vl d * 10 ^ nxJ (limP f).toNat d.length e (limL f) + 1)).length ∧ e - nxJ (limP f).toNat d.length e (limL f) + 1 ≤ limH f) :
    Calls Tryz.prog 6 #[.int .i64 f, numV 1 n e (tx d)] w fun x w' => x = .returned (rsV 1 false (e - nxJ (limP f).toNat d.length e (limL f) + 1) (tx ((nt (vl d * 10 ^ nxJ (limP f).toNat d.length e (limL f) + 1)).take (limP f).toNat)) 0) ∧ Below w.heap.size w w' := by
  have hsa : (tx d).size ≤ 4611686018427387904 := by
    rw [tx_size]
    obtain ⟨p2, p34, -⟩ := lims3 f hf
    omega
  have hsz := tx_size d
  have hz0 : ((tx d).toList == [48]) = false := tx_is0 d hc.1 hz
  have hs : spB 1 (fun _ => (1 : Int)) = false := decide_eq_false (by rintro ⟨i, -, h⟩; rcases h with h | h <;> cases h)
  have hb00 : ∀ w, (Instr.build 27 #[]).run Tryz.prog w = .ok (rsV 0 false 0 { data := #[] } 0) w := fun w => run_build w _ _ _ (by kernel_rfl)
  have HN : Hid (NB w 1 n e (tx d) (((w.alloc (.cells #[.int .i64 1, .bool n, .int .i64 e, .string (tx d)] 25)).alloc (.cells #[.int .i64 0, .bool false, .int .i64 0, .string { data := #[] }, .int .i64 0] 27)).alloc (.cells #[.int .i64 1, .bool n, .int .i64 e, .string (tx d)] 25))) := nb_new w 1 n e (tx d)
  have HOk : Hid (Calls Tryz.prog 12 #[.int .i64 f, .int .i64 1, .slice (some ⟨w.heap.size + 2, 0, none⟩) 1 1] (((w.alloc (.cells #[.int .i64 1, .bool n, .int .i64 e, .string (tx d)] 25)).alloc (.cells #[.int .i64 0, .bool false, .int .i64 0, .string { data := #[] }, .int .i64 0] 27)).alloc (.cells #[.int .i64 1, .bool n, .int .i64 e, .string (tx d)] 25)) fun x w' => x = .returned (.bool (numB f 1 n e (tx d))) ∧ Below (((w.alloc (.cells #[.int .i64 1, .bool n, .int .i64 e, .string (tx d)] 25)).alloc (.cells #[.int .i64 0, .bool false, .int .i64 0, .string { data := #[] }, .int .i64 0] 27)).alloc (.cells #[.int .i64 1, .bool n, .int .i64 e, .string (tx d)] 25)).heap.size (((w.alloc (.cells #[.int .i64 1, .bool n, .int .i64 e, .string (tx d)] 25)).alloc (.cells #[.int .i64 0, .bool false, .int .i64 0, .string { data := #[] }, .int .i64 0] 27)).alloc (.cells #[.int .i64 1, .bool n, .int .i64 e, .string (tx d)] 25)) w') := by
    have := l13Ok_any f 1 1 (w.heap.size + 2) (fun _ => 1) (fun _ => n) (fun _ => e) (fun _ => tx d) (((w.alloc (.cells #[.int .i64 1, .bool n, .int .i64 e, .string (tx d)] 25)).alloc (.cells #[.int .i64 0, .bool false, .int .i64 0, .string { data := #[] }, .int .i64 0] 27)).alloc (.cells #[.int .i64 1, .bool n, .int .i64 e, .string (tx d)] 25)) (by decide) HN.out.2.2.2.2 HN.out.2.2.1 (fun _ _ => hsa)
    rw [show (decide (1 ≤ (1 : Int) ∧ (1 : Int) ≤ 5)) = true from rfl, Bool.true_and] at this
    rw [ok1_is] at this
    exact this
  have HSp : Hid (∀ X, NRw X (w.heap.size + 2) 1 (fun _ => 1) (fun _ => n) (fun _ => e) (fun _ => tx d) → w.heap.size + 2 < X.heap.size → Calls Tryz.prog 13 #[.slice (some ⟨w.heap.size + 2, 0, none⟩) 1 1] X fun x w' => x = .returned (.tuple #[rsV 3 false 0 { data := #[] } (spF 1 (fun _ => 1)), .bool (spB 1 (fun _ => 1))]) ∧ Below X.heap.size X w') := fun X h1 h2 => l13Special_any 1 (w.heap.size + 2) _ _ _ _ X (by decide) h2 h1
  generalize spF 1 (fun _ => 1) = SF at *
  obtain ⟨p2, p34, pP, lh, l1, l2⟩ := lims3 f hf
  have HLm : Hid (∀ X, Calls Tryz.prog 14 #[.int .i64 f] X fun r w' => r = .returned (.tuple #[.int .i64 ((limP f).toNat : Int), .int .i64 (limL f), .int .i64 (limH f)]) ∧ w' = X) := fun X => by
    have := Limits_any f X
    rw [pP] at this
    exact this
  generalize (limP f).toNat = P at *
  generalize limL f = low at *
  generalize limH f = high at *
  have HX9 : Hid (∀ i, ∃ S m', S = tx (List.replicate i 9) ∧ S.size = m' ∧ m' = i ∧ S ++ { data := #[57] } = tx (List.replicate (i + 1) 9)) := fun i => ⟨_, _, rfl, by rw [tx_size, List.length_replicate], rfl, by rw [tx_nine, ← List.replicate_succ']⟩
  obtain ⟨NN, hNN⟩ : ∃ NN, tx (List.replicate P 9) = NN := ⟨_, rfl⟩
  have HNN : Hid (tx (List.replicate P 9) = NN) := hNN
  rw [hr] at HOk
  rw [hs] at HSp
  obtain ⟨J, hJ⟩ : ∃ J, nxJ P d.length e low = J := ⟨_, rfl⟩
  have hJ1 : J ≤ P - d.length ∧ (J : Int) ≤ e - low ∧ (J = P - d.length ∨ (J : Int) = e - low) := by rw [← hJ]; unfold nxJ; omega
  have hd1 := hc.2.1
  have cU := canon_noughts d J hc hz
  have vU := vl_noughts d J
  have lU : (d ++ List.replicate J 0).length ≤ 34 := by rw [List.length_append, List.length_replicate]; omega
  have bU := vl_bd d hc.1
  obtain ⟨U0, hU0⟩ : ∃ U, tx (d ++ List.replicate J 0) = U := ⟨_, rfl⟩
  have HU0 : Hid (tx (d ++ List.replicate J 0) = U0) := hU0
  have HAd : Hid (∀ X, Calls Tryz.prog 16 #[.string U0, .string { data := #[49] }] X fun x w' => x = .returned (.string (tx (nt (vl d * 10 ^ J + 1)))) ∧ Below X.heap.size X w') := fun X => by
    rw [← hU0, tx_19]
    refine (l11Add_any _ [1] X cU (canon_one 1 (by decide) (by decide)) (by omega) (by decide)).mono ?_
    rintro x w' ⟨R, rfl, cR, vR, lR, hb⟩
    rw [vU, show vl [1] = 1 from rfl] at vR
    rw [← nt_of R _ cR vR (by have : ([1] : List Int).length = 1 := rfl; omega)]
    exact ⟨rfl, hb⟩
  obtain ⟨D, hD⟩ : ∃ D, nt (vl d * 10 ^ J + 1) = D := ⟨_, rfl⟩
  have sD := tx_size D
  rw [hJ, hD] at hfit
  rw [hJ, hD]
  rw [hD] at HAd
  have wJ1 : IntKind.i64.wrap (e - (J : Int) + 1) = e - (J : Int) + 1 := by rw [IntKind.wrap_i64]; omega
  clear cU vU lU bU hU0 hD
  have hx := tx_take D P (by omega)
  have HXd : Hid (∀ i, i ≤ J → ∃ S m', S = tx (d ++ List.replicate i 0) ∧ S.size = m' ∧ m' = d.length + i ∧ S ++ { data := #[48] } = tx (d ++ List.replicate (i + 1) 0)) := fun i hi => ⟨_, _, rfl, by rw [tx_size, List.length_append, List.length_replicate], rfl, by rw [tx_more, List.append_assoc, ← List.replicate_succ']⟩
  have HS0 : Hid (tx d = tx (d ++ List.replicate 0 0)) := by show _ = _; simp
  obtain ⟨L, hL⟩ : ∃ L, d.length = L := ⟨_, rfl⟩
  rw [hL] at hsz hJ1 hl hd1 HXd
  clear hsa hr hs hf pP hJ hNN hc hz hL
  have Hfit := hid_of hfit
  clear hfit
  subst hn
  go_enter Tryz.func6, Tryz.ntmps6
  go_wp2_with fail
  refine (HOk.out).mono ?_
  rintro x w1 ⟨rfl, hb1⟩
  have HN1 : Hid (NB w 1 false e (tx d) w1) := HN.out.next hb1
  clear hb1 HN
  try clear c0 c1 c2 c3 c4
  obtain ⟨c0, c1, c2, c3, c4⟩ := HN1.out.1.cells
  go_wp2_with fail
  refine (HSp.out _ HN1.out.2.2.1 HN1.out.2.2.2.2).mono ?_
  rintro x w2 ⟨rfl, hb2⟩
  have HN2 : Hid (NB w 1 false e (tx d) w2) := HN1.out.next hb2
  clear hb2 HN1
  try clear c0 c1 c2 c3 c4
  obtain ⟨c0, c1, c2, c3, c4⟩ := HN2.out.1.cells
  have HN3 : Hid (NB w 1 false e (tx d) (w2.alloc (.cells #[.int .i64 3, .bool false, .int .i64 0, .string { data := #[] }, .int .i64 SF] 27))) := HN2.out.next ((Below.refl _ _).alloc (Nat.le_refl _) _)
  clear HN2 c0 c1 c2 c3 c4
  obtain ⟨c0, c1, c2, c3, c4⟩ := HN3.out.1.cells
  go_wp2_with fail
  refine (HLm.out _).mono ?_
  rintro x w3 ⟨rfl, rfl⟩
  generalize w2.alloc (.cells #[.int .i64 3, .bool false, .int .i64 0, .string { data := #[] }, .int .i64 SF] 27) = w3 at *
  clear HLm
  go_wp2
  go_loopg [11] P (fun gk s wx => ∃ i : Nat, i ≤ P ∧ gk = P - i ∧ s = .string (tx (List.replicate i 9)) ∧ wx = w3)
  case atStart => exact ⟨0, Nat.zero_le _, rfl, rfl, rfl⟩
  case round =>
    obtain ⟨i, hi, hgk, rfl, hwr⟩ := hrel
    have HG : Hid (gk = P - i) := hgk
    clear hgk
    obtain ⟨S, m', hS, y1, hm', y3⟩ := HX9.out i
    rw [← hS]
    have HSS : Hid (S = tx (List.replicate i 9)) := hS
    clear hS
    by_cases hlt : i < P
    · have HW : Hid (wr = w3) := hwr
      have z4 : (m' : Int) < (P : Int) := by omega
      have z5 : (m' : Int) ≤ 8388608 := by omega
      clear hm' hwr
      go_wp2
      go_roundg (P - (i + 1))
      case measure => have := HG.out; omega
      case rel => exact ⟨i + 1, by omega, rfl, rfl, HW.out⟩
    · have ei : i = P := by omega
      subst ei
      have hwr' := hwr.symm
      subst hwr'
      have z4 : ¬ (m' : Int) < (i : Int) := by omega
      have HSN : Hid (S = NN) := by show _ = _; rw [HSS.out]; exact HNN.out
      clear hm' hlt y3 HG HSS HX9 HNN
      go_wp2
      go_loopg [12, 13] J (fun gk t x wx => ∃ i : Nat, i ≤ J ∧ gk = J - i ∧ t = .string (tx (d ++ List.replicate i 0)) ∧ x = .int .i64 (e - (i : Int)) ∧ wx = w3)
      case atStart => exact ⟨0, Nat.zero_le _, rfl, by rw [← HS0.out], by simp, rfl⟩
      case round =>
        obtain ⟨j, hj, hgk, rfl, rfl, hwr⟩ := hrel
        have HG : Hid (gk = J - j) := hgk
        clear hgk
        obtain ⟨T, m2, hT, y1, hm2, y3⟩ := HXd.out j hj
        rw [← hT]
        have HTT : Hid (T = tx (d ++ List.replicate j 0)) := hT
        have wj : IntKind.i64.wrap (e - (j : Int) - 1) = e - (j : Int) - 1 := by rw [IntKind.wrap_i64]; omega
        clear hT
        by_cases hlt : j < J
        · have HW : Hid (wr = w3) := hwr
          have z4 : (m2 : Int) < (i : Int) := by omega
          have z5 : (m2 : Int) ≤ 8388608 := by omega
          have z6 : low < e - (j : Int) := by omega
          clear hm2 hwr
          go_wp2
          go_roundg (J - (j + 1))
          case measure => have := HG.out; omega
          case rel => exact ⟨j + 1, by omega, rfl, rfl, by go_num, HW.out⟩
        · have ej : j = J := by omega
          subst ej
          have hwr' := hwr.symm
          subst hwr'
          have eTU : T = U0 := by rw [HTT.out]; exact HU0.out
          subst eTU
          clear hlt y3 HG HTT HXd HU0
          by_cases z4 : (m2 : Int) < (i : Int)
          · have z6 : ¬ low < e - (j : Int) := by omega
            clear hm2
            have hfit := Hfit.out
            clear Hfit
            go_wp2_with fail
            refine (HAd.out _).mono ?_
            rintro x w5 ⟨rfl, hb5⟩
            have HN5 : Hid (NB w 1 false e (tx d) w5) := HN3.out.next hb5
            clear hb5 HN3 HAd c0 c1 c2 c3 c4
            have y4 : (i : Int) < (D.length : Int) := by omega
            have y5 : ¬ high < e - (j : Int) + 1 := by omega
            have y6 : ¬ (D.length : Int) < (i : Int) := by omega
            have y7 : i ≤ D.length := by omega
            go_wp2_with fail
            refine (l12Finite_any false (tx (D.take i)) (e - (j : Int) + 1) _).mono ?_
            rintro x w6 ⟨rfl, hb6⟩
            have HN6 : Hid (NB w 1 false e (tx d) w6) := HN5.out.next hb6
            clear hb6 HN5
            have hbl := build_res0 1 false (e - (j : Int) + 1) (tx (D.take i)) w6
            go_wp2_with (refine wpList_store_row rfl 27 (.tmp 4) (.tmp 95) rfl (w.heap.size + 1) #[.int .i64 1, .bool false, .int .i64 (e - (j : Int) + 1), .string (tx (D.take i)), .int .i64 0] rfl rfl _ _ HN6.out.2.1 (by kernel_rfl) rfl (one5 _ _ _ _ _) (Hid.out ?_))
            refine nx_end (by assumption) ?_
            try simp only [Exit.then]
            have hP := (HN6.out.2.1.row (.int .i64 1) (.bool false) (.int .i64 (e - (j : Int) + 1)) (.string (tx (D.take i))) (.int .i64 0)).cells
            refine bodyPost_ret (results_res rfl _ _ rfl hP.1 hP.2.1 hP.2.2.1 hP.2.2.2.1 hP.2.2.2.2.1) rfl ?_
            exact ⟨rfl, bel_row HN6.out.2.2.2.1 (by omega) _⟩
          · clear hm2
            have hfit := Hfit.out
            clear Hfit
            go_wp2_with fail
            refine (HAd.out _).mono ?_
            rintro x w5 ⟨rfl, hb5⟩
            have HN5 : Hid (NB w 1 false e (tx d) w5) := HN3.out.next hb5
            clear hb5 HN3 HAd c0 c1 c2 c3 c4
            have y4 : (i : Int) < (D.length : Int) := by omega
            have y5 : ¬ high < e - (j : Int) + 1 := by omega
            have y6 : ¬ (D.length : Int) < (i : Int) := by omega
            have y7 : i ≤ D.length := by omega
            go_wp2_with fail
            refine (l12Finite_any false (tx (D.take i)) (e - (j : Int) + 1) _).mono ?_
            rintro x w6 ⟨rfl, hb6⟩
            have HN6 : Hid (NB w 1 false e (tx d) w6) := HN5.out.next hb6
            clear hb6 HN5
            have hbl := build_res0 1 false (e - (j : Int) + 1) (tx (D.take i)) w6
            go_wp2_with (refine wpList_store_row rfl 27 (.tmp 4) (.tmp 95) rfl (w.heap.size + 1) #[.int .i64 1, .bool false, .int .i64 (e - (j : Int) + 1), .string (tx (D.take i)), .int .i64 0] rfl rfl _ _ HN6.out.2.1 (by kernel_rfl) rfl (one5 _ _ _ _ _) (Hid.out ?_))
            refine nx_end (by assumption) ?_
            try simp only [Exit.then]
            have hP := (HN6.out.2.1.row (.int .i64 1) (.bool false) (.int .i64 (e - (j : Int) + 1)) (.string (tx (D.take i))) (.int .i64 0)).cells
            refine bodyPost_ret (results_res rfl _ _ rfl hP.1 hP.2.1 hP.2.2.1 hP.2.2.2.1 hP.2.2.2.2.1) rfl ?_
            exact ⟨rfl, bel_row HN6.out.2.2.2.1 (by omega) _⟩
set_option maxRecDepth 100000 in
set_option maxHeartbeats 2000000 in
theorem sNx_pos3 (f : Int) (n : Bool) (e : Int) (d : List Int) (w : World) (hr : numB f 1 n e (tx d) = true) (hf : f = 64 ∨ f = 128) (hc : Canon d) (hz : d ≠ [0]) (hl : d.length ≤ (limP f).toNat) (he : limL f ≤ e) (hh : e ≤ limH f) (hn : n = false) (hfit : (limP f).toNat < (nt (vl d * 10 ^ nxJ (limP f).toNat d.length e (limL f) + 1)).length ∧ ¬ e - nxJ (limP f).toNat d.length e (limL f) + 1 ≤ limH f) :
    Calls Tryz.prog 6 #[.int .i64 f, numV 1 n e (tx d)] w fun x w' => x = .returned (rsV 2 false 0 { data := #[] } 0) ∧ Below w.heap.size w w' := by
  have hsa : (tx d).size ≤ 4611686018427387904 := by
    rw [tx_size]
    obtain ⟨p2, p34, -⟩ := lims3 f hf
    omega
  have hsz := tx_size d
  have hz0 : ((tx d).toList == [48]) = false := tx_is0 d hc.1 hz
  have hs : spB 1 (fun _ => (1 : Int)) = false := decide_eq_false (by rintro ⟨i, -, h⟩; rcases h with h | h <;> cases h)
  have hb00 : ∀ w, (Instr.build 27 #[]).run Tryz.prog w = .ok (rsV 0 false 0 { data := #[] } 0) w := fun w => run_build w _ _ _ (by kernel_rfl)
  have HN : Hid (NB w 1 n e (tx d) (((w.alloc (.cells #[.int .i64 1, .bool n, .int .i64 e, .string (tx d)] 25)).alloc (.cells #[.int .i64 0, .bool false, .int .i64 0, .string { data := #[] }, .int .i64 0] 27)).alloc (.cells #[.int .i64 1, .bool n, .int .i64 e, .string (tx d)] 25))) := nb_new w 1 n e (tx d)
  have HOk : Hid (Calls Tryz.prog 12 #[.int .i64 f, .int .i64 1, .slice (some ⟨w.heap.size + 2, 0, none⟩) 1 1] (((w.alloc (.cells #[.int .i64 1, .bool n, .int .i64 e, .string (tx d)] 25)).alloc (.cells #[.int .i64 0, .bool false, .int .i64 0, .string { data := #[] }, .int .i64 0] 27)).alloc (.cells #[.int .i64 1, .bool n, .int .i64 e, .string (tx d)] 25)) fun x w' => x = .returned (.bool (numB f 1 n e (tx d))) ∧ Below (((w.alloc (.cells #[.int .i64 1, .bool n, .int .i64 e, .string (tx d)] 25)).alloc (.cells #[.int .i64 0, .bool false, .int .i64 0, .string { data := #[] }, .int .i64 0] 27)).alloc (.cells #[.int .i64 1, .bool n, .int .i64 e, .string (tx d)] 25)).heap.size (((w.alloc (.cells #[.int .i64 1, .bool n, .int .i64 e, .string (tx d)] 25)).alloc (.cells #[.int .i64 0, .bool false, .int .i64 0, .string { data := #[] }, .int .i64 0] 27)).alloc (.cells #[.int .i64 1, .bool n, .int .i64 e, .string (tx d)] 25)) w') := by
    have := l13Ok_any f 1 1 (w.heap.size + 2) (fun _ => 1) (fun _ => n) (fun _ => e) (fun _ => tx d) (((w.alloc (.cells #[.int .i64 1, .bool n, .int .i64 e, .string (tx d)] 25)).alloc (.cells #[.int .i64 0, .bool false, .int .i64 0, .string { data := #[] }, .int .i64 0] 27)).alloc (.cells #[.int .i64 1, .bool n, .int .i64 e, .string (tx d)] 25)) (by decide) HN.out.2.2.2.2 HN.out.2.2.1 (fun _ _ => hsa)
    rw [show (decide (1 ≤ (1 : Int) ∧ (1 : Int) ≤ 5)) = true from rfl, Bool.true_and] at this
    rw [ok1_is] at this
    exact this
  have HSp : Hid (∀ X, NRw X (w.heap.size + 2) 1 (fun _ => 1) (fun _ => n) (fun _ => e) (fun _ => tx d) → w.heap.size + 2 < X.heap.size → Calls Tryz.prog 13 #[.slice (some ⟨w.heap.size + 2, 0, none⟩) 1 1] X fun x w' => x = .returned (.tuple #[rsV 3 false 0 { data := #[] } (spF 1 (fun _ => 1)), .bool (spB 1 (fun _ => 1))]) ∧ Below X.heap.size X w') := fun X h1 h2 => l13Special_any 1 (w.heap.size + 2) _ _ _ _ X (by decide) h2 h1
  generalize spF 1 (fun _ => 1) = SF at *
  obtain ⟨p2, p34, pP, lh, l1, l2⟩ := lims3 f hf
  have HLm : Hid (∀ X, Calls Tryz.prog 14 #[.int .i64 f] X fun r w' => r = .returned (.tuple #[.int .i64 ((limP f).toNat : Int), .int .i64 (limL f), .int .i64 (limH f)]) ∧ w' = X) := fun X => by
    have := Limits_any f X
    rw [pP] at this
    exact this
  generalize (limP f).toNat = P at *
  generalize limL f = low at *
  generalize limH f = high at *
  have HX9 : Hid (∀ i, ∃ S m', S = tx (List.replicate i 9) ∧ S.size = m' ∧ m' = i ∧ S ++ { data := #[57] } = tx (List.replicate (i + 1) 9)) := fun i => ⟨_, _, rfl, by rw [tx_size, List.length_replicate], rfl, by rw [tx_nine, ← List.replicate_succ']⟩
  obtain ⟨NN, hNN⟩ : ∃ NN, tx (List.replicate P 9) = NN := ⟨_, rfl⟩
  have HNN : Hid (tx (List.replicate P 9) = NN) := hNN
  rw [hr] at HOk
  rw [hs] at HSp
  obtain ⟨J, hJ⟩ : ∃ J, nxJ P d.length e low = J := ⟨_, rfl⟩
  have hJ1 : J ≤ P - d.length ∧ (J : Int) ≤ e - low ∧ (J = P - d.length ∨ (J : Int) = e - low) := by rw [← hJ]; unfold nxJ; omega
  have hd1 := hc.2.1
  have cU := canon_noughts d J hc hz
  have vU := vl_noughts d J
  have lU : (d ++ List.replicate J 0).length ≤ 34 := by rw [List.length_append, List.length_replicate]; omega
  have bU := vl_bd d hc.1
  obtain ⟨U0, hU0⟩ : ∃ U, tx (d ++ List.replicate J 0) = U := ⟨_, rfl⟩
  have HU0 : Hid (tx (d ++ List.replicate J 0) = U0) := hU0
  have HAd : Hid (∀ X, Calls Tryz.prog 16 #[.string U0, .string { data := #[49] }] X fun x w' => x = .returned (.string (tx (nt (vl d * 10 ^ J + 1)))) ∧ Below X.heap.size X w') := fun X => by
    rw [← hU0, tx_19]
    refine (l11Add_any _ [1] X cU (canon_one 1 (by decide) (by decide)) (by omega) (by decide)).mono ?_
    rintro x w' ⟨R, rfl, cR, vR, lR, hb⟩
    rw [vU, show vl [1] = 1 from rfl] at vR
    rw [← nt_of R _ cR vR (by have : ([1] : List Int).length = 1 := rfl; omega)]
    exact ⟨rfl, hb⟩
  obtain ⟨D, hD⟩ : ∃ D, nt (vl d * 10 ^ J + 1) = D := ⟨_, rfl⟩
  have sD := tx_size D
  rw [hJ, hD] at hfit
  rw [hD] at HAd
  have wJ1 : IntKind.i64.wrap (e - (J : Int) + 1) = e - (J : Int) + 1 := by rw [IntKind.wrap_i64]; omega
  clear cU vU lU bU hU0 hD
  have hx := tx_take D P (by omega)
  have HXd : Hid (∀ i, i ≤ J → ∃ S m', S = tx (d ++ List.replicate i 0) ∧ S.size = m' ∧ m' = d.length + i ∧ S ++ { data := #[48] } = tx (d ++ List.replicate (i + 1) 0)) := fun i hi => ⟨_, _, rfl, by rw [tx_size, List.length_append, List.length_replicate], rfl, by rw [tx_more, List.append_assoc, ← List.replicate_succ']⟩
  have HS0 : Hid (tx d = tx (d ++ List.replicate 0 0)) := by show _ = _; simp
  obtain ⟨L, hL⟩ : ∃ L, d.length = L := ⟨_, rfl⟩
  rw [hL] at hsz hJ1 hl hd1 HXd
  clear hsa hr hs hf pP hJ hNN hc hz hL
  have Hfit := hid_of hfit
  clear hfit
  subst hn
  go_enter Tryz.func6, Tryz.ntmps6
  go_wp2_with fail
  refine (HOk.out).mono ?_
  rintro x w1 ⟨rfl, hb1⟩
  have HN1 : Hid (NB w 1 false e (tx d) w1) := HN.out.next hb1
  clear hb1 HN
  try clear c0 c1 c2 c3 c4
  obtain ⟨c0, c1, c2, c3, c4⟩ := HN1.out.1.cells
  go_wp2_with fail
  refine (HSp.out _ HN1.out.2.2.1 HN1.out.2.2.2.2).mono ?_
  rintro x w2 ⟨rfl, hb2⟩
  have HN2 : Hid (NB w 1 false e (tx d) w2) := HN1.out.next hb2
  clear hb2 HN1
  try clear c0 c1 c2 c3 c4
  obtain ⟨c0, c1, c2, c3, c4⟩ := HN2.out.1.cells
  have HN3 : Hid (NB w 1 false e (tx d) (w2.alloc (.cells #[.int .i64 3, .bool false, .int .i64 0, .string { data := #[] }, .int .i64 SF] 27))) := HN2.out.next ((Below.refl _ _).alloc (Nat.le_refl _) _)
  clear HN2 c0 c1 c2 c3 c4
  obtain ⟨c0, c1, c2, c3, c4⟩ := HN3.out.1.cells
  go_wp2_with fail
  refine (HLm.out _).mono ?_
  rintro x w3 ⟨rfl, rfl⟩
  generalize w2.alloc (.cells #[.int .i64 3, .bool false, .int .i64 0, .string { data := #[] }, .int .i64 SF] 27) = w3 at *
  clear HLm
  go_wp2
  go_loopg [11] P (fun gk s wx => ∃ i : Nat, i ≤ P ∧ gk = P - i ∧ s = .string (tx (List.replicate i 9)) ∧ wx = w3)
  case atStart => exact ⟨0, Nat.zero_le _, rfl, rfl, rfl⟩
  case round =>
    obtain ⟨i, hi, hgk, rfl, hwr⟩ := hrel
    have HG : Hid (gk = P - i) := hgk
    clear hgk
    obtain ⟨S, m', hS, y1, hm', y3⟩ := HX9.out i
    rw [← hS]
    have HSS : Hid (S = tx (List.replicate i 9)) := hS
    clear hS
    by_cases hlt : i < P
    · have HW : Hid (wr = w3) := hwr
      have z4 : (m' : Int) < (P : Int) := by omega
      have z5 : (m' : Int) ≤ 8388608 := by omega
      clear hm' hwr
      go_wp2
      go_roundg (P - (i + 1))
      case measure => have := HG.out; omega
      case rel => exact ⟨i + 1, by omega, rfl, rfl, HW.out⟩
    · have ei : i = P := by omega
      subst ei
      have hwr' := hwr.symm
      subst hwr'
      have z4 : ¬ (m' : Int) < (i : Int) := by omega
      have HSN : Hid (S = NN) := by show _ = _; rw [HSS.out]; exact HNN.out
      clear hm' hlt y3 HG HSS HX9 HNN
      go_wp2
      go_loopg [12, 13] J (fun gk t x wx => ∃ i : Nat, i ≤ J ∧ gk = J - i ∧ t = .string (tx (d ++ List.replicate i 0)) ∧ x = .int .i64 (e - (i : Int)) ∧ wx = w3)
      case atStart => exact ⟨0, Nat.zero_le _, rfl, by rw [← HS0.out], by simp, rfl⟩
      case round =>
        obtain ⟨j, hj, hgk, rfl, rfl, hwr⟩ := hrel
        have HG : Hid (gk = J - j) := hgk
        clear hgk
        obtain ⟨T, m2, hT, y1, hm2, y3⟩ := HXd.out j hj
        rw [← hT]
        have HTT : Hid (T = tx (d ++ List.replicate j 0)) := hT
        have wj : IntKind.i64.wrap (e - (j : Int) - 1) = e - (j : Int) - 1 := by rw [IntKind.wrap_i64]; omega
        clear hT
        by_cases hlt : j < J
        · have HW : Hid (wr = w3) := hwr
          have z4 : (m2 : Int) < (i : Int) := by omega
          have z5 : (m2 : Int) ≤ 8388608 := by omega
          have z6 : low < e - (j : Int) := by omega
          clear hm2 hwr
          go_wp2
          go_roundg (J - (j + 1))
          case measure => have := HG.out; omega
          case rel => exact ⟨j + 1, by omega, rfl, rfl, by go_num, HW.out⟩
        · have ej : j = J := by omega
          subst ej
          have hwr' := hwr.symm
          subst hwr'
          have eTU : T = U0 := by rw [HTT.out]; exact HU0.out
          subst eTU
          clear hlt y3 HG HTT HXd HU0
          by_cases z4 : (m2 : Int) < (i : Int)
          · have z6 : ¬ low < e - (j : Int) := by omega
            clear hm2
            have hfit := Hfit.out
            clear Hfit
            go_wp2_with fail
            refine (HAd.out _).mono ?_
            rintro x w5 ⟨rfl, hb5⟩
            have HN5 : Hid (NB w 1 false e (tx d) w5) := HN3.out.next hb5
            clear hb5 HN3 HAd c0 c1 c2 c3 c4
            have y4 : (i : Int) < (D.length : Int) := by omega
            have y5 : high < e - (j : Int) + 1 := by omega
            have y6 : ¬ (D.length : Int) < (i : Int) := by omega
            have y7 : i ≤ D.length := by omega
            go_wp2_with fail
            refine (l13Inf_any false _).mono ?_
            rintro x w6 ⟨rfl, hb6⟩
            have HN6 : Hid (NB w 1 false e (tx d) w6) := HN5.out.next hb6
            clear hb6 HN5
            go_wp2_with (refine wpList_store_row rfl 27 (.tmp 4) (.tmp 91) rfl (w.heap.size + 1) #[.int .i64 2, .bool false, .int .i64 0, .string { data := #[] }, .int .i64 0] rfl rfl _ _ HN6.out.2.1 (by kernel_rfl) rfl (one5 _ _ _ _ _) (Hid.out ?_))
            refine nx_end (by assumption) ?_
            try simp only [Exit.then]
            have hP := (HN6.out.2.1.row (.int .i64 2) (.bool false) (.int .i64 0) (.string { data := #[] }) (.int .i64 0)).cells
            refine bodyPost_ret (results_res rfl _ _ rfl hP.1 hP.2.1 hP.2.2.1 hP.2.2.2.1 hP.2.2.2.2.1) rfl ?_
            exact ⟨rfl, bel_row HN6.out.2.2.2.1 (by omega) _⟩
          · clear hm2
            have hfit := Hfit.out
            clear Hfit
            go_wp2_with fail
            refine (HAd.out _).mono ?_
            rintro x w5 ⟨rfl, hb5⟩
            have HN5 : Hid (NB w 1 false e (tx d) w5) := HN3.out.next hb5
            clear hb5 HN3 HAd c0 c1 c2 c3 c4
            have y4 : (i : Int) < (D.length : Int) := by omega
            have y5 : high < e - (j : Int) + 1 := by omega
            have y6 : ¬ (D.length : Int) < (i : Int) := by omega
            have y7 : i ≤ D.length := by omega
            go_wp2_with fail
            refine (l13Inf_any false _).mono ?_
            rintro x w6 ⟨rfl, hb6⟩
            have HN6 : Hid (NB w 1 false e (tx d) w6) := HN5.out.next hb6
            clear hb6 HN5
            go_wp2_with (refine wpList_store_row rfl 27 (.tmp 4) (.tmp 91) rfl (w.heap.size + 1) #[.int .i64 2, .bool false, .int .i64 0, .string { data := #[] }, .int .i64 0] rfl rfl _ _ HN6.out.2.1 (by kernel_rfl) rfl (one5 _ _ _ _ _) (Hid.out ?_))
            refine nx_end (by assumption) ?_
            try simp only [Exit.then]
            have hP := (HN6.out.2.1.row (.int .i64 2) (.bool false) (.int .i64 0) (.string { data := #[] }) (.int .i64 0)).cells
            refine bodyPost_ret (results_res rfl _ _ rfl hP.1 hP.2.1 hP.2.2.1 hP.2.2.2.1 hP.2.2.2.2.1) rfl ?_
            exact ⟨rfl, bel_row HN6.out.2.2.2.1 (by omega) _⟩
set_option maxRecDepth 100000 in
set_option maxHeartbeats 2000000 in
theorem sNx_neg1 (f : Int) (n : Bool) (e : Int) (d : List Int) (w : World) (hr : numB f 1 n e (tx d) = true) (hf : f = 64 ∨ f = 128) (hc : Canon d) (hz : d ≠ [0]) (hl : d.length ≤ (limP f).toNat) (he : limL f ≤ e) (hh : e ≤ limH f) (hn : n = true) (hfit : (nt (vl d * 10 ^ nxJ (limP f).toNat d.length e (limL f) - 1)).length < (limP f).toNat ∧ limL f < e - nxJ (limP f).toNat d.length e (limL f)) :
    Calls Tryz.prog 6 #[.int .i64 f, numV 1 n e (tx d)] w fun x w' => x = .returned (rsV 1 true (e - nxJ (limP f).toNat d.length e (limL f) - 1) (tx (List.replicate (limP f).toNat 9)) 0) ∧ Below w.heap.size w w' := by
  have hsa : (tx d).size ≤ 4611686018427387904 := by
    rw [tx_size]
    obtain ⟨p2, p34, -⟩ := lims3 f hf
    omega
  have hsz := tx_size d
  have hz0 : ((tx d).toList == [48]) = false := tx_is0 d hc.1 hz
  have hs : spB 1 (fun _ => (1 : Int)) = false := decide_eq_false (by rintro ⟨i, -, h⟩; rcases h with h | h <;> cases h)
  have hb00 : ∀ w, (Instr.build 27 #[]).run Tryz.prog w = .ok (rsV 0 false 0 { data := #[] } 0) w := fun w => run_build w _ _ _ (by kernel_rfl)
  have HN : Hid (NB w 1 n e (tx d) (((w.alloc (.cells #[.int .i64 1, .bool n, .int .i64 e, .string (tx d)] 25)).alloc (.cells #[.int .i64 0, .bool false, .int .i64 0, .string { data := #[] }, .int .i64 0] 27)).alloc (.cells #[.int .i64 1, .bool n, .int .i64 e, .string (tx d)] 25))) := nb_new w 1 n e (tx d)
  have HOk : Hid (Calls Tryz.prog 12 #[.int .i64 f, .int .i64 1, .slice (some ⟨w.heap.size + 2, 0, none⟩) 1 1] (((w.alloc (.cells #[.int .i64 1, .bool n, .int .i64 e, .string (tx d)] 25)).alloc (.cells #[.int .i64 0, .bool false, .int .i64 0, .string { data := #[] }, .int .i64 0] 27)).alloc (.cells #[.int .i64 1, .bool n, .int .i64 e, .string (tx d)] 25)) fun x w' => x = .returned (.bool (numB f 1 n e (tx d))) ∧ Below (((w.alloc (.cells #[.int .i64 1, .bool n, .int .i64 e, .string (tx d)] 25)).alloc (.cells #[.int .i64 0, .bool false, .int .i64 0, .string { data := #[] }, .int .i64 0] 27)).alloc (.cells #[.int .i64 1, .bool n, .int .i64 e, .string (tx d)] 25)).heap.size (((w.alloc (.cells #[.int .i64 1, .bool n, .int .i64 e, .string (tx d)] 25)).alloc (.cells #[.int .i64 0, .bool false, .int .i64 0, .string { data := #[] }, .int .i64 0] 27)).alloc (.cells #[.int .i64 1, .bool n, .int .i64 e, .string (tx d)] 25)) w') := by
    have := l13Ok_any f 1 1 (w.heap.size + 2) (fun _ => 1) (fun _ => n) (fun _ => e) (fun _ => tx d) (((w.alloc (.cells #[.int .i64 1, .bool n, .int .i64 e, .string (tx d)] 25)).alloc (.cells #[.int .i64 0, .bool false, .int .i64 0, .string { data := #[] }, .int .i64 0] 27)).alloc (.cells #[.int .i64 1, .bool n, .int .i64 e, .string (tx d)] 25)) (by decide) HN.out.2.2.2.2 HN.out.2.2.1 (fun _ _ => hsa)
    rw [show (decide (1 ≤ (1 : Int) ∧ (1 : Int) ≤ 5)) = true from rfl, Bool.true_and] at this
    rw [ok1_is] at this
    exact this
  have HSp : Hid (∀ X, NRw X (w.heap.size + 2) 1 (fun _ => 1) (fun _ => n) (fun _ => e) (fun _ => tx d) → w.heap.size + 2 < X.heap.size → Calls Tryz.prog 13 #[.slice (some ⟨w.heap.size + 2, 0, none⟩) 1 1] X fun x w' => x = .returned (.tuple #[rsV 3 false 0 { data := #[] } (spF 1 (fun _ => 1)), .bool (spB 1 (fun _ => 1))]) ∧ Below X.heap.size X w') := fun X h1 h2 => l13Special_any 1 (w.heap.size + 2) _ _ _ _ X (by decide) h2 h1
  generalize spF 1 (fun _ => 1) = SF at *
  obtain ⟨p2, p34, pP, lh, l1, l2⟩ := lims3 f hf
  have HLm : Hid (∀ X, Calls Tryz.prog 14 #[.int .i64 f] X fun r w' => r = .returned (.tuple #[.int .i64 ((limP f).toNat : Int), .int .i64 (limL f), .int .i64 (limH f)]) ∧ w' = X) := fun X => by
    have := Limits_any f X
    rw [pP] at this
    exact this
  generalize (limP f).toNat = P at *
  generalize limL f = low at *
  generalize limH f = high at *
  have HX9 : Hid (∀ i, ∃ S m', S = tx (List.replicate i 9) ∧ S.size = m' ∧ m' = i ∧ S ++ { data := #[57] } = tx (List.replicate (i + 1) 9)) := fun i => ⟨_, _, rfl, by rw [tx_size, List.length_replicate], rfl, by rw [tx_nine, ← List.replicate_succ']⟩
  obtain ⟨NN, hNN⟩ : ∃ NN, tx (List.replicate P 9) = NN := ⟨_, rfl⟩
  have HNN : Hid (tx (List.replicate P 9) = NN) := hNN
  rw [hr] at HOk
  rw [hs] at HSp
  obtain ⟨J, hJ⟩ : ∃ J, nxJ P d.length e low = J := ⟨_, rfl⟩
  have hJ1 : J ≤ P - d.length ∧ (J : Int) ≤ e - low ∧ (J = P - d.length ∨ (J : Int) = e - low) := by rw [← hJ]; unfold nxJ; omega
  have hd1 := hc.2.1
  have cU := canon_noughts d J hc hz
  have vU := vl_noughts d J
  have lU : (d ++ List.replicate J 0).length ≤ 34 := by rw [List.length_append, List.length_replicate]; omega
  have bU := vl_bd d hc.1
  obtain ⟨U0, hU0⟩ : ∃ U, tx (d ++ List.replicate J 0) = U := ⟨_, rfl⟩
  have HU0 : Hid (tx (d ++ List.replicate J 0) = U0) := hU0
  have v1 : (1 : Int) ≤ vl d := by have := canon_lo d hc hz; have := ten_pos (d.length - 1); omega
  have HSb : Hid (∀ X, Calls Tryz.prog 18 #[.string U0, .string { data := #[49] }] X fun x w' => x = .returned (.string (tx (nt (vl d * 10 ^ J - 1)))) ∧ Below X.heap.size X w') := fun X => by
    rw [← hU0, tx_19]
    refine (l11Sub_any _ [1] X cU (canon_one 1 (by decide) (by decide)) (by omega) (by
      rw [vU, show vl [1] = 1 from rfl]
      have : 1 * 10 ^ J ≤ vl d * 10 ^ J := Int.mul_le_mul_of_nonneg_right v1 (Int.le_of_lt (ten_pos J))
      have := ten_pos J
      omega)).mono ?_
    rintro x w' ⟨R, rfl, cR, vR, lR, hb⟩
    rw [vU, show vl [1] = 1 from rfl] at vR
    rw [← nt_of R _ cR vR (by omega)]
    exact ⟨rfl, hb⟩
  obtain ⟨D, hD⟩ : ∃ D, nt (vl d * 10 ^ J - 1) = D := ⟨_, rfl⟩
  have sD := tx_size D
  rw [hJ, hD] at hfit
  rw [hJ]
  rw [hD] at HSb
  have wJ1 : IntKind.i64.wrap (e - (J : Int) - 1) = e - (J : Int) - 1 := by rw [IntKind.wrap_i64]; omega
  rw [hNN]
  clear cU vU lU bU hU0 hD v1
  have HXd : Hid (∀ i, i ≤ J → ∃ S m', S = tx (d ++ List.replicate i 0) ∧ S.size = m' ∧ m' = d.length + i ∧ S ++ { data := #[48] } = tx (d ++ List.replicate (i + 1) 0)) := fun i hi => ⟨_, _, rfl, by rw [tx_size, List.length_append, List.length_replicate], rfl, by rw [tx_more, List.append_assoc, ← List.replicate_succ']⟩
  have HS0 : Hid (tx d = tx (d ++ List.replicate 0 0)) := by show _ = _; simp
  obtain ⟨L, hL⟩ : ∃ L, d.length = L := ⟨_, rfl⟩
  rw [hL] at hsz hJ1 hl hd1 HXd
  clear hsa hr hs hf pP hJ hNN hc hz hL
  have Hfit := hid_of hfit
  clear hfit
  subst hn
  go_enter Tryz.func6, Tryz.ntmps6
  go_wp2_with fail
  refine (HOk.out).mono ?_
  rintro x w1 ⟨rfl, hb1⟩
  have HN1 : Hid (NB w 1 true e (tx d) w1) := HN.out.next hb1
  clear hb1 HN
  try clear c0 c1 c2 c3 c4
  obtain ⟨c0, c1, c2, c3, c4⟩ := HN1.out.1.cells
  go_wp2_with fail
  refine (HSp.out _ HN1.out.2.2.1 HN1.out.2.2.2.2).mono ?_
  rintro x w2 ⟨rfl, hb2⟩
  have HN2 : Hid (NB w 1 true e (tx d) w2) := HN1.out.next hb2
  clear hb2 HN1
  try clear c0 c1 c2 c3 c4
  obtain ⟨c0, c1, c2, c3, c4⟩ := HN2.out.1.cells
  have HN3 : Hid (NB w 1 true e (tx d) (w2.alloc (.cells #[.int .i64 3, .bool false, .int .i64 0, .string { data := #[] }, .int .i64 SF] 27))) := HN2.out.next ((Below.refl _ _).alloc (Nat.le_refl _) _)
  clear HN2 c0 c1 c2 c3 c4
  obtain ⟨c0, c1, c2, c3, c4⟩ := HN3.out.1.cells
  go_wp2_with fail
  refine (HLm.out _).mono ?_
  rintro x w3 ⟨rfl, rfl⟩
  generalize w2.alloc (.cells #[.int .i64 3, .bool false, .int .i64 0, .string { data := #[] }, .int .i64 SF] 27) = w3 at *
  clear HLm
  go_wp2
  go_loopg [11] P (fun gk s wx => ∃ i : Nat, i ≤ P ∧ gk = P - i ∧ s = .string (tx (List.replicate i 9)) ∧ wx = w3)
  case atStart => exact ⟨0, Nat.zero_le _, rfl, rfl, rfl⟩
  case round =>
    obtain ⟨i, hi, hgk, rfl, hwr⟩ := hrel
    have HG : Hid (gk = P - i) := hgk
    clear hgk
    obtain ⟨S, m', hS, y1, hm', y3⟩ := HX9.out i
    rw [← hS]
    have HSS : Hid (S = tx (List.replicate i 9)) := hS
    clear hS
    by_cases hlt : i < P
    · have HW : Hid (wr = w3) := hwr
      have z4 : (m' : Int) < (P : Int) := by omega
      have z5 : (m' : Int) ≤ 8388608 := by omega
      clear hm' hwr
      go_wp2
      go_roundg (P - (i + 1))
      case measure => have := HG.out; omega
      case rel => exact ⟨i + 1, by omega, rfl, rfl, HW.out⟩
    · have ei : i = P := by omega
      subst ei
      have hwr' := hwr.symm
      subst hwr'
      have z4 : ¬ (m' : Int) < (i : Int) := by omega
      have HSN : Hid (S = NN) := by show _ = _; rw [HSS.out]; exact HNN.out
      clear hm' hlt y3 HG HSS HX9 HNN
      go_wp2
      go_loopg [12, 13] J (fun gk t x wx => ∃ i : Nat, i ≤ J ∧ gk = J - i ∧ t = .string (tx (d ++ List.replicate i 0)) ∧ x = .int .i64 (e - (i : Int)) ∧ wx = w3)
      case atStart => exact ⟨0, Nat.zero_le _, rfl, by rw [← HS0.out], by simp, rfl⟩
      case round =>
        obtain ⟨j, hj, hgk, rfl, rfl, hwr⟩ := hrel
        have HG : Hid (gk = J - j) := hgk
        clear hgk
        obtain ⟨T, m2, hT, y1, hm2, y3⟩ := HXd.out j hj
        rw [← hT]
        have HTT : Hid (T = tx (d ++ List.replicate j 0)) := hT
        have wj : IntKind.i64.wrap (e - (j : Int) - 1) = e - (j : Int) - 1 := by rw [IntKind.wrap_i64]; omega
        clear hT
        by_cases hlt : j < J
        · have HW : Hid (wr = w3) := hwr
          have z4 : (m2 : Int) < (i : Int) := by omega
          have z5 : (m2 : Int) ≤ 8388608 := by omega
          have z6 : low < e - (j : Int) := by omega
          clear hm2 hwr
          go_wp2
          go_roundg (J - (j + 1))
          case measure => have := HG.out; omega
          case rel => exact ⟨j + 1, by omega, rfl, rfl, by go_num, HW.out⟩
        · have ej : j = J := by omega
          subst ej
          have hwr' := hwr.symm
          subst hwr'
          have eTU : T = U0 := by rw [HTT.out]; exact HU0.out
          subst eTU
          clear hlt y3 HG HTT HXd HU0
          by_cases z4 : (m2 : Int) < (i : Int)
          · have z6 : ¬ low < e - (j : Int) := by omega
            clear hm2
            have hfit := Hfit.out
            clear Hfit
            exfalso
            omega
          · clear hm2
            have hfit := Hfit.out
            clear Hfit
            go_wp2_with fail
            refine (HSb.out _).mono ?_
            rintro x w5 ⟨rfl, hb5⟩
            have HN5 : Hid (NB w 1 true e (tx d) w5) := HN3.out.next hb5
            clear hb5 HN3 HSb c0 c1 c2 c3 c4
            have y4 : (D.length : Int) < (i : Int) := by omega
            have y5 : low < e - (j : Int) := by omega
            go_wp2_with fail
            refine (l12Finite_any true S (e - (j : Int) - 1) _).mono ?_
            rintro x w6 ⟨rfl, hb6⟩
            have HN6 : Hid (NB w 1 true e (tx d) w6) := HN5.out.next hb6
            clear hb6 HN5
            have hbl := build_res0 1 true (e - (j : Int) - 1) S w6
            go_wp2_with (refine wpList_store_row rfl 27 (.tmp 4) (.tmp 113) rfl (w.heap.size + 1) #[.int .i64 1, .bool true, .int .i64 (e - (j : Int) - 1), .string S, .int .i64 0] rfl rfl _ _ HN6.out.2.1 (by kernel_rfl) rfl (one5 _ _ _ _ _) (Hid.out ?_))
            refine nx_end (by assumption) ?_
            try simp only [Exit.then]
            have hP := (HN6.out.2.1.row (.int .i64 1) (.bool true) (.int .i64 (e - (j : Int) - 1)) (.string S) (.int .i64 0)).cells
            refine bodyPost_ret (results_res rfl _ _ rfl hP.1 hP.2.1 hP.2.2.1 hP.2.2.2.1 hP.2.2.2.2.1) rfl ?_
            exact ⟨by rw [HSN.out], bel_row HN6.out.2.2.2.1 (by omega) _⟩
set_option maxRecDepth 100000 in
set_option maxHeartbeats 2000000 in
theorem sNx_neg2 (f : Int) (n : Bool) (e : Int) (d : List Int) (w : World) (hr : numB f 1 n e (tx d) = true) (hf : f = 64 ∨ f = 128) (hc : Canon d) (hz : d ≠ [0]) (hl : d.length ≤ (limP f).toNat) (he : limL f ≤ e) (hh : e ≤ limH f) (hn : n = true) (hfit : ¬ ((nt (vl d * 10 ^ nxJ (limP f).toNat d.length e (limL f) - 1)).length < (limP f).toNat ∧ limL f < e - nxJ (limP f).toNat d.length e (limL f))) :
    Calls Tryz.prog 6 #[.int .i64 f, numV 1 n e (tx d)] w fun x w' => x = .returned (rsV 1 true (e - nxJ (limP f).toNat d.length e (limL f)) (tx (nt (vl d * 10 ^ nxJ (limP f).toNat d.length e (limL f) - 1))) 0) ∧ Below w.heap.size w w' := by
  have hsa : (tx d).size ≤ 4611686018427387904 := by
    rw [tx_size]
    obtain ⟨p2, p34, -⟩ := lims3 f hf
    omega
  have hsz := tx_size d
  have hz0 : ((tx d).toList == [48]) = false := tx_is0 d hc.1 hz
  have hs : spB 1 (fun _ => (1 : Int)) = false := decide_eq_false (by rintro ⟨i, -, h⟩; rcases h with h | h <;> cases h)
  have hb00 : ∀ w, (Instr.build 27 #[]).run Tryz.prog w = .ok (rsV 0 false 0 { data := #[] } 0) w := fun w => run_build w _ _ _ (by kernel_rfl)
  have HN : Hid (NB w 1 n e (tx d) (((w.alloc (.cells #[.int .i64 1, .bool n, .int .i64 e, .string (tx d)] 25)).alloc (.cells #[.int .i64 0, .bool false, .int .i64 0, .string { data := #[] }, .int .i64 0] 27)).alloc (.cells #[.int .i64 1, .bool n, .int .i64 e, .string (tx d)] 25))) := nb_new w 1 n e (tx d)
  have HOk : Hid (Calls Tryz.prog 12 #[.int .i64 f, .int .i64 1, .slice (some ⟨w.heap.size + 2, 0, none⟩) 1 1] (((w.alloc (.cells #[.int .i64 1, .bool n, .int .i64 e, .string (tx d)] 25)).alloc (.cells #[.int .i64 0, .bool false, .int .i64 0, .string { data := #[] }, .int .i64 0] 27)).alloc (.cells #[.int .i64 1, .bool n, .int .i64 e, .string (tx d)] 25)) fun x w' => x = .returned (.bool (numB f 1 n e (tx d))) ∧ Below (((w.alloc (.cells #[.int .i64 1, .bool n, .int .i64 e, .string (tx d)] 25)).alloc (.cells #[.int .i64 0, .bool false, .int .i64 0, .string { data := #[] }, .int .i64 0] 27)).alloc (.cells #[.int .i64 1, .bool n, .int .i64 e, .string (tx d)] 25)).heap.size (((w.alloc (.cells #[.int .i64 1, .bool n, .int .i64 e, .string (tx d)] 25)).alloc (.cells #[.int .i64 0, .bool false, .int .i64 0, .string { data := #[] }, .int .i64 0] 27)).alloc (.cells #[.int .i64 1, .bool n, .int .i64 e, .string (tx d)] 25)) w') := by
    have := l13Ok_any f 1 1 (w.heap.size + 2) (fun _ => 1) (fun _ => n) (fun _ => e) (fun _ => tx d) (((w.alloc (.cells #[.int .i64 1, .bool n, .int .i64 e, .string (tx d)] 25)).alloc (.cells #[.int .i64 0, .bool false, .int .i64 0, .string { data := #[] }, .int .i64 0] 27)).alloc (.cells #[.int .i64 1, .bool n, .int .i64 e, .string (tx d)] 25)) (by decide) HN.out.2.2.2.2 HN.out.2.2.1 (fun _ _ => hsa)
    rw [show (decide (1 ≤ (1 : Int) ∧ (1 : Int) ≤ 5)) = true from rfl, Bool.true_and] at this
    rw [ok1_is] at this
    exact this
  have HSp : Hid (∀ X, NRw X (w.heap.size + 2) 1 (fun _ => 1) (fun _ => n) (fun _ => e) (fun _ => tx d) → w.heap.size + 2 < X.heap.size → Calls Tryz.prog 13 #[.slice (some ⟨w.heap.size + 2, 0, none⟩) 1 1] X fun x w' => x = .returned (.tuple #[rsV 3 false 0 { data := #[] } (spF 1 (fun _ => 1)), .bool (spB 1 (fun _ => 1))]) ∧ Below X.heap.size X w') := fun X h1 h2 => l13Special_any 1 (w.heap.size + 2) _ _ _ _ X (by decide) h2 h1
  generalize spF 1 (fun _ => 1) = SF at *
  obtain ⟨p2, p34, pP, lh, l1, l2⟩ := lims3 f hf
  have HLm : Hid (∀ X, Calls Tryz.prog 14 #[.int .i64 f] X fun r w' => r = .returned (.tuple #[.int .i64 ((limP f).toNat : Int), .int .i64 (limL f), .int .i64 (limH f)]) ∧ w' = X) := fun X => by
    have := Limits_any f X
    rw [pP] at this
    exact this
  generalize (limP f).toNat = P at *
  generalize limL f = low at *
  generalize limH f = high at *
  have HX9 : Hid (∀ i, ∃ S m', S = tx (List.replicate i 9) ∧ S.size = m' ∧ m' = i ∧ S ++ { data := #[57] } = tx (List.replicate (i + 1) 9)) := fun i => ⟨_, _, rfl, by rw [tx_size, List.length_replicate], rfl, by rw [tx_nine, ← List.replicate_succ']⟩
  obtain ⟨NN, hNN⟩ : ∃ NN, tx (List.replicate P 9) = NN := ⟨_, rfl⟩
  have HNN : Hid (tx (List.replicate P 9) = NN) := hNN
  rw [hr] at HOk
  rw [hs] at HSp
  obtain ⟨J, hJ⟩ : ∃ J, nxJ P d.length e low = J := ⟨_, rfl⟩
  have hJ1 : J ≤ P - d.length ∧ (J : Int) ≤ e - low ∧ (J = P - d.length ∨ (J : Int) = e - low) := by rw [← hJ]; unfold nxJ; omega
  have hd1 := hc.2.1
  have cU := canon_noughts d J hc hz
  have vU := vl_noughts d J
  have lU : (d ++ List.replicate J 0).length ≤ 34 := by rw [List.length_append, List.length_replicate]; omega
  have bU := vl_bd d hc.1
  obtain ⟨U0, hU0⟩ : ∃ U, tx (d ++ List.replicate J 0) = U := ⟨_, rfl⟩
  have HU0 : Hid (tx (d ++ List.replicate J 0) = U0) := hU0
  have v1 : (1 : Int) ≤ vl d := by have := canon_lo d hc hz; have := ten_pos (d.length - 1); omega
  have HSb : Hid (∀ X, Calls Tryz.prog 18 #[.string U0, .string { data := #[49] }] X fun x w' => x = .returned (.string (tx (nt (vl d * 10 ^ J - 1)))) ∧ Below X.heap.size X w') := fun X => by
    rw [← hU0, tx_19]
    refine (l11Sub_any _ [1] X cU (canon_one 1 (by decide) (by decide)) (by omega) (by
      rw [vU, show vl [1] = 1 from rfl]
      have : 1 * 10 ^ J ≤ vl d * 10 ^ J := Int.mul_le_mul_of_nonneg_right v1 (Int.le_of_lt (ten_pos J))
      have := ten_pos J
      omega)).mono ?_
    rintro x w' ⟨R, rfl, cR, vR, lR, hb⟩
    rw [vU, show vl [1] = 1 from rfl] at vR
    rw [← nt_of R _ cR vR (by omega)]
    exact ⟨rfl, hb⟩
  obtain ⟨D, hD⟩ : ∃ D, nt (vl d * 10 ^ J - 1) = D := ⟨_, rfl⟩
  have sD := tx_size D
  rw [hJ, hD] at hfit
  rw [hJ]
  rw [hD] at HSb
  have wJ1 : IntKind.i64.wrap (e - (J : Int) - 1) = e - (J : Int) - 1 := by rw [IntKind.wrap_i64]; omega
  rw [hD]
  clear cU vU lU bU hU0 hD v1
  have HXd : Hid (∀ i, i ≤ J → ∃ S m', S = tx (d ++ List.replicate i 0) ∧ S.size = m' ∧ m' = d.length + i ∧ S ++ { data := #[48] } = tx (d ++ List.replicate (i + 1) 0)) := fun i hi => ⟨_, _, rfl, by rw [tx_size, List.length_append, List.length_replicate], rfl, by rw [tx_more, List.append_assoc, ← List.replicate_succ']⟩
  have HS0 : Hid (tx d = tx (d ++ List.replicate 0 0)) := by show _ = _; simp
  obtain ⟨L, hL⟩ : ∃ L, d.length = L := ⟨_, rfl⟩
  rw [hL] at hsz hJ1 hl hd1 HXd
  clear hsa hr hs hf pP hJ hNN hc hz hL
  have Hfit := hid_of hfit
  clear hfit
  subst hn
  go_enter Tryz.func6, Tryz.ntmps6
  go_wp2_with fail
  refine (HOk.out).mono ?_
  rintro x w1 ⟨rfl, hb1⟩
  have HN1 : Hid (NB w 1 true e (tx d) w1) := HN.out.next hb1
  clear hb1 HN
  try clear c0 c1 c2 c3 c4
  obtain ⟨c0, c1, c2, c3, c4⟩ := HN1.out.1.cells
  go_wp2_with fail
  refine (HSp.out _ HN1.out.2.2.1 HN1.out.2.2.2.2).mono ?_
  rintro x w2 ⟨rfl, hb2⟩
  have HN2 : Hid (NB w 1 true e (tx d) w2) := HN1.out.next hb2
  clear hb2 HN1
  try clear c0 c1 c2 c3 c4
  obtain ⟨c0, c1, c2, c3, c4⟩ := HN2.out.1.cells
  have HN3 : Hid (NB w 1 true e (tx d) (w2.alloc (.cells #[.int .i64 3, .bool false, .int .i64 0, .string { data := #[] }, .int .i64 SF] 27))) := HN2.out.next ((Below.refl _ _).alloc (Nat.le_refl _) _)
  clear HN2 c0 c1 c2 c3 c4
  obtain ⟨c0, c1, c2, c3, c4⟩ := HN3.out.1.cells
  go_wp2_with fail
  refine (HLm.out _).mono ?_
  rintro x w3 ⟨rfl, rfl⟩
  generalize w2.alloc (.cells #[.int .i64 3, .bool false, .int .i64 0, .string { data := #[] }, .int .i64 SF] 27) = w3 at *
  clear HLm
  go_wp2
  go_loopg [11] P (fun gk s wx => ∃ i : Nat, i ≤ P ∧ gk = P - i ∧ s = .string (tx (List.replicate i 9)) ∧ wx = w3)
  case atStart => exact ⟨0, Nat.zero_le _, rfl, rfl, rfl⟩
  case round =>
    obtain ⟨i, hi, hgk, rfl, hwr⟩ := hrel
    have HG : Hid (gk = P - i) := hgk
    clear hgk
    obtain ⟨S, m', hS, y1, hm', y3⟩ := HX9.out i
    rw [← hS]
    have HSS : Hid (S = tx (List.replicate i 9)) := hS
    clear hS
    by_cases hlt : i < P
    · have HW : Hid (wr = w3) := hwr
      have z4 : (m' : Int) < (P : Int) := by omega
      have z5 : (m' : Int) ≤ 8388608 := by omega
      clear hm' hwr
      go_wp2
      go_roundg (P - (i + 1))
      case measure => have := HG.out; omega
      case rel => exact ⟨i + 1, by omega, rfl, rfl, HW.out⟩
    · have ei : i = P := by omega
      subst ei
      have hwr' := hwr.symm
      subst hwr'
      have z4 : ¬ (m' : Int) < (i : Int) := by omega
      have HSN : Hid (S = NN) := by show _ = _; rw [HSS.out]; exact HNN.out
      clear hm' hlt y3 HG HSS HX9 HNN
      go_wp2
      go_loopg [12, 13] J (fun gk t x wx => ∃ i : Nat, i ≤ J ∧ gk = J - i ∧ t = .string (tx (d ++ List.replicate i 0)) ∧ x = .int .i64 (e - (i : Int)) ∧ wx = w3)
      case atStart => exact ⟨0, Nat.zero_le _, rfl, by rw [← HS0.out], by simp, rfl⟩
      case round =>
        obtain ⟨j, hj, hgk, rfl, rfl, hwr⟩ := hrel
        have HG : Hid (gk = J - j) := hgk
        clear hgk
        obtain ⟨T, m2, hT, y1, hm2, y3⟩ := HXd.out j hj
        rw [← hT]
        have HTT : Hid (T = tx (d ++ List.replicate j 0)) := hT
        have wj : IntKind.i64.wrap (e - (j : Int) - 1) = e - (j : Int) - 1 := by rw [IntKind.wrap_i64]; omega
        clear hT
        by_cases hlt : j < J
        · have HW : Hid (wr = w3) := hwr
          have z4 : (m2 : Int) < (i : Int) := by omega
          have z5 : (m2 : Int) ≤ 8388608 := by omega
          have z6 : low < e - (j : Int) := by omega
          clear hm2 hwr
          go_wp2
          go_roundg (J - (j + 1))
          case measure => have := HG.out; omega
          case rel => exact ⟨j + 1, by omega, rfl, rfl, by go_num, HW.out⟩
        · have ej : j = J := by omega
          subst ej
          have hwr' := hwr.symm
          subst hwr'
          have eTU : T = U0 := by rw [HTT.out]; exact HU0.out
          subst eTU
          clear hlt y3 HG HTT HXd HU0
          by_cases z4 : (m2 : Int) < (i : Int)
          · have z6 : ¬ low < e - (j : Int) := by omega
            clear hm2
            have hfit := Hfit.out
            clear Hfit
            go_wp2_with fail
            refine (HSb.out _).mono ?_
            rintro x w5 ⟨rfl, hb5⟩
            have HN5 : Hid (NB w 1 true e (tx d) w5) := HN3.out.next hb5
            clear hb5 HN3 HSb c0 c1 c2 c3 c4
            by_cases y4 : (D.length : Int) < (i : Int)
            · have y5 : ¬ low < e - (j : Int) := by omega
              go_wp2_with fail
              refine (l12Finite_any true (tx D) (e - (j : Int)) _).mono ?_
              rintro x w6 ⟨rfl, hb6⟩
              have HN6 : Hid (NB w 1 true e (tx d) w6) := HN5.out.next hb6
              clear hb6 HN5
              have hbl := build_res0 1 true (e - (j : Int)) (tx D) w6
              go_wp2_with (refine wpList_store_row rfl 27 (.tmp 4) (.tmp 113) rfl (w.heap.size + 1) #[.int .i64 1, .bool true, .int .i64 (e - (j : Int)), .string (tx D), .int .i64 0] rfl rfl _ _ HN6.out.2.1 (by kernel_rfl) rfl (one5 _ _ _ _ _) (Hid.out ?_))
              refine nx_end (by assumption) ?_
              try simp only [Exit.then]
              have hP := (HN6.out.2.1.row (.int .i64 1) (.bool true) (.int .i64 (e - (j : Int))) (.string (tx D)) (.int .i64 0)).cells
              refine bodyPost_ret (results_res rfl _ _ rfl hP.1 hP.2.1 hP.2.2.1 hP.2.2.2.1 hP.2.2.2.2.1) rfl ?_
              exact ⟨rfl, bel_row HN6.out.2.2.2.1 (by omega) _⟩
            · skip
              go_wp2_with fail
              refine (l12Finite_any true (tx D) (e - (j : Int)) _).mono ?_
              rintro x w6 ⟨rfl, hb6⟩
              have HN6 : Hid (NB w 1 true e (tx d) w6) := HN5.out.next hb6
              clear hb6 HN5
              have hbl := build_res0 1 true (e - (j : Int)) (tx D) w6
              go_wp2_with (refine wpList_store_row rfl 27 (.tmp 4) (.tmp 113) rfl (w.heap.size + 1) #[.int .i64 1, .bool true, .int .i64 (e - (j : Int)), .string (tx D), .int .i64 0] rfl rfl _ _ HN6.out.2.1 (by kernel_rfl) rfl (one5 _ _ _ _ _) (Hid.out ?_))
              refine nx_end (by assumption) ?_
              try simp only [Exit.then]
              have hP := (HN6.out.2.1.row (.int .i64 1) (.bool true) (.int .i64 (e - (j : Int))) (.string (tx D)) (.int .i64 0)).cells
              refine bodyPost_ret (results_res rfl _ _ rfl hP.1 hP.2.1 hP.2.2.1 hP.2.2.2.1 hP.2.2.2.2.1) rfl ?_
              exact ⟨rfl, bel_row HN6.out.2.2.2.1 (by omega) _⟩
          · clear hm2
            have hfit := Hfit.out
            clear Hfit
            go_wp2_with fail
            refine (HSb.out _).mono ?_
            rintro x w5 ⟨rfl, hb5⟩
            have HN5 : Hid (NB w 1 true e (tx d) w5) := HN3.out.next hb5
            clear hb5 HN3 HSb c0 c1 c2 c3 c4
            by_cases y4 : (D.length : Int) < (i : Int)
            · have y5 : ¬ low < e - (j : Int) := by omega
              go_wp2_with fail
              refine (l12Finite_any true (tx D) (e - (j : Int)) _).mono ?_
              rintro x w6 ⟨rfl, hb6⟩
              have HN6 : Hid (NB w 1 true e (tx d) w6) := HN5.out.next hb6
              clear hb6 HN5
              have hbl := build_res0 1 true (e - (j : Int)) (tx D) w6
              go_wp2_with (refine wpList_store_row rfl 27 (.tmp 4) (.tmp 113) rfl (w.heap.size + 1) #[.int .i64 1, .bool true, .int .i64 (e - (j : Int)), .string (tx D), .int .i64 0] rfl rfl _ _ HN6.out.2.1 (by kernel_rfl) rfl (one5 _ _ _ _ _) (Hid.out ?_))
              refine nx_end (by assumption) ?_
              try simp only [Exit.then]
              have hP := (HN6.out.2.1.row (.int .i64 1) (.bool true) (.int .i64 (e - (j : Int))) (.string (tx D)) (.int .i64 0)).cells
              refine bodyPost_ret (results_res rfl _ _ rfl hP.1 hP.2.1 hP.2.2.1 hP.2.2.2.1 hP.2.2.2.2.1) rfl ?_
              exact ⟨rfl, bel_row HN6.out.2.2.2.1 (by omega) _⟩
            · skip
              go_wp2_with fail
              refine (l12Finite_any true (tx D) (e - (j : Int)) _).mono ?_
              rintro x w6 ⟨rfl, hb6⟩
              have HN6 : Hid (NB w 1 true e (tx d) w6) := HN5.out.next hb6
              clear hb6 HN5
              have hbl := build_res0 1 true (e - (j : Int)) (tx D) w6
              go_wp2_with (refine wpList_store_row rfl 27 (.tmp 4) (.tmp 113) rfl (w.heap.size + 1) #[.int .i64 1, .bool true, .int .i64 (e - (j : Int)), .string (tx D), .int .i64 0] rfl rfl _ _ HN6.out.2.1 (by kernel_rfl) rfl (one5 _ _ _ _ _) (Hid.out ?_))
              refine nx_end (by assumption) ?_
              try simp only [Exit.then]
              have hP := (HN6.out.2.1.row (.int .i64 1) (.bool true) (.int .i64 (e - (j : Int))) (.string (tx D)) (.int .i64 0)).cells
              refine bodyPost_ret (results_res rfl _ _ rfl hP.1 hP.2.1 hP.2.2.1 hP.2.2.2.1 hP.2.2.2.2.1) rfl ?_
              exact ⟨rfl, bel_row HN6.out.2.2.2.1 (by omega) _⟩
end Go.Proofs.YtmndemegiimagatGreatDoor
