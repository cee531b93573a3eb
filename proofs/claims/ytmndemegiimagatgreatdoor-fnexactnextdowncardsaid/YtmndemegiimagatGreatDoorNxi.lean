/-
  The next number of the program, walked.
-/
import Derived.Test.YtmndemegiimagatGreatDoorNxq
import Derived.Test.YtmndemegiimagatGreatDoorOfn
import Derived.Test.YtmndemegiimagatGreatDoorFnc
import Derived.Test.YtmndemegiimagatGreatDoorSmL
import Derived.Test.YtmndemegiimagatGreatDoorQta
namespace Go.Proofs.YtmndemegiimagatGreatDoor
open Go.RowKit
set_option linter.unusedVariables false
set_option maxRecDepth 100000
set_option maxRecDepth 100000 in
theorem hairFor_any (f : Int) (hf : f = 64 ∨ f = 128) (w : World) : Calls Tryz.prog 24 #[.int .i64 f] w fun x w' => x = .returned (numV 1 false (limL f - 1) (tn 1)) ∧ Below w.heap.size w w' := by
  have HLm : Hid (∀ X, Calls Tryz.prog 42 #[.int .i64 f] X fun e w' => e = .returned (.tuple #[.int .i64 (limP f), .int .i64 (limL f), .int .i64 (limH f)]) ∧ Below X.heap.size X w') := fun X => iLimits_any f X
  obtain ⟨-, -, -, -, l1, l2⟩ := lims3 f hf
  have hl : limL f ≤ 6111 := by rcases hf with rfl | rfl <;> decide
  have hw : IntKind.i64.wrap (limL f - 1) = limL f - 1 := by rw [IntKind.wrap_i64]; omega
  have ht : tn 1 = { data := #[49] } := by rw [tn_tx, nt_1]; apply ByteArray.ext; rw [tx_data]; rfl
  rw [ht]
  have hbn := build_num 1 false (limL f - 1) { data := #[49] }
  have HZ : Hid (At4r (w.alloc (.cells #[.int .i64 0, .bool false, .int .i64 0, .string { data := #[] }] 25)) w.heap.size (.int .i64 0) (.bool false) (.int .i64 0) (.string { data := #[] }) ∧ Below w.heap.size w (w.alloc (.cells #[.int .i64 0, .bool false, .int .i64 0, .string { data := #[] }] 25))) := ⟨at4r_new w _ _ _ _, (Below.refl _ _).alloc (Nat.le_refl _) _⟩
  clear l1 l2 hl ht
  generalize limP f = PP at *
  generalize limL f = LL at *
  generalize limH f = HH at *
  go_enter Tryz.func24, Tryz.ntmps24
  go_wp2_with fail
  refine (HLm.out _).mono ?_
  rintro x w1 ⟨rfl, hb1⟩
  have HZ1 : Hid (At4r w1 w.heap.size (.int .i64 0) (.bool false) (.int .i64 0) (.string { data := #[] }) ∧ Below w.heap.size w w1) := ⟨HZ.out.1.next hb1, HZ.out.2.trans (hb1.mono HZ.out.2.size)⟩
  clear hb1 HZ HLm
  go_wp2_with (refine wpList_store_row rfl 25 (.tmp 2) (.tmp 14) rfl w.heap.size #[.int .i64 1, .bool false, .int .i64 (LL - 1), .string { data := #[49] }] rfl rfl _ _ HZ1.out.1 (by kernel_rfl) rfl (one4 _ _ _ _) ?_)
  have hP := (HZ1.out.1.row (.int .i64 1) (.bool false) (.int .i64 (LL - 1)) (.string { data := #[49] })).cells
  refine bodyPost_ret (results_num rfl _ _ rfl hP.1 hP.2.1 hP.2.2.1 hP.2.2.2.1) rfl ?_
  exact ⟨rfl, bel_row HZ1.out.2 (Nat.le_refl _) _⟩
theorem farthest_any (f : Int) (hf : f = 64 ∨ f = 128) (fm : Value) (hfm : fm = if f = 64 then .iface 61 (.agg #[]) else .iface 62 (.agg #[])) (neg : Bool) (w : World) : Calls Tryz.prog 22 #[fm, .bool neg] w fun x w' => x = .returned (numV 1 neg (limH f) (tx (List.replicate (limP f).toNat 9))) ∧ Below w.heap.size w w' := by
  rcases hf with rfl | rfl
  · rw [if_pos rfl] at hfm; subst hfm; exact farthest_64 neg w
  · rw [if_neg (by decide)] at hfm; subst hfm; exact farthest_128 neg w
theorem fmtOf_any (f : Int) (hf : f = 64 ∨ f = 128) (w : World) : Calls Tryz.prog 21 #[.int .i64 f] w fun e w' => e = .returned (.tuple #[if f = 64 then .iface 61 (.agg #[]) else .iface 62 (.agg #[]), .bool true]) ∧ w' = w := by
  rcases hf with rfl | rfl
  · exact fmtOf_64 w
  · exact fmtOf_128 w
/-- What is told of a right number that is no NaN. -/
def nuX (f : Int) (k : Int) (n : Bool) (e : Int) (s : ByteArray) : R5o :=
  if k = 2 then (if n then (true, (1, limH f, tx (List.replicate (limP f).toNat 9), 0)) else (false, (2, 0, { data := #[] }, 0)))
  else ((nxX f n e (dl s)).1, ((nxX f n e (dl s)).2.1, (nxX f n e (dl s)).2.2.1, (nxX f n e (dl s)).2.2.2, 0))
theorem inf_is (f : Int) (b : Bool) (e : Int) (s : ByteArray) (h : numB f 2 b e s = true) : e = 0 ∧ s = { data := #[] } := by
  unfold numB at h
  by_cases h0 : limP f = 0
  · rw [if_pos h0] at h; cases h
  rw [if_neg h0, if_neg (by decide), if_pos rfl] at h
  simp only [Bool.and_eq_true, decide_eq_true_eq] at h
  refine ⟨h.1, ?_⟩
  have h2 := h.2
  rw [ByteArray.toList_eq, List.isEmpty_iff] at h2
  apply ByteArray.ext
  exact Array.toList_eq_nil_iff.1 h2
/-- What the closure sees, and its own result. -/
def NuC (X : World) (p : Nat) (f k : Int) (n : Bool) (e : Int) (s : ByteArray) : Prop := X.cell? ⟨p, 0, none⟩ = some (.int .i64 f) ∧ At4r X (p + 1) (.int .i64 k) (.bool n) (.int .i64 e) (.string s) ∧ p < X.heap.size
theorem NuC.next {X X' : World} {p : Nat} {f k : Int} {n : Bool} {e : Int} {s : ByteArray} (h : NuC X p f k n e s) (hb : Below X.heap.size X X') : NuC X' p f k n e s := ⟨(hb.cell (p := ⟨p, 0, none⟩) h.2.2).trans h.1, h.2.1.next hb, Nat.lt_of_lt_of_le h.2.2 hb.size⟩
theorem field_res (k : Int) (b : Bool) (e : Int) (s : ByteArray) (fl : Int) (w : World) : (Instr.field 27 (rsV k b e s fl) 0).run Tryz.prog w = .ok (numV k b e s) w := by kernel_rfl
set_option maxRecDepth 100000 in
set_option maxHeartbeats 1000000 in
theorem next1_any (p : Nat) (f : Int) (k : Int) (n : Bool) (e : Int) (s : ByteArray) (X : World) (hr : numB f k n e s = true) (h3 : k ≠ 3) (h4 : k ≠ 4) (hC : NuC X p f k n e s) :
    Calls Tryz.prog 20 #[.pointer (some ⟨p + 1, 0, none⟩), .pointer (some ⟨p, 0, none⟩)] X fun x w' => (x = .returned (rsD (nuX f k n e s).1 (nuX f k n e s).2) ∨ x = thrown (rsD (nuX f k n e s).1 (nuX f k n e s).2)) ∧ Below X.heap.size X w' := by
  obtain ⟨hf, hs, hk12, h1⟩ := right_two f k n e s hr h3 h4
  have hZ := at5_new X (.int .i64 0) (.bool false) (.int .i64 0) (.string { data := #[] }) (.int .i64 0)
  have hb : Below X.heap.size X (X.alloc (.cells #[.int .i64 0, .bool false, .int .i64 0, .string { data := #[] }, .int .i64 0] 27)) := (Below.refl _ _).alloc (Nat.le_refl _) _
  have HZ : Hid (At5 (X.alloc (.cells #[.int .i64 0, .bool false, .int .i64 0, .string { data := #[] }, .int .i64 0] 27)) X.heap.size (.int .i64 0) (.bool false) (.int .i64 0) (.string { data := #[] }) (.int .i64 0) ∧ Below X.heap.size X (X.alloc (.cells #[.int .i64 0, .bool false, .int .i64 0, .string { data := #[] }, .int .i64 0] 27)) ∧ NuC (X.alloc (.cells #[.int .i64 0, .bool false, .int .i64 0, .string { data := #[] }, .int .i64 0] 27)) p f k n e s) := ⟨hZ, hb, hC.next hb⟩
  clear hZ hb hC
  have HH : Hid (∀ X, Calls Tryz.prog 24 #[.int .i64 f] X fun x w' => x = .returned (numV 1 false (limL f - 1) (tn 1)) ∧ Below X.heap.size X w') := fun X => hairFor_any f hf X
  obtain ⟨c0, ca, -⟩ := HZ.out.2.2
  obtain ⟨q0, q1, q2, q3, -⟩ := ca.cells
  clear ca
  rcases hk12 with rfl | rfl
  · -- finite
    obtain ⟨hc, hl, he, hh⟩ := h1 rfl
    obtain ⟨p2, p34, pP, lh, l1, l2⟩ := lims3 f hf
    have hb := vl_bd (dl s) hc.1
    have hln : (dl s).length ≤ (limP f).toNat := by omega
    obtain ⟨fl, e1, e2⟩ := nx_prog f hf n e (dl s) hc hln he hh
    have hsn : s = tn (vl (dl s)) := by rw [tn_tx, nt_vl (dl s) hc (by omega)]; exact hs
    have HF : Hid (∀ Y, Calls Tryz.prog 23 #[.int .i64 f, .int .i64 4, numV 1 n e s, numV 1 false (limL f - 1) (tn 1)] Y fun x w' => x = .returned (rsV (nxX f n e (dl s)).2.1 (nxX f n e (dl s)).1 (nxX f n e (dl s)).2.2.1 (nxX f n e (dl s)).2.2.2 fl) ∧ Below Y.heap.size Y w') := fun Y => by
      have := finishedSum_fin f 4 hf (by omega) n e (vl (dl s)) false (limL f - 1) 1 (dl s).length 1 Y hb.1 hb.2 (by decide) (by decide) (by have := hc.2.1; omega) (by decide) (by omega) (by omega) (by omega)
      rw [e1, e2, ← hsn] at this
      exact this
    have E : Hid (nuX f 1 n e s = ((nxX f n e (dl s)).1, ((nxX f n e (dl s)).2.1, (nxX f n e (dl s)).2.2.1, (nxX f n e (dl s)).2.2.2, 0))) := by show _ = _; unfold nuX; rw [if_neg (by decide)]
    rw [E.out]
    clear E e1 e2 hsn hb hln p2 p34 pP lh l1 l2 hc hl he hh h1 hs hr h3 h4 hf
    generalize nxX f n e (dl s) = R at *
    obtain ⟨R0, F1, F2, F3⟩ := R
    generalize tn 1 = T1 at *
    generalize limL f - 1 = L1 at *
    have hfr := field_res F1 R0 F2 F3 fl
    have hbr := build_res0 F1 R0 F2 F3
    go_enter Tryz.func20, Tryz.ntmps20
    go_upto_region 4 with fail
    generalize hX0 : X.alloc (.cells #[.int .i64 0, .bool false, .int .i64 0, .string { data := #[] }, .int .i64 0] 27) = X0 at *
    clear hX0
    have HX0 : Hid (Below X0.heap.size X0 X0.drew) := (Below.refl _ _).drew
    refine wp_region_tail (C := fun W => Below X0.heap.size X0 W) 4 (by kernel_rfl) (by kernel_rfl) HX0.out ?_
    simp only [List.take_succ_cons, List.take_zero, List.drop_succ_cons, List.drop_zero]
    repeat (refine wpQuiet_step (fun K hK => ?_); go_simp; first | (refine hK _ ?_; clear hK K) | (apply Exists.intro; refine ⟨fun wx hC => ?_, hK _ ?_⟩; (first | exact rfl | ((with_reducible refine Calls.class_of (HH.out wx) ?_); exact (fun w' hb => bel1 hC hb)) | (have u0 := (HZ.out.2.2.next hC).1; go_simp; exact rfl) | (obtain ⟨u0, u1, u2, u3, u4⟩ := (HZ.out.2.2.next hC).2.1.cells; go_simp; exact rfl)); clear hK K))
    refine wpQuiet_nil ?_
    intro w1 hb1
    have HZ1 : Hid (At5 w1 X.heap.size (.int .i64 0) (.bool false) (.int .i64 0) (.string { data := #[] }) (.int .i64 0) ∧ Below X.heap.size X w1) := ⟨HZ.out.1.below hb1 HZ.out.1.lt, HZ.out.2.1.trans (hb1.mono HZ.out.2.1.size)⟩
    clear hb1 HZ HX0 HH c0 q0 q1 q2 q3
    go_wp2_with fail
    refine (HF.out _).mono ?_
    rintro x w2 ⟨rfl, hb2⟩
    have HZ2 : Hid (At5 w2 X.heap.size (.int .i64 0) (.bool false) (.int .i64 0) (.string { data := #[] }) (.int .i64 0) ∧ Below X.heap.size X w2) := ⟨HZ1.out.1.below hb2 HZ1.out.1.lt, HZ1.out.2.trans (hb2.mono HZ1.out.2.size)⟩
    clear hb2 HZ1 HF
    go_wp2_with (refine wpList_store_row rfl 27 (.tmp 2) (.tmp 28) rfl X.heap.size #[.int .i64 F1, .bool R0, .int .i64 F2, .string F3, .int .i64 0] rfl rfl _ _ HZ2.out.1 (by kernel_rfl) rfl (one5 _ _ _ _ _) ?_)
    have hP := (HZ2.out.1.row (.int .i64 F1) (.bool R0) (.int .i64 F2) (.string F3) (.int .i64 0)).cells
    refine bodyPost_ret (results_res rfl _ _ rfl hP.1 hP.2.1 hP.2.2.1 hP.2.2.2.1 hP.2.2.2.2.1) rfl ?_
    exact ⟨.inl rfl, bel_row HZ2.out.2 (Nat.le_refl _) _⟩
  · -- infinite
    obtain ⟨rfl, rfl⟩ := inf_is f n e s hr
    cases n with
    | true =>
      have HFo : Hid (∀ X, Calls Tryz.prog 21 #[.int .i64 f] X fun e w' => e = .returned (.tuple #[if f = 64 then .iface 61 (.agg #[]) else .iface 62 (.agg #[]), .bool true]) ∧ w' = X) := fun X => fmtOf_any f hf X
      have HFa : Hid (∀ X, Calls Tryz.prog 22 #[if f = 64 then .iface 61 (.agg #[]) else .iface 62 (.agg #[]), .bool true] X fun x w' => x = .returned (numV 1 true (limH f) (tx (List.replicate (limP f).toNat 9))) ∧ Below X.heap.size X w') := fun X => farthest_any f hf _ rfl true X
      have E : Hid (nuX f 2 true 0 { data := #[] } = (true, (1, limH f, tx (List.replicate (limP f).toNat 9), 0))) := rfl
      rw [E.out]
      clear E HH hf h1 hs hr h3 h4
      generalize (if f = 64 then Value.iface 61 (.agg #[]) else .iface 62 (.agg #[])) = FM at *
      generalize tx (List.replicate (limP f).toNat 9) = NN at *
      generalize limH f = HI at *
      have hbr := build_res0 1 true HI NN
      go_enter Tryz.func20, Tryz.ntmps20
      go_wp2_with fail
      refine (HFo.out _).mono ?_
      rintro x w1 ⟨rfl, rfl⟩
      go_wp2_with fail
      refine (HFa.out _).mono ?_
      rintro x w2 ⟨rfl, hb2⟩
      have HZ2 : Hid (At5 w2 X.heap.size (.int .i64 0) (.bool false) (.int .i64 0) (.string { data := #[] }) (.int .i64 0) ∧ Below X.heap.size X w2) := ⟨HZ.out.1.below hb2 HZ.out.1.lt, HZ.out.2.1.trans (hb2.mono HZ.out.2.1.size)⟩
      clear hb2 HZ HFa HFo c0 q0 q1 q2 q3
      go_wp2_with (refine wpList_store_row rfl 27 (.tmp 2) (.tmp 21) rfl X.heap.size #[.int .i64 1, .bool true, .int .i64 HI, .string NN, .int .i64 0] rfl rfl _ _ HZ2.out.1 (by kernel_rfl) rfl (one5 _ _ _ _ _) ?_)
      have hP := (HZ2.out.1.row (.int .i64 1) (.bool true) (.int .i64 HI) (.string NN) (.int .i64 0)).cells
      refine bodyPost_ret (results_res rfl _ _ rfl hP.1 hP.2.1 hP.2.2.1 hP.2.2.2.1 hP.2.2.2.2.1) rfl ?_
      exact ⟨.inl rfl, bel_row HZ2.out.2 (Nat.le_refl _) _⟩
    | false =>
      have hti : tiE 2 (tw2 2 1) (tw2 false false) (tw2 0 (limL f - 1)) (tw2 { data := #[] } (tn 1)) = thrown (rsV 2 false 0 { data := #[] } 0) := by
        simp [tiE, tiX, tiA, tw2]
      have HF : Hid (∀ Y, Calls Tryz.prog 23 #[.int .i64 f, .int .i64 4, numV 2 false 0 { data := #[] }, numV 1 false (limL f - 1) (tn 1)] Y fun x w' => x = thrown (rsV 2 false 0 { data := #[] } 0) ∧ Below Y.heap.size Y w') := fun Y => finishedSum_thrown f 4 2 false 0 { data := #[] } 1 false (limL f - 1) (tn 1) Y _ hti
      have E : Hid (nuX f 2 false 0 { data := #[] } = (false, (2, 0, { data := #[] }, 0))) := rfl
      rw [E.out]
      clear E hti hf h1 hs hr h3 h4
      generalize tn 1 = T1 at *
      generalize limL f - 1 = L1 at *
      go_enter Tryz.func20, Tryz.ntmps20
      go_upto_region 4 with fail
      generalize hX0 : X.alloc (.cells #[.int .i64 0, .bool false, .int .i64 0, .string { data := #[] }, .int .i64 0] 27) = X0 at *
      clear hX0
      have HX0 : Hid (Below X0.heap.size X0 X0.drew) := (Below.refl _ _).drew
      refine wp_region_tail (C := fun W => Below X0.heap.size X0 W) 4 (by kernel_rfl) (by kernel_rfl) HX0.out ?_
      simp only [List.take_succ_cons, List.take_zero, List.drop_succ_cons, List.drop_zero]
      repeat (refine wpQuiet_step (fun K hK => ?_); go_simp; first | (refine hK _ ?_; clear hK K) | (apply Exists.intro; refine ⟨fun wx hC => ?_, hK _ ?_⟩; (first | exact rfl | ((with_reducible refine Calls.class_of (HH.out wx) ?_); exact (fun w' hb => bel1 hC hb)) | (have u0 := (HZ.out.2.2.next hC).1; go_simp; exact rfl) | (obtain ⟨u0, u1, u2, u3, u4⟩ := (HZ.out.2.2.next hC).2.1.cells; go_simp; exact rfl)); clear hK K))
      refine wpQuiet_nil ?_
      intro w1 hb1
      have HZ1 : Hid (Below X.heap.size X w1) := HZ.out.2.1.trans (hb1.mono HZ.out.2.1.size)
      clear hb1 HZ HX0 HH c0 q0 q1 q2 q3
      go_wp2_with fail
      refine (HF.out _).mono ?_
      rintro x w2 ⟨rfl, hb2⟩
      have HZ2 := HZ1.out.trans (hb2.mono HZ1.out.size)
      clear hb2 HZ1 HF
      go_wp2
      exact ⟨rfl, .inr rfl, HZ2⟩
set_option maxRecDepth 100000 in
set_option maxHeartbeats 1000000 in
theorem iNextUp_any (f : Int) (k : Int) (n : Bool) (e : Int) (s : ByteArray) (w : World) (hsa : s.size ≤ 4611686018427387904) :
    Calls Tryz.prog 8 #[.int .i64 f, numV k n e s] w fun x w' => x = .returned (rsD (ofR f 4 1 (fun _ => k) (fun _ => n) (fun _ => e) (fun _ => s) (nuX f k n e s)).1 (ofR f 4 1 (fun _ => k) (fun _ => n) (fun _ => e) (fun _ => s) (nuX f k n e s)).2) ∧ Below w.heap.size w w' := by
  have hmf : ∀ (fn : Fn) (first cap : Array Value) (w : World), (Instr.makeFunc fn first cap).run Tryz.prog w = .ok (.func fn first cap) w := fun _ _ _ _ => rfl
  have HE : ∀ args w, (callFunc 20 args).run Tryz.prog w = .ok (.enter 20 args) w := enters_of Tryz.func20 (by kernel_rfl) rfl
  -- the boxes: the format, the number, the result
  obtain ⟨W, hW⟩ : ∃ W, ((w.alloc (.cells #[.int .i64 f] 2)).alloc (.cells #[.int .i64 k, .bool n, .int .i64 e, .string s] 25)).alloc (.cells #[.int .i64 0, .bool false, .int .i64 0, .string { data := #[] }, .int .i64 0] 27) = W := ⟨_, rfl⟩
  have c1 := new_cell1 w (.int .i64 f) 2
  have z1 := new_size w (.cells #[.int .i64 f] 2)
  have b1 : Below w.heap.size w (w.alloc (.cells #[.int .i64 f] 2)) := (Below.refl _ _).alloc (Nat.le_refl _) _
  generalize hw1 : w.alloc (.cells #[.int .i64 f] 2) = w1 at *
  have h2 := at4r_new w1 (.int .i64 k) (.bool n) (.int .i64 e) (.string s)
  have z2 := new_size w1 (.cells #[.int .i64 k, .bool n, .int .i64 e, .string s] 25)
  have b2 : Below w1.heap.size w1 (w1.alloc (.cells #[.int .i64 k, .bool n, .int .i64 e, .string s] 25)) := (Below.refl _ _).alloc (Nat.le_refl _) _
  generalize hw2 : w1.alloc (.cells #[.int .i64 k, .bool n, .int .i64 e, .string s] 25) = w2 at *
  have h3 := at5_new w2 (.int .i64 0) (.bool false) (.int .i64 0) (.string { data := #[] }) (.int .i64 0)
  have z3 := new_size w2 (.cells #[.int .i64 0, .bool false, .int .i64 0, .string { data := #[] }, .int .i64 0] 27)
  have b3 : Below w2.heap.size w2 (w2.alloc (.cells #[.int .i64 0, .bool false, .int .i64 0, .string { data := #[] }, .int .i64 0] 27)) := (Below.refl _ _).alloc (Nat.le_refl _) _
  rw [hW] at h3 z3 b3
  rw [z1] at h2
  rw [z2, z1] at h3 z3
  have hC0 : NuC w1 w.heap.size f k n e s ∨ True := .inr trivial
  have hcW : NuC W w.heap.size f k n e s := by
    have hq : w2.cell? ⟨w.heap.size, 0, none⟩ = some (.int .i64 f) := (b2.cell (p := ⟨w.heap.size, 0, none⟩) (show w.heap.size < w1.heap.size by omega)).trans c1
    exact NuC.next (X := w2) ⟨hq, h2, by omega⟩ b3
  have hbW : Below w.heap.size w W := b1.trans ((b2.trans (b3.mono b2.size)).mono b1.size)
  have hR := at4r_new W (.int .i64 k) (.bool n) (.int .i64 e) (.string s)
  have hRb : Below W.heap.size W (W.alloc (.cells #[.int .i64 k, .bool n, .int .i64 e, .string s] 25)) := (Below.refl _ _).alloc (Nat.le_refl _) _
  have hN : NRw (W.alloc (.cells #[.int .i64 k, .bool n, .int .i64 e, .string s] 25)) W.heap.size 1 (fun _ => k) (fun _ => n) (fun _ => e) (fun _ => s) := by
    obtain ⟨q0, q1, q2, q3, -⟩ := hR.cells
    intro i hi
    obtain rfl : i = 0 := by omega
    exact ⟨q0, q1, q2, q3⟩
  have HO : Hid (Calls Tryz.prog 19 #[.int .i64 f, .int .i64 4, .func (.func 20) #[] #[.pointer (some ⟨w.heap.size + 1, 0, none⟩), .pointer (some ⟨w.heap.size, 0, none⟩)], .slice (some ⟨W.heap.size, 0, none⟩) 1 1] (W.alloc (.cells #[.int .i64 k, .bool n, .int .i64 e, .string s] 25)) fun x w' => x = .returned (rsD (ofR f 4 1 (fun _ => k) (fun _ => n) (fun _ => e) (fun _ => s) (nuX f k n e s)).1 (ofR f 4 1 (fun _ => k) (fun _ => n) (fun _ => e) (fun _ => s) (nuX f k n e s)).2) ∧ Below (W.alloc (.cells #[.int .i64 k, .bool n, .int .i64 e, .string s] 25)).heap.size (W.alloc (.cells #[.int .i64 k, .bool n, .int .i64 e, .string s] 25)) w') :=
    ofNumbers_any f 4 20 _ HE 1 W.heap.size (fun _ => k) (fun _ => n) (fun _ => e) (fun _ => s) (nuX f k n e s) _ (by decide) (by decide) hR.lt hN (fun i hi => hsa) (fun g1 g2 Y hY => by
      have hr : numB f k n e s = true := by
        unfold rightB at g1
        simp only [Bool.and_eq_true, decide_eq_true_eq] at g1
        exact g1.2 0 (by decide)
      have hn := of_decide_eq_false g2
      exact next1_any w.heap.size f k n e s Y hr (fun c => hn ⟨0, by decide, .inl c⟩) (fun c => hn ⟨0, by decide, .inr c⟩) ((hcW.next hRb).next hY))
  have HZ : Hid (At5 (W.alloc (.cells #[.int .i64 k, .bool n, .int .i64 e, .string s] 25)) (w.heap.size + 2) (.int .i64 0) (.bool false) (.int .i64 0) (.string { data := #[] }) (.int .i64 0) ∧ Below w.heap.size w (W.alloc (.cells #[.int .i64 k, .bool n, .int .i64 e, .string s] 25))) := ⟨h3.below hRb h3.lt, hbW.trans (hRb.mono hbW.size)⟩
  obtain ⟨r0, ra, -⟩ := hcW
  obtain ⟨a0, a1, a2, a3, -⟩ := ra.cells
  rw [z3] at HO
  rw [← hW, ← hw2, ← hw1] at HO HZ r0 a0 a1 a2 a3
  clear hW hw1 hw2 c1 z1 b1 h2 z2 b2 h3 z3 b3 hC0 hbW hR hRb hN ra hsa HE
  generalize ofR f 4 1 (fun _ => k) (fun _ => n) (fun _ => e) (fun _ => s) (nuX f k n e s) = R at *
  obtain ⟨R0, F1, F2, F3, F4⟩ := R
  go_enter Tryz.func8, Tryz.ntmps8
  go_wp2_with fail
  refine HO.out.mono ?_
  rintro x w4 ⟨rfl, hb4⟩
  have HZ1 : Hid (At5 w4 (w.heap.size + 2) (.int .i64 0) (.bool false) (.int .i64 0) (.string { data := #[] }) (.int .i64 0) ∧ Below w.heap.size w w4) := ⟨HZ.out.1.below hb4 HZ.out.1.lt, HZ.out.2.trans (hb4.mono HZ.out.2.size)⟩
  clear hb4 HZ HO r0 a0 a1 a2 a3
  go_wp2_with (refine wpList_store_row rfl 27 (.tmp 4) (.tmp 9) rfl (w.heap.size + 2) #[.int .i64 F1, .bool R0, .int .i64 F2, .string F3, .int .i64 F4] rfl rfl _ _ HZ1.out.1 (by kernel_rfl) rfl (one5 _ _ _ _ _) ?_)
  have hP := (HZ1.out.1.row (.int .i64 F1) (.bool R0) (.int .i64 F2) (.string F3) (.int .i64 F4)).cells
  refine bodyPost_ret (results_res rfl _ _ rfl hP.1 hP.2.1 hP.2.2.1 hP.2.2.2.1 hP.2.2.2.2.1) rfl ?_
  exact ⟨rfl, bel_row HZ1.out.2 (by omega) _⟩
end Go.Proofs.YtmndemegiimagatGreatDoor
