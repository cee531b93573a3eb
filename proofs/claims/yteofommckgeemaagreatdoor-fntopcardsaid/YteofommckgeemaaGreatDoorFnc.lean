/-
  Flags of what was rounded off, the preferred exponent, what is too great, by the program, walked.
-/
import Derived.Deep.LoopGhost
import Derived.Deep.CutBlock
import Derived.Test.YteofommckgeemaaGreatDoorSpa
import Derived.Test.YteofommckgeemaaGreatDoorFnb
namespace Go.Proofs.YteofommckgeemaaGreatDoor
open Go.RowKit
set_option linter.unusedVariables false
set_option maxRecDepth 100000
/-- Does the last digit's text end with a nought? -/
theorem suf0 (D : List Int) (hD : Dec D) (k : Nat) (hk : D.length = k + 1) : Lib.hasSuffix (tx D).data.toList [48] = decide (D.getD k 0 = 0) := by
  rw [← Lib.hasSuffix_of_drop, tx_bytes]
  have hl : (D.map fun d => UInt8.ofNat (48 + d).toNat).length = k + 1 := by simp [hk]
  rw [hl, decide_eq_true (show ([48] : List UInt8).length ≤ k + 1 by simp), Bool.true_and]
  have hkk : k < D.length := by omega
  have hd : (D.map fun d => UInt8.ofNat (48 + d).toNat).drop (k + 1 - ([48] : List UInt8).length) = [UInt8.ofNat (48 + D.getD k 0).toNat] := by
    rw [show k + 1 - ([48] : List UInt8).length = k by simp, ← List.map_drop, List.drop_eq_getElem_cons hkk, List.drop_eq_nil_of_le (by omega)]
    simp [List.getD, List.getElem?_eq_getElem hkk]
  rw [hd]
  have b := dec_at D hD k
  by_cases h : D.getD k 0 = 0
  · rw [h, decide_eq_true rfl]; rfl
  · rw [decide_eq_false h]
    have := fun q => h ((dig_byte_eq (D.getD k 0) 0 ⟨b.1, b.2⟩ (by decide)).1 q)
    simp only [List.cons_beq_cons, Bool.and_eq_false_iff]
    exact .inl (beq_eq_false_iff_ne.2 this)
/-- The world with a number's box. -/
abbrev bx1 (w : World) (s : ByteArray) (e : Int) : World := w.alloc (.cells #[.string s, .int .i64 e] 192)
abbrev b1C (w : World) (s : ByteArray) (e : Int) : World → Prop := fun W => Below (w.heap.size + 1) (bx1 w s e) W
theorem b1C_at {w : World} {s : ByteArray} {e : Int} {W : World} (h : b1C w s e W) : At2r W w.heap.size 192 (.string s) (.int .i64 e) ∧ Below w.heap.size w W :=
  ⟨(at2r_new w 192 (.string s) (.int .i64 e)).below h (by omega), ((Below.refl _ _).alloc (Nat.le_refl _) _).trans (h.mono (by omega))⟩
theorem b1C_next {w : World} {s : ByteArray} {e : Int} {W W' : World} (h : b1C w s e W) (hb : Below W.heap.size W W') : b1C w s e W' := h.trans (hb.mono (by have := h.size; simp at this; exact this))
theorem rep9_tx (n : Nat) : (⟨(Lib.repeatL [57] n).toArray⟩ : ByteArray) = tx (List.replicate n 9) := by
  have e : ∀ n, Lib.repeatL [57] n = List.replicate n 57 := fun n => by
    have := Lib.repeatL_replicate 57 1 n
    rw [Nat.mul_one] at this
    exact this
  apply ByteArray.ext
  rw [tx_data, e]
  simp
theorem rep9_any (n : Nat) (hn : n ≤ 600) (w : World) :
    Calls Tryz.prog 184 #[.string { data := #[57] }, .int .i64 n] w fun e w' => e = .returned (.string (tx (List.replicate n 9))) ∧ Below w.heap.size w w' := by
  have := Tryz.strings_Repeat { data := #[57] } n w (by omega) (by show 1 * n ≤ _; omega)
  rw [show ({ data := #[57] } : ByteArray).data.toList = [57] from rfl, rep9_tx] at this
  exact this
theorem build_cut (b : Bool) (w : World) : (Instr.build 249 #[(0, .bool b), (2, .int .i64 3)]).run Tryz.prog w = .ok (cutV b false 3) w := run_build w _ _ _ (by kernel_rfl)
/-- A mode's own word of what is too great. -/
theorem grow_over (mode : Int) (neg : Bool) (hm : 1 ≤ mode ∧ mode ≤ 5) : grw mode neg false 3 = !finG mode neg := by
  have hc : mode = 1 ∨ mode = 2 ∨ mode = 3 ∨ mode = 4 ∨ mode = 5 := by omega
  rcases hc with rfl | rfl | rfl | rfl | rfl <;> cases neg <;> rfl
set_option maxRecDepth 100000 in
set_option maxHeartbeats 1000000 in
theorem lossFlags_64 (D : List Int) (e : Int) (w : World) (hD : D.length ≤ 600) (he : -1000000 ≤ e ∧ e ≤ 1000000) :
    Calls Tryz.prog 167 #[.iface 208 (.agg #[]), scV (tx D) e] w fun x w' => x = .returned (.int .i64 (finF true (D.length + e) (-398) 16)) ∧ Below w.heap.size w w' := by
  have HSz : Hid (∀ X, Calls Tryz.prog 220 #[scV (tx D) e] X fun x w' => x = .returned (.int .i64 D.length) ∧ Below X.heap.size X w') := fun X => by
    have := scSize_any (tx D) e X (by rw [tx_size]; omega)
    rwa [tx_size] at this
  have HX0 : Hid (b1C w (tx D) e (bx1 w (tx D) e).drew) := (Below.refl _ _).drew
  have hw1 : IntKind.i64.wrap ((D.length : Int) + e) = (D.length : Int) + e := by rw [IntKind.wrap_i64]; omega
  obtain ⟨sz, hsz⟩ : ∃ sz, (D.length : Int) + e = sz := ⟨_, rfl⟩
  rw [hsz] at hw1
  by_cases h : sz ≤ (-398) + 16 - 1
  · have E : Hid (finF true (D.length + e) (-398) 16 = 24) := by show _ = _; unfold finF; rw [hsz, if_pos rfl]; exact if_pos (by omega)
    rw [E.out]
    have h' : sz < -382 := by omega
    have hlp : IntKind.i64.wrap (-382) = -382 := by decide
    clear h he hD
    go_enter Tryz.func167, Tryz.ntmps167
    go_upto_region 1 with fail
    refine wp_region_class (C := b1C w (tx D) e) (by kernel_rfl) (by kernel_rfl) HX0.out ?_
    repeat (refine wpQuiet_step (fun K hK => ?_); go_simp; first | (refine hK _ ?_; clear hK K) | (apply Exists.intro; refine ⟨fun wx hC => ?_, hK _ ?_⟩; (first | exact rfl | exact Calls.class_of (HSz.out wx) (fun w' hb => b1C_next hC hb) | (simp only [md_digitCount_64, md_leastExp_64]; go_simp; first | exact Calls.class_of (digitCount_64 wx) (fun w' hb => b1C_next hC hb) | exact Calls.class_of (leastExp_64 wx) (fun w' hb => b1C_next hC hb)) | (obtain ⟨q0, q1⟩ := (b1C_at hC).1.cells; go_simp; exact rfl)); clear hK K))
    refine wpQuiet_nil ?_
    intro w1 hb1
    have HB := (b1C_at hb1).2
    clear hb1
    go_wp2
    go_ret
    exact ⟨rfl, HB⟩
  · have E : Hid (finF true (D.length + e) (-398) 16 = 16) := by show _ = _; unfold finF; rw [hsz, if_pos rfl]; exact if_neg (by omega)
    rw [E.out]
    have h' : ¬ sz < -382 := by omega
    have hlp : IntKind.i64.wrap (-382) = -382 := by decide
    clear h he hD
    go_enter Tryz.func167, Tryz.ntmps167
    go_upto_region 1 with fail
    refine wp_region_class (C := b1C w (tx D) e) (by kernel_rfl) (by kernel_rfl) HX0.out ?_
    repeat (refine wpQuiet_step (fun K hK => ?_); go_simp; first | (refine hK _ ?_; clear hK K) | (apply Exists.intro; refine ⟨fun wx hC => ?_, hK _ ?_⟩; (first | exact rfl | exact Calls.class_of (HSz.out wx) (fun w' hb => b1C_next hC hb) | (simp only [md_digitCount_64, md_leastExp_64]; go_simp; first | exact Calls.class_of (digitCount_64 wx) (fun w' hb => b1C_next hC hb) | exact Calls.class_of (leastExp_64 wx) (fun w' hb => b1C_next hC hb)) | (obtain ⟨q0, q1⟩ := (b1C_at hC).1.cells; go_simp; exact rfl)); clear hK K))
    refine wpQuiet_nil ?_
    intro w1 hb1
    have HB := (b1C_at hb1).2
    clear hb1
    go_wp2
    go_ret
    exact ⟨rfl, HB⟩
set_option maxRecDepth 100000 in
set_option maxHeartbeats 1000000 in
theorem farthest_64 (neg : Bool) (w : World) :
    Calls Tryz.prog 175 #[.iface 208 (.agg #[]), .bool neg] w fun x w' => x = .returned (numV 1 neg 369 (tx (List.replicate 16 9))) ∧ Below w.heap.size w w' := by
  have HRp : Hid (∀ X, Calls Tryz.prog 184 #[.string { data := #[57] }, .int .i64 16] X fun e w' => e = .returned (.string (tx (List.replicate 16 9))) ∧ Below X.heap.size X w') := fun X => rep9_any 16 (by decide) X
  generalize tx (List.replicate 16 9) = NN at *
  have HZ : Hid (At4r (w.alloc (.cells #[.int .i64 0, .bool false, .int .i64 0, .string { data := #[] }] 78)) w.heap.size (.int .i64 0) (.bool false) (.int .i64 0) (.string { data := #[] }) ∧ Below w.heap.size w (w.alloc (.cells #[.int .i64 0, .bool false, .int .i64 0, .string { data := #[] }] 78))) := ⟨at4r_new w _ _ _ _, (Below.refl _ _).alloc (Nat.le_refl _) _⟩
  have hbn := build_num 1 neg 369 NN
  go_enter Tryz.func175, Tryz.ntmps175
  go_wp2_with fail
  refine (greatestExp_64 _).mono ?_
  rintro x w2 ⟨rfl, hb2⟩
  have HZ2 : Hid (At4r w2 w.heap.size (.int .i64 0) (.bool false) (.int .i64 0) (.string { data := #[] }) ∧ Below w.heap.size w w2) := ⟨HZ.out.1.next hb2, HZ.out.2.trans (hb2.mono HZ.out.2.size)⟩
  clear hb2 HZ
  go_wp2_with fail
  refine (digitCount_64 _).mono ?_
  rintro x w3 ⟨rfl, hb3⟩
  have HZ3 : Hid (At4r w3 w.heap.size (.int .i64 0) (.bool false) (.int .i64 0) (.string { data := #[] }) ∧ Below w.heap.size w w3) := ⟨HZ2.out.1.next hb3, HZ2.out.2.trans (hb3.mono HZ2.out.2.size)⟩
  clear hb3 HZ2
  go_wp2_with fail
  refine (HRp.out _).mono ?_
  rintro x w4 ⟨rfl, hb4⟩
  have HZ4 : Hid (At4r w4 w.heap.size (.int .i64 0) (.bool false) (.int .i64 0) (.string { data := #[] }) ∧ Below w.heap.size w w4) := ⟨HZ3.out.1.next hb4, HZ3.out.2.trans (hb4.mono HZ3.out.2.size)⟩
  clear hb4 HZ3 HRp
  go_wp2_with (refine wpList_store_row rfl 78 (.tmp 4) (.tmp 11) rfl w.heap.size #[.int .i64 1, .bool neg, .int .i64 369, .string NN] rfl rfl _ _ HZ4.out.1 (by kernel_rfl) rfl (one4 _ _ _ _) ?_)
  have hP := (HZ4.out.1.row (.int .i64 1) (.bool neg) (.int .i64 369) (.string NN)).cells
  refine bodyPost_ret (results_num rfl _ _ rfl hP.1 hP.2.1 hP.2.2.1 hP.2.2.2.1) rfl ?_
  exact ⟨rfl, bel_row HZ4.out.2 (Nat.le_refl _) _⟩
set_option maxRecDepth 100000 in
set_option maxHeartbeats 1000000 in
theorem overflow_64 (Fn : Nat) (mode : Int) (hm : 1 ≤ mode ∧ mode ≤ 5) (hent : ∀ args w, (callFunc Fn args).run Tryz.prog w = .ok (.enter Fn args) w)
    (HG : Hid (∀ neg od p, (p = 0 ∨ p = 1 ∨ p = 2 ∨ p = 3) → ∀ X, Calls Tryz.prog Fn #[cutV neg od p] X fun e w' => e = .returned (.bool (grw mode neg od p)) ∧ Below X.heap.size X w'))
    (neg : Bool) (w : World) :
    Calls Tryz.prog 170 #[.agg #[fnV Fn], .iface 208 (.agg #[]), .bool neg] w fun x w' => x = .returned (if finG mode neg then numV 1 neg 369 (tx (List.replicate 16 9)) else numV 2 neg 0 { data := #[] }) ∧ Below w.heap.size w w' := by
  have HGo : Hid (∀ X, Calls Tryz.prog Fn #[cutV neg false 3] X fun e w' => e = .returned (.bool (!finG mode neg)) ∧ Below X.heap.size X w') := fun X => by
    have := HG.out neg false 3 (by decide) X
    rwa [grow_over mode neg hm] at this
  clear HG
  have HFa : Hid (∀ X, Calls Tryz.prog 175 #[.iface 208 (.agg #[]), .bool neg] X fun x w' => x = .returned (numV 1 neg 369 (tx (List.replicate 16 9))) ∧ Below X.heap.size X w') := fun X => farthest_64 neg X
  generalize tx (List.replicate 16 9) = NN at *
  have hbc := build_cut neg
  generalize finG mode neg = G at *
  obtain ⟨RV, hRV⟩ : ∃ R, (if G then numV 1 neg 369 NN else numV 2 neg 0 { data := #[] }) = R := ⟨_, rfl⟩
  have HRV : Hid ((if G then numV 1 neg 369 NN else numV 2 neg 0 { data := #[] }) = RV) := hRV
  rw [hRV]
  clear hRV
  have hc := two_cell w (fnV Fn) 177 (.cells #[.int .i64 0, .bool false, .int .i64 0, .string { data := #[] }] 78)
  have HZ : Hid (At4r ((w.alloc (.cells #[fnV Fn] 177)).alloc (.cells #[.int .i64 0, .bool false, .int .i64 0, .string { data := #[] }] 78)) (w.heap.size + 1) (.int .i64 0) (.bool false) (.int .i64 0) (.string { data := #[] }) ∧ Below w.heap.size w ((w.alloc (.cells #[fnV Fn] 177)).alloc (.cells #[.int .i64 0, .bool false, .int .i64 0, .string { data := #[] }] 78))) := by
    have h2 := at4r_new (w.alloc (.cells #[fnV Fn] 177)) (.int .i64 0) (.bool false) (.int .i64 0) (.string { data := #[] })
    rw [show (w.alloc (.cells #[fnV Fn] 177)).heap.size = w.heap.size + 1 from new_size _ _] at h2
    exact ⟨h2, two_below _ _ _⟩
  go_enter Tryz.func170, Tryz.ntmps170
  go_wp2_with fail
  refine (HGo.out _).mono ?_
  rintro x w1 ⟨rfl, hb1⟩
  have HZ1 : Hid (At4r w1 (w.heap.size + 1) (.int .i64 0) (.bool false) (.int .i64 0) (.string { data := #[] }) ∧ Below w.heap.size w w1) := ⟨HZ.out.1.next hb1, HZ.out.2.trans (hb1.mono HZ.out.2.size)⟩
  clear hb1 HZ HGo hc hbc
  cases G with
  | true =>
    simp only [Bool.not_true]
    go_wp2_with fail
    refine (HFa.out _).mono ?_
    rintro x w4 ⟨rfl, hb4⟩
    have HZ4 : Hid (At4r w4 (w.heap.size + 1) (.int .i64 0) (.bool false) (.int .i64 0) (.string { data := #[] }) ∧ Below w.heap.size w w4) := ⟨HZ1.out.1.next hb4, HZ1.out.2.trans (hb4.mono HZ1.out.2.size)⟩
    clear hb4 HZ1 HFa
    go_wp2_with (refine wpList_store_row rfl 78 (.tmp 6) (.tmp 16) rfl (w.heap.size + 1) #[.int .i64 1, .bool neg, .int .i64 369, .string NN] rfl rfl _ _ HZ4.out.1 (by kernel_rfl) rfl (one4 _ _ _ _) ?_)
    have hP := (HZ4.out.1.row (.int .i64 1) (.bool neg) (.int .i64 369) (.string NN)).cells
    refine bodyPost_ret (results_num rfl _ _ rfl hP.1 hP.2.1 hP.2.2.1 hP.2.2.2.1) rfl ?_
    exact ⟨by rw [← HRV.out]; rfl, bel_row HZ4.out.2 (by omega) _⟩
  | false =>
    have hbi := build_inf neg
    simp only [Bool.not_false]
    go_wp2_with (refine wpList_store_row rfl 78 (.tmp 6) (.tmp 13) rfl (w.heap.size + 1) #[.int .i64 2, .bool neg, .int .i64 0, .string { data := #[] }] rfl rfl _ _ HZ1.out.1 (by kernel_rfl) rfl (one4 _ _ _ _) ?_)
    have hP := (HZ1.out.1.row (.int .i64 2) (.bool neg) (.int .i64 0) (.string { data := #[] })).cells
    refine bodyPost_ret (results_num rfl _ _ rfl hP.1 hP.2.1 hP.2.2.1 hP.2.2.2.1) rfl ?_
    exact ⟨by rw [← HRV.out]; rfl, bel_row HZ1.out.2 (by omega) _⟩
set_option maxRecDepth 100000 in
set_option maxHeartbeats 1000000 in
theorem lossFlags_128 (D : List Int) (e : Int) (w : World) (hD : D.length ≤ 600) (he : -1000000 ≤ e ∧ e ≤ 1000000) :
    Calls Tryz.prog 167 #[.iface 211 (.agg #[]), scV (tx D) e] w fun x w' => x = .returned (.int .i64 (finF true (D.length + e) (-6176) 34)) ∧ Below w.heap.size w w' := by
  have HSz : Hid (∀ X, Calls Tryz.prog 220 #[scV (tx D) e] X fun x w' => x = .returned (.int .i64 D.length) ∧ Below X.heap.size X w') := fun X => by
    have := scSize_any (tx D) e X (by rw [tx_size]; omega)
    rwa [tx_size] at this
  have HX0 : Hid (b1C w (tx D) e (bx1 w (tx D) e).drew) := (Below.refl _ _).drew
  have hw1 : IntKind.i64.wrap ((D.length : Int) + e) = (D.length : Int) + e := by rw [IntKind.wrap_i64]; omega
  obtain ⟨sz, hsz⟩ : ∃ sz, (D.length : Int) + e = sz := ⟨_, rfl⟩
  rw [hsz] at hw1
  by_cases h : sz ≤ (-6176) + 34 - 1
  · have E : Hid (finF true (D.length + e) (-6176) 34 = 24) := by show _ = _; unfold finF; rw [hsz, if_pos rfl]; exact if_pos (by omega)
    rw [E.out]
    have h' : sz < -6142 := by omega
    have hlp : IntKind.i64.wrap (-6142) = -6142 := by decide
    clear h he hD
    go_enter Tryz.func167, Tryz.ntmps167
    go_upto_region 1 with fail
    refine wp_region_class (C := b1C w (tx D) e) (by kernel_rfl) (by kernel_rfl) HX0.out ?_
    repeat (refine wpQuiet_step (fun K hK => ?_); go_simp; first | (refine hK _ ?_; clear hK K) | (apply Exists.intro; refine ⟨fun wx hC => ?_, hK _ ?_⟩; (first | exact rfl | exact Calls.class_of (HSz.out wx) (fun w' hb => b1C_next hC hb) | (simp only [md_digitCount_128, md_leastExp_128]; go_simp; first | exact Calls.class_of (digitCount_128 wx) (fun w' hb => b1C_next hC hb) | exact Calls.class_of (leastExp_128 wx) (fun w' hb => b1C_next hC hb)) | (obtain ⟨q0, q1⟩ := (b1C_at hC).1.cells; go_simp; exact rfl)); clear hK K))
    refine wpQuiet_nil ?_
    intro w1 hb1
    have HB := (b1C_at hb1).2
    clear hb1
    go_wp2
    go_ret
    exact ⟨rfl, HB⟩
  · have E : Hid (finF true (D.length + e) (-6176) 34 = 16) := by show _ = _; unfold finF; rw [hsz, if_pos rfl]; exact if_neg (by omega)
    rw [E.out]
    have h' : ¬ sz < -6142 := by omega
    have hlp : IntKind.i64.wrap (-6142) = -6142 := by decide
    clear h he hD
    go_enter Tryz.func167, Tryz.ntmps167
    go_upto_region 1 with fail
    refine wp_region_class (C := b1C w (tx D) e) (by kernel_rfl) (by kernel_rfl) HX0.out ?_
    repeat (refine wpQuiet_step (fun K hK => ?_); go_simp; first | (refine hK _ ?_; clear hK K) | (apply Exists.intro; refine ⟨fun wx hC => ?_, hK _ ?_⟩; (first | exact rfl | exact Calls.class_of (HSz.out wx) (fun w' hb => b1C_next hC hb) | (simp only [md_digitCount_128, md_leastExp_128]; go_simp; first | exact Calls.class_of (digitCount_128 wx) (fun w' hb => b1C_next hC hb) | exact Calls.class_of (leastExp_128 wx) (fun w' hb => b1C_next hC hb)) | (obtain ⟨q0, q1⟩ := (b1C_at hC).1.cells; go_simp; exact rfl)); clear hK K))
    refine wpQuiet_nil ?_
    intro w1 hb1
    have HB := (b1C_at hb1).2
    clear hb1
    go_wp2
    go_ret
    exact ⟨rfl, HB⟩
set_option maxRecDepth 100000 in
set_option maxHeartbeats 1000000 in
theorem farthest_128 (neg : Bool) (w : World) :
    Calls Tryz.prog 175 #[.iface 211 (.agg #[]), .bool neg] w fun x w' => x = .returned (numV 1 neg 6111 (tx (List.replicate 34 9))) ∧ Below w.heap.size w w' := by
  have HRp : Hid (∀ X, Calls Tryz.prog 184 #[.string { data := #[57] }, .int .i64 34] X fun e w' => e = .returned (.string (tx (List.replicate 34 9))) ∧ Below X.heap.size X w') := fun X => rep9_any 34 (by decide) X
  generalize tx (List.replicate 34 9) = NN at *
  have HZ : Hid (At4r (w.alloc (.cells #[.int .i64 0, .bool false, .int .i64 0, .string { data := #[] }] 78)) w.heap.size (.int .i64 0) (.bool false) (.int .i64 0) (.string { data := #[] }) ∧ Below w.heap.size w (w.alloc (.cells #[.int .i64 0, .bool false, .int .i64 0, .string { data := #[] }] 78))) := ⟨at4r_new w _ _ _ _, (Below.refl _ _).alloc (Nat.le_refl _) _⟩
  have hbn := build_num 1 neg 6111 NN
  go_enter Tryz.func175, Tryz.ntmps175
  go_wp2_with fail
  refine (greatestExp_128 _).mono ?_
  rintro x w2 ⟨rfl, hb2⟩
  have HZ2 : Hid (At4r w2 w.heap.size (.int .i64 0) (.bool false) (.int .i64 0) (.string { data := #[] }) ∧ Below w.heap.size w w2) := ⟨HZ.out.1.next hb2, HZ.out.2.trans (hb2.mono HZ.out.2.size)⟩
  clear hb2 HZ
  go_wp2_with fail
  refine (digitCount_128 _).mono ?_
  rintro x w3 ⟨rfl, hb3⟩
  have HZ3 : Hid (At4r w3 w.heap.size (.int .i64 0) (.bool false) (.int .i64 0) (.string { data := #[] }) ∧ Below w.heap.size w w3) := ⟨HZ2.out.1.next hb3, HZ2.out.2.trans (hb3.mono HZ2.out.2.size)⟩
  clear hb3 HZ2
  go_wp2_with fail
  refine (HRp.out _).mono ?_
  rintro x w4 ⟨rfl, hb4⟩
  have HZ4 : Hid (At4r w4 w.heap.size (.int .i64 0) (.bool false) (.int .i64 0) (.string { data := #[] }) ∧ Below w.heap.size w w4) := ⟨HZ3.out.1.next hb4, HZ3.out.2.trans (hb4.mono HZ3.out.2.size)⟩
  clear hb4 HZ3 HRp
  go_wp2_with (refine wpList_store_row rfl 78 (.tmp 4) (.tmp 11) rfl w.heap.size #[.int .i64 1, .bool neg, .int .i64 6111, .string NN] rfl rfl _ _ HZ4.out.1 (by kernel_rfl) rfl (one4 _ _ _ _) ?_)
  have hP := (HZ4.out.1.row (.int .i64 1) (.bool neg) (.int .i64 6111) (.string NN)).cells
  refine bodyPost_ret (results_num rfl _ _ rfl hP.1 hP.2.1 hP.2.2.1 hP.2.2.2.1) rfl ?_
  exact ⟨rfl, bel_row HZ4.out.2 (Nat.le_refl _) _⟩
set_option maxRecDepth 100000 in
set_option maxHeartbeats 1000000 in
theorem overflow_128 (Fn : Nat) (mode : Int) (hm : 1 ≤ mode ∧ mode ≤ 5) (hent : ∀ args w, (callFunc Fn args).run Tryz.prog w = .ok (.enter Fn args) w)
    (HG : Hid (∀ neg od p, (p = 0 ∨ p = 1 ∨ p = 2 ∨ p = 3) → ∀ X, Calls Tryz.prog Fn #[cutV neg od p] X fun e w' => e = .returned (.bool (grw mode neg od p)) ∧ Below X.heap.size X w'))
    (neg : Bool) (w : World) :
    Calls Tryz.prog 170 #[.agg #[fnV Fn], .iface 211 (.agg #[]), .bool neg] w fun x w' => x = .returned (if finG mode neg then numV 1 neg 6111 (tx (List.replicate 34 9)) else numV 2 neg 0 { data := #[] }) ∧ Below w.heap.size w w' := by
  have HGo : Hid (∀ X, Calls Tryz.prog Fn #[cutV neg false 3] X fun e w' => e = .returned (.bool (!finG mode neg)) ∧ Below X.heap.size X w') := fun X => by
    have := HG.out neg false 3 (by decide) X
    rwa [grow_over mode neg hm] at this
  clear HG
  have HFa : Hid (∀ X, Calls Tryz.prog 175 #[.iface 211 (.agg #[]), .bool neg] X fun x w' => x = .returned (numV 1 neg 6111 (tx (List.replicate 34 9))) ∧ Below X.heap.size X w') := fun X => farthest_128 neg X
  generalize tx (List.replicate 34 9) = NN at *
  have hbc := build_cut neg
  generalize finG mode neg = G at *
  obtain ⟨RV, hRV⟩ : ∃ R, (if G then numV 1 neg 6111 NN else numV 2 neg 0 { data := #[] }) = R := ⟨_, rfl⟩
  have HRV : Hid ((if G then numV 1 neg 6111 NN else numV 2 neg 0 { data := #[] }) = RV) := hRV
  rw [hRV]
  clear hRV
  have hc := two_cell w (fnV Fn) 177 (.cells #[.int .i64 0, .bool false, .int .i64 0, .string { data := #[] }] 78)
  have HZ : Hid (At4r ((w.alloc (.cells #[fnV Fn] 177)).alloc (.cells #[.int .i64 0, .bool false, .int .i64 0, .string { data := #[] }] 78)) (w.heap.size + 1) (.int .i64 0) (.bool false) (.int .i64 0) (.string { data := #[] }) ∧ Below w.heap.size w ((w.alloc (.cells #[fnV Fn] 177)).alloc (.cells #[.int .i64 0, .bool false, .int .i64 0, .string { data := #[] }] 78))) := by
    have h2 := at4r_new (w.alloc (.cells #[fnV Fn] 177)) (.int .i64 0) (.bool false) (.int .i64 0) (.string { data := #[] })
    rw [show (w.alloc (.cells #[fnV Fn] 177)).heap.size = w.heap.size + 1 from new_size _ _] at h2
    exact ⟨h2, two_below _ _ _⟩
  go_enter Tryz.func170, Tryz.ntmps170
  go_wp2_with fail
  refine (HGo.out _).mono ?_
  rintro x w1 ⟨rfl, hb1⟩
  have HZ1 : Hid (At4r w1 (w.heap.size + 1) (.int .i64 0) (.bool false) (.int .i64 0) (.string { data := #[] }) ∧ Below w.heap.size w w1) := ⟨HZ.out.1.next hb1, HZ.out.2.trans (hb1.mono HZ.out.2.size)⟩
  clear hb1 HZ HGo hc hbc
  cases G with
  | true =>
    simp only [Bool.not_true]
    go_wp2_with fail
    refine (HFa.out _).mono ?_
    rintro x w4 ⟨rfl, hb4⟩
    have HZ4 : Hid (At4r w4 (w.heap.size + 1) (.int .i64 0) (.bool false) (.int .i64 0) (.string { data := #[] }) ∧ Below w.heap.size w w4) := ⟨HZ1.out.1.next hb4, HZ1.out.2.trans (hb4.mono HZ1.out.2.size)⟩
    clear hb4 HZ1 HFa
    go_wp2_with (refine wpList_store_row rfl 78 (.tmp 6) (.tmp 16) rfl (w.heap.size + 1) #[.int .i64 1, .bool neg, .int .i64 6111, .string NN] rfl rfl _ _ HZ4.out.1 (by kernel_rfl) rfl (one4 _ _ _ _) ?_)
    have hP := (HZ4.out.1.row (.int .i64 1) (.bool neg) (.int .i64 6111) (.string NN)).cells
    refine bodyPost_ret (results_num rfl _ _ rfl hP.1 hP.2.1 hP.2.2.1 hP.2.2.2.1) rfl ?_
    exact ⟨by rw [← HRV.out]; rfl, bel_row HZ4.out.2 (by omega) _⟩
  | false =>
    have hbi := build_inf neg
    simp only [Bool.not_false]
    go_wp2_with (refine wpList_store_row rfl 78 (.tmp 6) (.tmp 13) rfl (w.heap.size + 1) #[.int .i64 2, .bool neg, .int .i64 0, .string { data := #[] }] rfl rfl _ _ HZ1.out.1 (by kernel_rfl) rfl (one4 _ _ _ _) ?_)
    have hP := (HZ1.out.1.row (.int .i64 2) (.bool neg) (.int .i64 0) (.string { data := #[] })).cells
    refine bodyPost_ret (results_num rfl _ _ rfl hP.1 hP.2.1 hP.2.2.1 hP.2.2.2.1) rfl ?_
    exact ⟨by rw [← HRV.out]; rfl, bel_row HZ1.out.2 (by omega) _⟩
end Go.Proofs.YteofommckgeemaaGreatDoor
