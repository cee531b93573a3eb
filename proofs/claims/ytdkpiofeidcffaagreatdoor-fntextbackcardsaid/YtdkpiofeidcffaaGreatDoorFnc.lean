/-
  Flags of what was rounded off, the preferred exponent, what is too great, by the program, walked.
-/
import Derived.Test.YtdkpiofeidcffaaGreatDoorQtl
import Derived.Test.YtdkpiofeidcffaaGreatDoorRdl
import Derived.Test.YtdkpiofeidcffaaGreatDoorIsR2
import Derived.Test.YtdkpiofeidcffaaGreatDoorSmA
import Derived.Test.YtdkpiofeidcffaaGreatDoorBx4r
import Derived.Deep.LoopGhost
import Derived.Deep.CutBlock
namespace Go.Proofs.YtdkpiofeidcffaaGreatDoor
open Go.RowKit
set_option linter.unusedVariables false
set_option maxRecDepth 100000
/-- Digits times ten to the exponent. -/
abbrev scV (s : ByteArray) (e : Int) : Value := .agg #[.string s, .int .i64 e]
/-- Two cells in a block, which may be written. -/
def At2r (W : World) (b : Nat) (T : TypeId) (x y : Value) : Prop := W.heap[b]? = some (.cells #[x, y] T (0, 0))
theorem at2r_new (w : World) (T : TypeId) (x y : Value) : At2r (w.alloc (.cells #[x, y] T)) w.heap.size T x y := (MapKept.heap_alloc w (.cells #[x, y] T)).1
theorem At2r.cells {w : World} {b : Nat} {T : TypeId} {x y : Value} (h : At2r w b T x y) : w.cell? ⟨b, 0, none⟩ = some x ∧ w.cell? ⟨b, 1, none⟩ = some y := by
  unfold At2r at h
  exact ⟨by simp [World.cell?, h], by simp [World.cell?, h]⟩
theorem At2r.lt {w : World} {b : Nat} {T : TypeId} {x y : Value} (h : At2r w b T x y) : b < w.heap.size := (Array.getElem?_eq_some_iff.1 h).1
theorem At2r.below {w w' : World} {b B : Nat} {T : TypeId} {x y : Value} (h : At2r w b T x y) (hb : Below B w w') (hB : b < B) : At2r w' b T x y := (hb.block b hB).trans h
theorem At2r.row {w : World} {b : Nat} {T : TypeId} {x y : Value} (h : At2r w b T x y) (x' y' : Value) : At2r (w.setRow b #[x', y']) b T x' y' := setRow_heap w b _ _ _ _ h
theorem At2r.other {w : World} {b c : Nat} {T : TypeId} {x y : Value} (h : At2r w b T x y) (hc : b ≠ c) (cs : Array Value) : At2r (w.setRow c cs) b T x y := (setRow_other w c b cs hc).trans h
theorem one2 (s : ByteArray) (e : Int) : (#[.string s, .int .i64 e] : Array Value).all (·.oneCell') = true := by simp [Value.oneCell']
theorem results_sc {fn : Func} {p : Tmp} {b : Nat} {x y : Value} (h : fn.results = #[.cell p 65]) (tmps : Array Value) (w : World) (hp : tmps[p]?.getD undef = .pointer (some ⟨b, 0, none⟩))
    (q0 : w.cell? ⟨b, 0, none⟩ = some x) (q1 : w.cell? ⟨b, 1, none⟩ = some y) : (results fn tmps).run Tryz.prog w = .ok (.agg #[x, y]) w := by
  simp [results, h, hp, go_sem, q0, q1]
theorem build_sc (s : ByteArray) (e : Int) (w : World) : (Instr.build 65 #[(0, .string s), (1, .int .i64 e)]).run Tryz.prog w = .ok (scV s e) w := run_build w _ _ _ (by kernel_rfl)
theorem scSize_any (s : ByteArray) (e : Int) (w : World) (hs : s.size ≤ 4611686018427387904) :
    Calls Tryz.prog 85 #[scV s e] w fun x w' => x = .returned (.int .i64 s.size) ∧ Below w.heap.size w w' := by
  go_enter Tryz.func85, Tryz.ntmps85
  go_wp2
  go_ret
  exact ⟨rfl, (Below.refl _ _).alloc (Nat.le_refl _) _⟩
/-- The world with a number's box and a result's. -/
abbrev bx2 (w : World) (s : ByteArray) (e : Int) : World := (w.alloc (.cells #[.string s, .int .i64 e] 65)).alloc (.cells #[.string { data := #[] }, .int .i64 0] 65)
theorem bx2_size (w : World) (s : ByteArray) (e : Int) : (bx2 w s e).heap.size = w.heap.size + 1 + 1 := by simp
theorem bx2_at (w : World) (s : ByteArray) (e : Int) : At2r (bx2 w s e) w.heap.size 65 (.string s) (.int .i64 e) ∧ At2r (bx2 w s e) (w.heap.size + 1) 65 (.string { data := #[] }) (.int .i64 0) ∧ Below w.heap.size w (bx2 w s e) := by
  have h1 := at2r_new w 65 (.string s) (.int .i64 e)
  have h2 := at2r_new (w.alloc (.cells #[.string s, .int .i64 e] 65)) 65 (.string { data := #[] }) (.int .i64 0)
  rw [show (w.alloc (.cells #[.string s, .int .i64 e] 65)).heap.size = w.heap.size + 1 by simp] at h2
  exact ⟨h1.below ((Below.refl _ _).alloc (Nat.le_refl _) _) h1.lt, h2, bel_two _ _ _⟩
/-- The class of worlds in such a region: what lay there is as it was. -/
abbrev bxC (w : World) (s : ByteArray) (e : Int) : World → Prop := fun W => Below (w.heap.size + 1 + 1) (bx2 w s e) W
theorem bxC_at {w : World} {s : ByteArray} {e : Int} {W : World} (h : bxC w s e W) : At2r W w.heap.size 65 (.string s) (.int .i64 e) ∧ At2r W (w.heap.size + 1) 65 (.string { data := #[] }) (.int .i64 0) ∧ Below w.heap.size w W := by
  obtain ⟨a, b, c⟩ := bx2_at w s e
  exact ⟨a.below h (by omega), b.below h (by omega), c.trans (h.mono (by omega))⟩
theorem bxC_next {w : World} {s : ByteArray} {e : Int} {W W' : World} (h : bxC w s e W) (hb : Below W.heap.size W W') : bxC w s e W' := h.trans (hb.mono (by have := h.size; rw [bx2_size] at this; exact this))
set_option maxRecDepth 100000 in
theorem followed_any (D : List Int) (e : Int) (n : Nat) (w : World) (hD : D.length ≤ 600) (hn : n ≤ 600) (he : -1000000 ≤ e ∧ e ≤ 1000000) :
    Calls Tryz.prog 86 #[scV (tx D) e, .int .i64 n] w fun x w' => x = .returned (scV (tx (D ++ List.replicate n 0)) (e - n)) ∧ Below w.heap.size w w' := by
  have HR : Hid (∀ X, Calls Tryz.prog 74 #[.string { data := #[48] }, .int .i64 n] X fun e w' => e = .returned (.string (tx (List.replicate n 0))) ∧ Below X.heap.size X w') := fun X => rep0_any n hn X
  have HX0 : Hid (bxC w (tx D) e (bx2 w (tx D) e).drew) := (Below.refl _ _).drew
  have hap := tx_append D (List.replicate n 0)
  have sz1 := tx_size D
  have sz2 : (tx (List.replicate n 0)).size = n := by rw [tx_size, List.length_replicate]
  have hw : IntKind.i64.wrap (e - (n : Int)) = e - n := by rw [IntKind.wrap_i64]; omega
  have hbl := build_sc (tx (D ++ List.replicate n 0)) (e - n)
  have hbig : ¬ 9223372036854775807 < D.length + n := by omega
  go_enter Tryz.func86, Tryz.ntmps86
  go_upto_region 1 with fail
  refine wp_region_tail (C := bxC w (tx D) e) 9 (by kernel_rfl) (by kernel_rfl) HX0.out ?_
  simp only [List.take_succ_cons, List.take_zero, List.drop_succ_cons, List.drop_zero]
  repeat (refine wpQuiet_step (fun K hK => ?_); go_simp; first | (refine hK _ ?_; clear hK K) | (apply Exists.intro; refine ⟨fun wx hC => ?_, hK _ ?_⟩; (first | exact rfl | exact Calls.class_of (HR.out wx) (fun w' hb => bxC_next hC hb) | (obtain ⟨q0, q1⟩ := (bxC_at hC).1.cells; go_simp; exact rfl)); clear hK K))
  refine wpQuiet_nil ?_
  intro w1 hb1
  obtain ⟨-, hA, hB⟩ := bxC_at hb1
  have HA : Hid (At2r w1 (w.heap.size + 1) 65 (.string { data := #[] }) (.int .i64 0) ∧ Below w.heap.size w w1) := ⟨hA, hB⟩
  clear hb1 hA hB
  go_wp2_with (refine wpList_store_row rfl 65 (.tmp 4) (.tmp 14) rfl (w.heap.size + 1) #[.string (tx (D ++ List.replicate n 0)), .int .i64 (e - n)] rfl rfl _ _ HA.out.1 (by kernel_rfl) rfl (one2 _ _) ?_)
  have hP := (HA.out.1.row (.string (tx (D ++ List.replicate n 0))) (.int .i64 (e - n))).cells
  refine bodyPost_ret (results_sc rfl _ _ rfl hP.1 hP.2) rfl ?_
  exact ⟨rfl, bel_row HA.out.2 (by omega) _⟩
end Go.Proofs.YtdkpiofeidcffaaGreatDoor
namespace Go.Proofs.YtdkpiofeidcffaaGreatDoor
open Go.RowKit
set_option linter.unusedVariables false
set_option maxRecDepth 100000
theorem maxN (m n : Int) : (max (0 : Int) (min m n)).toNat = min m.toNat n.toNat := by omega
set_option maxRecDepth 100000 in
set_option maxHeartbeats 1000000 in
theorem lowered_64 (D : List Int) (e hi : Int) (w : World) (hD : D.length ≤ 600) (he : -1000000 ≤ e ∧ e ≤ 1000000) (hh : -1000000 ≤ hi ∧ hi ≤ 1000000) :
    Calls Tryz.prog 67 #[scV (tx D) e, .iface 88 (.agg #[]), .int .i64 hi] w fun x w' => x = .returned (scV (tx (D ++ List.replicate (fC D.length 16 e hi) 0)) (e - fC D.length 16 e hi)) ∧ Below w.heap.size w w' := by
  obtain ⟨n, hn⟩ : ∃ n : Nat, fC D.length 16 e hi = n := ⟨_, rfl⟩
  rw [hn]
  have hn34 : n ≤ 34 := by rw [← hn]; unfold fC; omega
  have HN : Hid (fC D.length 16 e hi = n) := hn
  have hmx : max (0 : Int) (min (e - hi) (16 - (D.length : Int))) = (n : Int) := by rw [← hn]; unfold fC; omega
  clear hn
  have HF : Hid (∀ X, Calls Tryz.prog 86 #[scV (tx D) e, .int .i64 n] X fun x w' => x = .returned (scV (tx (D ++ List.replicate n 0)) (e - n)) ∧ Below X.heap.size X w') := fun X => followed_any D e n X hD (by omega) he
  have HSz : Hid (∀ X, Calls Tryz.prog 85 #[scV (tx D) e] X fun x w' => x = .returned (.int .i64 D.length) ∧ Below X.heap.size X w') := fun X => by
    have := scSize_any (tx D) e X (by rw [tx_size]; omega)
    rwa [tx_size] at this
  have HX0 : Hid (bxC w (tx D) e (bx2 w (tx D) e).drew) := (Below.refl _ _).drew
  have hw1 : IntKind.i64.wrap (e - hi) = e - hi := by rw [IntKind.wrap_i64]; omega
  have hw2 : IntKind.i64.wrap (16 - (D.length : Int)) = 16 - (D.length : Int) := by rw [IntKind.wrap_i64]; omega
  clear hh
  go_enter Tryz.func67, Tryz.ntmps67
  go_upto_region 1 with fail
  refine wp_region_tail (C := bxC w (tx D) e) 12 (by kernel_rfl) (by kernel_rfl) HX0.out ?_
  simp only [List.take_succ_cons, List.take_zero, List.drop_succ_cons, List.drop_zero]
  repeat (refine wpQuiet_step (fun K hK => ?_); go_simp; first | (refine hK _ ?_; clear hK K) | (apply Exists.intro; refine ⟨fun wx hC => ?_, hK _ ?_⟩; (first | exact rfl | exact Calls.class_of (HSz.out wx) (fun w' hb => bxC_next hC hb) | (simp only [md_digitCount_64]; go_simp; exact Calls.class_of (digitCount_64 wx) (fun w' hb => bxC_next hC hb)) | (obtain ⟨q0, q1⟩ := (bxC_at hC).1.cells; go_simp; exact rfl)); clear hK K))
  refine wpQuiet_nil ?_
  intro w1 hb1
  obtain ⟨-, hA, hB⟩ := bxC_at hb1
  have HA : Hid (At2r w1 (w.heap.size + 1) 65 (.string { data := #[] }) (.int .i64 0) ∧ Below w.heap.size w w1) := ⟨hA, hB⟩
  clear hb1 hA hB HX0 HSz
  go_wp2_with fail
  refine (HF.out _).mono ?_
  rintro x w2 ⟨rfl, hb2⟩
  have HA2 : Hid (At2r w2 (w.heap.size + 1) 65 (.string { data := #[] }) (.int .i64 0) ∧ Below w.heap.size w w2) := ⟨HA.out.1.below hb2 HA.out.1.lt, HA.out.2.trans (hb2.mono HA.out.2.size)⟩
  clear hb2 HA HF
  go_wp2_with (refine wpList_store_row rfl 65 (.tmp 6) (.tmp 19) rfl (w.heap.size + 1) #[.string (tx (D ++ List.replicate n 0)), .int .i64 (e - n)] rfl rfl _ _ HA2.out.1 (by kernel_rfl) rfl (one2 _ _) ?_)
  have hP := (HA2.out.1.row (.string (tx (D ++ List.replicate n 0))) (.int .i64 (e - n))).cells
  refine bodyPost_ret (results_sc rfl _ _ rfl hP.1 hP.2) rfl ?_
  exact ⟨rfl, bel_row HA2.out.2 (by omega) _⟩
set_option maxRecDepth 100000 in
set_option maxHeartbeats 1000000 in
theorem lowered_128 (D : List Int) (e hi : Int) (w : World) (hD : D.length ≤ 600) (he : -1000000 ≤ e ∧ e ≤ 1000000) (hh : -1000000 ≤ hi ∧ hi ≤ 1000000) :
    Calls Tryz.prog 67 #[scV (tx D) e, .iface 89 (.agg #[]), .int .i64 hi] w fun x w' => x = .returned (scV (tx (D ++ List.replicate (fC D.length 34 e hi) 0)) (e - fC D.length 34 e hi)) ∧ Below w.heap.size w w' := by
  obtain ⟨n, hn⟩ : ∃ n : Nat, fC D.length 34 e hi = n := ⟨_, rfl⟩
  rw [hn]
  have hn34 : n ≤ 34 := by rw [← hn]; unfold fC; omega
  have HN : Hid (fC D.length 34 e hi = n) := hn
  have hmx : max (0 : Int) (min (e - hi) (34 - (D.length : Int))) = (n : Int) := by rw [← hn]; unfold fC; omega
  clear hn
  have HF : Hid (∀ X, Calls Tryz.prog 86 #[scV (tx D) e, .int .i64 n] X fun x w' => x = .returned (scV (tx (D ++ List.replicate n 0)) (e - n)) ∧ Below X.heap.size X w') := fun X => followed_any D e n X hD (by omega) he
  have HSz : Hid (∀ X, Calls Tryz.prog 85 #[scV (tx D) e] X fun x w' => x = .returned (.int .i64 D.length) ∧ Below X.heap.size X w') := fun X => by
    have := scSize_any (tx D) e X (by rw [tx_size]; omega)
    rwa [tx_size] at this
  have HX0 : Hid (bxC w (tx D) e (bx2 w (tx D) e).drew) := (Below.refl _ _).drew
  have hw1 : IntKind.i64.wrap (e - hi) = e - hi := by rw [IntKind.wrap_i64]; omega
  have hw2 : IntKind.i64.wrap (34 - (D.length : Int)) = 34 - (D.length : Int) := by rw [IntKind.wrap_i64]; omega
  clear hh
  go_enter Tryz.func67, Tryz.ntmps67
  go_upto_region 1 with fail
  refine wp_region_tail (C := bxC w (tx D) e) 12 (by kernel_rfl) (by kernel_rfl) HX0.out ?_
  simp only [List.take_succ_cons, List.take_zero, List.drop_succ_cons, List.drop_zero]
  repeat (refine wpQuiet_step (fun K hK => ?_); go_simp; first | (refine hK _ ?_; clear hK K) | (apply Exists.intro; refine ⟨fun wx hC => ?_, hK _ ?_⟩; (first | exact rfl | exact Calls.class_of (HSz.out wx) (fun w' hb => bxC_next hC hb) | (simp only [md_digitCount_128]; go_simp; exact Calls.class_of (digitCount_128 wx) (fun w' hb => bxC_next hC hb)) | (obtain ⟨q0, q1⟩ := (bxC_at hC).1.cells; go_simp; exact rfl)); clear hK K))
  refine wpQuiet_nil ?_
  intro w1 hb1
  obtain ⟨-, hA, hB⟩ := bxC_at hb1
  have HA : Hid (At2r w1 (w.heap.size + 1) 65 (.string { data := #[] }) (.int .i64 0) ∧ Below w.heap.size w w1) := ⟨hA, hB⟩
  clear hb1 hA hB HX0 HSz
  go_wp2_with fail
  refine (HF.out _).mono ?_
  rintro x w2 ⟨rfl, hb2⟩
  have HA2 : Hid (At2r w2 (w.heap.size + 1) 65 (.string { data := #[] }) (.int .i64 0) ∧ Below w.heap.size w w2) := ⟨HA.out.1.below hb2 HA.out.1.lt, HA.out.2.trans (hb2.mono HA.out.2.size)⟩
  clear hb2 HA HF
  go_wp2_with (refine wpList_store_row rfl 65 (.tmp 6) (.tmp 19) rfl (w.heap.size + 1) #[.string (tx (D ++ List.replicate n 0)), .int .i64 (e - n)] rfl rfl _ _ HA2.out.1 (by kernel_rfl) rfl (one2 _ _) ?_)
  have hP := (HA2.out.1.row (.string (tx (D ++ List.replicate n 0))) (.int .i64 (e - n))).cells
  refine bodyPost_ret (results_sc rfl _ _ rfl hP.1 hP.2) rfl ?_
  exact ⟨rfl, bel_row HA2.out.2 (by omega) _⟩
end Go.Proofs.YtdkpiofeidcffaaGreatDoor
namespace Go.Proofs.YtdkpiofeidcffaaGreatDoor
open Go.RowKit
set_option linter.unusedVariables false
set_option maxRecDepth 100000
/-- Does the last digit's text end with a nought? -/
theorem suf0 (D : List Int) (hD : Dec D) (k : Nat) (hk : D.length = k + 1) : Lib.hasSuffix (tx D).data.toList [48] = decide (D.getD k 0 = 0) := by
  rw [← Lib.hasSuffix_of_drop, tx_bytes]
  have hl : (D.map fun d => UInt8.ofNat (48 + d).toNat).length = k + 1 := by simp [hk]
  rw [hl, decide_eq_true (show ([48] : List UInt8).length ≤ k + 1 by simp), Bool.true_and]
  have hkk : k < D.length := by omega
  have hd : (D.map fun d => UInt8.ofNat (48 + d).toNat).drop (k + 1 - ([48] : List UInt8).length) = [UInt8.ofNat (48 + D.getD k 0).toNat] := by
    rw [show k + 1 - ([48] : List UInt8).length = k by simp, ← List.map_drop, List.drop_eq_getElem_cons hkk, List.drop_eq_nil_of_le (by omega)]
    simp [List.getD, List.getElem?_eq_getElem hkk]
  rw [hd]
  have b := dec_at D hD k
  by_cases h : D.getD k 0 = 0
  · rw [h, decide_eq_true rfl]; rfl
  · rw [decide_eq_false h]
    have := fun q => h ((dig_byte_eq (D.getD k 0) 0 ⟨b.1, b.2⟩ (by decide)).1 q)
    simp only [List.cons_beq_cons, Bool.and_eq_false_iff]
    exact .inl (beq_eq_false_iff_ne.2 this)
/-- The world with a number's box. -/
abbrev bx1 (w : World) (s : ByteArray) (e : Int) : World := w.alloc (.cells #[.string s, .int .i64 e] 65)
abbrev b1C (w : World) (s : ByteArray) (e : Int) : World → Prop := fun W => Below (w.heap.size + 1) (bx1 w s e) W
theorem b1C_at {w : World} {s : ByteArray} {e : Int} {W : World} (h : b1C w s e W) : At2r W w.heap.size 65 (.string s) (.int .i64 e) ∧ Below w.heap.size w W :=
  ⟨(at2r_new w 65 (.string s) (.int .i64 e)).below h (by omega), ((Below.refl _ _).alloc (Nat.le_refl _) _).trans (h.mono (by omega))⟩
theorem b1C_next {w : World} {s : ByteArray} {e : Int} {W W' : World} (h : b1C w s e W) (hb : Below W.heap.size W W') : b1C w s e W' := h.trans (hb.mono (by have := h.size; simp at this; exact this))
theorem rep9_tx (n : Nat) : (⟨(Lib.repeatL [57] n).toArray⟩ : ByteArray) = tx (List.replicate n 9) := by
  have e : ∀ n, Lib.repeatL [57] n = List.replicate n 57 := fun n => by
    have := Lib.repeatL_replicate 57 1 n
    rw [Nat.mul_one] at this
    exact this
  apply ByteArray.ext
  rw [tx_data, e]
  simp
theorem rep9_any (n : Nat) (hn : n ≤ 600) (w : World) :
    Calls Tryz.prog 74 #[.string { data := #[57] }, .int .i64 n] w fun e w' => e = .returned (.string (tx (List.replicate n 9))) ∧ Below w.heap.size w w' := by
  have := Tryz.strings_Repeat { data := #[57] } n w (by omega) (by show 1 * n ≤ _; omega)
  rw [show ({ data := #[57] } : ByteArray).data.toList = [57] from rfl, rep9_tx] at this
  exact this
theorem build_cut (b : Bool) (w : World) : (Instr.build 116 #[(0, .bool b), (2, .int .i64 3)]).run Tryz.prog w = .ok (cutV b false 3) w := run_build w _ _ _ (by kernel_rfl)
/-- A mode's own word of what is too great. -/
theorem grow_over (mode : Int) (neg : Bool) (hm : 1 ≤ mode ∧ mode ≤ 5) : grw mode neg false 3 = !finG mode neg := by
  have hc : mode = 1 ∨ mode = 2 ∨ mode = 3 ∨ mode = 4 ∨ mode = 5 := by omega
  rcases hc with rfl | rfl | rfl | rfl | rfl <;> cases neg <;> rfl
set_option maxRecDepth 100000 in
set_option maxHeartbeats 1000000 in
theorem lossFlags_64 (D : List Int) (e : Int) (w : World) (hD : D.length ≤ 600) (he : -1000000 ≤ e ∧ e ≤ 1000000) :
    Calls Tryz.prog 65 #[.iface 88 (.agg #[]), scV (tx D) e] w fun x w' => x = .returned (.int .i64 (finF true (D.length + e) (-398) 16)) ∧ Below w.heap.size w w' := by
  have HSz : Hid (∀ X, Calls Tryz.prog 85 #[scV (tx D) e] X fun x w' => x = .returned (.int .i64 D.length) ∧ Below X.heap.size X w') := fun X => by
    have := scSize_any (tx D) e X (by rw [tx_size]; omega)
    rwa [tx_size] at this
  have HX0 : Hid (b1C w (tx D) e (bx1 w (tx D) e).drew) := (Below.refl _ _).drew
  have hw1 : IntKind.i64.wrap ((D.length : Int) + e) = (D.length : Int) + e := by rw [IntKind.wrap_i64]; omega
  obtain ⟨sz, hsz⟩ : ∃ sz, (D.length : Int) + e = sz := ⟨_, rfl⟩
  rw [hsz] at hw1
  by_cases h : sz ≤ (-398) + 16 - 1
  · have E : Hid (finF true (D.length + e) (-398) 16 = 24) := by show _ = _; unfold finF; rw [hsz, if_pos rfl]; exact if_pos (by omega)
    rw [E.out]
    have h' : sz < -382 := by omega
    have hlp : IntKind.i64.wrap (-382) = -382 := by decide
    clear h he hD
    go_enter Tryz.func65, Tryz.ntmps65
    go_upto_region 1 with fail
    refine wp_region_class (C := b1C w (tx D) e) (by kernel_rfl) (by kernel_rfl) HX0.out ?_
    repeat (refine wpQuiet_step (fun K hK => ?_); go_simp; first | (refine hK _ ?_; clear hK K) | (apply Exists.intro; refine ⟨fun wx hC => ?_, hK _ ?_⟩; (first | exact rfl | exact Calls.class_of (HSz.out wx) (fun w' hb => b1C_next hC hb) | (simp only [md_digitCount_64, md_leastExp_64]; go_simp; first | exact Calls.class_of (digitCount_64 wx) (fun w' hb => b1C_next hC hb) | exact Calls.class_of (leastExp_64 wx) (fun w' hb => b1C_next hC hb)) | (obtain ⟨q0, q1⟩ := (b1C_at hC).1.cells; go_simp; exact rfl)); clear hK K))
    refine wpQuiet_nil ?_
    intro w1 hb1
    have HB := (b1C_at hb1).2
    clear hb1
    go_wp2
    go_ret
    exact ⟨rfl, HB⟩
  · have E : Hid (finF true (D.length + e) (-398) 16 = 16) := by show _ = _; unfold finF; rw [hsz, if_pos rfl]; exact if_neg (by omega)
    rw [E.out]
    have h' : ¬ sz < -382 := by omega
    have hlp : IntKind.i64.wrap (-382) = -382 := by decide
    clear h he hD
    go_enter Tryz.func65, Tryz.ntmps65
    go_upto_region 1 with fail
    refine wp_region_class (C := b1C w (tx D) e) (by kernel_rfl) (by kernel_rfl) HX0.out ?_
    repeat (refine wpQuiet_step (fun K hK => ?_); go_simp; first | (refine hK _ ?_; clear hK K) | (apply Exists.intro; refine ⟨fun wx hC => ?_, hK _ ?_⟩; (first | exact rfl | exact Calls.class_of (HSz.out wx) (fun w' hb => b1C_next hC hb) | (simp only [md_digitCount_64, md_leastExp_64]; go_simp; first | exact Calls.class_of (digitCount_64 wx) (fun w' hb => b1C_next hC hb) | exact Calls.class_of (leastExp_64 wx) (fun w' hb => b1C_next hC hb)) | (obtain ⟨q0, q1⟩ := (b1C_at hC).1.cells; go_simp; exact rfl)); clear hK K))
    refine wpQuiet_nil ?_
    intro w1 hb1
    have HB := (b1C_at hb1).2
    clear hb1
    go_wp2
    go_ret
    exact ⟨rfl, HB⟩
set_option maxRecDepth 100000 in
set_option maxHeartbeats 1000000 in
theorem farthest_64 (neg : Bool) (w : World) :
    Calls Tryz.prog 89 #[.iface 88 (.agg #[]), .bool neg] w fun x w' => x = .returned (numV 1 neg 369 (tx (List.replicate 16 9))) ∧ Below w.heap.size w w' := by
  have HRp : Hid (∀ X, Calls Tryz.prog 74 #[.string { data := #[57] }, .int .i64 16] X fun e w' => e = .returned (.string (tx (List.replicate 16 9))) ∧ Below X.heap.size X w') := fun X => rep9_any 16 (by decide) X
  generalize tx (List.replicate 16 9) = NN at *
  have HZ : Hid (At4r (w.alloc (.cells #[.int .i64 0, .bool false, .int .i64 0, .string { data := #[] }] 25)) w.heap.size (.int .i64 0) (.bool false) (.int .i64 0) (.string { data := #[] }) ∧ Below w.heap.size w (w.alloc (.cells #[.int .i64 0, .bool false, .int .i64 0, .string { data := #[] }] 25))) := ⟨at4r_new w _ _ _ _, (Below.refl _ _).alloc (Nat.le_refl _) _⟩
  have hbn := build_num 1 neg 369 NN
  go_enter Tryz.func89, Tryz.ntmps89
  go_wp2_with fail
  refine (greatestExp_64 _).mono ?_
  rintro x w2 ⟨rfl, hb2⟩
  have HZ2 : Hid (At4r w2 w.heap.size (.int .i64 0) (.bool false) (.int .i64 0) (.string { data := #[] }) ∧ Below w.heap.size w w2) := ⟨HZ.out.1.next hb2, HZ.out.2.trans (hb2.mono HZ.out.2.size)⟩
  clear hb2 HZ
  go_wp2_with fail
  refine (digitCount_64 _).mono ?_
  rintro x w3 ⟨rfl, hb3⟩
  have HZ3 : Hid (At4r w3 w.heap.size (.int .i64 0) (.bool false) (.int .i64 0) (.string { data := #[] }) ∧ Below w.heap.size w w3) := ⟨HZ2.out.1.next hb3, HZ2.out.2.trans (hb3.mono HZ2.out.2.size)⟩
  clear hb3 HZ2
  go_wp2_with fail
  refine (HRp.out _).mono ?_
  rintro x w4 ⟨rfl, hb4⟩
  have HZ4 : Hid (At4r w4 w.heap.size (.int .i64 0) (.bool false) (.int .i64 0) (.string { data := #[] }) ∧ Below w.heap.size w w4) := ⟨HZ3.out.1.next hb4, HZ3.out.2.trans (hb4.mono HZ3.out.2.size)⟩
  clear hb4 HZ3 HRp
  go_wp2_with (refine wpList_store_row rfl 25 (.tmp 4) (.tmp 11) rfl w.heap.size #[.int .i64 1, .bool neg, .int .i64 369, .string NN] rfl rfl _ _ HZ4.out.1 (by kernel_rfl) rfl (one4 _ _ _ _) ?_)
  have hP := (HZ4.out.1.row (.int .i64 1) (.bool neg) (.int .i64 369) (.string NN)).cells
  refine bodyPost_ret (results_num rfl _ _ rfl hP.1 hP.2.1 hP.2.2.1 hP.2.2.2.1) rfl ?_
  exact ⟨rfl, bel_row HZ4.out.2 (Nat.le_refl _) _⟩
set_option maxRecDepth 100000 in
set_option maxHeartbeats 1000000 in
theorem overflow_64 (Fn : Nat) (mode : Int) (hm : 1 ≤ mode ∧ mode ≤ 5) (hent : ∀ args w, (callFunc Fn args).run Tryz.prog w = .ok (.enter Fn args) w)
    (HG : Hid (∀ neg od p, (p = 0 ∨ p = 1 ∨ p = 2 ∨ p = 3) → ∀ X, Calls Tryz.prog Fn #[cutV neg od p] X fun e w' => e = .returned (.bool (grw mode neg od p)) ∧ Below X.heap.size X w'))
    (neg : Bool) (w : World) :
    Calls Tryz.prog 68 #[.agg #[fnV Fn], .iface 88 (.agg #[]), .bool neg] w fun x w' => x = .returned (if finG mode neg then numV 1 neg 369 (tx (List.replicate 16 9)) else numV 2 neg 0 { data := #[] }) ∧ Below w.heap.size w w' := by
  have HGo : Hid (∀ X, Calls Tryz.prog Fn #[cutV neg false 3] X fun e w' => e = .returned (.bool (!finG mode neg)) ∧ Below X.heap.size X w') := fun X => by
    have := HG.out neg false 3 (by decide) X
    rwa [grow_over mode neg hm] at this
  clear HG
  have HFa : Hid (∀ X, Calls Tryz.prog 89 #[.iface 88 (.agg #[]), .bool neg] X fun x w' => x = .returned (numV 1 neg 369 (tx (List.replicate 16 9))) ∧ Below X.heap.size X w') := fun X => farthest_64 neg X
  generalize tx (List.replicate 16 9) = NN at *
  have hbc := build_cut neg
  generalize finG mode neg = G at *
  obtain ⟨RV, hRV⟩ : ∃ R, (if G then numV 1 neg 369 NN else numV 2 neg 0 { data := #[] }) = R := ⟨_, rfl⟩
  have HRV : Hid ((if G then numV 1 neg 369 NN else numV 2 neg 0 { data := #[] }) = RV) := hRV
  rw [hRV]
  clear hRV
  have hc := two_cell w (fnV Fn) 55 (.cells #[.int .i64 0, .bool false, .int .i64 0, .string { data := #[] }] 25)
  have HZ : Hid (At4r ((w.alloc (.cells #[fnV Fn] 55)).alloc (.cells #[.int .i64 0, .bool false, .int .i64 0, .string { data := #[] }] 25)) (w.heap.size + 1) (.int .i64 0) (.bool false) (.int .i64 0) (.string { data := #[] }) ∧ Below w.heap.size w ((w.alloc (.cells #[fnV Fn] 55)).alloc (.cells #[.int .i64 0, .bool false, .int .i64 0, .string { data := #[] }] 25))) := by
    have h2 := at4r_new (w.alloc (.cells #[fnV Fn] 55)) (.int .i64 0) (.bool false) (.int .i64 0) (.string { data := #[] })
    rw [show (w.alloc (.cells #[fnV Fn] 55)).heap.size = w.heap.size + 1 from new_size _ _] at h2
    exact ⟨h2, two_below _ _ _⟩
  go_enter Tryz.func68, Tryz.ntmps68
  go_wp2_with fail
  refine (HGo.out _).mono ?_
  rintro x w1 ⟨rfl, hb1⟩
  have HZ1 : Hid (At4r w1 (w.heap.size + 1) (.int .i64 0) (.bool false) (.int .i64 0) (.string { data := #[] }) ∧ Below w.heap.size w w1) := ⟨HZ.out.1.next hb1, HZ.out.2.trans (hb1.mono HZ.out.2.size)⟩
  clear hb1 HZ HGo hc hbc
  cases G with
  | true =>
    simp only [Bool.not_true]
    go_wp2_with fail
    refine (HFa.out _).mono ?_
    rintro x w4 ⟨rfl, hb4⟩
    have HZ4 : Hid (At4r w4 (w.heap.size + 1) (.int .i64 0) (.bool false) (.int .i64 0) (.string { data := #[] }) ∧ Below w.heap.size w w4) := ⟨HZ1.out.1.next hb4, HZ1.out.2.trans (hb4.mono HZ1.out.2.size)⟩
    clear hb4 HZ1 HFa
    go_wp2_with (refine wpList_store_row rfl 25 (.tmp 6) (.tmp 16) rfl (w.heap.size + 1) #[.int .i64 1, .bool neg, .int .i64 369, .string NN] rfl rfl _ _ HZ4.out.1 (by kernel_rfl) rfl (one4 _ _ _ _) ?_)
    have hP := (HZ4.out.1.row (.int .i64 1) (.bool neg) (.int .i64 369) (.string NN)).cells
    refine bodyPost_ret (results_num rfl _ _ rfl hP.1 hP.2.1 hP.2.2.1 hP.2.2.2.1) rfl ?_
    exact ⟨by rw [← HRV.out]; rfl, bel_row HZ4.out.2 (by omega) _⟩
  | false =>
    have hbi := build_inf neg
    simp only [Bool.not_false]
    go_wp2_with (refine wpList_store_row rfl 25 (.tmp 6) (.tmp 13) rfl (w.heap.size + 1) #[.int .i64 2, .bool neg, .int .i64 0, .string { data := #[] }] rfl rfl _ _ HZ1.out.1 (by kernel_rfl) rfl (one4 _ _ _ _) ?_)
    have hP := (HZ1.out.1.row (.int .i64 2) (.bool neg) (.int .i64 0) (.string { data := #[] })).cells
    refine bodyPost_ret (results_num rfl _ _ rfl hP.1 hP.2.1 hP.2.2.1 hP.2.2.2.1) rfl ?_
    exact ⟨by rw [← HRV.out]; rfl, bel_row HZ1.out.2 (by omega) _⟩
set_option maxRecDepth 100000 in
set_option maxHeartbeats 1000000 in
theorem lossFlags_128 (D : List Int) (e : Int) (w : World) (hD : D.length ≤ 600) (he : -1000000 ≤ e ∧ e ≤ 1000000) :
    Calls Tryz.prog 65 #[.iface 89 (.agg #[]), scV (tx D) e] w fun x w' => x = .returned (.int .i64 (finF true (D.length + e) (-6176) 34)) ∧ Below w.heap.size w w' := by
  have HSz : Hid (∀ X, Calls Tryz.prog 85 #[scV (tx D) e] X fun x w' => x = .returned (.int .i64 D.length) ∧ Below X.heap.size X w') := fun X => by
    have := scSize_any (tx D) e X (by rw [tx_size]; omega)
    rwa [tx_size] at this
  have HX0 : Hid (b1C w (tx D) e (bx1 w (tx D) e).drew) := (Below.refl _ _).drew
  have hw1 : IntKind.i64.wrap ((D.length : Int) + e) = (D.length : Int) + e := by rw [IntKind.wrap_i64]; omega
  obtain ⟨sz, hsz⟩ : ∃ sz, (D.length : Int) + e = sz := ⟨_, rfl⟩
  rw [hsz] at hw1
  by_cases h : sz ≤ (-6176) + 34 - 1
  · have E : Hid (finF true (D.length + e) (-6176) 34 = 24) := by show _ = _; unfold finF; rw [hsz, if_pos rfl]; exact if_pos (by omega)
    rw [E.out]
    have h' : sz < -6142 := by omega
    have hlp : IntKind.i64.wrap (-6142) = -6142 := by decide
    clear h he hD
    go_enter Tryz.func65, Tryz.ntmps65
    go_upto_region 1 with fail
    refine wp_region_class (C := b1C w (tx D) e) (by kernel_rfl) (by kernel_rfl) HX0.out ?_
    repeat (refine wpQuiet_step (fun K hK => ?_); go_simp; first | (refine hK _ ?_; clear hK K) | (apply Exists.intro; refine ⟨fun wx hC => ?_, hK _ ?_⟩; (first | exact rfl | exact Calls.class_of (HSz.out wx) (fun w' hb => b1C_next hC hb) | (simp only [md_digitCount_128, md_leastExp_128]; go_simp; first | exact Calls.class_of (digitCount_128 wx) (fun w' hb => b1C_next hC hb) | exact Calls.class_of (leastExp_128 wx) (fun w' hb => b1C_next hC hb)) | (obtain ⟨q0, q1⟩ := (b1C_at hC).1.cells; go_simp; exact rfl)); clear hK K))
    refine wpQuiet_nil ?_
    intro w1 hb1
    have HB := (b1C_at hb1).2
    clear hb1
    go_wp2
    go_ret
    exact ⟨rfl, HB⟩
  · have E : Hid (finF true (D.length + e) (-6176) 34 = 16) := by show _ = _; unfold finF; rw [hsz, if_pos rfl]; exact if_neg (by omega)
    rw [E.out]
    have h' : ¬ sz < -6142 := by omega
    have hlp : IntKind.i64.wrap (-6142) = -6142 := by decide
    clear h he hD
    go_enter Tryz.func65, Tryz.ntmps65
    go_upto_region 1 with fail
    refine wp_region_class (C := b1C w (tx D) e) (by kernel_rfl) (by kernel_rfl) HX0.out ?_
    repeat (refine wpQuiet_step (fun K hK => ?_); go_simp; first | (refine hK _ ?_; clear hK K) | (apply Exists.intro; refine ⟨fun wx hC => ?_, hK _ ?_⟩; (first | exact rfl | exact Calls.class_of (HSz.out wx) (fun w' hb => b1C_next hC hb) | (simp only [md_digitCount_128, md_leastExp_128]; go_simp; first | exact Calls.class_of (digitCount_128 wx) (fun w' hb => b1C_next hC hb) | exact Calls.class_of (leastExp_128 wx) (fun w' hb => b1C_next hC hb)) | (obtain ⟨q0, q1⟩ := (b1C_at hC).1.cells; go_simp; exact rfl)); clear hK K))
    refine wpQuiet_nil ?_
    intro w1 hb1
    have HB := (b1C_at hb1).2
    clear hb1
    go_wp2
    go_ret
    exact ⟨rfl, HB⟩
set_option maxRecDepth 100000 in
set_option maxHeartbeats 1000000 in
theorem farthest_128 (neg : Bool) (w : World) :
    Calls Tryz.prog 89 #[.iface 89 (.agg #[]), .bool neg] w fun x w' => x = .returned (numV 1 neg 6111 (tx (List.replicate 34 9))) ∧ Below w.heap.size w w' := by
  have HRp : Hid (∀ X, Calls Tryz.prog 74 #[.string { data := #[57] }, .int .i64 34] X fun e w' => e = .returned (.string (tx (List.replicate 34 9))) ∧ Below X.heap.size X w') := fun X => rep9_any 34 (by decide) X
  generalize tx (List.replicate 34 9) = NN at *
  have HZ : Hid (At4r (w.alloc (.cells #[.int .i64 0, .bool false, .int .i64 0, .string { data := #[] }] 25)) w.heap.size (.int .i64 0) (.bool false) (.int .i64 0) (.string { data := #[] }) ∧ Below w.heap.size w (w.alloc (.cells #[.int .i64 0, .bool false, .int .i64 0, .string { data := #[] }] 25))) := ⟨at4r_new w _ _ _ _, (Below.refl _ _).alloc (Nat.le_refl _) _⟩
  have hbn := build_num 1 neg 6111 NN
  go_enter Tryz.func89, Tryz.ntmps89
  go_wp2_with fail
  refine (greatestExp_128 _).mono ?_
  rintro x w2 ⟨rfl, hb2⟩
  have HZ2 : Hid (At4r w2 w.heap.size (.int .i64 0) (.bool false) (.int .i64 0) (.string { data := #[] }) ∧ Below w.heap.size w w2) := ⟨HZ.out.1.next hb2, HZ.out.2.trans (hb2.mono HZ.out.2.size)⟩
  clear hb2 HZ
  go_wp2_with fail
  refine (digitCount_128 _).mono ?_
  rintro x w3 ⟨rfl, hb3⟩
  have HZ3 : Hid (At4r w3 w.heap.size (.int .i64 0) (.bool false) (.int .i64 0) (.string { data := #[] }) ∧ Below w.heap.size w w3) := ⟨HZ2.out.1.next hb3, HZ2.out.2.trans (hb3.mono HZ2.out.2.size)⟩
  clear hb3 HZ2
  go_wp2_with fail
  refine (HRp.out _).mono ?_
  rintro x w4 ⟨rfl, hb4⟩
  have HZ4 : Hid (At4r w4 w.heap.size (.int .i64 0) (.bool false) (.int .i64 0) (.string { data := #[] }) ∧ Below w.heap.size w w4) := ⟨HZ3.out.1.next hb4, HZ3.out.2.trans (hb4.mono HZ3.out.2.size)⟩
  clear hb4 HZ3 HRp
  go_wp2_with (refine wpList_store_row rfl 25 (.tmp 4) (.tmp 11) rfl w.heap.size #[.int .i64 1, .bool neg, .int .i64 6111, .string NN] rfl rfl _ _ HZ4.out.1 (by kernel_rfl) rfl (one4 _ _ _ _) ?_)
  have hP := (HZ4.out.1.row (.int .i64 1) (.bool neg) (.int .i64 6111) (.string NN)).cells
  refine bodyPost_ret (results_num rfl _ _ rfl hP.1 hP.2.1 hP.2.2.1 hP.2.2.2.1) rfl ?_
  exact ⟨rfl, bel_row HZ4.out.2 (Nat.le_refl _) _⟩
set_option maxRecDepth 100000 in
set_option maxHeartbeats 1000000 in
theorem overflow_128 (Fn : Nat) (mode : Int) (hm : 1 ≤ mode ∧ mode ≤ 5) (hent : ∀ args w, (callFunc Fn args).run Tryz.prog w = .ok (.enter Fn args) w)
    (HG : Hid (∀ neg od p, (p = 0 ∨ p = 1 ∨ p = 2 ∨ p = 3) → ∀ X, Calls Tryz.prog Fn #[cutV neg od p] X fun e w' => e = .returned (.bool (grw mode neg od p)) ∧ Below X.heap.size X w'))
    (neg : Bool) (w : World) :
    Calls Tryz.prog 68 #[.agg #[fnV Fn], .iface 89 (.agg #[]), .bool neg] w fun x w' => x = .returned (if finG mode neg then numV 1 neg 6111 (tx (List.replicate 34 9)) else numV 2 neg 0 { data := #[] }) ∧ Below w.heap.size w w' := by
  have HGo : Hid (∀ X, Calls Tryz.prog Fn #[cutV neg false 3] X fun e w' => e = .returned (.bool (!finG mode neg)) ∧ Below X.heap.size X w') := fun X => by
    have := HG.out neg false 3 (by decide) X
    rwa [grow_over mode neg hm] at this
  clear HG
  have HFa : Hid (∀ X, Calls Tryz.prog 89 #[.iface 89 (.agg #[]), .bool neg] X fun x w' => x = .returned (numV 1 neg 6111 (tx (List.replicate 34 9))) ∧ Below X.heap.size X w') := fun X => farthest_128 neg X
  generalize tx (List.replicate 34 9) = NN at *
  have hbc := build_cut neg
  generalize finG mode neg = G at *
  obtain ⟨RV, hRV⟩ : ∃ R, (if G then numV 1 neg 6111 NN else numV 2 neg 0 { data := #[] }) = R := ⟨_, rfl⟩
  have HRV : Hid ((if G then numV 1 neg 6111 NN else numV 2 neg 0 { data := #[] }) = RV) := hRV
  rw [hRV]
  clear hRV
  have hc := two_cell w (fnV Fn) 55 (.cells #[.int .i64 0, .bool false, .int .i64 0, .string { data := #[] }] 25)
  have HZ : Hid (At4r ((w.alloc (.cells #[fnV Fn] 55)).alloc (.cells #[.int .i64 0, .bool false, .int .i64 0, .string { data := #[] }] 25)) (w.heap.size + 1) (.int .i64 0) (.bool false) (.int .i64 0) (.string { data := #[] }) ∧ Below w.heap.size w ((w.alloc (.cells #[fnV Fn] 55)).alloc (.cells #[.int .i64 0, .bool false, .int .i64 0, .string { data := #[] }] 25))) := by
    have h2 := at4r_new (w.alloc (.cells #[fnV Fn] 55)) (.int .i64 0) (.bool false) (.int .i64 0) (.string { data := #[] })
    rw [show (w.alloc (.cells #[fnV Fn] 55)).heap.size = w.heap.size + 1 from new_size _ _] at h2
    exact ⟨h2, two_below _ _ _⟩
  go_enter Tryz.func68, Tryz.ntmps68
  go_wp2_with fail
  refine (HGo.out _).mono ?_
  rintro x w1 ⟨rfl, hb1⟩
  have HZ1 : Hid (At4r w1 (w.heap.size + 1) (.int .i64 0) (.bool false) (.int .i64 0) (.string { data := #[] }) ∧ Below w.heap.size w w1) := ⟨HZ.out.1.next hb1, HZ.out.2.trans (hb1.mono HZ.out.2.size)⟩
  clear hb1 HZ HGo hc hbc
  cases G with
  | true =>
    simp only [Bool.not_true]
    go_wp2_with fail
    refine (HFa.out _).mono ?_
    rintro x w4 ⟨rfl, hb4⟩
    have HZ4 : Hid (At4r w4 (w.heap.size + 1) (.int .i64 0) (.bool false) (.int .i64 0) (.string { data := #[] }) ∧ Below w.heap.size w w4) := ⟨HZ1.out.1.next hb4, HZ1.out.2.trans (hb4.mono HZ1.out.2.size)⟩
    clear hb4 HZ1 HFa
    go_wp2_with (refine wpList_store_row rfl 25 (.tmp 6) (.tmp 16) rfl (w.heap.size + 1) #[.int .i64 1, .bool neg, .int .i64 6111, .string NN] rfl rfl _ _ HZ4.out.1 (by kernel_rfl) rfl (one4 _ _ _ _) ?_)
    have hP := (HZ4.out.1.row (.int .i64 1) (.bool neg) (.int .i64 6111) (.string NN)).cells
    refine bodyPost_ret (results_num rfl _ _ rfl hP.1 hP.2.1 hP.2.2.1 hP.2.2.2.1) rfl ?_
    exact ⟨by rw [← HRV.out]; rfl, bel_row HZ4.out.2 (by omega) _⟩
  | false =>
    have hbi := build_inf neg
    simp only [Bool.not_false]
    go_wp2_with (refine wpList_store_row rfl 25 (.tmp 6) (.tmp 13) rfl (w.heap.size + 1) #[.int .i64 2, .bool neg, .int .i64 0, .string { data := #[] }] rfl rfl _ _ HZ1.out.1 (by kernel_rfl) rfl (one4 _ _ _ _) ?_)
    have hP := (HZ1.out.1.row (.int .i64 2) (.bool neg) (.int .i64 0) (.string { data := #[] })).cells
    refine bodyPost_ret (results_num rfl _ _ rfl hP.1 hP.2.1 hP.2.2.1 hP.2.2.2.1) rfl ?_
    exact ⟨by rw [← HRV.out]; rfl, bel_row HZ1.out.2 (by omega) _⟩
end Go.Proofs.YtdkpiofeidcffaaGreatDoor
