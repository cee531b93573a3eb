/-
  Digits with an exponent, brought nearer to a wanted one within a format, walked.
-/
import Derived.Test.YtndnoblcnjccdafGreatDoorQta
import Derived.Test.YtndnoblcnjccdafGreatDoorRdl
import Derived.Test.YtndnoblcnjccdafGreatDoorFinA
import Derived.Test.YtndnoblcnjccdafGreatDoorSmC
namespace Go.Proofs.YtndnoblcnjccdafGreatDoor
open Go.RowKit
set_option linter.unusedVariables false
set_option maxRecDepth 100000
/-- Digits times ten to the exponent. -/
abbrev scV (s : ByteArray) (e : Int) : Value := .agg #[.string s, .int .i64 e]
/-- Two cells in a block, which may be written. -/
def At2r (W : World) (b : Nat) (T : TypeId) (x y : Value) : Prop := W.heap[b]? = some (.cells #[x, y] T (0, 0))
theorem at2r_new (w : World) (T : TypeId) (x y : Value) : At2r (w.alloc (.cells #[x, y] T)) w.heap.size T x y := (MapKept.heap_alloc w (.cells #[x, y] T)).1
theorem At2r.cells {w : World} {b : Nat} {T : TypeId} {x y : Value} (h : At2r w b T x y) : w.cell? ⟨b, 0, none⟩ = some x ∧ w.cell? ⟨b, 1, none⟩ = some y := by
  unfold At2r at h
  exact ⟨by simp [World.cell?, h], by simp [World.cell?, h]⟩
theorem At2r.lt {w : World} {b : Nat} {T : TypeId} {x y : Value} (h : At2r w b T x y) : b < w.heap.size := (Array.getElem?_eq_some_iff.1 h).1
theorem At2r.below {w w' : World} {b B : Nat} {T : TypeId} {x y : Value} (h : At2r w b T x y) (hb : Below B w w') (hB : b < B) : At2r w' b T x y := (hb.block b hB).trans h
theorem At2r.row {w : World} {b : Nat} {T : TypeId} {x y : Value} (h : At2r w b T x y) (x' y' : Value) : At2r (w.setRow b #[x', y']) b T x' y' := setRow_heap w b _ _ _ _ h
theorem At2r.other {w : World} {b c : Nat} {T : TypeId} {x y : Value} (h : At2r w b T x y) (hc : b ≠ c) (cs : Array Value) : At2r (w.setRow c cs) b T x y := (setRow_other w c b cs hc).trans h
theorem one2 (s : ByteArray) (e : Int) : (#[.string s, .int .i64 e] : Array Value).all (·.oneCell') = true := by simp [Value.oneCell']
theorem results_sc {fn : Func} {p : Tmp} {b : Nat} {x y : Value} (h : fn.results = #[.cell p 129]) (tmps : Array Value) (w : World) (hp : tmps[p]?.getD undef = .pointer (some ⟨b, 0, none⟩))
    (q0 : w.cell? ⟨b, 0, none⟩ = some x) (q1 : w.cell? ⟨b, 1, none⟩ = some y) : (results fn tmps).run Tryz.prog w = .ok (.agg #[x, y]) w := by
  simp [results, h, hp, go_sem, q0, q1]
theorem build_sc (s : ByteArray) (e : Int) (w : World) : (Instr.build 129 #[(0, .string s), (1, .int .i64 e)]).run Tryz.prog w = .ok (scV s e) w := run_build w _ _ _ (by kernel_rfl)
theorem scSize_any (s : ByteArray) (e : Int) (w : World) (hs : s.size ≤ 4611686018427387904) :
    Calls Tryz.prog 144 #[scV s e] w fun x w' => x = .returned (.int .i64 s.size) ∧ Below w.heap.size w w' := by
  go_enter Tryz.func144, Tryz.ntmps144
  go_wp2
  go_ret
  exact ⟨rfl, (Below.refl _ _).alloc (Nat.le_refl _) _⟩
/-- The world with a number's box and a result's. -/
abbrev bx2 (w : World) (s : ByteArray) (e : Int) : World := (w.alloc (.cells #[.string s, .int .i64 e] 129)).alloc (.cells #[.string { data := #[] }, .int .i64 0] 129)
theorem bx2_size (w : World) (s : ByteArray) (e : Int) : (bx2 w s e).heap.size = w.heap.size + 1 + 1 := by simp
theorem bx2_at (w : World) (s : ByteArray) (e : Int) : At2r (bx2 w s e) w.heap.size 129 (.string s) (.int .i64 e) ∧ At2r (bx2 w s e) (w.heap.size + 1) 129 (.string { data := #[] }) (.int .i64 0) ∧ Below w.heap.size w (bx2 w s e) := by
  have h1 := at2r_new w 129 (.string s) (.int .i64 e)
  have h2 := at2r_new (w.alloc (.cells #[.string s, .int .i64 e] 129)) 129 (.string { data := #[] }) (.int .i64 0)
  rw [show (w.alloc (.cells #[.string s, .int .i64 e] 129)).heap.size = w.heap.size + 1 by simp] at h2
  exact ⟨h1.below ((Below.refl _ _).alloc (Nat.le_refl _) _) h1.lt, h2, bel_two _ _ _⟩
/-- The class of worlds in such a region: what lay there is as it was. -/
abbrev bxC (w : World) (s : ByteArray) (e : Int) : World → Prop := fun W => Below (w.heap.size + 1 + 1) (bx2 w s e) W
theorem bxC_at {w : World} {s : ByteArray} {e : Int} {W : World} (h : bxC w s e W) : At2r W w.heap.size 129 (.string s) (.int .i64 e) ∧ At2r W (w.heap.size + 1) 129 (.string { data := #[] }) (.int .i64 0) ∧ Below w.heap.size w W := by
  obtain ⟨a, b, c⟩ := bx2_at w s e
  exact ⟨a.below h (by omega), b.below h (by omega), c.trans (h.mono (by omega))⟩
theorem bxC_next {w : World} {s : ByteArray} {e : Int} {W W' : World} (h : bxC w s e W) (hb : Below W.heap.size W W') : bxC w s e W' := h.trans (hb.mono (by have := h.size; rw [bx2_size] at this; exact this))
set_option maxRecDepth 100000 in
theorem followed_any (D : List Int) (e : Int) (n : Nat) (w : World) (hD : D.length ≤ 600) (hn : n ≤ 600) (he : -1000000 ≤ e ∧ e ≤ 1000000) :
    Calls Tryz.prog 145 #[scV (tx D) e, .int .i64 n] w fun x w' => x = .returned (scV (tx (D ++ List.replicate n 0)) (e - n)) ∧ Below w.heap.size w w' := by
  have HR : Hid (∀ X, Calls Tryz.prog 156 #[.string { data := #[48] }, .int .i64 n] X fun e w' => e = .returned (.string (tx (List.replicate n 0))) ∧ Below X.heap.size X w') := fun X => rep0_any n hn X
  have HX0 : Hid (bxC w (tx D) e (bx2 w (tx D) e).drew) := (Below.refl _ _).drew
  have hap := tx_append D (List.replicate n 0)
  have sz1 := tx_size D
  have sz2 : (tx (List.replicate n 0)).size = n := by rw [tx_size, List.length_replicate]
  have hw : IntKind.i64.wrap (e - (n : Int)) = e - n := by rw [IntKind.wrap_i64]; omega
  have hbl := build_sc (tx (D ++ List.replicate n 0)) (e - n)
  have hbig : ¬ 9223372036854775807 < D.length + n := by omega
  go_enter Tryz.func145, Tryz.ntmps145
  go_upto_region 1 with fail
  refine wp_region_tail (C := bxC w (tx D) e) 9 (by kernel_rfl) (by kernel_rfl) HX0.out ?_
  simp only [List.take_succ_cons, List.take_zero, List.drop_succ_cons, List.drop_zero]
  repeat (refine wpQuiet_step (fun K hK => ?_); go_simp; first | (refine hK _ ?_; clear hK K) | (apply Exists.intro; refine ⟨fun wx hC => ?_, hK _ ?_⟩; (first | exact rfl | exact Calls.class_of (HR.out wx) (fun w' hb => bxC_next hC hb) | (obtain ⟨q0, q1⟩ := (bxC_at hC).1.cells; go_simp; exact rfl)); clear hK K))
  refine wpQuiet_nil ?_
  intro w1 hb1
  obtain ⟨-, hA, hB⟩ := bxC_at hb1
  have HA : Hid (At2r w1 (w.heap.size + 1) 129 (.string { data := #[] }) (.int .i64 0) ∧ Below w.heap.size w w1) := ⟨hA, hB⟩
  clear hb1 hA hB
  go_wp2_with (refine wpList_store_row rfl 129 (.tmp 4) (.tmp 14) rfl (w.heap.size + 1) #[.string (tx (D ++ List.replicate n 0)), .int .i64 (e - n)] rfl rfl _ _ HA.out.1 (by kernel_rfl) rfl (one2 _ _) ?_)
  have hP := (HA.out.1.row (.string (tx (D ++ List.replicate n 0))) (.int .i64 (e - n))).cells
  refine bodyPost_ret (results_sc rfl _ _ rfl hP.1 hP.2) rfl ?_
  exact ⟨rfl, bel_row HA.out.2 (by omega) _⟩
end Go.Proofs.YtndnoblcnjccdafGreatDoor
namespace Go.Proofs.YtndnoblcnjccdafGreatDoor
open Go.RowKit
set_option linter.unusedVariables false
set_option maxRecDepth 100000
theorem maxN (m n : Int) : (max (0 : Int) (min m n)).toNat = min m.toNat n.toNat := by omega
set_option maxRecDepth 100000 in
set_option maxHeartbeats 1000000 in
theorem lowered_64 (D : List Int) (e hi : Int) (w : World) (hD : D.length ≤ 600) (he : -1000000 ≤ e ∧ e ≤ 1000000) (hh : -1000000 ≤ hi ∧ hi ≤ 1000000) :
    Calls Tryz.prog 123 #[scV (tx D) e, .iface 108 (.agg #[]), .int .i64 hi] w fun x w' => x = .returned (scV (tx (D ++ List.replicate (fC D.length 16 e hi) 0)) (e - fC D.length 16 e hi)) ∧ Below w.heap.size w w' := by
  obtain ⟨n, hn⟩ : ∃ n : Nat, fC D.length 16 e hi = n := ⟨_, rfl⟩
  rw [hn]
  have hn34 : n ≤ 34 := by rw [← hn]; unfold fC; omega
  have HN : Hid (fC D.length 16 e hi = n) := hn
  have hmx : max (0 : Int) (min (e - hi) (16 - (D.length : Int))) = (n : Int) := by rw [← hn]; unfold fC; omega
  clear hn
  have HF : Hid (∀ X, Calls Tryz.prog 145 #[scV (tx D) e, .int .i64 n] X fun x w' => x = .returned (scV (tx (D ++ List.replicate n 0)) (e - n)) ∧ Below X.heap.size X w') := fun X => followed_any D e n X hD (by omega) he
  have HSz : Hid (∀ X, Calls Tryz.prog 144 #[scV (tx D) e] X fun x w' => x = .returned (.int .i64 D.length) ∧ Below X.heap.size X w') := fun X => by
    have := scSize_any (tx D) e X (by rw [tx_size]; omega)
    rwa [tx_size] at this
  have HX0 : Hid (bxC w (tx D) e (bx2 w (tx D) e).drew) := (Below.refl _ _).drew
  have hw1 : IntKind.i64.wrap (e - hi) = e - hi := by rw [IntKind.wrap_i64]; omega
  have hw2 : IntKind.i64.wrap (16 - (D.length : Int)) = 16 - (D.length : Int) := by rw [IntKind.wrap_i64]; omega
  clear hh
  go_enter Tryz.func123, Tryz.ntmps123
  go_upto_region 1 with fail
  refine wp_region_tail (C := bxC w (tx D) e) 12 (by kernel_rfl) (by kernel_rfl) HX0.out ?_
  simp only [List.take_succ_cons, List.take_zero, List.drop_succ_cons, List.drop_zero]
  repeat (refine wpQuiet_step (fun K hK => ?_); go_simp; first | (refine hK _ ?_; clear hK K) | (apply Exists.intro; refine ⟨fun wx hC => ?_, hK _ ?_⟩; (first | exact rfl | exact Calls.class_of (HSz.out wx) (fun w' hb => bxC_next hC hb) | (simp only [md_digitCount_64]; go_simp; exact Calls.class_of (digitCount_64 wx) (fun w' hb => bxC_next hC hb)) | (obtain ⟨q0, q1⟩ := (bxC_at hC).1.cells; go_simp; exact rfl)); clear hK K))
  refine wpQuiet_nil ?_
  intro w1 hb1
  obtain ⟨-, hA, hB⟩ := bxC_at hb1
  have HA : Hid (At2r w1 (w.heap.size + 1) 129 (.string { data := #[] }) (.int .i64 0) ∧ Below w.heap.size w w1) := ⟨hA, hB⟩
  clear hb1 hA hB HX0 HSz
  go_wp2_with fail
  refine (HF.out _).mono ?_
  rintro x w2 ⟨rfl, hb2⟩
  have HA2 : Hid (At2r w2 (w.heap.size + 1) 129 (.string { data := #[] }) (.int .i64 0) ∧ Below w.heap.size w w2) := ⟨HA.out.1.below hb2 HA.out.1.lt, HA.out.2.trans (hb2.mono HA.out.2.size)⟩
  clear hb2 HA HF
  go_wp2_with (refine wpList_store_row rfl 129 (.tmp 6) (.tmp 19) rfl (w.heap.size + 1) #[.string (tx (D ++ List.replicate n 0)), .int .i64 (e - n)] rfl rfl _ _ HA2.out.1 (by kernel_rfl) rfl (one2 _ _) ?_)
  have hP := (HA2.out.1.row (.string (tx (D ++ List.replicate n 0))) (.int .i64 (e - n))).cells
  refine bodyPost_ret (results_sc rfl _ _ rfl hP.1 hP.2) rfl ?_
  exact ⟨rfl, bel_row HA2.out.2 (by omega) _⟩
set_option maxRecDepth 100000 in
set_option maxHeartbeats 1000000 in
theorem lowered_128 (D : List Int) (e hi : Int) (w : World) (hD : D.length ≤ 600) (he : -1000000 ≤ e ∧ e ≤ 1000000) (hh : -1000000 ≤ hi ∧ hi ≤ 1000000) :
    Calls Tryz.prog 123 #[scV (tx D) e, .iface 109 (.agg #[]), .int .i64 hi] w fun x w' => x = .returned (scV (tx (D ++ List.replicate (fC D.length 34 e hi) 0)) (e - fC D.length 34 e hi)) ∧ Below w.heap.size w w' := by
  obtain ⟨n, hn⟩ : ∃ n : Nat, fC D.length 34 e hi = n := ⟨_, rfl⟩
  rw [hn]
  have hn34 : n ≤ 34 := by rw [← hn]; unfold fC; omega
  have HN : Hid (fC D.length 34 e hi = n) := hn
  have hmx : max (0 : Int) (min (e - hi) (34 - (D.length : Int))) = (n : Int) := by rw [← hn]; unfold fC; omega
  clear hn
  have HF : Hid (∀ X, Calls Tryz.prog 145 #[scV (tx D) e, .int .i64 n] X fun x w' => x = .returned (scV (tx (D ++ List.replicate n 0)) (e - n)) ∧ Below X.heap.size X w') := fun X => followed_any D e n X hD (by omega) he
  have HSz : Hid (∀ X, Calls Tryz.prog 144 #[scV (tx D) e] X fun x w' => x = .returned (.int .i64 D.length) ∧ Below X.heap.size X w') := fun X => by
    have := scSize_any (tx D) e X (by rw [tx_size]; omega)
    rwa [tx_size] at this
  have HX0 : Hid (bxC w (tx D) e (bx2 w (tx D) e).drew) := (Below.refl _ _).drew
  have hw1 : IntKind.i64.wrap (e - hi) = e - hi := by rw [IntKind.wrap_i64]; omega
  have hw2 : IntKind.i64.wrap (34 - (D.length : Int)) = 34 - (D.length : Int) := by rw [IntKind.wrap_i64]; omega
  clear hh
  go_enter Tryz.func123, Tryz.ntmps123
  go_upto_region 1 with fail
  refine wp_region_tail (C := bxC w (tx D) e) 12 (by kernel_rfl) (by kernel_rfl) HX0.out ?_
  simp only [List.take_succ_cons, List.take_zero, List.drop_succ_cons, List.drop_zero]
  repeat (refine wpQuiet_step (fun K hK => ?_); go_simp; first | (refine hK _ ?_; clear hK K) | (apply Exists.intro; refine ⟨fun wx hC => ?_, hK _ ?_⟩; (first | exact rfl | exact Calls.class_of (HSz.out wx) (fun w' hb => bxC_next hC hb) | (simp only [md_digitCount_128]; go_simp; exact Calls.class_of (digitCount_128 wx) (fun w' hb => bxC_next hC hb)) | (obtain ⟨q0, q1⟩ := (bxC_at hC).1.cells; go_simp; exact rfl)); clear hK K))
  refine wpQuiet_nil ?_
  intro w1 hb1
  obtain ⟨-, hA, hB⟩ := bxC_at hb1
  have HA : Hid (At2r w1 (w.heap.size + 1) 129 (.string { data := #[] }) (.int .i64 0) ∧ Below w.heap.size w w1) := ⟨hA, hB⟩
  clear hb1 hA hB HX0 HSz
  go_wp2_with fail
  refine (HF.out _).mono ?_
  rintro x w2 ⟨rfl, hb2⟩
  have HA2 : Hid (At2r w2 (w.heap.size + 1) 129 (.string { data := #[] }) (.int .i64 0) ∧ Below w.heap.size w w2) := ⟨HA.out.1.below hb2 HA.out.1.lt, HA.out.2.trans (hb2.mono HA.out.2.size)⟩
  clear hb2 HA HF
  go_wp2_with (refine wpList_store_row rfl 129 (.tmp 6) (.tmp 19) rfl (w.heap.size + 1) #[.string (tx (D ++ List.replicate n 0)), .int .i64 (e - n)] rfl rfl _ _ HA2.out.1 (by kernel_rfl) rfl (one2 _ _) ?_)
  have hP := (HA2.out.1.row (.string (tx (D ++ List.replicate n 0))) (.int .i64 (e - n))).cells
  refine bodyPost_ret (results_sc rfl _ _ rfl hP.1 hP.2) rfl ?_
  exact ⟨rfl, bel_row HA2.out.2 (by omega) _⟩
end Go.Proofs.YtndnoblcnjccdafGreatDoor
