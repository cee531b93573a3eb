/-
  Numbers packed, by the program, walked.
-/
import Derived.Test.YtmjkpjmccdjkjadDoorIsR2
import Derived.Test.YtmjkpjmccdjkjadDoorWdJ
import Derived.Test.YtmjkpjmccdjkjadDoorFif64
import Derived.Test.YtmjkpjmccdjkjadDoorFif128
import Derived.Test.YtmjkpjmccdjkjadDoorSpf64
import Derived.Test.YtmjkpjmccdjkjadDoorSpf128
import Derived.Test.YtmjkpjmccdjkjadDoorWrd4
namespace Go.Proofs.YtmjkpjmccdjkjadDoor
open Go.RowKit
set_option linter.unusedVariables false
set_option maxRecDepth 100000
set_option linter.unusedSimpArgs false
/-- The number's box and the word's. -/
abbrev pbx (w : World) (k : Int) (b : Bool) (e : Int) (s : ByteArray) : World := (nbq w k b e s).alloc (.cells #[.int .u64 0, .int .u64 0] 33)
theorem pbx_cells {w W : World} {k : Int} {b : Bool} {e : Int} {s : ByteArray} (h : Below (w.heap.size + 2) (pbx w k b e s) W) : W.cell? ⟨w.heap.size, 0, none⟩ = some (.int .i64 k) ∧ W.cell? ⟨w.heap.size, 1, none⟩ = some (.bool b) ∧ W.cell? ⟨w.heap.size, 2, none⟩ = some (.int .i64 e) ∧ W.cell? ⟨w.heap.size, 3, none⟩ = some (.string s) ∧
    W.cell? ⟨w.heap.size + 1, 0, none⟩ = some (.int .u64 0) ∧ W.cell? ⟨w.heap.size + 1, 1, none⟩ = some (.int .u64 0) ∧ ∀ i, W.frozen? ⟨w.heap.size + 1, i, none⟩ = false := by
  refine ⟨?_, ?_, ?_, ?_, ?_, ?_, fun i => ?_⟩
  · rw [h.cell (p := ⟨w.heap.size, 0, none⟩) (by simp)]; simp
  · rw [h.cell (p := ⟨w.heap.size, 1, none⟩) (by simp)]; simp
  · rw [h.cell (p := ⟨w.heap.size, 2, none⟩) (by simp)]; simp
  · rw [h.cell (p := ⟨w.heap.size, 3, none⟩) (by simp)]; simp
  · rw [h.cell (p := ⟨w.heap.size + 1, 0, none⟩) (by simp)]; simp
  · rw [h.cell (p := ⟨w.heap.size + 1, 1, none⟩) (by simp)]; simp
  · rw [h.frozen (p := ⟨w.heap.size + 1, i, none⟩) (by simp)]; simp
theorem pbx_out {w W : World} {k : Int} {b : Bool} {e : Int} {s : ByteArray} (h : Below (w.heap.size + 2) (pbx w k b e s) W) : Below w.heap.size w W := (((Below.refl _ _).alloc (Nat.le_refl _) _).alloc (by simp) _).trans (h.mono (by omega))
theorem pbx_next {w W w1 : World} {k : Int} {b : Bool} {e : Int} {s : ByteArray} (h : Below (w.heap.size + 2) (pbx w k b e s) W) (hb : Below W.heap.size W w1) : Below (w.heap.size + 2) (pbx w k b e s) w1 := h.trans (hb.mono (by have := h.size; simpa using this))
/-- The answer laid into its box. -/
theorem pbx_fin {w W : World} {k : Int} {b : Bool} {e : Int} {s : ByteArray} (h : Below (w.heap.size + 2) (pbx w k b e s) W) (x y : Value) : (((W.setCell ⟨w.heap.size + 1, 0, none⟩ x).setCell ⟨w.heap.size + 1, 1, none⟩ y).cell? ⟨w.heap.size + 1, 0, none⟩ = some x ∧ ((W.setCell ⟨w.heap.size + 1, 0, none⟩ x).setCell ⟨w.heap.size + 1, 1, none⟩ y).cell? ⟨w.heap.size + 1, 1, none⟩ = some y) ∧ Below w.heap.size w ((W.setCell ⟨w.heap.size + 1, 0, none⟩ x).setCell ⟨w.heap.size + 1, 1, none⟩ y) := by
  obtain ⟨-, -, -, -, c4, c5, -⟩ := pbx_cells h
  exact ⟨put2w c4 c5 x y, ((pbx_out h).setCell (by simp) _).setCell (by simp) _⟩
theorem rep_zero (g k : Nat) : (List.replicate g (0 : Int)).getD k 0 = 0 := by
  simp only [List.getD, List.getElem?_replicate]
  split <;> rfl
theorem packNum_no64 (k : Int) (b : Bool) (e : Int) (s : ByteArray) (w : World) (hs : s.size ≤ 4611686018427387904) (h : numB 64 k b e s = false) :
    Calls Tryd.prog 16 #[.iface 42 (.agg #[]), numV k b e s] w fun x w' => x = .returned (.tuple #[wpV 0 0, .bool false]) ∧ Below w.heap.size w w' := by
  have HR : Hid (∀ X, Calls Tryd.prog 26 #[.iface 42 (.agg #[]), numV k b e s] X fun r w' => r = .returned (.bool false) ∧ Below X.heap.size X w') := fun X => by rw [← h]; exact isRight_64 k b e s X hs
  have HX0 : Hid (Below (w.heap.size + 2) (pbx w k b e s) (pbx w k b e s)) := Below.refl _ _
  clear h
  go_enter Tryd.func16, Tryd.ntmps16
  go_wp2_with fail
  refine (HR.out _).mono ?_
  rintro r w1 ⟨rfl, hb1⟩
  have HX1 : Hid (Below (w.heap.size + 2) (pbx w k b e s) w1) := pbx_next HX0.out hb1
  obtain ⟨-, -, -, -, c4, c5, c6⟩ := pbx_cells HX1.out
  have HF : Hid (_ ∧ _) := pbx_fin HX1.out (.int .u64 0) (.int .u64 0)
  clear hb1 HX0
  go_wp2
  refine bodyPost_ret (results_wide rfl _ _ rfl HF.out.1.1 HF.out.1.2) rfl ?_
  exact ⟨rfl, HF.out.2⟩
set_option maxHeartbeats 1000000 in
theorem packNum_fin64 (b : Bool) (E : Int) (ds : List Int) (w : World) (ht : Tabs w) (hc : Canon ds) (hl : ds.length ≤ 16) (e0 : 0 ≤ E + 398) (e1 : E + 398 < 768) :
    Calls Tryd.prog 16 #[.iface 42 (.agg #[]), numV 1 b E (tx ds)] w fun x w' => ∃ H L, x = .returned (.tuple #[wpV H L, .bool true]) ∧ Hid (IsW (pkW 8 5 398 1 b E ds) H L) ∧ Below w.heap.size w w' := by
  have hR : Rt 8 5 398 1 b E ds := .inl ⟨rfl, hc, hl, e0, e1⟩
  have hsz : (tx ds).size ≤ 4611686018427387904 := by rw [tx_size]; omega
  have HR : Hid (∀ X, Calls Tryd.prog 26 #[.iface 42 (.agg #[]), numV 1 b E (tx ds)] X fun r w' => r = .returned (.bool true) ∧ Below X.heap.size X w') := fun X => by rw [← right_numB 64 1 b E ds 8 5 398 (.inl ⟨rfl, rfl, rfl, rfl⟩) hR]; exact isRight_64 1 b E (tx ds) X hsz
  have HFf : Hid (∀ X, Below w.heap.size w X → Calls Tryd.prog 28 #[.iface 42 (.agg #[]), numV 1 b E (tx ds)] X fun x w' => ∃ gb cap, x = .returned (flV b (fv ((E + 398) / 256) ((npad 16 ds).getD 0 0)) ((E + 398) % 256) (.slice (some ⟨gb, 0, none⟩) 5 cap)) ∧ gb < w'.heap.size ∧ (∀ i, i < 5 → w'.cell? ⟨gb, i, none⟩ = some (.int .i64 ((ds3 ((npad 16 ds).drop 1) 5).getD i 0))) ∧ Below X.heap.size X w') := fun X hb => finiteFields_64 b E ds X (ht.below hb (Nat.le_refl _)) hc hl e0 e1
  have hSd : Dec (npad 16 ds) := npad_dec 16 ds hc.1
  have hF := dec_at (npad 16 ds) hSd 0
  have hfv := fv_bd ((E + 398) / 256) ((npad 16 ds).getD 0 0) (by omega) (by omega) hF.1 hF.2
  have HJ : Hid (∀ X gb cap, gb < X.heap.size → (∀ i, i < 5 → X.cell? ⟨gb, i, none⟩ = some (.int .i64 ((ds3 ((npad 16 ds).drop 1) 5).getD i 0))) → Calls Tryd.prog 27 #[.iface 42 (.agg #[]), flV b (fv ((E + 398) / 256) ((npad 16 ds).getD 0 0)) ((E + 398) % 256) (.slice (some ⟨gb, 0, none⟩) 5 cap)] X fun e w' => ∃ H L, e = .returned (wpV H L) ∧ Hid (IsW (pkW 8 5 398 1 b E ds) H L) ∧ Below X.heap.size X w') := fun X gb cap hg hcl => by
    have := joinFields_64 b (fv ((E + 398) / 256) ((npad 16 ds).getD 0 0)) ((E + 398) % 256) gb cap (ds3 ((npad 16 ds).drop 1) 5) X (ds3_len _ _) (ds3_bd _ hSd 5) hg hcl hfv.1 (by omega) (by omega) (by omega)
    have e := jn_fin b (E + 398) (npad 16 ds) hSd 8 5
    rw [show (2 : Int) ^ 8 = 256 by decide] at e
    rw [show (2 : Int) ^ 8 = 256 by decide, e] at this
    have e2 : pkW 8 5 398 1 b E ds = finW b (E + 398) (npad 16 ds) 8 5 := by unfold pkW; rw [if_pos rfl]
    rw [e2]
    exact this
  have HX0 : Hid (Below (w.heap.size + 2) (pbx w 1 b E (tx ds)) (pbx w 1 b E (tx ds))) := Below.refl _ _
  clear hR hsz hfv hF hSd hc hl ht e0 e1
  generalize pkW 8 5 398 1 b E ds = Z at *
  generalize ds3 ((npad 16 ds).drop 1) 5 = D at *
  generalize fv ((E + 398) / 256) ((npad 16 ds).getD 0 0) = LD at *
  generalize (E + 398) % 256 = RS at *
  generalize tx ds = T at *
  go_enter Tryd.func16, Tryd.ntmps16
  go_wp2_with fail
  refine (HR.out _).mono ?_
  rintro r w1 ⟨rfl, hb1⟩
  have HX1 : Hid (Below (w.heap.size + 2) (pbx w 1 b E T) w1) := pbx_next HX0.out hb1
  obtain ⟨c0, c1, c2, c3, -, -, -⟩ := pbx_cells HX1.out
  clear hb1 HX0
  go_wp2_with fail
  refine (HFf.out _ (pbx_out HX1.out)).mono ?_
  rintro r w2 ⟨gb, cap, rfl, hg, hcl, hb2⟩
  have HX2 : Hid (Below (w.heap.size + 2) (pbx w 1 b E T) w2) := pbx_next HX1.out hb2
  have HJ2 : Hid (Calls Tryd.prog 27 #[.iface 42 (.agg #[]), flV b LD RS (.slice (some ⟨gb, 0, none⟩) 5 cap)] w2 fun e w' => ∃ H L, e = .returned (wpV H L) ∧ Hid (IsW Z H L) ∧ Below w2.heap.size w2 w') := HJ.out w2 gb cap hg hcl
  clear hb2 HX1 c0 c1 c2 c3 hcl HFf HJ
  go_wp2_with fail
  refine HJ2.out.mono ?_
  rintro r w3 ⟨H, L, rfl, hW, hb3⟩
  have HX3 : Hid (Below (w.heap.size + 2) (pbx w 1 b E T) w3) := pbx_next HX2.out hb3
  obtain ⟨-, -, -, -, c4, c5, c6⟩ := pbx_cells HX3.out
  have HF : Hid (_ ∧ _) := pbx_fin HX3.out (.int .u64 H) (.int .u64 L)
  clear hb3 HX2 HJ2
  go_wp2
  refine bodyPost_ret (results_wide rfl _ _ rfl HF.out.1.1 HF.out.1.2) rfl ?_
  exact ⟨H, L, rfl, hW, HF.out.2⟩
set_option maxHeartbeats 1000000 in
theorem packNum_spc64 (k : Int) (b : Bool) (E : Int) (ds : List Int) (w : World) (hR : Rt 8 5 398 k b E ds) (hk : k = 2 ∨ k = 3 ∨ k = 4) (hl : ds.length ≤ 1000) :
    Calls Tryd.prog 16 #[.iface 42 (.agg #[]), numV k b E (tx ds)] w fun x w' => ∃ H L, x = .returned (.tuple #[wpV H L, .bool true]) ∧ Hid (IsW (pkW 8 5 398 k b E ds) H L) ∧ Below w.heap.size w w' := by
  have hsz : (tx ds).size ≤ 4611686018427387904 := by rw [tx_size]; omega
  have HR : Hid (∀ X, Calls Tryd.prog 26 #[.iface 42 (.agg #[]), numV k b E (tx ds)] X fun r w' => r = .returned (.bool true) ∧ Below X.heap.size X w') := fun X => by rw [← right_numB 64 k b E ds 8 5 398 (.inl ⟨rfl, rfl, rfl, rfl⟩) hR]; exact isRight_64 k b E (tx ds) X hsz
  have HFf : Hid (∀ X, Calls Tryd.prog 29 #[.iface 42 (.agg #[]), numV k b E (tx ds)] X fun x w' => ∃ gb, x = .returned (flV b (if k = 2 then 30 else 31) (if k = 4 then 128 else 0) (.slice (some ⟨gb, 0, none⟩) 5 5)) ∧ gb < w'.heap.size ∧ (∀ i, i < 5 → w'.cell? ⟨gb, i, none⟩ = some (.int .i64 0)) ∧ Below X.heap.size X w') := fun X => specialFields_64 k b E (tx ds) X hk
  have hld : 0 ≤ (if k = 2 then (30 : Int) else 31) ∧ (if k = 2 then (30 : Int) else 31) < 32 := by split <;> omega
  have hrs : 0 ≤ (if k = 4 then (128 : Int) else 0) ∧ (if k = 4 then (128 : Int) else 0) < 256 := by split <;> omega
  have HJ : Hid (∀ X gb, gb < X.heap.size → (∀ i, i < 5 → X.cell? ⟨gb, i, none⟩ = some (.int .i64 0)) → Calls Tryd.prog 27 #[.iface 42 (.agg #[]), flV b (if k = 2 then 30 else 31) (if k = 4 then 128 else 0) (.slice (some ⟨gb, 0, none⟩) 5 5)] X fun e w' => ∃ H L, e = .returned (wpV H L) ∧ Hid (IsW (pkW 8 5 398 k b E ds) H L) ∧ Below X.heap.size X w') := fun X gb hg hcl => by
    have := joinFields_64 b (if k = 2 then 30 else 31) (if k = 4 then 128 else 0) gb 5 (List.replicate 5 0) X (by simp) (fun i => by rw [rep_zero]; decide) hg (fun i hi => by rw [rep_zero]; exact hcl i hi) hld.1 hld.2 hrs.1 (by rw [show (2 : Int) ^ 8 = 256 by decide]; exact hrs.2)
    have e := jn_spc k b 8 5 (by decide) hk (List.replicate 5 0) (rep_zero 5)
    rw [show (2 : Int) ^ (8 - 1) = 128 by decide] at e
    rw [e] at this
    have e2 : pkW 8 5 398 k b E ds = spcW k b 8 5 := by unfold pkW; rw [if_neg (by omega)]
    rw [e2]
    exact this
  have HX0 : Hid (Below (w.heap.size + 2) (pbx w k b E (tx ds)) (pbx w k b E (tx ds))) := Below.refl _ _
  have hk1 : (k == 1) = false := beq_eq_false_iff_ne.2 (by omega)
  clear hR hsz hld hrs hl hk
  generalize pkW 8 5 398 k b E ds = Z at *
  generalize (if k = 2 then (30 : Int) else 31) = LD at *
  generalize (if k = 4 then (128 : Int) else 0) = RS at *
  generalize tx ds = T at *
  go_enter Tryd.func16, Tryd.ntmps16
  go_wp2_with fail
  refine (HR.out _).mono ?_
  rintro r w1 ⟨rfl, hb1⟩
  have HX1 : Hid (Below (w.heap.size + 2) (pbx w k b E T) w1) := pbx_next HX0.out hb1
  obtain ⟨c0, c1, c2, c3, -, -, -⟩ := pbx_cells HX1.out
  clear hb1 HX0
  go_wp2_with fail
  refine (HFf.out _).mono ?_
  rintro r w2 ⟨gb, rfl, hg, hcl, hb2⟩
  have HX2 : Hid (Below (w.heap.size + 2) (pbx w k b E T) w2) := pbx_next HX1.out hb2
  have HJ2 : Hid (Calls Tryd.prog 27 #[.iface 42 (.agg #[]), flV b LD RS (.slice (some ⟨gb, 0, none⟩) 5 5)] w2 fun e w' => ∃ H L, e = .returned (wpV H L) ∧ Hid (IsW Z H L) ∧ Below w2.heap.size w2 w') := HJ.out w2 gb hg hcl
  clear hb2 HX1 c0 c1 c2 c3 hcl HFf HJ
  go_wp2_with fail
  refine HJ2.out.mono ?_
  rintro r w3 ⟨H, L, rfl, hW, hb3⟩
  have HX3 : Hid (Below (w.heap.size + 2) (pbx w k b E T) w3) := pbx_next HX2.out hb3
  obtain ⟨-, -, -, -, c4, c5, c6⟩ := pbx_cells HX3.out
  have HF : Hid (_ ∧ _) := pbx_fin HX3.out (.int .u64 H) (.int .u64 L)
  clear hb3 HX2 HJ2
  go_wp2
  refine bodyPost_ret (results_wide rfl _ _ rfl HF.out.1.1 HF.out.1.2) rfl ?_
  exact ⟨H, L, rfl, hW, HF.out.2⟩
theorem packNum_yes64 (k : Int) (b : Bool) (E : Int) (ds : List Int) (w : World) (ht : Tabs w) (hR : Rt 8 5 398 k b E ds) :
    Calls Tryd.prog 16 #[.iface 42 (.agg #[]), numV k b E (tx ds)] w fun x w' => ∃ H L, x = .returned (.tuple #[wpV H L, .bool true]) ∧ Hid (IsW (pkW 8 5 398 k b E ds) H L) ∧ Below w.heap.size w w' := by
  rcases hR with ⟨rfl, hc, hl, e0, e1⟩ | ⟨rfl, he, hd⟩ | ⟨hk, he, hd, hb⟩
  · exact packNum_fin64 b E ds w ht hc hl e0 e1
  · exact packNum_spc64 2 b E ds w (.inr (.inl ⟨rfl, he, hd⟩)) (.inl rfl) (by rw [hd]; simp)
  · exact packNum_spc64 k b E ds w (.inr (.inr ⟨hk, he, hd, hb⟩)) (.inr hk) (by rw [hd]; simp)
theorem packNum_no128 (k : Int) (b : Bool) (e : Int) (s : ByteArray) (w : World) (hs : s.size ≤ 4611686018427387904) (h : numB 128 k b e s = false) :
    Calls Tryd.prog 16 #[.iface 48 (.agg #[]), numV k b e s] w fun x w' => x = .returned (.tuple #[wpV 0 0, .bool false]) ∧ Below w.heap.size w w' := by
  have HR : Hid (∀ X, Calls Tryd.prog 26 #[.iface 48 (.agg #[]), numV k b e s] X fun r w' => r = .returned (.bool false) ∧ Below X.heap.size X w') := fun X => by rw [← h]; exact isRight_128 k b e s X hs
  have HX0 : Hid (Below (w.heap.size + 2) (pbx w k b e s) (pbx w k b e s)) := Below.refl _ _
  clear h
  go_enter Tryd.func16, Tryd.ntmps16
  go_wp2_with fail
  refine (HR.out _).mono ?_
  rintro r w1 ⟨rfl, hb1⟩
  have HX1 : Hid (Below (w.heap.size + 2) (pbx w k b e s) w1) := pbx_next HX0.out hb1
  obtain ⟨-, -, -, -, c4, c5, c6⟩ := pbx_cells HX1.out
  have HF : Hid (_ ∧ _) := pbx_fin HX1.out (.int .u64 0) (.int .u64 0)
  clear hb1 HX0
  go_wp2
  refine bodyPost_ret (results_wide rfl _ _ rfl HF.out.1.1 HF.out.1.2) rfl ?_
  exact ⟨rfl, HF.out.2⟩
set_option maxHeartbeats 1000000 in
theorem packNum_fin128 (b : Bool) (E : Int) (ds : List Int) (w : World) (ht : Tabs w) (hc : Canon ds) (hl : ds.length ≤ 34) (e0 : 0 ≤ E + 6176) (e1 : E + 6176 < 12288) :
    Calls Tryd.prog 16 #[.iface 48 (.agg #[]), numV 1 b E (tx ds)] w fun x w' => ∃ H L, x = .returned (.tuple #[wpV H L, .bool true]) ∧ Hid (IsW (pkW 12 11 6176 1 b E ds) H L) ∧ Below w.heap.size w w' := by
  have hR : Rt 12 11 6176 1 b E ds := .inl ⟨rfl, hc, hl, e0, e1⟩
  have hsz : (tx ds).size ≤ 4611686018427387904 := by rw [tx_size]; omega
  have HR : Hid (∀ X, Calls Tryd.prog 26 #[.iface 48 (.agg #[]), numV 1 b E (tx ds)] X fun r w' => r = .returned (.bool true) ∧ Below X.heap.size X w') := fun X => by rw [← right_numB 128 1 b E ds 12 11 6176 (.inr ⟨rfl, rfl, rfl, rfl⟩) hR]; exact isRight_128 1 b E (tx ds) X hsz
  have HFf : Hid (∀ X, Below w.heap.size w X → Calls Tryd.prog 28 #[.iface 48 (.agg #[]), numV 1 b E (tx ds)] X fun x w' => ∃ gb cap, x = .returned (flV b (fv ((E + 6176) / 4096) ((npad 34 ds).getD 0 0)) ((E + 6176) % 4096) (.slice (some ⟨gb, 0, none⟩) 11 cap)) ∧ gb < w'.heap.size ∧ (∀ i, i < 11 → w'.cell? ⟨gb, i, none⟩ = some (.int .i64 ((ds3 ((npad 34 ds).drop 1) 11).getD i 0))) ∧ Below X.heap.size X w') := fun X hb => finiteFields_128 b E ds X (ht.below hb (Nat.le_refl _)) hc hl e0 e1
  have hSd : Dec (npad 34 ds) := npad_dec 34 ds hc.1
  have hF := dec_at (npad 34 ds) hSd 0
  have hfv := fv_bd ((E + 6176) / 4096) ((npad 34 ds).getD 0 0) (by omega) (by omega) hF.1 hF.2
  have HJ : Hid (∀ X gb cap, gb < X.heap.size → (∀ i, i < 11 → X.cell? ⟨gb, i, none⟩ = some (.int .i64 ((ds3 ((npad 34 ds).drop 1) 11).getD i 0))) → Calls Tryd.prog 27 #[.iface 48 (.agg #[]), flV b (fv ((E + 6176) / 4096) ((npad 34 ds).getD 0 0)) ((E + 6176) % 4096) (.slice (some ⟨gb, 0, none⟩) 11 cap)] X fun e w' => ∃ H L, e = .returned (wpV H L) ∧ Hid (IsW (pkW 12 11 6176 1 b E ds) H L) ∧ Below X.heap.size X w') := fun X gb cap hg hcl => by
    have := joinFields_128 b (fv ((E + 6176) / 4096) ((npad 34 ds).getD 0 0)) ((E + 6176) % 4096) gb cap (ds3 ((npad 34 ds).drop 1) 11) X (ds3_len _ _) (ds3_bd _ hSd 11) hg hcl hfv.1 (by omega) (by omega) (by omega)
    have e := jn_fin b (E + 6176) (npad 34 ds) hSd 12 11
    rw [show (2 : Int) ^ 12 = 4096 by decide] at e
    rw [show (2 : Int) ^ 12 = 4096 by decide, e] at this
    have e2 : pkW 12 11 6176 1 b E ds = finW b (E + 6176) (npad 34 ds) 12 11 := by unfold pkW; rw [if_pos rfl]
    rw [e2]
    exact this
  have HX0 : Hid (Below (w.heap.size + 2) (pbx w 1 b E (tx ds)) (pbx w 1 b E (tx ds))) := Below.refl _ _
  clear hR hsz hfv hF hSd hc hl ht e0 e1
  generalize pkW 12 11 6176 1 b E ds = Z at *
  generalize ds3 ((npad 34 ds).drop 1) 11 = D at *
  generalize fv ((E + 6176) / 4096) ((npad 34 ds).getD 0 0) = LD at *
  generalize (E + 6176) % 4096 = RS at *
  generalize tx ds = T at *
  go_enter Tryd.func16, Tryd.ntmps16
  go_wp2_with fail
  refine (HR.out _).mono ?_
  rintro r w1 ⟨rfl, hb1⟩
  have HX1 : Hid (Below (w.heap.size + 2) (pbx w 1 b E T) w1) := pbx_next HX0.out hb1
  obtain ⟨c0, c1, c2, c3, -, -, -⟩ := pbx_cells HX1.out
  clear hb1 HX0
  go_wp2_with fail
  refine (HFf.out _ (pbx_out HX1.out)).mono ?_
  rintro r w2 ⟨gb, cap, rfl, hg, hcl, hb2⟩
  have HX2 : Hid (Below (w.heap.size + 2) (pbx w 1 b E T) w2) := pbx_next HX1.out hb2
  have HJ2 : Hid (Calls Tryd.prog 27 #[.iface 48 (.agg #[]), flV b LD RS (.slice (some ⟨gb, 0, none⟩) 11 cap)] w2 fun e w' => ∃ H L, e = .returned (wpV H L) ∧ Hid (IsW Z H L) ∧ Below w2.heap.size w2 w') := HJ.out w2 gb cap hg hcl
  clear hb2 HX1 c0 c1 c2 c3 hcl HFf HJ
  go_wp2_with fail
  refine HJ2.out.mono ?_
  rintro r w3 ⟨H, L, rfl, hW, hb3⟩
  have HX3 : Hid (Below (w.heap.size + 2) (pbx w 1 b E T) w3) := pbx_next HX2.out hb3
  obtain ⟨-, -, -, -, c4, c5, c6⟩ := pbx_cells HX3.out
  have HF : Hid (_ ∧ _) := pbx_fin HX3.out (.int .u64 H) (.int .u64 L)
  clear hb3 HX2 HJ2
  go_wp2
  refine bodyPost_ret (results_wide rfl _ _ rfl HF.out.1.1 HF.out.1.2) rfl ?_
  exact ⟨H, L, rfl, hW, HF.out.2⟩
set_option maxHeartbeats 1000000 in
theorem packNum_spc128 (k : Int) (b : Bool) (E : Int) (ds : List Int) (w : World) (hR : Rt 12 11 6176 k b E ds) (hk : k = 2 ∨ k = 3 ∨ k = 4) (hl : ds.length ≤ 1000) :
    Calls Tryd.prog 16 #[.iface 48 (.agg #[]), numV k b E (tx ds)] w fun x w' => ∃ H L, x = .returned (.tuple #[wpV H L, .bool true]) ∧ Hid (IsW (pkW 12 11 6176 k b E ds) H L) ∧ Below w.heap.size w w' := by
  have hsz : (tx ds).size ≤ 4611686018427387904 := by rw [tx_size]; omega
  have HR : Hid (∀ X, Calls Tryd.prog 26 #[.iface 48 (.agg #[]), numV k b E (tx ds)] X fun r w' => r = .returned (.bool true) ∧ Below X.heap.size X w') := fun X => by rw [← right_numB 128 k b E ds 12 11 6176 (.inr ⟨rfl, rfl, rfl, rfl⟩) hR]; exact isRight_128 k b E (tx ds) X hsz
  have HFf : Hid (∀ X, Calls Tryd.prog 29 #[.iface 48 (.agg #[]), numV k b E (tx ds)] X fun x w' => ∃ gb, x = .returned (flV b (if k = 2 then 30 else 31) (if k = 4 then 2048 else 0) (.slice (some ⟨gb, 0, none⟩) 11 11)) ∧ gb < w'.heap.size ∧ (∀ i, i < 11 → w'.cell? ⟨gb, i, none⟩ = some (.int .i64 0)) ∧ Below X.heap.size X w') := fun X => specialFields_128 k b E (tx ds) X hk
  have hld : 0 ≤ (if k = 2 then (30 : Int) else 31) ∧ (if k = 2 then (30 : Int) else 31) < 32 := by split <;> omega
  have hrs : 0 ≤ (if k = 4 then (2048 : Int) else 0) ∧ (if k = 4 then (2048 : Int) else 0) < 4096 := by split <;> omega
  have HJ : Hid (∀ X gb, gb < X.heap.size → (∀ i, i < 11 → X.cell? ⟨gb, i, none⟩ = some (.int .i64 0)) → Calls Tryd.prog 27 #[.iface 48 (.agg #[]), flV b (if k = 2 then 30 else 31) (if k = 4 then 2048 else 0) (.slice (some ⟨gb, 0, none⟩) 11 11)] X fun e w' => ∃ H L, e = .returned (wpV H L) ∧ Hid (IsW (pkW 12 11 6176 k b E ds) H L) ∧ Below X.heap.size X w') := fun X gb hg hcl => by
    have := joinFields_128 b (if k = 2 then 30 else 31) (if k = 4 then 2048 else 0) gb 11 (List.replicate 11 0) X (by simp) (fun i => by rw [rep_zero]; decide) hg (fun i hi => by rw [rep_zero]; exact hcl i hi) hld.1 hld.2 hrs.1 (by rw [show (2 : Int) ^ 12 = 4096 by decide]; exact hrs.2)
    have e := jn_spc k b 12 11 (by decide) hk (List.replicate 11 0) (rep_zero 11)
    rw [show (2 : Int) ^ (12 - 1) = 2048 by decide] at e
    rw [e] at this
    have e2 : pkW 12 11 6176 k b E ds = spcW k b 12 11 := by unfold pkW; rw [if_neg (by omega)]
    rw [e2]
    exact this
  have HX0 : Hid (Below (w.heap.size + 2) (pbx w k b E (tx ds)) (pbx w k b E (tx ds))) := Below.refl _ _
  have hk1 : (k == 1) = false := beq_eq_false_iff_ne.2 (by omega)
  clear hR hsz hld hrs hl hk
  generalize pkW 12 11 6176 k b E ds = Z at *
  generalize (if k = 2 then (30 : Int) else 31) = LD at *
  generalize (if k = 4 then (2048 : Int) else 0) = RS at *
  generalize tx ds = T at *
  go_enter Tryd.func16, Tryd.ntmps16
  go_wp2_with fail
  refine (HR.out _).mono ?_
  rintro r w1 ⟨rfl, hb1⟩
  have HX1 : Hid (Below (w.heap.size + 2) (pbx w k b E T) w1) := pbx_next HX0.out hb1
  obtain ⟨c0, c1, c2, c3, -, -, -⟩ := pbx_cells HX1.out
  clear hb1 HX0
  go_wp2_with fail
  refine (HFf.out _).mono ?_
  rintro r w2 ⟨gb, rfl, hg, hcl, hb2⟩
  have HX2 : Hid (Below (w.heap.size + 2) (pbx w k b E T) w2) := pbx_next HX1.out hb2
  have HJ2 : Hid (Calls Tryd.prog 27 #[.iface 48 (.agg #[]), flV b LD RS (.slice (some ⟨gb, 0, none⟩) 11 11)] w2 fun e w' => ∃ H L, e = .returned (wpV H L) ∧ Hid (IsW Z H L) ∧ Below w2.heap.size w2 w') := HJ.out w2 gb hg hcl
  clear hb2 HX1 c0 c1 c2 c3 hcl HFf HJ
  go_wp2_with fail
  refine HJ2.out.mono ?_
  rintro r w3 ⟨H, L, rfl, hW, hb3⟩
  have HX3 : Hid (Below (w.heap.size + 2) (pbx w k b E T) w3) := pbx_next HX2.out hb3
  obtain ⟨-, -, -, -, c4, c5, c6⟩ := pbx_cells HX3.out
  have HF : Hid (_ ∧ _) := pbx_fin HX3.out (.int .u64 H) (.int .u64 L)
  clear hb3 HX2 HJ2
  go_wp2
  refine bodyPost_ret (results_wide rfl _ _ rfl HF.out.1.1 HF.out.1.2) rfl ?_
  exact ⟨H, L, rfl, hW, HF.out.2⟩
theorem packNum_yes128 (k : Int) (b : Bool) (E : Int) (ds : List Int) (w : World) (ht : Tabs w) (hR : Rt 12 11 6176 k b E ds) :
    Calls Tryd.prog 16 #[.iface 48 (.agg #[]), numV k b E (tx ds)] w fun x w' => ∃ H L, x = .returned (.tuple #[wpV H L, .bool true]) ∧ Hid (IsW (pkW 12 11 6176 k b E ds) H L) ∧ Below w.heap.size w w' := by
  rcases hR with ⟨rfl, hc, hl, e0, e1⟩ | ⟨rfl, he, hd⟩ | ⟨hk, he, hd, hb⟩
  · exact packNum_fin128 b E ds w ht hc hl e0 e1
  · exact packNum_spc128 2 b E ds w (.inr (.inl ⟨rfl, he, hd⟩)) (.inl rfl) (by rw [hd]; simp)
  · exact packNum_spc128 k b E ds w (.inr (.inr ⟨hk, he, hd, hb⟩)) (.inr hk) (by rw [hd]; simp)
/-- What is packed into 64 bits. -/
theorem iPack64_no (k : Int) (b : Bool) (e : Int) (s : ByteArray) (w : World) (hs : s.size ≤ 4611686018427387904) (h : numB 64 k b e s = false) :
    Calls Tryd.prog 6 #[numV k b e s] w fun x w' => x = .returned (.tuple #[.int .u64 0, .bool false]) ∧ Below w.heap.size w w' := by
  have HP : Hid (∀ X, Calls Tryd.prog 16 #[.iface 42 (.agg #[]), numV k b e s] X fun x w' => x = .returned (.tuple #[wpV 0 0, .bool false]) ∧ Below X.heap.size X w') := fun X => packNum_no64 k b e s X hs h
  have HX0 : Hid (Below (w.heap.size + 1) (nbq w k b e s) (nbq w k b e s)) := Below.refl _ _
  clear h
  go_enter Tryd.func6, Tryd.ntmps6
  go_wp2_with fail
  refine (HP.out _).mono ?_
  rintro r w1 ⟨rfl, hb1⟩
  have HX1 : Hid (Below (w.heap.size + 1) (nbq w k b e s) w1) := nbq_next HX0.out hb1
  have HB : Hid (∀ o, Below w.heap.size w (w1.alloc o)) := fun o => (nbq_out HX1.out).alloc (nbq_out HX1.out).size o
  clear hb1 HX0 HX1
  go_wp2
  go_ret2
  exact ⟨rfl, HB.out _⟩
theorem iPack64_yes (k : Int) (b : Bool) (e : Int) (ds : List Int) (w : World) (ht : Tabs w) (hR : Rt 8 5 398 k b e ds) :
    Calls Tryd.prog 6 #[numV k b e (tx ds)] w fun x w' => x = .returned (.tuple #[.int .u64 (pkW 8 5 398 k b e ds), .bool true]) ∧ Below w.heap.size w w' := by
  have HP : Hid (∀ X, Below w.heap.size w X → Calls Tryd.prog 16 #[.iface 42 (.agg #[]), numV k b e (tx ds)] X fun x w' => ∃ H L, x = .returned (.tuple #[wpV H L, .bool true]) ∧ Hid (IsW (pkW 8 5 398 k b e ds) H L) ∧ Below X.heap.size X w') := fun X hb => packNum_yes64 k b e ds X (ht.below hb (Nat.le_refl _)) hR
  have hbd : 0 ≤ pkW 8 5 398 k b e ds ∧ pkW 8 5 398 k b e ds < 18446744073709551616 := by
    have := pkW_bd 8 5 398 k b e ds (by decide) hR
    rw [show (2 : Int) ^ (6 + 8 + 10 * 5) = 18446744073709551616 by decide] at this
    exact this
  have HX0 : Hid (Below (w.heap.size + 1) (nbq w k b e (tx ds)) (nbq w k b e (tx ds))) := Below.refl _ _
  clear ht hR
  generalize pkW 8 5 398 k b e ds = Z at *
  generalize tx ds = T at *
  go_enter Tryd.func6, Tryd.ntmps6
  go_wp2_with fail
  refine (HP.out _ (nbq_out HX0.out)).mono ?_
  rintro r w1 ⟨H, L, rfl, hW, hb1⟩
  obtain rfl : L = Z := by have := hW.out.2.1; omega
  have HX1 : Hid (Below (w.heap.size + 1) (nbq w k b e T) w1) := nbq_next HX0.out hb1
  have HB : Hid (∀ o, Below w.heap.size w (w1.alloc o)) := fun o => (nbq_out HX1.out).alloc (nbq_out HX1.out).size o
  clear hb1 HX0 HX1 hW HP
  go_wp2
  go_ret2
  exact ⟨rfl, HB.out _⟩
/-- .. into 128. -/
theorem iPack128_no (k : Int) (b : Bool) (e : Int) (s : ByteArray) (w : World) (hs : s.size ≤ 4611686018427387904) (h : numB 128 k b e s = false) :
    Calls Tryd.prog 11 #[numV k b e s] w fun x w' => x = .returned (.tuple #[wpV 0 0, .bool false]) ∧ Below w.heap.size w w' := by
  have HP : Hid (∀ X, Calls Tryd.prog 16 #[.iface 48 (.agg #[]), numV k b e s] X fun x w' => x = .returned (.tuple #[wpV 0 0, .bool false]) ∧ Below X.heap.size X w') := fun X => packNum_no128 k b e s X hs h
  have HX0 : Hid (Below (w.heap.size + 2) (pbx w k b e s) (pbx w k b e s)) := Below.refl _ _
  clear h
  go_enter Tryd.func11, Tryd.ntmps11
  go_wp2_with fail
  refine (HP.out _).mono ?_
  rintro r w1 ⟨rfl, hb1⟩
  have HX1 : Hid (Below (w.heap.size + 2) (pbx w k b e s) w1) := pbx_next HX0.out hb1
  obtain ⟨-, -, -, -, c4, c5, c6⟩ := pbx_cells HX1.out
  have HF : Hid (_ ∧ _) := pbx_fin HX1.out (.int .u64 0) (.int .u64 0)
  clear hb1 HX0 HX1
  go_wp2
  refine bodyPost_ret (results_wide rfl _ _ rfl HF.out.1.1 HF.out.1.2) rfl ?_
  exact ⟨rfl, HF.out.2⟩
theorem iPack128_yes (k : Int) (b : Bool) (e : Int) (ds : List Int) (w : World) (ht : Tabs w) (hR : Rt 12 11 6176 k b e ds) :
    Calls Tryd.prog 11 #[numV k b e (tx ds)] w fun x w' => x = .returned (.tuple #[wpV (pkW 12 11 6176 k b e ds / 18446744073709551616) (pkW 12 11 6176 k b e ds % 18446744073709551616), .bool true]) ∧ Below w.heap.size w w' := by
  have HP : Hid (∀ X, Below w.heap.size w X → Calls Tryd.prog 16 #[.iface 48 (.agg #[]), numV k b e (tx ds)] X fun x w' => ∃ H L, x = .returned (.tuple #[wpV H L, .bool true]) ∧ Hid (IsW (pkW 12 11 6176 k b e ds) H L) ∧ Below X.heap.size X w') := fun X hb => packNum_yes128 k b e ds X (ht.below hb (Nat.le_refl _)) hR
  have HX0 : Hid (Below (w.heap.size + 2) (pbx w k b e (tx ds)) (pbx w k b e (tx ds))) := Below.refl _ _
  clear ht hR
  generalize pkW 12 11 6176 k b e ds = Z at *
  generalize tx ds = T at *
  go_enter Tryd.func11, Tryd.ntmps11
  go_wp2_with fail
  refine (HP.out _ (pbx_out HX0.out)).mono ?_
  rintro r w1 ⟨H, L, rfl, hW, hb1⟩
  have EH : Hid (H = Z / 18446744073709551616 ∧ L = Z % 18446744073709551616) := ⟨hW.out.1, hW.out.2.1⟩
  have HX1 : Hid (Below (w.heap.size + 2) (pbx w k b e T) w1) := pbx_next HX0.out hb1
  obtain ⟨-, -, -, -, c4, c5, c6⟩ := pbx_cells HX1.out
  have HF : Hid (_ ∧ _) := pbx_fin HX1.out (.int .u64 H) (.int .u64 L)
  clear hb1 HX0 HX1 hW HP
  go_wp2
  refine bodyPost_ret (results_wide rfl _ _ rfl HF.out.1.1 HF.out.1.2) rfl ?_
  refine ⟨?_, HF.out.2⟩
  rw [← EH.out.1, ← EH.out.2]
  rfl
end Go.Proofs.YtmjkpjmccdjkjadDoor
