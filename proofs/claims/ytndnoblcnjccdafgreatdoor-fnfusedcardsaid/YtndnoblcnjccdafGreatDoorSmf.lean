/-
  Fma of the model at any arguments, walked.
-/
import Derived.Test.YtndnoblcnjccdafGreatDoorMuP
namespace Go.Proofs.YtndnoblcnjccdafGreatDoor
open Go.RowKit
set_option linter.unusedVariables false
set_option maxRecDepth 100000
/-- One of three. -/
def tw3 {α : Type} (a b c : α) (i : Nat) : α := if i = 0 then a else if i = 1 then b else c
theorem nrw3 {W : World} {g : Nat} {T : TypeId} {ka : Int} {na : Bool} {ea : Int} {sa : ByteArray} {kb : Int} {nb : Bool} {eb : Int} {sb : ByteArray} {kc : Int} {nc : Bool} {ec : Int} {sc : ByteArray} (h : W.heap[g]? = some (.cells #[.int .i64 ka, .bool na, .int .i64 ea, .string sa, .int .i64 kb, .bool nb, .int .i64 eb, .string sb, .int .i64 kc, .bool nc, .int .i64 ec, .string sc] T (0, 0))) :
    NRw W g 3 (tw3 ka kb kc) (tw3 na nb nc) (tw3 ea eb ec) (tw3 sa sb sc) := fun i hi => by
  match i, hi with
  | 0, _ => exact ⟨(cell_lit h 0).trans rfl, (cell_lit h 1).trans rfl, (cell_lit h 2).trans rfl, (cell_lit h 3).trans rfl⟩
  | 1, _ => exact ⟨(cell_lit h 4).trans rfl, (cell_lit h 5).trans rfl, (cell_lit h 6).trans rfl, (cell_lit h 7).trans rfl⟩
  | 2, _ => exact ⟨(cell_lit h 8).trans rfl, (cell_lit h 9).trans rfl, (cell_lit h 10).trans rfl, (cell_lit h 11).trans rfl⟩
theorem okB3 (g : Nat → Bool) [Decidable (∀ i, i < 3 → g i = true)] : decide (∀ i, i < 3 → g i = true) = (g 0 && (g 1 && g 2)) := by
  by_cases h : ∀ i, i < 3 → g i = true
  · rw [decide_eq_true h, h 0 (by decide), h 1 (by decide), h 2 (by decide)]; rfl
  · rw [decide_eq_false h]
    cases h0 : g 0 with
    | false => rfl
    | true =>
      cases h1 : g 1 with
      | false => rfl
      | true =>
        cases h2 : g 2 with
        | false => rfl
        | true => exact absurd (fun i hi => by
            match i, hi with
            | 0, _ => exact h0
            | 1, _ => exact h1
            | 2, _ => exact h2) h
theorem tx_nil : tx [] = { data := #[] } := by apply ByteArray.ext; rw [tx_data]; rfl
def fmaO (f mode : Int) (ka : Int) (na : Bool) (ea : Int) (sa : ByteArray) (kb : Int) (nb : Bool) (eb : Int) (sb : ByteArray) (kc : Int) (nc : Bool) (ec : Int) (sc : ByteArray) : Bool := decide (1 ≤ mode ∧ mode ≤ 5) && (numB f ka na ea sa && (numB f kb nb eb sb && numB f kc nc ec sc))
/-- What Fma tells of three right numbers that are no NaNs. -/
def fmaX (f mode : Int) (ka : Int) (na : Bool) (ea : Int) (sa : ByteArray) (kb : Int) (nb : Bool) (eb : Int) (sb : ByteArray) (kc : Int) (nc : Bool) (ec : Int) (sc : ByteArray) : R5 :=
  if ka = 1 ∧ kb = 1 then addX f mode 1 (!(na == nb)) (ea + eb) (nt (vl (dl sa) * vl (dl sb))) kc nc ec (dl sc)
  else if z0B ka sa || z0B kb sb then (false, (3, 0, { data := #[] }, 1)) else addX f mode 2 (!(na == nb)) 0 [] kc nc ec (dl sc)
/-- What Fma tells. -/
def fmaR (f mode : Int) (ka : Int) (na : Bool) (ea : Int) (sa : ByteArray) (kb : Int) (nb : Bool) (eb : Int) (sb : ByteArray) (kc : Int) (nc : Bool) (ec : Int) (sc : ByteArray) : R5 :=
  if fmaO f mode ka na ea sa kb nb eb sb kc nc ec sc then (if spB 3 (tw3 ka kb kc) then (false, (3, 0, { data := #[] }, spF 3 (tw3 ka kb kc))) else fmaX f mode ka na ea sa kb nb eb sb kc nc ec sc)
  else (false, (0, 0, { data := #[] }, 0))
/-- The four blocks: the three numbers and the result. -/
def SVm (w W : World) (ka : Int) (na : Bool) (ea : Int) (sa : ByteArray) (kb : Int) (nb : Bool) (eb : Int) (sb : ByteArray) (kc : Int) (nc : Bool) (ec : Int) (sc : ByteArray) : Prop :=
  At4r W w.heap.size (.int .i64 ka) (.bool na) (.int .i64 ea) (.string sa) ∧ At4r W (w.heap.size + 1) (.int .i64 kb) (.bool nb) (.int .i64 eb) (.string sb) ∧ At4r W (w.heap.size + 2) (.int .i64 kc) (.bool nc) (.int .i64 ec) (.string sc)
    ∧ At5 W (w.heap.size + 3) (.int .i64 0) (.bool false) (.int .i64 0) (.string { data := #[] }) (.int .i64 0) ∧ Below w.heap.size w W ∧ w.heap.size + 3 < W.heap.size
abbrev svmW (w : World) (ka : Int) (na : Bool) (ea : Int) (sa : ByteArray) (kb : Int) (nb : Bool) (eb : Int) (sb : ByteArray) (kc : Int) (nc : Bool) (ec : Int) (sc : ByteArray) : World :=
  (((w.alloc (.cells #[.int .i64 ka, .bool na, .int .i64 ea, .string sa] 25)).alloc (.cells #[.int .i64 kb, .bool nb, .int .i64 eb, .string sb] 25)).alloc (.cells #[.int .i64 kc, .bool nc, .int .i64 ec, .string sc] 25)).alloc (.cells #[.int .i64 0, .bool false, .int .i64 0, .string { data := #[] }, .int .i64 0] 29)
theorem SVm.next {w W w1 : World} {ka : Int} {na : Bool} {ea : Int} {sa : ByteArray} {kb : Int} {nb : Bool} {eb : Int} {sb : ByteArray} {kc : Int} {nc : Bool} {ec : Int} {sc : ByteArray} (h : SVm w W ka na ea sa kb nb eb sb kc nc ec sc) (hb : Below W.heap.size W w1) : SVm w w1 ka na ea sa kb nb eb sb kc nc ec sc :=
  ⟨h.1.next hb, h.2.1.next hb, h.2.2.1.next hb, h.2.2.2.1.below hb h.2.2.2.2.2, h.2.2.2.2.1.trans (hb.mono h.2.2.2.2.1.size), Nat.lt_of_lt_of_le h.2.2.2.2.2 hb.size⟩
theorem SVm.alloc {w W : World} {ka : Int} {na : Bool} {ea : Int} {sa : ByteArray} {kb : Int} {nb : Bool} {eb : Int} {sb : ByteArray} {kc : Int} {nc : Bool} {ec : Int} {sc : ByteArray} (h : SVm w W ka na ea sa kb nb eb sb kc nc ec sc) (o : Obj) : SVm w (W.alloc o) ka na ea sa kb nb eb sb kc nc ec sc := h.next ((Below.refl _ _).alloc (Nat.le_refl _) o)
theorem svm_new (w : World) (ka : Int) (na : Bool) (ea : Int) (sa : ByteArray) (kb : Int) (nb : Bool) (eb : Int) (sb : ByteArray) (kc : Int) (nc : Bool) (ec : Int) (sc : ByteArray) : SVm w (svmW w ka na ea sa kb nb eb sb kc nc ec sc) ka na ea sa kb nb eb sb kc nc ec sc := by
  have s1 : (w.alloc (.cells #[.int .i64 ka, .bool na, .int .i64 ea, .string sa] 25)).heap.size = w.heap.size + 1 := new_size _ _
  have s2 : ((w.alloc (.cells #[.int .i64 ka, .bool na, .int .i64 ea, .string sa] 25)).alloc (.cells #[.int .i64 kb, .bool nb, .int .i64 eb, .string sb] 25)).heap.size = w.heap.size + 2 := by rw [new_size (w.alloc (.cells #[.int .i64 ka, .bool na, .int .i64 ea, .string sa] 25)) _, s1]
  have s3 : (((w.alloc (.cells #[.int .i64 ka, .bool na, .int .i64 ea, .string sa] 25)).alloc (.cells #[.int .i64 kb, .bool nb, .int .i64 eb, .string sb] 25)).alloc (.cells #[.int .i64 kc, .bool nc, .int .i64 ec, .string sc] 25)).heap.size = w.heap.size + 3 := by rw [new_size ((w.alloc (.cells #[.int .i64 ka, .bool na, .int .i64 ea, .string sa] 25)).alloc (.cells #[.int .i64 kb, .bool nb, .int .i64 eb, .string sb] 25)) _, s2]
  have b1 := (Below.refl w.heap.size w).alloc (Nat.le_refl _) (.cells #[.int .i64 ka, .bool na, .int .i64 ea, .string sa] 25)
  have g1 : At4r (w.alloc (.cells #[.int .i64 ka, .bool na, .int .i64 ea, .string sa] 25)) w.heap.size _ _ _ _ := at4r_new w (.int .i64 ka) (.bool na) (.int .i64 ea) (.string sa)
  have g2 := at4r_new (w.alloc (.cells #[.int .i64 ka, .bool na, .int .i64 ea, .string sa] 25)) (.int .i64 kb) (.bool nb) (.int .i64 eb) (.string sb)
  have g3 := at4r_new ((w.alloc (.cells #[.int .i64 ka, .bool na, .int .i64 ea, .string sa] 25)).alloc (.cells #[.int .i64 kb, .bool nb, .int .i64 eb, .string sb] 25)) (.int .i64 kc) (.bool nc) (.int .i64 ec) (.string sc)
  have g4 := heap_at (((w.alloc (.cells #[.int .i64 ka, .bool na, .int .i64 ea, .string sa] 25)).alloc (.cells #[.int .i64 kb, .bool nb, .int .i64 eb, .string sb] 25)).alloc (.cells #[.int .i64 kc, .bool nc, .int .i64 ec, .string sc] 25)) (.cells #[.int .i64 0, .bool false, .int .i64 0, .string { data := #[] }, .int .i64 0] 29)
  rw [s1] at g2
  rw [s2] at g3
  rw [s3] at g4
  have d2 : Below (w.alloc (.cells #[.int .i64 ka, .bool na, .int .i64 ea, .string sa] 25)).heap.size (w.alloc (.cells #[.int .i64 ka, .bool na, .int .i64 ea, .string sa] 25)) ((w.alloc (.cells #[.int .i64 ka, .bool na, .int .i64 ea, .string sa] 25)).alloc (.cells #[.int .i64 kb, .bool nb, .int .i64 eb, .string sb] 25)) := (Below.refl _ _).alloc (Nat.le_refl _) _
  have d3 : Below ((w.alloc (.cells #[.int .i64 ka, .bool na, .int .i64 ea, .string sa] 25)).alloc (.cells #[.int .i64 kb, .bool nb, .int .i64 eb, .string sb] 25)).heap.size ((w.alloc (.cells #[.int .i64 ka, .bool na, .int .i64 ea, .string sa] 25)).alloc (.cells #[.int .i64 kb, .bool nb, .int .i64 eb, .string sb] 25)) (((w.alloc (.cells #[.int .i64 ka, .bool na, .int .i64 ea, .string sa] 25)).alloc (.cells #[.int .i64 kb, .bool nb, .int .i64 eb, .string sb] 25)).alloc (.cells #[.int .i64 kc, .bool nc, .int .i64 ec, .string sc] 25)) := (Below.refl _ _).alloc (Nat.le_refl _) _
  have d4 : Below (((w.alloc (.cells #[.int .i64 ka, .bool na, .int .i64 ea, .string sa] 25)).alloc (.cells #[.int .i64 kb, .bool nb, .int .i64 eb, .string sb] 25)).alloc (.cells #[.int .i64 kc, .bool nc, .int .i64 ec, .string sc] 25)).heap.size (((w.alloc (.cells #[.int .i64 ka, .bool na, .int .i64 ea, .string sa] 25)).alloc (.cells #[.int .i64 kb, .bool nb, .int .i64 eb, .string sb] 25)).alloc (.cells #[.int .i64 kc, .bool nc, .int .i64 ec, .string sc] 25)) (svmW w ka na ea sa kb nb eb sb kc nc ec sc) := (Below.refl _ _).alloc (Nat.le_refl _) _
  refine ⟨((g1.next d2).next d3).next d4, (g2.next d3).next d4, g3.next d4, g4, ((b1.alloc (by rw [s1]; omega) _).alloc (by rw [s2]; omega) _).alloc (by rw [s3]; omega) _, ?_⟩
  rw [new_size (((w.alloc (.cells #[.int .i64 ka, .bool na, .int .i64 ea, .string sa] 25)).alloc (.cells #[.int .i64 kb, .bool nb, .int .i64 eb, .string sb] 25)).alloc (.cells #[.int .i64 kc, .bool nc, .int .i64 ec, .string sc] 25)) _, s3]
  omega
set_option maxRecDepth 100000 in
set_option maxHeartbeats 1000000 in
theorem sFma_ok (f mode : Int) (ka : Int) (na : Bool) (ea : Int) (sa : ByteArray) (kb : Int) (nb : Bool) (eb : Int) (sb : ByteArray) (kc : Int) (nc : Bool) (ec : Int) (sc : ByteArray) (w : World) (hsa : sa.size ≤ 4611686018427387904) (hsb : sb.size ≤ 4611686018427387904) (hsc : sc.size ≤ 4611686018427387904) :
    Calls Tryz.prog 17 #[.int .i64 f, .int .i64 mode, numV ka na ea sa, numV kb nb eb sb, numV kc nc ec sc] w fun x w' => x = .returned (rsD (fmaR f mode ka na ea sa kb nb eb sb kc nc ec sc).1 (fmaR f mode ka na ea sa kb nb eb sb kc nc ec sc).2) ∧ Below w.heap.size w w' := by
  have HS : Hid (SVm w (svmW w ka na ea sa kb nb eb sb kc nc ec sc) ka na ea sa kb nb eb sb kc nc ec sc) := svm_new w ka na ea sa kb nb eb sb kc nc ec sc
  have HOk : Hid (∀ (g : Nat) X, g < X.heap.size → NRw X g 3 (tw3 ka kb kc) (tw3 na nb nc) (tw3 ea eb ec) (tw3 sa sb sc) → Calls Tryz.prog 42 #[.int .i64 f, .int .i64 mode, .slice (some ⟨g, 0, none⟩) 3 3] X fun x w' => x = .returned (.bool (fmaO f mode ka na ea sa kb nb eb sb kc nc ec sc)) ∧ Below X.heap.size X w') := fun g X hg hr =>
    (l13Ok_any f mode 3 g (tw3 ka kb kc) (tw3 na nb nc) (tw3 ea eb ec) (tw3 sa sb sc) X (by decide) hg hr (fun i hi => by match i, hi with
      | 0, _ => exact hsa
      | 1, _ => exact hsb
      | 2, _ => exact hsc)).mono (by
        rintro x w' ⟨rfl, hb⟩
        exact ⟨by rw [okB3 (fun i => numB f (tw3 ka kb kc i) (tw3 na nb nc i) (tw3 ea eb ec i) (tw3 sa sb sc i))]; rfl, hb⟩)
  have HSp : Hid (∀ (g : Nat) X, g < X.heap.size → NRw X g 3 (tw3 ka kb kc) (tw3 na nb nc) (tw3 ea eb ec) (tw3 sa sb sc) → Calls Tryz.prog 43 #[.slice (some ⟨g, 0, none⟩) 3 3] X fun x w' => x = .returned (.tuple #[rsV 3 false 0 { data := #[] } (spF 3 (tw3 ka kb kc)), .bool (spB 3 (tw3 ka kb kc))]) ∧ Below X.heap.size X w') := fun g X hg hr => l13Special_any 3 g _ _ _ _ X (by decide) hg hr
  obtain ⟨R, hR⟩ : ∃ R, fmaR f mode ka na ea sa kb nb eb sb kc nc ec sc = R := ⟨_, rfl⟩
  have HR : Hid (fmaR f mode ka na ea sa kb nb eb sb kc nc ec sc = R) := hR
  rw [hR]
  clear hR hsa hsb hsc
  have hb0 := build_res00
  have hsz : (svmW w ka na ea sa kb nb eb sb kc nc ec sc).heap.size = w.heap.size + 1 + 1 + 1 + 1 := by simp
  have hg0 := heap_at (svmW w ka na ea sa kb nb eb sb kc nc ec sc) (.cells #[.int .i64 ka, .bool na, .int .i64 ea, .string sa, .int .i64 kb, .bool nb, .int .i64 eb, .string sb, .int .i64 kc, .bool nc, .int .i64 ec, .string sc] 25)
  rw [hsz] at hg0
  have hsz4 : ((svmW w ka na ea sa kb nb eb sb kc nc ec sc).alloc (.cells #[.int .i64 ka, .bool na, .int .i64 ea, .string sa, .int .i64 kb, .bool nb, .int .i64 eb, .string sb, .int .i64 kc, .bool nc, .int .i64 ec, .string sc] 25)).heap.size = w.heap.size + 1 + 1 + 1 + 1 + 1 := by simp
  have HL : Hid (NRw ((svmW w ka na ea sa kb nb eb sb kc nc ec sc).alloc (.cells #[.int .i64 ka, .bool na, .int .i64 ea, .string sa, .int .i64 kb, .bool nb, .int .i64 eb, .string sb, .int .i64 kc, .bool nc, .int .i64 ec, .string sc] 25)) (w.heap.size + 1 + 1 + 1 + 1) 3 (tw3 ka kb kc) (tw3 na nb nc) (tw3 ea eb ec) (tw3 sa sb sc) ∧ w.heap.size + 1 + 1 + 1 + 1 < ((svmW w ka na ea sa kb nb eb sb kc nc ec sc).alloc (.cells #[.int .i64 ka, .bool na, .int .i64 ea, .string sa, .int .i64 kb, .bool nb, .int .i64 eb, .string sb, .int .i64 kc, .bool nc, .int .i64 ec, .string sc] 25)).heap.size) := ⟨nrw3 hg0, by rw [hsz4]; omega⟩
  clear hsz hg0 hsz4
  go_enter Tryz.func17, Tryz.ntmps17
  go_wp2_with fail
  refine (HOk.out (w.heap.size + 1 + 1 + 1 + 1) _ HL.out.2 HL.out.1).mono ?_
  rintro e w1 ⟨rfl, hb1⟩
  have HS1 : Hid (SVm w w1 ka na ea sa kb nb eb sb kc nc ec sc) := (HS.out.alloc _).next hb1
  have HL1 : Hid (NRw w1 (w.heap.size + 1 + 1 + 1 + 1) 3 (tw3 ka kb kc) (tw3 na nb nc) (tw3 ea eb ec) (tw3 sa sb sc) ∧ w.heap.size + 1 + 1 + 1 + 1 < w1.heap.size) := ⟨HL.out.1.below hb1 HL.out.2, Nat.lt_of_lt_of_le HL.out.2 hb1.size⟩
  clear hb1 HL HS HOk
  cases hO : fmaO f mode ka na ea sa kb nb eb sb kc nc ec sc with
  | false =>
    have ER : Hid (R = (false, (0, 0, { data := #[] }, 0))) := by show _ = _; rw [← HR.out]; unfold fmaR; rw [hO]; rfl
    have HZ3 : Hid (At5 w1 (w.heap.size + 3) (.int .i64 0) (.bool false) (.int .i64 0) (.string { data := #[] }) (.int .i64 0) ∧ Below w.heap.size w w1) := ⟨HS1.out.2.2.2.1, HS1.out.2.2.2.2.1⟩
    clear hO HSp HS1 HL1 HR
    go_wp2_with (refine wpList_store_row rfl 29 (.tmp 10) (.tmp 25) rfl (w.heap.size + 3) #[.int .i64 0, .bool false, .int .i64 0, .string { data := #[] }, .int .i64 0] rfl rfl _ _ HZ3.out.1 (by kernel_rfl) rfl (one5 _ _ _ _ _) ?_)
    have hP := (HZ3.out.1.row (.int .i64 0) (.bool false) (.int .i64 0) (.string { data := #[] }) (.int .i64 0)).cells
    refine bodyPost_ret (results_res rfl _ _ rfl hP.1 hP.2.1 hP.2.2.1 hP.2.2.2.1 hP.2.2.2.2.1) rfl ?_
    exact ⟨by rw [ER.out], bel_row HZ3.out.2 (by omega) _⟩

  | true =>
    go_wp2_with fail
    refine (HSp.out (w.heap.size + 1 + 1 + 1 + 1) _ HL1.out.2 HL1.out.1).mono ?_
    rintro e w2 ⟨rfl, hb2⟩
    have HS2 : Hid (SVm w w2 ka na ea sa kb nb eb sb kc nc ec sc) := HS1.out.next hb2
    clear hb2 HL1 HS1 HSp hb0
    cases hB : spB 3 (tw3 ka kb kc) with
    | true =>
      have ER : Hid (R = (false, (3, 0, { data := #[] }, spF 3 (tw3 ka kb kc)))) := by show _ = _; rw [← HR.out]; unfold fmaR; rw [hO, hB]; rfl
      clear hO hB HR
      generalize spF 3 (tw3 ka kb kc) = FL at *
      have HZ3 : Hid (At5 (w2.alloc (.cells #[.int .i64 3, .bool false, .int .i64 0, .string { data := #[] }, .int .i64 FL] 29)) (w.heap.size + 3) (.int .i64 0) (.bool false) (.int .i64 0) (.string { data := #[] }) (.int .i64 0) ∧ Below w.heap.size w (w2.alloc (.cells #[.int .i64 3, .bool false, .int .i64 0, .string { data := #[] }, .int .i64 FL] 29))) := ⟨(HS2.out.alloc _).2.2.2.1, (HS2.out.alloc _).2.2.2.2.1⟩
      go_wp2_with (refine wpList_store_row rfl 29 (.tmp 10) (.tmp 32) rfl (w.heap.size + 3) #[.int .i64 3, .bool false, .int .i64 0, .string { data := #[] }, .int .i64 FL] rfl rfl _ _ HZ3.out.1 (by kernel_rfl) rfl (one5 _ _ _ _ _) ?_)
      have hP := (HZ3.out.1.row (.int .i64 3) (.bool false) (.int .i64 0) (.string { data := #[] }) (.int .i64 FL)).cells
      refine bodyPost_ret (results_res rfl _ _ rfl hP.1 hP.2.1 hP.2.2.1 hP.2.2.2.1 hP.2.2.2.2.1) rfl ?_
      exact ⟨by rw [ER.out], bel_row HZ3.out.2 (by omega) _⟩

    | false =>
      have ER : R = fmaX f mode ka na ea sa kb nb eb sb kc nc ec sc := by rw [← HR.out]; unfold fmaR; rw [hO, hB]; rfl
      have hO2 := hO
      unfold fmaO at hO2
      simp only [Bool.and_eq_true, decide_eq_true_eq] at hO2
      obtain ⟨hmo, hA, hBn, hCn⟩ := hO2
      have hnan := of_decide_eq_false hB
      have n0 : ka ≠ 3 ∧ ka ≠ 4 := ⟨fun h => hnan ⟨0, by decide, .inl h⟩, fun h => hnan ⟨0, by decide, .inr h⟩⟩
      have n1 : kb ≠ 3 ∧ kb ≠ 4 := ⟨fun h => hnan ⟨1, by decide, .inl h⟩, fun h => hnan ⟨1, by decide, .inr h⟩⟩
      have n2 : kc ≠ 3 ∧ kc ≠ 4 := ⟨fun h => hnan ⟨2, by decide, .inl h⟩, fun h => hnan ⟨2, by decide, .inr h⟩⟩
      obtain ⟨hf, ea1, ka1, ca⟩ := right_two f ka na ea sa hA n0.1 n0.2
      obtain ⟨-, eb1, kb1, cb⟩ := right_two f kb nb eb sb hBn n1.1 n1.2
      obtain ⟨-, ec1, kc1, cc⟩ := right_two f kc nc ec sc hCn n2.1 n2.2
      have hL := lims f hf
      have cc2 : kc = 1 → Canon (dl sc) ∧ (dl sc).length ≤ 100 ∧ -13000 ≤ ec ∧ ec ≤ 13000 := fun h => by obtain ⟨c, l, x, y⟩ := cc h; exact ⟨c, by omega, by omega, by omega⟩
      obtain ⟨ng, hng⟩ : ∃ ng, (!(na == nb)) = ng := ⟨_, rfl⟩
      have HS3 : Hid (SVm w (w2.alloc (.cells #[.int .i64 3, .bool false, .int .i64 0, .string { data := #[] }, .int .i64 (spF 3 (tw3 ka kb kc))] 29)) ka na ea sa kb nb eb sb kc nc ec sc) := HS2.out.alloc _
      generalize spF 3 (tw3 ka kb kc) = FL at *
      obtain ⟨a0, a1, a2, a3, a4⟩ := HS3.out.1.cells
      obtain ⟨c0, c1, c2, c3, c4⟩ := HS3.out.2.1.cells
      by_cases hkk : ka = 1 ∧ kb = 1
      · obtain ⟨rfl, rfl⟩ := hkk
        obtain ⟨q1, l1, x1, y1⟩ := ca rfl
        obtain ⟨q2, l2, x2, y2⟩ := cb rfl
        obtain ⟨nk, lt68⟩ := mul_bd (dl sa) (dl sb) q1 q2 (by omega) (by omega)
        have l68 : (nt (vl (dl sa) * vl (dl sb))).length ≤ 68 := nt_len _ 68 nk.1 (by unfold NFit; exact lt68) (by decide) (by decide)
        have HPr : Hid (∀ X, Calls Tryz.prog 44 #[numV 1 na ea sa, numV 1 nb eb sb] X fun x w' => x = .returned (.tuple #[numV 1 ng (ea + eb) (tx (nt (vl (dl sa) * vl (dl sb)))), .bool true]) ∧ Below X.heap.size X w') := fun X => by
          have := l13Product_fin na nb ea eb (dl sa) (dl sb) X q1 q2 (by omega) (by omega) (by omega) (by omega)
          rw [← ea1, ← eb1, hng] at this
          exact this
        have HAd : Hid (∀ X, Calls Tryz.prog 60 #[.int .i64 f, .int .i64 mode, numV 1 ng (ea + eb) (tx (nt (vl (dl sa) * vl (dl sb)))), numV kc nc ec sc] X fun x w' => x = .returned (rsD R.1 R.2) ∧ Below X.heap.size X w') := fun X => by
          have := l13Add_any f mode (fin_ok f mode hf) 1 ng (ea + eb) (nt (vl (dl sa) * vl (dl sb))) kc nc ec (dl sc) X (.inl rfl) kc1 (fun _ => ⟨(nok_spec nk).1, Nat.le_trans l68 (by decide), by omega, by omega⟩) cc2
          rw [← ec1] at this
          rw [ER]
          unfold fmaX
          rw [if_pos ⟨rfl, rfl⟩, hng]
          exact this
        generalize tx (nt (vl (dl sa) * vl (dl sb))) = TP at *
        obtain ⟨R0, F1, F2, F3, F4⟩ := R
        generalize ea + eb = ep at *
        clear hO hB HR ER hmo hA hBn hCn hnan n0 n1 n2 hf ea1 ca eb1 cb ec1 cc cc2 hL hng HS2 ka1 kb1 kc1 q1 l1 x1 y1 q2 l2 x2 y2 nk lt68 l68
        go_wp2_with fail
        refine (HPr.out _).mono ?_
        rintro e w3 ⟨rfl, hb3⟩
        have HS4 : Hid (SVm w w3 1 na ea sa 1 nb eb sb kc nc ec sc) := HS3.out.next hb3
        clear hb3 HS3 HPr a0 a1 a2 a3 a4 c0 c1 c2 c3 c4
        have HS5 : Hid (SVm w (w3.alloc (.cells #[.int .i64 1, .bool ng, .int .i64 ep, .string TP] 25)) 1 na ea sa 1 nb eb sb kc nc ec sc) := HS4.out.alloc _
        obtain ⟨g0, g1, g2, g3, g4⟩ := HS5.out.2.2.1.cells
        go_wp2_with fail
        refine (HAd.out _).mono ?_
        rintro e w4 ⟨rfl, hb4⟩
        have HZ3 : Hid (At5 w4 (w.heap.size + 3) (.int .i64 0) (.bool false) (.int .i64 0) (.string { data := #[] }) (.int .i64 0) ∧ Below w.heap.size w w4) := ⟨(HS5.out.next hb4).2.2.2.1, (HS5.out.next hb4).2.2.2.2.1⟩
        clear hb4 HS4 HS5 HAd g0 g1 g2 g3 g4
        go_wp2_with (refine wpList_store_row rfl 29 (.tmp 10) (.tmp 46) rfl (w.heap.size + 3) #[.int .i64 F1, .bool R0, .int .i64 F2, .string F3, .int .i64 F4] rfl rfl _ _ HZ3.out.1 (by kernel_rfl) rfl (one5 _ _ _ _ _) ?_)
        have hP := (HZ3.out.1.row (.int .i64 F1) (.bool R0) (.int .i64 F2) (.string F3) (.int .i64 F4)).cells
        refine bodyPost_ret (results_res rfl _ _ rfl hP.1 hP.2.1 hP.2.2.1 hP.2.2.2.1 hP.2.2.2.2.1) rfl ?_
        exact ⟨rfl, bel_row HZ3.out.2 (by omega) _⟩
      · cases hz : (z0B ka sa || z0B kb sb) with
        | true =>
          have HPr : Hid (∀ X, Calls Tryz.prog 44 #[numV ka na ea sa, numV kb nb eb sb] X fun x w' => x = .returned (.tuple #[numV 2 ng 0 { data := #[] }, .bool false]) ∧ Below X.heap.size X w') := fun X => by
            have := l13Product_inf ka na ea sa kb nb eb sb X (by omega)
            rw [hng, hz] at this
            exact this
          have ER3 : Hid (R = (false, (3, 0, { data := #[] }, 1))) := by show _ = _; rw [ER]; unfold fmaX; rw [if_neg hkk, if_pos hz]
          clear hO hB HR ER hmo hA hBn hCn hnan n0 n1 n2 hf ea1 ca eb1 cb ec1 cc cc2 hL hng HS2 ka1 kb1 kc1 hkk hz
          go_wp2_with fail
          refine (HPr.out _).mono ?_
          rintro e w3 ⟨rfl, hb3⟩
          have HS4 : Hid (SVm w w3 ka na ea sa kb nb eb sb kc nc ec sc) := HS3.out.next hb3
          clear hb3 HS3 HPr a0 a1 a2 a3 a4 c0 c1 c2 c3 c4
          have HS5 : Hid (SVm w (w3.alloc (.cells #[.int .i64 2, .bool ng, .int .i64 0, .string { data := #[] }] 25)) ka na ea sa kb nb eb sb kc nc ec sc) := HS4.out.alloc _
          go_wp2_with fail
          refine (l13Invalid_any _).mono ?_
          rintro e w4 ⟨rfl, hb4⟩
          have HZ3 : Hid (At5 w4 (w.heap.size + 3) (.int .i64 0) (.bool false) (.int .i64 0) (.string { data := #[] }) (.int .i64 0) ∧ Below w.heap.size w w4) := ⟨(HS5.out.next hb4).2.2.2.1, (HS5.out.next hb4).2.2.2.2.1⟩
          clear hb4 HS4 HS5
          go_wp2_with (refine wpList_store_row rfl 29 (.tmp 10) (.tmp 41) rfl (w.heap.size + 3) #[.int .i64 3, .bool false, .int .i64 0, .string { data := #[] }, .int .i64 1] rfl rfl _ _ HZ3.out.1 (by kernel_rfl) rfl (one5 _ _ _ _ _) ?_)
          have hP := (HZ3.out.1.row (.int .i64 3) (.bool false) (.int .i64 0) (.string { data := #[] }) (.int .i64 1)).cells
          refine bodyPost_ret (results_res rfl _ _ rfl hP.1 hP.2.1 hP.2.2.1 hP.2.2.2.1 hP.2.2.2.2.1) rfl ?_
          exact ⟨by rw [ER3.out], bel_row HZ3.out.2 (by omega) _⟩

        | false =>
          have HPr : Hid (∀ X, Calls Tryz.prog 44 #[numV ka na ea sa, numV kb nb eb sb] X fun x w' => x = .returned (.tuple #[numV 2 ng 0 { data := #[] }, .bool true]) ∧ Below X.heap.size X w') := fun X => by
            have := l13Product_inf ka na ea sa kb nb eb sb X (by omega)
            rw [hng, hz] at this
            exact this
          have HAd : Hid (∀ X, Calls Tryz.prog 60 #[.int .i64 f, .int .i64 mode, numV 2 ng 0 { data := #[] }, numV kc nc ec sc] X fun x w' => x = .returned (rsD R.1 R.2) ∧ Below X.heap.size X w') := fun X => by
            have := l13Add_any f mode (fin_ok f mode hf) 2 ng 0 [] kc nc ec (dl sc) X (.inr rfl) kc1 (fun h => by cases h) cc2
            rw [← ec1, tx_nil] at this
            rw [ER]
            unfold fmaX
            rw [if_neg hkk, hng, hz, if_neg (by decide)]
            exact this
          obtain ⟨R0, F1, F2, F3, F4⟩ := R
          clear hO hB HR ER hmo hA hBn hCn hnan n0 n1 n2 hf ea1 ca eb1 cb ec1 cc cc2 hL hng HS2 ka1 kb1 kc1 hkk hz
          go_wp2_with fail
          refine (HPr.out _).mono ?_
          rintro e w3 ⟨rfl, hb3⟩
          have HS4 : Hid (SVm w w3 ka na ea sa kb nb eb sb kc nc ec sc) := HS3.out.next hb3
          clear hb3 HS3 HPr a0 a1 a2 a3 a4 c0 c1 c2 c3 c4
          have HS5 : Hid (SVm w (w3.alloc (.cells #[.int .i64 2, .bool ng, .int .i64 0, .string { data := #[] }] 25)) ka na ea sa kb nb eb sb kc nc ec sc) := HS4.out.alloc _
          obtain ⟨g0, g1, g2, g3, g4⟩ := HS5.out.2.2.1.cells
          go_wp2_with fail
          refine (HAd.out _).mono ?_
          rintro e w4 ⟨rfl, hb4⟩
          have HZ3 : Hid (At5 w4 (w.heap.size + 3) (.int .i64 0) (.bool false) (.int .i64 0) (.string { data := #[] }) (.int .i64 0) ∧ Below w.heap.size w w4) := ⟨(HS5.out.next hb4).2.2.2.1, (HS5.out.next hb4).2.2.2.2.1⟩
          clear hb4 HS4 HS5 HAd g0 g1 g2 g3 g4
          go_wp2_with (refine wpList_store_row rfl 29 (.tmp 10) (.tmp 46) rfl (w.heap.size + 3) #[.int .i64 F1, .bool R0, .int .i64 F2, .string F3, .int .i64 F4] rfl rfl _ _ HZ3.out.1 (by kernel_rfl) rfl (one5 _ _ _ _ _) ?_)
          have hP := (HZ3.out.1.row (.int .i64 F1) (.bool R0) (.int .i64 F2) (.string F3) (.int .i64 F4)).cells
          refine bodyPost_ret (results_res rfl _ _ rfl hP.1 hP.2.1 hP.2.2.1 hP.2.2.2.1 hP.2.2.2.2.1) rfl ?_
          exact ⟨rfl, bel_row HZ3.out.2 (by omega) _⟩

end Go.Proofs.YtndnoblcnjccdafGreatDoor
