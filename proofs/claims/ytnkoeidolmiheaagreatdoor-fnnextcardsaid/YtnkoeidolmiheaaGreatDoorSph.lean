/-
  Add and Sub of the program in one word, walked.
-/
import Derived.Test.YtnkoeidolmiheaaGreatDoorSpt
import Derived.Test.YtnkoeidolmiheaaGreatDoorSmL
import Derived.Shelf.Abstract
namespace Go.Proofs.YtnkoeidolmiheaaGreatDoor
open Go.RowKit
set_option linter.unusedVariables false
set_option maxRecDepth 100000
/-- A right infinity. -/
theorem right_inf (f : Int) (b : Bool) (e : Int) (s : ByteArray) (h : numB f 2 b e s = true) : e = 0 ∧ s = { data := #[] } := by
  unfold numB at h
  by_cases h0 : limP f = 0
  · rw [if_pos h0] at h; cases h
  rw [if_neg h0, if_neg (by decide), if_pos rfl] at h
  simp only [Bool.and_eq_true, decide_eq_true_eq] at h
  refine ⟨h.1, ?_⟩
  have hs : s.size = 0 := by
    have := h.2
    rw [ByteArray.toList_eq, List.isEmpty_iff] at this
    show s.data.size = 0
    rw [← Array.length_toList, this]; rfl
  apply ByteArray.ext
  exact Array.eq_empty_of_size_eq_zero hs
/-- What finishedSum tells of two right numbers that are no NaNs. -/
theorem fs_any (f mode : Int) (hmo : 1 ≤ mode ∧ mode ≤ 5) (ka : Int) (na : Bool) (ea : Int) (sa : ByteArray) (kb : Int) (nb : Bool) (eb : Int) (sb : ByteArray) (hA : numB f ka na ea sa = true) (hB : numB f kb nb eb sb = true) (a3 : ka ≠ 3) (a4 : ka ≠ 4) (b3 : kb ≠ 3) (b4 : kb ≠ 4) (w : World) :
    Calls Tryz.prog 87 #[.int .i64 f, .int .i64 mode, numV ka na ea sa, numV kb nb eb sb] w fun x w' => (x = .returned (rsD (addX f mode ka na ea (dl sa) kb nb eb (dl sb)).1 (addX f mode ka na ea (dl sa) kb nb eb (dl sb)).2) ∨ x = thrown (rsD (addX f mode ka na ea (dl sa) kb nb eb (dl sb)).1 (addX f mode ka na ea (dl sa) kb nb eb (dl sb)).2)) ∧ Below w.heap.size w w' := by
  obtain ⟨hf, ea1, ka1, ca⟩ := right_two f ka na ea sa hA a3 a4
  obtain ⟨-, eb1, kb1, cb⟩ := right_two f kb nb eb sb hB b3 b4
  have hL := lims f hf
  rcases ka1 with rfl | rfl
  · rcases kb1 with rfl | rfl
    · obtain ⟨c1, l1, x1, y1⟩ := ca rfl
      obtain ⟨c2, l2, x2, y2⟩ := cb rfl
      have v1 := vl_bd (dl sa) c1.1
      have v2 := vl_bd (dl sb) c2.1
      have h1 := c1.2.1
      have h2 := c2.2.1
      have := finishedSum_fin f mode hf hmo na ea (vl (dl sa)) nb eb (vl (dl sb)) (dl sa).length (dl sb).length w v1.1 v1.2 v2.1 v2.2 h1 h2 (by omega) (by omega) (by omega)
      rw [tn_tx, tn_tx, nt_vl _ c1 (by omega), nt_vl _ c2 (by omega), ← ea1, ← eb1] at this
      have es := sum_same f mode hf na ea (dl sa) nb eb (dl sb) c1 c2 (by omega)
      have ex : addX f mode 1 na ea (dl sa) 1 nb eb (dl sb) = sumX f mode na ea (dl sa) nb eb (dl sb) := by
        unfold addX
        rw [if_neg (fun q => absurd q.1 (by decide)), if_neg (by decide), if_neg (by decide)]
      rw [ex, ← es]
      dsimp only
      exact this.mono fun x w' h => ⟨.inl h.1, h.2⟩
    · obtain ⟨z1, z2⟩ := right_inf f nb eb sb hB
      have ex : addX f mode 1 na ea (dl sa) 2 nb eb (dl sb) = (nb, (2, 0, { data := #[] }, 0)) := by
        unfold addX
        rw [if_neg (fun q => absurd q.1 (by decide)), if_neg (by decide), if_pos rfl]
      rw [ex, z1, z2]
      exact (finishedSum_thrown f mode 1 na ea sa 2 nb 0 { data := #[] } w (rsV 2 nb 0 { data := #[] } 0) (by simp [tiE, tiX, tiA, tw2])).mono fun x w' h => ⟨.inr h.1, h.2⟩
  · obtain ⟨z1, z2⟩ := right_inf f na ea sa hA
    rcases kb1 with rfl | rfl
    · have ex : addX f mode 2 na ea (dl sa) 1 nb eb (dl sb) = (na, (2, 0, { data := #[] }, 0)) := by
        unfold addX
        rw [if_neg (fun q => absurd q.2.1 (by decide)), if_pos rfl]
      rw [ex, z1, z2]
      exact (finishedSum_thrown f mode 2 na 0 { data := #[] } 1 nb eb sb w (rsV 2 na 0 { data := #[] } 0) (by simp [tiE, tiX, tiA, tw2])).mono fun x w' h => ⟨.inr h.1, h.2⟩
    · obtain ⟨y1, y2⟩ := right_inf f nb eb sb hB
      by_cases hn : na = nb
      · subst hn
        have ex : addX f mode 2 na ea (dl sa) 2 na eb (dl sb) = (na, (2, 0, { data := #[] }, 0)) := by
          unfold addX
          rw [if_neg (fun q => q.2.2 rfl), if_pos rfl]
        rw [ex, z1, z2, y1, y2]
        exact (finishedSum_thrown f mode 2 na 0 { data := #[] } 2 na 0 { data := #[] } w (rsV 2 na 0 { data := #[] } 0) (by simp [tiE, tiX, tiA, tw2])).mono fun x w' h => ⟨.inr h.1, h.2⟩
      · have ex : addX f mode 2 na ea (dl sa) 2 nb eb (dl sb) = (false, (3, 0, { data := #[] }, 1)) := by
          unfold addX
          rw [if_pos ⟨rfl, rfl, hn⟩]
        rw [ex, z1, z2, y1, y2]
        exact (finishedSum_thrown f mode 2 na 0 { data := #[] } 2 nb 0 { data := #[] } w (rsV 3 false 0 { data := #[] } 1) (by simp [tiE, tiX, tiA, tw2, hn])).mono fun x w' h => ⟨.inr h.1, h.2⟩
/-- What the operations' closures see: format, mode, two numbers. -/
def Cap (X : World) (p : Nat) (f mode : Int) (ka : Int) (na : Bool) (ea : Int) (sa : ByteArray) (kb : Int) (nb : Bool) (eb : Int) (sb : ByteArray) : Prop :=
  X.cell? ⟨p, 0, none⟩ = some (.int .i64 f) ∧ X.cell? ⟨p + 1, 0, none⟩ = some (.int .i64 mode) ∧ At4r X (p + 2) (.int .i64 ka) (.bool na) (.int .i64 ea) (.string sa) ∧ At4r X (p + 3) (.int .i64 kb) (.bool nb) (.int .i64 eb) (.string sb)
theorem Cap.next {X X' : World} {p : Nat} {f mode : Int} {ka : Int} {na : Bool} {ea : Int} {sa : ByteArray} {kb : Int} {nb : Bool} {eb : Int} {sb : ByteArray} (h : Cap X p f mode ka na ea sa kb nb eb sb) (hb : Below X.heap.size X X') : Cap X' p f mode ka na ea sa kb nb eb sb := by
  have l3 := h.2.2.2.lt
  exact ⟨(hb.cell (p := ⟨p, 0, none⟩) (show p < X.heap.size by omega)).trans h.1, (hb.cell (p := ⟨p + 1, 0, none⟩) (show p + 1 < X.heap.size by omega)).trans h.2.1, h.2.2.1.next hb, h.2.2.2.next hb⟩
theorem right_ok (f mode : Int) (ka : Int) (na : Bool) (ea : Int) (sa : ByteArray) (kb : Int) (nb : Bool) (eb : Int) (sb : ByteArray) : rightB f mode 2 (tw2 ka kb) (tw2 na nb) (tw2 ea eb) (tw2 sa sb) = addO f mode ka na ea sa kb nb eb sb := by
  unfold rightB addO
  rw [okB2 (fun i => numB f (tw2 ka kb i) (tw2 na nb i) (tw2 ea eb i) (tw2 sa sb i))]
  rfl
set_option maxRecDepth 100000 in
set_option maxHeartbeats 1000000 in
theorem add1_any (p : Nat) (f mode : Int) (ka : Int) (na : Bool) (ea : Int) (sa : ByteArray) (kb : Int) (nb : Bool) (eb : Int) (sb : ByteArray) (X : World) (hsa : sa.size ≤ 4611686018427387904) (hsb : sb.size ≤ 4611686018427387904) (hC : Cap X p f mode ka na ea sa kb nb eb sb) :
    Calls Tryz.prog 93 #[.pointer (some ⟨p, 0, none⟩), .pointer (some ⟨p + 1, 0, none⟩), .pointer (some ⟨p + 2, 0, none⟩), .pointer (some ⟨p + 3, 0, none⟩)] X fun x w' => (x = .returned (rsD (addR f mode ka na ea sa kb nb eb sb).1 (addR f mode ka na ea sa kb nb eb sb).2) ∨ x = thrown (rsD (addR f mode ka na ea sa kb nb eb sb).1 (addR f mode ka na ea sa kb nb eb sb).2)) ∧ Below X.heap.size X w' := by
  obtain ⟨R, hR⟩ : ∃ R, addR f mode ka na ea sa kb nb eb sb = R := ⟨_, rfl⟩
  have HR : Hid (addR f mode ka na ea sa kb nb eb sb = R) := hR
  rw [hR]
  clear hR
  have HZ : Hid (At5 (X.alloc (.cells #[.int .i64 0, .bool false, .int .i64 0, .string { data := #[] }, .int .i64 0] 29)) X.heap.size (.int .i64 0) (.bool false) (.int .i64 0) (.string { data := #[] }) (.int .i64 0) ∧ Below X.heap.size X (X.alloc (.cells #[.int .i64 0, .bool false, .int .i64 0, .string { data := #[] }, .int .i64 0] 29)) ∧ Cap (X.alloc (.cells #[.int .i64 0, .bool false, .int .i64 0, .string { data := #[] }, .int .i64 0] 29)) p f mode ka na ea sa kb nb eb sb) := ⟨at5_new X _ _ _ _ _, (Below.refl _ _).alloc (Nat.le_refl _) _, hC.next ((Below.refl _ _).alloc (Nat.le_refl _) _)⟩
  obtain ⟨q0, q1, qa, qb⟩ := HZ.out.2.2
  obtain ⟨a0, a1, a2, a3, a4⟩ := qa.cells
  obtain ⟨c0, c1, c2, c3, c4⟩ := qb.cells
  clear qa qb
  have hzz := new_size X (.cells #[.int .i64 0, .bool false, .int .i64 0, .string { data := #[] }, .int .i64 0] 29)
  have HRw : Hid (NRw (rowW (X.alloc (.cells #[.int .i64 0, .bool false, .int .i64 0, .string { data := #[] }, .int .i64 0] 29)) ka na ea sa kb nb eb sb) (X.alloc (.cells #[.int .i64 0, .bool false, .int .i64 0, .string { data := #[] }, .int .i64 0] 29)).heap.size 2 (tw2 ka kb) (tw2 na nb) (tw2 ea eb) (tw2 sa sb) ∧ (X.alloc (.cells #[.int .i64 0, .bool false, .int .i64 0, .string { data := #[] }, .int .i64 0] 29)).heap.size < (rowW (X.alloc (.cells #[.int .i64 0, .bool false, .int .i64 0, .string { data := #[] }, .int .i64 0] 29)) ka na ea sa kb nb eb sb).heap.size) := row_new _ ka na ea sa kb nb eb sb
  rw [hzz] at HRw
  have HZr : Hid (At5 (rowW (X.alloc (.cells #[.int .i64 0, .bool false, .int .i64 0, .string { data := #[] }, .int .i64 0] 29)) ka na ea sa kb nb eb sb) X.heap.size (.int .i64 0) (.bool false) (.int .i64 0) (.string { data := #[] }) (.int .i64 0) ∧ Below X.heap.size X (rowW (X.alloc (.cells #[.int .i64 0, .bool false, .int .i64 0, .string { data := #[] }, .int .i64 0] 29)) ka na ea sa kb nb eb sb) ∧ Cap (rowW (X.alloc (.cells #[.int .i64 0, .bool false, .int .i64 0, .string { data := #[] }, .int .i64 0] 29)) ka na ea sa kb nb eb sb) p f mode ka na ea sa kb nb eb sb) := by
    have hb : Below (X.alloc (.cells #[.int .i64 0, .bool false, .int .i64 0, .string { data := #[] }, .int .i64 0] 29)).heap.size (X.alloc (.cells #[.int .i64 0, .bool false, .int .i64 0, .string { data := #[] }, .int .i64 0] 29)) (rowW (X.alloc (.cells #[.int .i64 0, .bool false, .int .i64 0, .string { data := #[] }, .int .i64 0] 29)) ka na ea sa kb nb eb sb) := (Below.refl _ _).alloc (Nat.le_refl _) _
    exact ⟨HZ.out.1.below hb HZ.out.1.lt, HZ.out.2.1.trans (hb.mono HZ.out.2.1.size), HZ.out.2.2.next hb⟩
  have HTs : Hid (∀ Y, NRw Y (X.heap.size + 1) 2 (tw2 ka kb) (tw2 na nb) (tw2 ea eb) (tw2 sa sb) → X.heap.size + 1 < Y.heap.size → Calls Tryz.prog 69 #[.int .i64 f, .int .i64 mode, .slice (some ⟨X.heap.size + 1, 0, none⟩) 2 2] Y fun x w' => x = tsE f mode 2 (tw2 ka kb) (tw2 na nb) (tw2 ea eb) (tw2 sa sb) ∧ Below Y.heap.size Y w') := fun Y h1 h2 => throwSpecials_any f mode 2 (X.heap.size + 1) _ _ _ _ Y (by decide) (by decide) h2 h1 (fun i hi => by match i, hi with
      | 0, _ => exact hsa
      | 1, _ => exact hsb)
  unfold tsE at HTs
  rw [right_ok] at HTs
  clear hC HZ hzz
  cases hO : addO f mode ka na ea sa kb nb eb sb with
  | false =>
    have ER : Hid (R = (false, (0, 0, { data := #[] }, 0))) := by show _ = _; rw [← HR.out]; unfold addR; rw [hO]; rfl
    rw [hO] at HTs
    simp only [Bool.false_eq_true, if_false] at HTs
    clear hO HR hsa hsb
    go_enter Tryz.func93, Tryz.ntmps93
    go_wp2_with fail
    refine (HTs.out _ HRw.out.1 HRw.out.2).mono ?_
    rintro x w1 ⟨rfl, hb1⟩
    go_wp2
    exact ⟨rfl, .inr (by rw [ER.out]), HZr.out.2.1.trans (hb1.mono HZr.out.2.1.size)⟩
  | true =>
    rw [hO] at HTs
    simp only [if_true] at HTs
    cases hS : spB 2 (tw2 ka kb) with
    | true =>
      have ER : Hid (R = (false, (3, 0, { data := #[] }, spF 2 (tw2 ka kb)))) := by show _ = _; rw [← HR.out]; unfold addR; rw [hO, hS]; rfl
      rw [hS] at HTs
      simp only [if_true] at HTs
      generalize spF 2 (tw2 ka kb) = FL at *
      clear hO hS HR hsa hsb
      go_enter Tryz.func93, Tryz.ntmps93
      go_wp2_with fail
      refine (HTs.out _ HRw.out.1 HRw.out.2).mono ?_
      rintro x w1 ⟨rfl, hb1⟩
      go_wp2
      exact ⟨rfl, .inr (by rw [ER.out]), HZr.out.2.1.trans (hb1.mono HZr.out.2.1.size)⟩
    | false =>
      have ER : R = addX f mode ka na ea (dl sa) kb nb eb (dl sb) := by rw [← HR.out]; unfold addR; rw [hO, hS]; rfl
      rw [hS] at HTs
      simp only [Bool.false_eq_true, if_false] at HTs
      have hO2 := hO
      unfold addO at hO2
      simp only [Bool.and_eq_true, decide_eq_true_eq] at hO2
      obtain ⟨hmo, hA, hBn⟩ := hO2
      have hnan := of_decide_eq_false hS
      have n0 : ka ≠ 3 ∧ ka ≠ 4 := ⟨fun h => hnan ⟨0, by decide, .inl h⟩, fun h => hnan ⟨0, by decide, .inr h⟩⟩
      have n1 : kb ≠ 3 ∧ kb ≠ 4 := ⟨fun h => hnan ⟨1, by decide, .inl h⟩, fun h => hnan ⟨1, by decide, .inr h⟩⟩
      have HFs : Hid (∀ Y, Calls Tryz.prog 87 #[.int .i64 f, .int .i64 mode, numV ka na ea sa, numV kb nb eb sb] Y fun x w' => (x = .returned (rsD R.1 R.2) ∨ x = thrown (rsD R.1 R.2)) ∧ Below Y.heap.size Y w') := fun Y => by rw [ER]; exact fs_any f mode hmo ka na ea sa kb nb eb sb hA hBn n0.1 n0.2 n1.1 n1.2 Y
      clear hO hS HR hsa hsb ER hmo hA hBn hnan n0 n1
      obtain ⟨R0, F1, F2, F3, F4⟩ := R
      go_enter Tryz.func93, Tryz.ntmps93
      go_wp2_with fail
      refine (HTs.out _ HRw.out.1 HRw.out.2).mono ?_
      rintro x w1 ⟨rfl, hb1⟩
      have HZ1 : Hid (At5 w1 X.heap.size (.int .i64 0) (.bool false) (.int .i64 0) (.string { data := #[] }) (.int .i64 0) ∧ Below X.heap.size X w1 ∧ Cap w1 p f mode ka na ea sa kb nb eb sb) := ⟨HZr.out.1.below hb1 HZr.out.1.lt, HZr.out.2.1.trans (hb1.mono HZr.out.2.1.size), HZr.out.2.2.next hb1⟩
      clear hb1 HZr HTs HRw q0 q1 a0 a1 a2 a3 a4 c0 c1 c2 c3 c4
      obtain ⟨q0, q1, qa, qb⟩ := HZ1.out.2.2
      obtain ⟨a0, a1, a2, a3, a4⟩ := qa.cells
      obtain ⟨c0, c1, c2, c3, c4⟩ := qb.cells
      clear qa qb
      go_wp2_with fail
      refine (HFs.out _).mono ?_
      rintro x w2 ⟨rfl | rfl, hb2⟩
      · have HZ2 : Hid (At5 w2 X.heap.size (.int .i64 0) (.bool false) (.int .i64 0) (.string { data := #[] }) (.int .i64 0) ∧ Below X.heap.size X w2) := ⟨HZ1.out.1.below hb2 HZ1.out.1.lt, HZ1.out.2.1.trans (hb2.mono HZ1.out.2.1.size)⟩
        clear hb2 HZ1 HFs q0 q1 a0 a1 a2 a3 a4 c0 c1 c2 c3 c4
        go_wp2_with (refine wpList_store_row rfl 29 (.tmp 4) (.tmp 15) rfl X.heap.size #[.int .i64 F1, .bool R0, .int .i64 F2, .string F3, .int .i64 F4] rfl rfl _ _ HZ2.out.1 (by kernel_rfl) rfl (one5 _ _ _ _ _) ?_)
        have hP := (HZ2.out.1.row (.int .i64 F1) (.bool R0) (.int .i64 F2) (.string F3) (.int .i64 F4)).cells
        refine bodyPost_ret (results_res rfl _ _ rfl hP.1 hP.2.1 hP.2.2.1 hP.2.2.2.1 hP.2.2.2.2.1) rfl ?_
        exact ⟨.inl rfl, bel_row HZ2.out.2 (Nat.le_refl _) _⟩
      · have HB2 : Hid (Below X.heap.size X w2) := HZ1.out.2.1.trans (hb2.mono HZ1.out.2.1.size)
        clear hb2 HZ1 HFs q0 q1 a0 a1 a2 a3 a4 c0 c1 c2 c3 c4
        go_wp2
        exact ⟨rfl, .inr rfl, HB2.out⟩
end Go.Proofs.YtnkoeidolmiheaaGreatDoor
namespace Go.Proofs.YtnkoeidolmiheaaGreatDoor
open Go.RowKit
set_option linter.unusedVariables false
set_option maxRecDepth 100000
/-- The boxes of an operation on two numbers. -/
abbrev capW (w : World) (f mode : Int) (ka : Int) (na : Bool) (ea : Int) (sa : ByteArray) (kb : Int) (nb : Bool) (eb : Int) (sb : ByteArray) : World :=
  ((((w.alloc (.cells #[.int .i64 f] 2)).alloc (.cells #[.int .i64 mode] 2)).alloc (.cells #[.int .i64 ka, .bool na, .int .i64 ea, .string sa] 25)).alloc (.cells #[.int .i64 kb, .bool nb, .int .i64 eb, .string sb] 25)).alloc (.cells #[.int .i64 0, .bool false, .int .i64 0, .string { data := #[] }, .int .i64 0] 29)
theorem cap_new (w : World) (f mode : Int) (ka : Int) (na : Bool) (ea : Int) (sa : ByteArray) (kb : Int) (nb : Bool) (eb : Int) (sb : ByteArray) :
    Cap (capW w f mode ka na ea sa kb nb eb sb) w.heap.size f mode ka na ea sa kb nb eb sb ∧ At5 (capW w f mode ka na ea sa kb nb eb sb) (w.heap.size + 4) (.int .i64 0) (.bool false) (.int .i64 0) (.string { data := #[] }) (.int .i64 0) ∧ Below w.heap.size w (capW w f mode ka na ea sa kb nb eb sb) := by
  unfold capW
  have c1 := new_cell1 w (.int .i64 f) 2
  have z1 := new_size w (.cells #[.int .i64 f] 2)
  have b1 : Below w.heap.size w (w.alloc (.cells #[.int .i64 f] 2)) := (Below.refl _ _).alloc (Nat.le_refl _) _
  generalize w.alloc (.cells #[.int .i64 f] 2) = w1 at *
  have c2 := new_cell1 w1 (.int .i64 mode) 2
  have z2 := new_size w1 (.cells #[.int .i64 mode] 2)
  have b2 : Below w1.heap.size w1 (w1.alloc (.cells #[.int .i64 mode] 2)) := (Below.refl _ _).alloc (Nat.le_refl _) _
  have c1' := (b2.cell (p := ⟨w.heap.size, 0, none⟩) (show w.heap.size < w1.heap.size by omega)).trans c1
  generalize w1.alloc (.cells #[.int .i64 mode] 2) = w2 at *
  have h3 := su_new w2 ka na ea sa kb nb eb sb
  rw [z1] at c2
  have e2 : w2.heap.size = w.heap.size + 2 := by omega
  have hb2 : Below w.heap.size w w2 := b1.trans (b2.mono b1.size)
  have hb3 : Below w2.heap.size w2 (suW w2 ka na ea sa kb nb eb sb) := h3.2.2.2.1
  refine ⟨⟨(hb3.cell (p := ⟨w.heap.size, 0, none⟩) (show w.heap.size < w2.heap.size by omega)).trans c1', (hb3.cell (p := ⟨w.heap.size + 1, 0, none⟩) (show w.heap.size + 1 < w2.heap.size by omega)).trans c2, ?_, ?_⟩, ?_, hb2.trans (hb3.mono hb2.size)⟩
  · have := h3.at1; rw [e2] at this; exact this
  · have := h3.at2; rw [e2] at this; exact this
  · have := h3.2.2.1; rw [e2] at this; exact this
set_option maxRecDepth 100000 in
set_option maxHeartbeats 1000000 in
theorem iAdd_any (f mode : Int) (ka : Int) (na : Bool) (ea : Int) (sa : ByteArray) (kb : Int) (nb : Bool) (eb : Int) (sb : ByteArray) (w : World) (hsa : sa.size ≤ 4611686018427387904) (hsb : sb.size ≤ 4611686018427387904) :
    Calls Tryz.prog 25 #[.int .i64 f, .int .i64 mode, numV ka na ea sa, numV kb nb eb sb] w fun x w' => x = .returned (rsD (addR f mode ka na ea sa kb nb eb sb).1 (addR f mode ka na ea sa kb nb eb sb).2) ∧ Below w.heap.size w w' := by
  have hmf : ∀ (fn : Fn) (first cap : Array Value) (w : World), (Instr.makeFunc fn first cap).run Tryz.prog w = .ok (.func fn first cap) w := fun _ _ _ _ => rfl
  have HN : Hid (Cap (capW w f mode ka na ea sa kb nb eb sb) w.heap.size f mode ka na ea sa kb nb eb sb ∧ At5 (capW w f mode ka na ea sa kb nb eb sb) (w.heap.size + 4) (.int .i64 0) (.bool false) (.int .i64 0) (.string { data := #[] }) (.int .i64 0) ∧ Below w.heap.size w (capW w f mode ka na ea sa kb nb eb sb)) := cap_new w f mode ka na ea sa kb nb eb sb
  obtain ⟨R, hR⟩ : ∃ R, addR f mode ka na ea sa kb nb eb sb = R := ⟨_, rfl⟩
  have H1 : ∀ X, Cap X w.heap.size f mode ka na ea sa kb nb eb sb → Calls Tryz.prog 93 #[.pointer (some ⟨w.heap.size, 0, none⟩), .pointer (some ⟨w.heap.size + 1, 0, none⟩), .pointer (some ⟨w.heap.size + 2, 0, none⟩), .pointer (some ⟨w.heap.size + 3, 0, none⟩)] X fun x w' => (x = .returned (rsD R.1 R.2) ∨ x = thrown (rsD R.1 R.2)) ∧ Below X.heap.size X w' := fun X hC => by
    rw [← hR]; exact add1_any w.heap.size f mode ka na ea sa kb nb eb sb X hsa hsb hC
  rw [hR]
  obtain ⟨R0, F1, F2, F3, F4⟩ := R
  have HF : Hid (Calls Tryz.prog 67 #[.func (.func 93) #[] #[.pointer (some ⟨w.heap.size, 0, none⟩), .pointer (some ⟨w.heap.size + 1, 0, none⟩), .pointer (some ⟨w.heap.size + 1 + 1, 0, none⟩), .pointer (some ⟨w.heap.size + 1 + 1 + 1, 0, none⟩)]] (capW w f mode ka na ea sa kb nb eb sb) fun e w' => e = .returned (rsV F1 R0 F2 F3 F4) ∧ Below (capW w f mode ka na ea sa kb nb eb sb).heap.size (capW w f mode ka na ea sa kb nb eb sb) w') :=
    atFace_any 93 _ (enters_of Tryz.func93 (by kernel_rfl) rfl) F1 R0 F2 F3 F4 _ (fun X hX => H1 X (HN.out.1.next hX))
  clear hR H1 hsa hsb
  go_enter Tryz.func25, Tryz.ntmps25
  go_wp2_with fail
  refine HF.out.mono ?_
  rintro x w1 ⟨rfl, hb1⟩
  have HZ1 : Hid (At5 w1 (w.heap.size + 4) (.int .i64 0) (.bool false) (.int .i64 0) (.string { data := #[] }) (.int .i64 0) ∧ Below w.heap.size w w1) := ⟨HN.out.2.1.below hb1 HN.out.2.1.lt, HN.out.2.2.trans (hb1.mono HN.out.2.2.size)⟩
  clear hb1 HN HF
  go_wp2_with (refine wpList_store_row rfl 29 (.tmp 8) (.tmp 10) rfl (w.heap.size + 4) #[.int .i64 F1, .bool R0, .int .i64 F2, .string F3, .int .i64 F4] rfl rfl _ _ HZ1.out.1 (by kernel_rfl) rfl (one5 _ _ _ _ _) ?_)
  have hP := (HZ1.out.1.row (.int .i64 F1) (.bool R0) (.int .i64 F2) (.string F3) (.int .i64 F4)).cells
  refine bodyPost_ret (results_res rfl _ _ rfl hP.1 hP.2.1 hP.2.2.1 hP.2.2.2.1 hP.2.2.2.2.1) rfl ?_
  exact ⟨rfl, bel_row HZ1.out.2 (by omega) _⟩
theorem otherSign_any (k : Int) (b : Bool) (e : Int) (s : ByteArray) (w : World) : Calls Tryz.prog 94 #[numV k b e s] w fun x w' => x = .returned (numV k (if k = 1 ∨ k = 2 then !b else b) e s) ∧ Below w.heap.size w w' := by
  by_cases h1 : k = 1
  · subst h1
    rw [if_pos (.inl rfl)]
    go_enter Tryz.func94, Tryz.ntmps94
    go_wp2
    have hP := at4_new (w.alloc (.cells #[.int .i64 1, .bool (!b), .int .i64 e, .string s] 25)) (.int .i64 1) (.bool (!b)) (.int .i64 e) (.string s)
    rw [show (w.alloc (.cells #[.int .i64 1, .bool (!b), .int .i64 e, .string s] 25)).heap.size = w.heap.size + 1 by simp] at hP
    refine bodyPost_ret (results_num rfl _ _ rfl hP.1 hP.2.1 hP.2.2.1 hP.2.2.2.1) rfl ?_
    exact ⟨rfl, bel_two _ _ _⟩
  · by_cases h2 : k = 2
    · subst h2
      rw [if_pos (.inr rfl)]
      go_enter Tryz.func94, Tryz.ntmps94
      go_wp2
      have hP := at4_new (w.alloc (.cells #[.int .i64 2, .bool (!b), .int .i64 e, .string s] 25)) (.int .i64 2) (.bool (!b)) (.int .i64 e) (.string s)
      rw [show (w.alloc (.cells #[.int .i64 2, .bool (!b), .int .i64 e, .string s] 25)).heap.size = w.heap.size + 1 by simp] at hP
      refine bodyPost_ret (results_num rfl _ _ rfl hP.1 hP.2.1 hP.2.2.1 hP.2.2.2.1) rfl ?_
      exact ⟨rfl, bel_two _ _ _⟩
    · rw [if_neg (fun h => h.elim h1 h2)]
      have c1 : (k == 1) = false := beq_eq_false_iff_ne.2 h1
      have c2 : (k == 2) = false := beq_eq_false_iff_ne.2 h2
      clear h1 h2
      go_enter Tryz.func94, Tryz.ntmps94
      go_wp2
      have hP := at4_new (w.alloc (.cells #[.int .i64 k, .bool b, .int .i64 e, .string s] 25)) (.int .i64 k) (.bool b) (.int .i64 e) (.string s)
      rw [show (w.alloc (.cells #[.int .i64 k, .bool b, .int .i64 e, .string s] 25)).heap.size = w.heap.size + 1 by simp] at hP
      refine bodyPost_ret (results_num rfl _ _ rfl hP.1 hP.2.1 hP.2.2.1 hP.2.2.2.1) rfl ?_
      exact ⟨rfl, bel_two _ _ _⟩
end Go.Proofs.YtnkoeidolmiheaaGreatDoor
