/-
  What the model's multiplying of decimal texts answers, walked.
-/
import Derived.Test.YtmjkpjmccdjkjaqTxt2
import Derived.Test.YtmjkpjmccdjkjaqTxtP
import Derived.OpenShut
namespace Go.Proofs.Ytmjkpjmccdjkjaq
open Go.RowKit
set_option linter.unusedVariables false
set_option maxHeartbeats 1600000 in
theorem l11Mul_any (a b : List Int) (w : World) (ha : Canon a) (hb : Canon b) (la : a.length ≤ 400) (lb : b.length ≤ 400) :
    Calls Try.prog 36 #[.string (tx a), .string (tx b)] w fun e w' => ∃ R, e = .returned (.string (tx R)) ∧ Canon R ∧ vl R = vl a * vl b ∧ R.length ≤ a.length + b.length ∧ Below w.heap.size w w' := by
  obtain ⟨i0, hi, hz0, hz1, hz2⟩ := info_parts info64
  have sa := tx_size a
  have sb := tx_size b
  have pa := ha.2.1
  have la' : (tx a).size ≤ 400 := by omega
  have lb' : (tx b).size ≤ 400 := by omega
  have Hs : Hid ((tx a).size = a.length ∧ (tx b).size = b.length) := ⟨sa, sb⟩
  have Ha : Hid (Dec a) := ha.1
  have Hb : Hid (Dec b) := hb.1
  have Hp : Hid (0 < a.length) := pa
  obtain ⟨w1, hrun, hown, hgrow⟩ := run_make_full (P := Try.prog) w w.heap.size 67 2 i0 (.int .i64 0) 1 Try.underlying67 hi hz0 hz1 .i64 .i64 ((tx a).size + (tx b).size) (by rw [hz2]; omega) (by unfold maxLen; omega) (Nat.le_refl _)
  have hb1 : Below w.heap.size w w1 := Below.grown (Below.refl _ _) hgrow (Nat.le_refl _) (fun k hk => by cases hk)
  have HM : Hid (MO a b 0 (List.replicate (a.length + b.length) 0)) := MO_start a b
  have Ho : Hid (w1.ownsRow w.heap.size 2 1 (.slice (some ⟨w.heap.size, 0, none⟩) ((tx a).size + (tx b).size) ((tx a).size + (tx b).size)) ((tx a).size + (tx b).size) ((List.replicate (a.length + b.length) 0).map (Value.int .i64))) := by
    have := hown
    rw [show (Value.int .i64 0).cells = #[Value.int .i64 0] from rfl, toList_madeCells_one, Nat.mul_one] at this
    rw [← sa, ← sb]
    simpa [Hid] using this
  have hrun' : (Instr.makeSlice 67 (.int .i64 (((tx a).size : Int) + ((tx b).size : Int))) (.int .i64 (((tx a).size : Int) + ((tx b).size : Int)))).run Try.prog w = .ok (.slice (some ⟨w.heap.size, 0, none⟩) ((tx a).size + (tx b).size) ((tx a).size + (tx b).size)) w1 := by
    have := hrun
    rw [show (((tx a).size + (tx b).size : Nat) : Int) = ((tx a).size : Int) + ((tx b).size : Int) from Int.natCast_add _ _] at this
    exact this
  clear hown hgrow hrun sa sb ha hb pa la lb
  generalize List.replicate (a.length + b.length) (0 : Int) = D0 at *
  go_enter Try.func36, Try.ntmps36
  go_wp2
  go_loopw [6] (fun i wr => ∃ (j : Nat) (D : List Int), j ≤ (tx a).size ∧ i = .int .i64 j ∧ Hid (MO a b j D) ∧ Hid (wr.ownsRow w.heap.size 2 1 (.slice (some ⟨w.heap.size, 0, none⟩) ((tx a).size + (tx b).size) ((tx a).size + (tx b).size)) ((tx a).size + (tx b).size) (D.map (Value.int .i64))) ∧ Below w.heap.size w wr) (fun i _ => (tx a).size - (intOf i).toNat)
  case atStart => exact ⟨0, D0, Nat.zero_le _, rfl, HM, Ho, hb1⟩
  case round =>
    clear HM Ho hb1 hrun'
    obtain ⟨j, D, hj, rfl, HO, hown, hbel⟩ := hrel
    have hsz := hbel.size
    by_cases hlt : j < (tx a).size
    · have hlt' : (j : Int) < ((tx a).size : Int) := by omega
      have ba := lo_bd a Ha.out j
      have Ca : Hid (∀ W, Calls Try.prog 53 #[.string (tx a), .int .i64 j] W fun e w' => e = .returned (.int .i64 (lo a j)) ∧ w' = W) := fun W => l11At_any a j W Ha.out (by have := Hs.out; omega) (by omega)
      have HI : Hid (MI a b j 0 D 0) := MO_row HO.out
      clear HO
      go_wp2_with fail
      refine (Ca.out _).mono ?_
      rintro e w' ⟨rfl, hw⟩
      obtain rfl := hw.symm
      go_wp2
      go_loopw [7, 9] (fun c k wr => ∃ (q : Nat) (D' : List Int) (cv : Int), q ≤ (tx b).size + 1 ∧ k = .int .i64 q ∧ c = .int .i64 cv ∧ (0 ≤ cv ∧ cv ≤ 9) ∧ ((tx b).size < q → cv = 0) ∧ Hid (MI a b j q D' cv) ∧ Hid (wr.ownsRow w.heap.size 2 1 (.slice (some ⟨w.heap.size, 0, none⟩) ((tx a).size + (tx b).size) ((tx a).size + (tx b).size)) ((tx a).size + (tx b).size) (D'.map (Value.int .i64))) ∧ Below w.heap.size w wr) (fun _ k _ => (tx b).size + 1 - (intOf k).toNat)
      case atStart => exact ⟨0, D, 0, Nat.zero_le _, rfl, rfl, ⟨Int.le_refl _, by decide⟩, fun _ => rfl, HI, hown, hbel⟩
      case round =>
        clear HI hown hbel hsz
        obtain ⟨q, D', cv, hq, rfl, rfl, hcv, hcz, HI, hown, hbel⟩ := hrel
        have hsz := hbel.size
        have hcase : (q < (tx b).size ∧ (q : Int) < ((tx b).size : Int)) ∨ (q ≤ (tx b).size ∧ ((tx b).size ≤ q ∧ decide (q < (tx b).size) = false ∧ decide ((q : Int) < ((tx b).size : Int)) = false) ∧ 0 < cv) ∨ ((tx b).size ≤ q ∧ decide ((q : Int) < ((tx b).size : Int)) = false ∧ cv = 0) := by
          rcases Nat.lt_or_ge q (tx b).size with h | h
          · exact .inl ⟨h, by omega⟩
          · rcases (show cv = 0 ∨ 0 < cv by omega) with e | e
            · exact .inr (.inr ⟨h, by simp; omega, e⟩)
            · exact .inr (.inl ⟨by have := hcz; omega, ⟨h, by simp; omega, by simp; omega⟩, e⟩)
        clear hcz
        rcases hcase with ⟨hq1, hq2⟩ | ⟨hq1, ⟨hq2, hq2a, hq2b⟩, hq3⟩ | ⟨hq1, hq2, rfl⟩
        rotate_right
        · have HO' : Hid (MO a b (j + 1) D') := MI_end HI.out (by rw [← Hs.out.2]; exact hq1)
          go_wp2
          go_roundw
          case rel => exact ⟨j + 1, D', by omega, by go_num, HO', hown, hbel⟩
          case measure => simp [intOf]; omega
        all_goals
          have hqb : q ≤ b.length := by rw [← Hs.out.2]; omega
          have St := MI_step HI.out Ha.out Hb.out (by rw [← Hs.out.1]; exact hlt) hqb hcv.1 hcv.2
          obtain ⟨S1, S2, S3, S4, S5⟩ := St
          have HS1 : Hid (MI a b j (q + 1) (D'.set (j + q) ((D'.getD (j + q) 0 + lo a j * lo b q + cv) % 10)) ((D'.getD (j + q) 0 + lo a j * lo b q + cv) / 10)) := S1
          have HS3 : Hid ((tx b).size < q + 1 → (D'.getD (j + q) 0 + lo a j * lo b q + cv) / 10 = 0) := fun h => S3 (by rw [← Hs.out.2]; omega)
          have Hst : Hid (_ ∧ _) := World.ownsRow.stored hown.out (j + q) (.int .i64 ((D'.getD (j + q) 0 + lo a j * lo b q + cv) % 10))
          have hDl : D'.length = (tx a).size + (tx b).size := by rw [HI.out.1, ← Hs.out.1, ← Hs.out.2]
          have hf := World.ownsRow.frozenAt hown.out (j + q)
          have hc : wr.cell? ⟨w.heap.size, j + q, none⟩ = some (.int .i64 (D'.getD (j + q) 0)) := by
            rw [World.ownsRow.cellAt hown.out (j + q) (by omega)]
            simp only [List.getElem?_map, List.getD]
            rw [List.getElem?_eq_getElem (by omega)]
            rfl
          have Cb : Hid (∀ W, Calls Try.prog 53 #[.string (tx b), .int .i64 q] W fun e w' => e = .returned (.int .i64 (lo b q)) ∧ w' = W) := fun W => l11At_any b q W Hb.out (by have := Hs.out; omega) (by omega)
          have hix : (j : Int) + (q : Int) < (((tx a).size + (tx b).size : Nat) : Int) := by omega
          have hix0 : 0 ≤ (j : Int) + (q : Int) := by omega
          have hix1 : ((j : Int) + (q : Int)).toNat = j + q := by omega
          clear S1 S3 HI hown hDl hqb
          generalize D'.getD (j + q) 0 = g at *
          generalize lo a j = x at *
          generalize lo b q = z at *
          go_wp2
          go_quiet (first | (go_at_call 53; refine Calls.quiet_of_same (Cb.out _)))
          go_wp2
          go_roundw
          case rel =>
            refine ⟨q + 1, _, _, by omega, by go_num, rfl, S2, HS3.out, HS1, ?_, below_drewN (hbel.setCell (Nat.le_refl _) _) _⟩
            have := Hst.out.1
            rw [Hid, List.map_set]
            exact this
          case measure => simp [intOf]; omega
    · have hd : decide ((j : Int) < ((tx a).size : Int)) = false := by simp; omega
      have ej : j = a.length := by have := Hs.out.1; omega
      have Hl : Hid (D.length = a.length + b.length) := HO.out.1
      have HH : Hid (Has wr w.heap.size (.slice (some ⟨w.heap.size, 0, none⟩) ((tx a).size + (tx b).size) ((tx a).size + (tx b).size)) D) := by
        rw [Hid]
        unfold Has
        rw [Hl.out, ← Hs.out.1, ← Hs.out.2]
        exact hown.out
      have HE : Hid (lv D = vl a * vl b ∧ Dec D) := by
        have h := HO.out
        rw [ej] at h
        exact ⟨MO_end h, h.2.1⟩
      clear HO hown ej
      go_wp2_with fail
      refine (l11Text_any _ D _ _ HH.out HE.out.2 (by rw [Hl.out]; have := Hp.out; omega) (by rw [Hl.out, ← Hs.out.1, ← Hs.out.2]; omega)).mono ?_
      rintro e w2 ⟨rfl, hb2⟩
      go_wp2
      go_ret
      exact ⟨_, rfl, strip_canon _ (dec_rev D HE.out.2) (by rw [List.length_reverse, Hl.out]; have := Hp.out; omega), by rw [strip_vl, vl_rev, HE.out.1], Nat.le_trans (strip_len _) (by rw [List.length_reverse, Hl.out]; exact Nat.le_refl _), hbel.trans (hb2.mono hsz)⟩
end Go.Proofs.Ytmjkpjmccdjkjaq
