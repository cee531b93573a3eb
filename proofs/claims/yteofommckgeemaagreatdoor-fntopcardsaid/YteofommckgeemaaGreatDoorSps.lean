/-
  Plain facts: the program's sum and the model's are the same.
-/
import Derived.Test.YteofommckgeemaaGreatDoorSpe
import Derived.Test.YteofommckgeemaaGreatDoorFinP
import Derived.Test.YteofommckgeemaaGreatDoorSpa

namespace Go.Proofs.YteofommckgeemaaGreatDoor
open Go.RowKit
set_option linter.unusedVariables false
set_option maxRecDepth 100000
/-- The sum of two finite numbers, finished: the sign and the rest. -/
def fsN (f mode : Int) (na : Bool) (ea a : Int) (nb : Bool) (eb b : Int) : Bool := if (sfT (limP f) na ea a nb eb b).2.2 = 0 ∧ na ≠ nb then decide (mode = 3) else (sfT (limP f) na ea a nb eb b).1
def fsR (f mode : Int) (na : Bool) (ea a : Int) (nb : Bool) (eb b : Int) : Int × Int × ByteArray × Int := finD f mode (fsN f mode na ea a nb eb b) (nt (sfT (limP f) na ea a nb eb b).2.2) (sfT (limP f) na ea a nb eb b).2.1 false (min ea eb)
theorem es_bd (nx : Bool) (x : Int) (ny : Bool) (y : Int) (hx : Nok x) (hy : 0 ≤ y) (hs : Nok (x + y)) : Nok (esV nx x ny y) := by
  unfold esV
  split
  · exact hs
  · split
    · exact hs.le (by omega) (by have := hx.1; omega)
    · exact hs.le (by omega) (by omega)
theorem sf_bd (p : Int) (na : Bool) (ea a : Int) (nb : Bool) (eb b : Int) (m n : Nat) (hp : 0 ≤ p ∧ p ≤ 34) (ha : 0 ≤ a) (ham : a < 10 ^ m) (hb : 0 ≤ b) (hbn : b < 10 ^ n) (hm : 1 ≤ m) (hn : 1 ≤ n) (hmn : m + n ≤ 120) (hea : -20000 ≤ ea ∧ ea ≤ 20000) (heb : -20000 ≤ eb ∧ eb ≤ 20000) :
    Nok (sfT p na ea a nb eb b).2.2 ∧ -20200 ≤ (sfT p na ea a nb eb b).2.1 ∧ (sfT p na ea a nb eb b).2.1 ≤ 20000 := by
  obtain ⟨hka, -, -⟩ := tn_digits ha ham hm (by omega)
  obtain ⟨hkb, -, -⟩ := tn_digits hb hbn hn (by omega)
  unfold sfT
  split
  · exact ⟨hkb, by show -20200 ≤ eb; omega, heb.2⟩
  · split
    · exact ⟨hka, by show -20200 ≤ ea; omega, hea.2⟩
    · split
      · obtain ⟨g1, g2, g3, g4⟩ := sg_bd p eb b ea a n m hp hb hbn ha ham hn hm (by omega) (by omega)
        exact ⟨es_bd nb _ na _ g2 g4 g3, by show -20200 ≤ sgE p eb a ea; omega, by show sgE p eb a ea ≤ 20000; omega⟩
      · obtain ⟨g1, g2, g3, g4⟩ := sg_bd p ea a eb b m n hp ha ham hb hbn hm hn hmn (by omega)
        exact ⟨es_bd na _ nb _ g2 g4 g3, by show -20200 ≤ sgE p ea b eb; omega, by show sgE p ea b eb ≤ 20000; omega⟩
theorem SU.at1 {w W : World} {ka : Int} {na : Bool} {ea : Int} {sa : ByteArray} {kb : Int} {nb : Bool} {eb : Int} {sb : ByteArray} (h : SU w W ka na ea sa kb nb eb sb) : At4r W w.heap.size (.int .i64 ka) (.bool na) (.int .i64 ea) (.string sa) := h.1
theorem SU.at2 {w W : World} {ka : Int} {na : Bool} {ea : Int} {sa : ByteArray} {kb : Int} {nb : Bool} {eb : Int} {sb : ByteArray} (h : SU w W ka na ea sa kb nb eb sb) : At4r W (w.heap.size + 1) (.int .i64 kb) (.bool nb) (.int .i64 eb) (.string sb) := h.2.1
theorem SU.set1 {w W : World} {ka : Int} {na : Bool} {ea : Int} {sa : ByteArray} {kb : Int} {nb : Bool} {eb : Int} {sb : ByteArray} (h : SU w W ka na ea sa kb nb eb sb) {b : Nat} (hb : w.heap.size + 2 < b) (i : Nat) (v : Value) : SU w (W.setCell ⟨b, i, none⟩ v) ka na ea sa kb nb eb sb := by
  refine ⟨h.at1.far (by omega) i v, h.at2.far (by omega) i v, ?_, h.2.2.2.1.setCell (show w.heap.size ≤ b by omega) v, ?_⟩
  · have := h.2.2.1
    unfold At5 at this ⊢
    simp [World.setCell, Array.getElem?_modify, this]
    intro c; omega
  · have := h.2.2.2.2
    simp [World.setCell]
    exact this
/-- The row of two numbers that is handed on. -/
abbrev rowW (W : World) (ka : Int) (na : Bool) (ea : Int) (sa : ByteArray) (kb : Int) (nb : Bool) (eb : Int) (sb : ByteArray) : World := W.alloc (.cells #[.int .i64 ka, .bool na, .int .i64 ea, .string sa, .int .i64 kb, .bool nb, .int .i64 eb, .string sb] 78)
theorem row_new (W : World) (ka : Int) (na : Bool) (ea : Int) (sa : ByteArray) (kb : Int) (nb : Bool) (eb : Int) (sb : ByteArray) : NRw (rowW W ka na ea sa kb nb eb sb) W.heap.size 2 (tw2 ka kb) (tw2 na nb) (tw2 ea eb) (tw2 sa sb) ∧ W.heap.size < (rowW W ka na ea sa kb nb eb sb).heap.size :=
  ⟨nrw2 (heap_at W _), by rw [show (rowW W ka na ea sa kb nb eb sb).heap.size = W.heap.size + 1 from new_size _ _]; omega⟩
set_option maxRecDepth 100000 in
set_option maxHeartbeats 1000000 in
theorem finishedSum_thrown (f mode : Int) (ka : Int) (na : Bool) (ea : Int) (sa : ByteArray) (kb : Int) (nb : Bool) (eb : Int) (sb : ByteArray) (w : World) (r : Value) (hr : tiE 2 (tw2 ka kb) (tw2 na nb) (tw2 ea eb) (tw2 sa sb) = thrown r) :
    Calls Tryz.prog 76 #[.int .i64 f, .int .i64 mode, numV ka na ea sa, numV kb nb eb sb] w fun x w' => x = thrown r ∧ Below w.heap.size w w' := by
  have HS : Hid (SU w (suW w ka na ea sa kb nb eb sb) ka na ea sa kb nb eb sb) := su_new w ka na ea sa kb nb eb sb
  obtain ⟨W, hW⟩ : ∃ W, suW w ka na ea sa kb nb eb sb = W := ⟨_, rfl⟩
  have HR : Hid (NRw (rowW (suW w ka na ea sa kb nb eb sb) ka na ea sa kb nb eb sb) (suW w ka na ea sa kb nb eb sb).heap.size 2 (tw2 ka kb) (tw2 na nb) (tw2 ea eb) (tw2 sa sb) ∧ (suW w ka na ea sa kb nb eb sb).heap.size < (rowW (suW w ka na ea sa kb nb eb sb) ka na ea sa kb nb eb sb).heap.size) := row_new _ ka na ea sa kb nb eb sb
  have hz : (suW w ka na ea sa kb nb eb sb).heap.size = w.heap.size + 1 + 1 + 1 := by simp
  have HB : Hid (Below w.heap.size w (rowW (suW w ka na ea sa kb nb eb sb) ka na ea sa kb nb eb sb)) := HS.out.2.2.2.1.alloc (by rw [hz]; omega) _
  rw [hz] at HR
  have HT : Hid (∀ X, NRw X (w.heap.size + 1 + 1 + 1) 2 (tw2 ka kb) (tw2 na nb) (tw2 ea eb) (tw2 sa sb) → w.heap.size + 1 + 1 + 1 < X.heap.size → Calls Tryz.prog 80 #[.slice (some ⟨w.heap.size + 1 + 1 + 1, 0, none⟩) 2 2] X fun x w' => x = thrown r ∧ Below X.heap.size X w') := fun X h1 h2 => by
    rw [← hr]; exact throwInfinity_any 2 (w.heap.size + 1 + 1 + 1) _ _ _ _ X (by decide) h2 h1
  clear hr hW W hz HS
  go_enter Tryz.func76, Tryz.ntmps76
  go_wp2_with fail
  refine (HT.out _ HR.out.1 HR.out.2).mono ?_
  rintro x w1 ⟨rfl, hb1⟩
  go_wp2
  exact ⟨rfl, rfl, HB.out.trans (hb1.mono HB.out.size)⟩
set_option maxRecDepth 100000 in
set_option maxHeartbeats 400000 in
theorem finishedSum_fin (f mode : Int) (hf : f = 64 ∨ f = 128) (hmo : 1 ≤ mode ∧ mode ≤ 5) (na : Bool) (ea a : Int) (nb : Bool) (eb b : Int) (m n : Nat) (w : World) (ha : 0 ≤ a) (ham : a < 10 ^ m) (hb : 0 ≤ b) (hbn : b < 10 ^ n) (hm : 1 ≤ m) (hn : 1 ≤ n) (hmn : m + n ≤ 120) (hea : -20000 ≤ ea ∧ ea ≤ 20000) (heb : -20000 ≤ eb ∧ eb ≤ 20000) :
    Calls Tryz.prog 76 #[.int .i64 f, .int .i64 mode, numV 1 na ea (tn a), numV 1 nb eb (tn b)] w fun x w' => x = .returned (rsD (fsN f mode na ea a nb eb b) (fsR f mode na ea a nb eb b)) ∧ Below w.heap.size w w' := by
  have hp : 0 ≤ limP f ∧ limP f ≤ 34 := by rcases hf with rfl | rfl <;> decide
  have HSf : Hid (∀ X, Calls Tryz.prog 154 #[.int .i64 f, numV 1 na ea (tn a), numV 1 nb eb (tn b)] X fun r w' => r = .returned (numV 1 (sfT (limP f) na ea a nb eb b).1 (sfT (limP f) na ea a nb eb b).2.1 (tn (sfT (limP f) na ea a nb eb b).2.2)) ∧ Below X.heap.size X w') := fun X => sumFor_any f na ea a nb eb b m n X hp ha ham hb hbn hm hn hmn hea heb
  obtain ⟨k1, k2, k3⟩ := sf_bd (limP f) na ea a nb eb b m n hp ha ham hb hbn hm hn hmn hea heb
  have HFn : Hid (∀ X, Calls Tryz.prog 81 #[.int .i64 f, .int .i64 mode, numV 1 (fsN f mode na ea a nb eb b) (sfT (limP f) na ea a nb eb b).2.1 (tn (sfT (limP f) na ea a nb eb b).2.2), .int .i64 (min ea eb)] X fun x w' => x = .returned (rsD (fsN f mode na ea a nb eb b) (fsR f mode na ea a nb eb b)) ∧ Below X.heap.size X w') := fun X => by
    unfold fsR
    exact finished_any f mode hf hmo 1 (fsN f mode na ea a nb eb b) (sfT (limP f) na ea a nb eb b).2.1 (sfT (limP f) na ea a nb eb b).2.2 (min ea eb) X k1 (by omega) (by omega)
  have HIs : Hid (∀ X, Calls Tryz.prog 93 #[numV 1 (sfT (limP f) na ea a nb eb b).1 (sfT (limP f) na ea a nb eb b).2.1 (tn (sfT (limP f) na ea a nb eb b).2.2)] X fun x w' => x = .returned (.bool (decide ((sfT (limP f) na ea a nb eb b).2.2 = 0))) ∧ Below X.heap.size X w') := fun X => isNought_fin _ _ _ X k1
  have HE : Hid (fsN f mode na ea a nb eb b = if decide ((sfT (limP f) na ea a nb eb b).2.2 = 0) = true ∧ na ≠ nb then decide (mode = 3) else (sfT (limP f) na ea a nb eb b).1) := by
    show _ = _
    unfold fsN
    simp only [decide_eq_true_eq]
  have HTi : Hid (tiE 2 (tw2 1 1) (tw2 na nb) (tw2 ea eb) (tw2 (tn a) (tn b)) = .returned (.tuple #[])) := by
    show _ = _
    simp [tiE, tiX, tiA, tw2]
  generalize fsR f mode na ea a nb eb b = FR at *
  generalize fsN f mode na ea a nb eb b = FN at *
  generalize sfT (limP f) na ea a nb eb b = ST at *
  obtain ⟨SN, SE, SV⟩ := ST
  obtain ⟨F1, F2, F3, F4⟩ := FR
  simp only at HSf HFn HIs HE
  generalize decide (SV = 0) = Z at *
  generalize tn SV = TS at *
  generalize tn a = S1 at *
  generalize tn b = S2 at *
  clear k1 k2 k3 hp ha ham hb hbn hm hn hmn hea heb hf hmo
  have HS : Hid (SU w (suW w 1 na ea S1 1 nb eb S2) 1 na ea S1 1 nb eb S2) := su_new w 1 na ea S1 1 nb eb S2
  have HR : Hid (NRw (rowW (suW w 1 na ea S1 1 nb eb S2) 1 na ea S1 1 nb eb S2) (suW w 1 na ea S1 1 nb eb S2).heap.size 2 (tw2 1 1) (tw2 na nb) (tw2 ea eb) (tw2 S1 S2) ∧ (suW w 1 na ea S1 1 nb eb S2).heap.size < (rowW (suW w 1 na ea S1 1 nb eb S2) 1 na ea S1 1 nb eb S2).heap.size) := row_new _ 1 na ea S1 1 nb eb S2
  have hz : (suW w 1 na ea S1 1 nb eb S2).heap.size = w.heap.size + 1 + 1 + 1 := by simp
  rw [hz] at HR
  have HSr : Hid (SU w (rowW (suW w 1 na ea S1 1 nb eb S2) 1 na ea S1 1 nb eb S2) 1 na ea S1 1 nb eb S2) := HS.out.alloc _
  have HT : Hid (∀ X, NRw X (w.heap.size + 1 + 1 + 1) 2 (tw2 1 1) (tw2 na nb) (tw2 ea eb) (tw2 S1 S2) → w.heap.size + 1 + 1 + 1 < X.heap.size → Calls Tryz.prog 80 #[.slice (some ⟨w.heap.size + 1 + 1 + 1, 0, none⟩) 2 2] X fun x w' => x = .returned (.tuple #[]) ∧ Below X.heap.size X w') := fun X h1 h2 => by
    rw [← HTi.out]; exact throwInfinity_any 2 (w.heap.size + 1 + 1 + 1) _ _ _ _ X (by decide) h2 h1
  clear hz HS HTi
  go_enter Tryz.func76, Tryz.ntmps76
  go_wp2_with fail
  refine (HT.out _ HR.out.1 HR.out.2).mono ?_
  rintro x w1 ⟨rfl, hb1⟩
  have HS1 : Hid (SU w w1 1 na ea S1 1 nb eb S2) := HSr.out.next hb1
  clear hb1 HSr HR HT
  obtain ⟨a0, a1, a2, a3, a4⟩ := HS1.out.at1.cells
  obtain ⟨c0, c1, c2, c3, c4⟩ := HS1.out.at2.cells
  go_wp2_with fail
  refine (HSf.out _).mono ?_
  rintro x w2 ⟨rfl, hb2⟩
  have HS2 : Hid (SU w w2 1 na ea S1 1 nb eb S2) := HS1.out.next hb2
  clear hb2 HS1 HSf a0 a1 a2 a3 a4 c0 c1 c2 c3 c4
  have HS3 : Hid (SU w (w2.alloc (.cells #[.int .i64 1, .bool SN, .int .i64 SE, .string TS] 78)) 1 na ea S1 1 nb eb S2 ∧ At4r (w2.alloc (.cells #[.int .i64 1, .bool SN, .int .i64 SE, .string TS] 78)) w2.heap.size (.int .i64 1) (.bool SN) (.int .i64 SE) (.string TS) ∧ w.heap.size + 2 < w2.heap.size) := ⟨HS2.out.alloc _, at4r_new w2 _ _ _ _, HS2.out.2.2.2.2⟩
  clear HS2
  go_wp2_with fail
  refine (HIs.out _).mono ?_
  rintro x w4 ⟨rfl, hb4⟩
  have HS4 : Hid (SU w w4 1 na ea S1 1 nb eb S2 ∧ At4r w4 w2.heap.size (.int .i64 1) (.bool SN) (.int .i64 SE) (.string TS) ∧ w.heap.size + 2 < w2.heap.size) := ⟨HS3.out.1.next hb4, HS3.out.2.1.next hb4, HS3.out.2.2⟩
  clear hb4 HS3 HIs
  generalize w2.heap.size = b9 at *
  obtain ⟨a0, a1, a2, a3, a4⟩ := HS4.out.1.at1.cells
  obtain ⟨c0, c1, c2, c3, c4⟩ := HS4.out.1.at2.cells
  obtain ⟨g0, g1, g2, g3, g4⟩ := HS4.out.2.1.cells
  by_cases hc : Z = true ∧ na ≠ nb
  · have E : Hid (FN = (mode == 3)) := by
      show _ = _
      rw [HE.out, if_pos hc]
      by_cases h3 : mode = 3
      · rw [decide_eq_true h3, h3]; rfl
      · rw [decide_eq_false h3]; exact (beq_eq_false_iff_ne.2 h3).symm
    obtain ⟨hz, hne⟩ := hc
    subst hz
    have hneb : (na == nb) = false := beq_eq_false_iff_ne.2 hne
    rw [E.out] at HFn
    clear HE hne
    have HS5 : Hid (SU w (w4.setCell ⟨b9, 1, none⟩ (.bool (mode == 3))) 1 na ea S1 1 nb eb S2 ∧ At4r (w4.setCell ⟨b9, 1, none⟩ (.bool (mode == 3))) b9 (.int .i64 1) (.bool (mode == 3)) (.int .i64 SE) (.string TS)) := ⟨HS4.out.1.set1 HS4.out.2.2 _ _, HS4.out.2.1.set1 _⟩
    obtain ⟨p0, p1, p2, p3, p4⟩ := HS5.out.1.at1.cells
    obtain ⟨r0, r1, r2, r3, r4⟩ := HS5.out.1.at2.cells
    obtain ⟨t0, t1, t2, t3, t4⟩ := HS5.out.2.cells
    go_wp2_with fail
    refine (HFn.out _).mono ?_
    rintro x w6 ⟨rfl, hb6⟩
    have HZ6 : Hid (At5 w6 (w.heap.size + 2) (.int .i64 0) (.bool false) (.int .i64 0) (.string { data := #[] }) (.int .i64 0) ∧ Below w.heap.size w w6) := sum_end HS5.out.1 hb6
    clear hb6 HS5 HFn p0 p1 p2 p3 p4 r0 r1 r2 r3 r4 t0 t1 t2 t3 t4
    go_wp2_with (refine wpList_store_row rfl 90 (.tmp 8) (.tmp 38) rfl (w.heap.size + 2) #[.int .i64 F1, .bool (mode == 3), .int .i64 F2, .string F3, .int .i64 F4] rfl rfl _ _ HZ6.out.1 (by kernel_rfl) rfl (one5 _ _ _ _ _) ?_)
    have hP := (HZ6.out.1.row (.int .i64 F1) (.bool (mode == 3)) (.int .i64 F2) (.string F3) (.int .i64 F4)).cells
    refine bodyPost_ret (results_res rfl _ _ rfl hP.1 hP.2.1 hP.2.2.1 hP.2.2.2.1 hP.2.2.2.2.1) rfl ?_
    exact ⟨by rw [E.out], bel_row HZ6.out.2 (by omega) _⟩
  · have E : Hid (FN = SN) := by show _ = _; rw [HE.out, if_neg hc]
    rw [E.out] at HFn
    clear HE
    cases Z with
    | false =>
      clear hc
      go_wp2_with fail
      refine (HFn.out _).mono ?_
      rintro x w6 ⟨rfl, hb6⟩
      have HZ6 : Hid (At5 w6 (w.heap.size + 2) (.int .i64 0) (.bool false) (.int .i64 0) (.string { data := #[] }) (.int .i64 0) ∧ Below w.heap.size w w6) := sum_end HS4.out.1 hb6
      clear hb6 HS4 HFn a0 a1 a2 a3 a4 c0 c1 c2 c3 c4 g0 g1 g2 g3 g4
      go_wp2_with (refine wpList_store_row rfl 90 (.tmp 8) (.tmp 38) rfl (w.heap.size + 2) #[.int .i64 F1, .bool SN, .int .i64 F2, .string F3, .int .i64 F4] rfl rfl _ _ HZ6.out.1 (by kernel_rfl) rfl (one5 _ _ _ _ _) ?_)
      have hP := (HZ6.out.1.row (.int .i64 F1) (.bool SN) (.int .i64 F2) (.string F3) (.int .i64 F4)).cells
      refine bodyPost_ret (results_res rfl _ _ rfl hP.1 hP.2.1 hP.2.2.1 hP.2.2.2.1 hP.2.2.2.2.1) rfl ?_
      exact ⟨by rw [E.out], bel_row HZ6.out.2 (by omega) _⟩
    | true =>
      have heq : na = nb := Classical.byContradiction fun h => hc ⟨rfl, h⟩
      have hneb : (na == nb) = true := by rw [heq]; exact beq_self_eq_true _
      clear hc heq
      go_wp2_with fail
      refine (HFn.out _).mono ?_
      rintro x w6 ⟨rfl, hb6⟩
      have HZ6 : Hid (At5 w6 (w.heap.size + 2) (.int .i64 0) (.bool false) (.int .i64 0) (.string { data := #[] }) (.int .i64 0) ∧ Below w.heap.size w w6) := sum_end HS4.out.1 hb6
      clear hb6 HS4 HFn a0 a1 a2 a3 a4 c0 c1 c2 c3 c4 g0 g1 g2 g3 g4
      go_wp2_with (refine wpList_store_row rfl 90 (.tmp 8) (.tmp 38) rfl (w.heap.size + 2) #[.int .i64 F1, .bool SN, .int .i64 F2, .string F3, .int .i64 F4] rfl rfl _ _ HZ6.out.1 (by kernel_rfl) rfl (one5 _ _ _ _ _) ?_)
      have hP := (HZ6.out.1.row (.int .i64 F1) (.bool SN) (.int .i64 F2) (.string F3) (.int .i64 F4)).cells
      refine bodyPost_ret (results_res rfl _ _ rfl hP.1 hP.2.1 hP.2.2.1 hP.2.2.2.1 hP.2.2.2.2.1) rfl ?_
      exact ⟨by rw [E.out], bel_row HZ6.out.2 (by omega) _⟩
end Go.Proofs.YteofommckgeemaaGreatDoor

namespace Go.Proofs.YteofommckgeemaaGreatDoor
open Go.RowKit
set_option linter.unusedVariables false
set_option maxRecDepth 100000
/-- How many digits, by the number. -/
theorem len_of (R : List Int) (h : Canon R) (m : Nat) (hm : 1 ≤ m) (h0 : 10 ^ (m - 1) ≤ vl R) (h1 : vl R < 10 ^ m) : R.length = m := by
  have a := canon_le R h m hm h1
  rcases Nat.lt_or_ge R.length m with c | c
  · have b := (vl_bd R h.1).2
    have d := pow_mono R.length (m - 1) (by omega)
    omega
  · omega
theorem canon_lo (R : List Int) (h : Canon R) (hz : R ≠ [0]) : 10 ^ (R.length - 1) ≤ vl R := by
  rcases Nat.lt_or_ge 1 R.length with c | c
  · exact canon_low R h c
  · have : R.length = 1 := by have := h.2.1; omega
    rw [this]
    have b := (vl_bd R h.1).1
    have : vl R ≠ 0 := fun e => hz (canon_nought R h e)
    show (10 : Int) ^ 0 ≤ vl R
    rw [Int.pow_zero]
    omega
/-- Digits, and more behind them. -/
theorem len_more (R R' : List Int) (h : Canon R) (hz : R ≠ [0]) (h' : Canon R') (k : Nat) (r : Int) (hv : vl R' = vl R * 10 ^ k + r) (r0 : 0 ≤ r) (r1 : r < 10 ^ k) : R'.length = R.length + k := by
  have hl := h.2.1
  have a := canon_lo R h hz
  have b := (vl_bd R h.1).2
  have p := ten_pos k
  refine len_of R' h' _ (by omega) ?_ ?_
  · rw [show R.length + k - 1 = R.length - 1 + k by omega, Int.pow_add, hv]
    have := Int.mul_le_mul_of_nonneg_right a (Int.le_of_lt p)
    omega
  · rw [Int.pow_add, hv]
    have : (vl R + 1) * 10 ^ k ≤ 10 ^ R.length * 10 ^ k := Int.mul_le_mul_of_nonneg_right (by omega) (Int.le_of_lt p)
    rw [Int.add_mul] at this
    omega
theorem div_more (v r : Int) (k d : Nat) (r0 : 0 ≤ r) (r1 : r < 10 ^ k) : (v * 10 ^ k + r) / 10 ^ (d + k) = v / 10 ^ d ∧ (v * 10 ^ k + r) % 10 ^ (d + k) = v % 10 ^ d * 10 ^ k + r := by
  have pk := ten_pos k
  have pd := ten_pos d
  have e : (v * 10 ^ k + r) / 10 ^ (d + k) = v / 10 ^ d := by
    rw [Nat.add_comm d k, Int.pow_add, ← Int.ediv_ediv_of_nonneg (Int.le_of_lt pk)]
    congr 1
    rw [Int.add_comm, Int.add_mul_ediv_right _ _ (Int.ne_of_gt pk), Int.ediv_eq_zero_of_lt r0 r1, Int.zero_add]
  refine ⟨e, ?_⟩
  have a := Int.mul_ediv_add_emod (v * 10 ^ k + r) (10 ^ (d + k))
  have b := Int.mul_ediv_add_emod v (10 ^ d)
  rw [e, Int.pow_add] at a
  rw [Int.pow_add]
  have c : v * 10 ^ k = 10 ^ d * (v / 10 ^ d) * 10 ^ k + v % 10 ^ d * 10 ^ k := by rw [← Int.add_mul, b]
  have g : (10 : Int) ^ d * 10 ^ k * (v / 10 ^ d) = 10 ^ d * (v / 10 ^ d) * 10 ^ k := by rw [Int.mul_assoc, Int.mul_comm (10 ^ k) (v / 10 ^ d), ← Int.mul_assoc]
  rw [g] at a
  omega
theorem ten_even (d : Nat) (h : 1 ≤ d) : ∃ m : Int, (10 : Int) ^ d = 10 * m := ⟨10 ^ (d - 1), by rw [← Int.pow_succ', show d - 1 + 1 = d by omega]⟩
/-- What is cut off is seen alike whether its end is there or only said to be there. -/
theorem half_more (ρ r : Int) (k d : Nat) (hd : 1 ≤ d) (rest' : Bool) (r0 : 0 ≤ r) (r1 : r < 10 ^ k) (hs : r ≠ 0 ∨ rest' = true) : halfI (ρ * 10 ^ k + r) (10 ^ (d + k)) rest' (d + k) = halfI ρ (10 ^ d) true d := by
  obtain ⟨m, hm⟩ := ten_even d hd
  have pk := ten_pos k
  unfold halfI
  rw [if_neg (show ¬ d + k = 0 by omega), if_neg (show ¬ d = 0 by omega), Int.pow_add, hm]
  generalize (10 : Int) ^ k = T at *
  by_cases h : 2 * ρ < 10 * m
  · rw [if_pos h, if_pos ?_]
    have h2 : 2 * ρ + 2 ≤ 10 * m := by omega
    have := Int.mul_le_mul_of_nonneg_right h2 (Int.le_of_lt pk)
    rw [Int.add_mul, Int.mul_assoc 2 ρ T] at this
    omega
  · have h2 : 10 * m ≤ 2 * ρ := by omega
    have := Int.mul_le_mul_of_nonneg_right h2 (Int.le_of_lt pk)
    rw [Int.mul_assoc 2 ρ T] at this
    rw [if_neg h, if_neg (by omega : ¬ 2 * (ρ * T + r) < 10 * m * T), if_neg (fun q => Bool.noConfusion q.2 : ¬ (2 * ρ = 10 * m ∧ true = false))]
    refine if_neg ?_
    rintro ⟨q1, q2⟩
    rcases hs with c | c
    · omega
    · rw [c] at q2; cases q2
/-- A number far below all digits. -/
theorem rnd_far (mode : Int) (neg : Bool) (v : Int) (d : Nat) (n : Nat) (h0 : 0 ≤ v) (h1 : v < 10 ^ n) (hn : n + 1 ≤ d) : rndV mode neg v d true = rndV mode neg 1 200 true := by
  have pn := ten_pos n
  have key : ∀ (v : Int) (d n : Nat), 0 ≤ v → v < 10 ^ n → n + 1 ≤ d → v / 10 ^ d = 0 ∧ halfI (v % 10 ^ d) (10 ^ d) true d = -1 := fun v d n h0 h1 hn => by
    have a := pow_mono (n + 1) d hn
    have b : (10 : Int) ^ (n + 1) = 10 ^ n * 10 := Int.pow_succ 10 n
    have pn := ten_pos n
    have hlt : v < 10 ^ d := by omega
    refine ⟨Int.ediv_eq_zero_of_lt h0 hlt, ?_⟩
    rw [Int.emod_eq_of_lt h0 hlt]
    unfold halfI
    rw [if_neg (by omega), if_pos (by omega)]
  obtain ⟨a, b⟩ := key v d n h0 h1 hn
  obtain ⟨a', b'⟩ := key 1 200 1 (by decide) (by decide) (by decide)
  unfold rndV rndU upB rndL
  rw [a, b, a', b']
  simp
/-- THE DIGITS ALONE, OR MORE OF THEM. -/
theorem finN_more (p : Nat) (hp : 1 ≤ p) (low high mode : Int) (neg : Bool) (ds ds' : List Int) (e : Int) (rest' : Bool) (want : Int) (k : Nat) (r : Int) (hc : Canon ds) (hz : ds ≠ [0]) (hc' : Canon ds') (hv : vl ds' = vl ds * 10 ^ k + r) (r0 : 0 ≤ r) (r1 : r < 10 ^ k) (hs : r ≠ 0 ∨ rest' = true)
    (hn : p + 1 ≤ ds.length) (hk : ds.length + k ≤ 198) : finN p low high mode neg ds e true want = finN p low high mode neg ds' (e - k) rest' want := by
  have hl := len_more ds ds' hc hz hc' k r hv r0 r1
  have hj : finJ p ds.length true = 0 := by unfold finJ; rw [if_pos rfl]; omega
  have hj' : finJ p ds'.length rest' = 0 := by unfold finJ; cases rest' <;> simp; omega
  obtain ⟨d, hd⟩ : ∃ d, finDr p ds.length low e = d := ⟨_, rfl⟩
  have hd1 : 1 ≤ d := by rw [← hd]; unfold finDr; omega
  have hd' : finDr p ds'.length low (e - k) = d + k := by rw [← hd, hl]; unfold finDr; omega
  obtain ⟨q1, q2⟩ := div_more (vl ds) r k d r0 r1
  have hL : finLs (vl ds) d true = true := by unfold finLs rndL; split <;> rfl
  have hL' : finLs (vl ds') (d + k) rest' = true := by
    unfold finLs rndL
    split
    · rfl
    · rcases hs with c | c
      · rw [hv, q2]
        have hm := Int.emod_nonneg (vl ds) (Int.ne_of_gt (ten_pos d))
        have := Int.mul_nonneg hm (Int.le_of_lt (ten_pos k))
        rw [decide_eq_true (show vl ds % 10 ^ d * 10 ^ k + r ≠ 0 by omega), Bool.or_true]
      · rw [c, Bool.true_or]
  have hU : rndV mode neg (vl ds') (d + k) rest' = rndV mode neg (vl ds) d true := by
    have e1 : rndL (vl ds') (d + k) rest' = rndL (vl ds) d true := by
      unfold rndL
      rw [Bool.true_or]
      rcases hs with c | c
      · rw [hv, q2]
        have hm := Int.emod_nonneg (vl ds) (Int.ne_of_gt (ten_pos d))
        have := Int.mul_nonneg hm (Int.le_of_lt (ten_pos k))
        rw [decide_eq_true (show vl ds % 10 ^ d * 10 ^ k + r ≠ 0 by omega), Bool.or_true]
      · rw [c, Bool.true_or]
    unfold rndV rndU
    rw [e1, hv, q1, q2, half_more (vl ds % 10 ^ d) r k d hd1 rest' r0 r1 hs]
  have hV : finV mode neg (vl ds') (d + k) rest' = finV mode neg (vl ds) d true := by
    unfold finV
    by_cases c : 200 < d
    · rw [if_pos c, if_pos (by omega)]
    · rw [if_neg c]
      by_cases c2 : 200 < d + k
      · rw [if_pos c2]
        have b := vl_bd ds hc.1
        exact (rnd_far mode neg (vl ds) d ds.length b.1 b.2 (by omega)).symm
      · rw [if_neg c2]; exact hU
  unfold finN
  simp only [hj, hj', Nat.add_zero, Int.pow_zero, Int.mul_one]
  rw [show e - ((0 : Nat) : Int) = e by simp, show e - (k : Int) - ((0 : Nat) : Int) = e - k by simp, hd, hd', hL, hL', hV, hl]
  have x1 : e - (k : Int) + ((d + k : Nat) : Int) = e + (d : Int) := by omega
  have x2 : ((ds.length + k : Nat) : Int) + (e - (k : Int)) = (ds.length : Int) + e := by omega
  rw [x1, x2]
/-- A nine at the end says that something is there. -/
theorem finN_nine (p : Nat) (hp : 1 ≤ p) (low high mode : Int) (neg : Bool) (ds : List Int) (e want : Int) (hc : Canon ds) (h9 : vl ds % 10 = 9) (hn : p + 1 ≤ ds.length) : finN p low high mode neg ds e true want = finN p low high mode neg ds e false want := by
  have hj : finJ p ds.length true = 0 := by unfold finJ; rw [if_pos rfl]; omega
  have hj' : finJ p ds.length false = 0 := by unfold finJ; simp
  obtain ⟨d, hd⟩ : ∃ d, finDr p ds.length low e = d := ⟨_, rfl⟩
  have hd1 : 1 ≤ d := by rw [← hd]; unfold finDr; omega
  obtain ⟨m, hm⟩ := ten_even d hd1
  have b := (vl_bd ds hc.1).1
  have hρ : vl ds % 10 ^ d % 10 = 9 := by
    rw [hm, Int.emod_emod_of_dvd _ (Int.dvd_mul_right 10 m)]; exact h9
  have hne : vl ds % 10 ^ d ≠ 0 := fun c => by rw [c] at hρ; cases hρ
  have hL : rndL (vl ds) d true = rndL (vl ds) d false := by unfold rndL; rw [decide_eq_true hne]; rfl
  have hH : halfI (vl ds % 10 ^ d) (10 ^ d) true d = halfI (vl ds % 10 ^ d) (10 ^ d) false d := by
    unfold halfI
    have n1 : ¬ (2 * (vl ds % 10 ^ d) = 10 ^ d ∧ true = false) := fun q => Bool.noConfusion q.2
    have n2 : ¬ (2 * (vl ds % 10 ^ d) = 10 ^ d ∧ false = false) := fun q => by have := q.1; omega
    rw [if_neg n1, if_neg n2]
  have hV : finV mode neg (vl ds) d true = finV mode neg (vl ds) d false := by
    unfold finV rndV rndU
    rw [hL, hH]
  have hLs : finLs (vl ds) d true = finLs (vl ds) d false := by unfold finLs; rw [hL]
  unfold finN
  simp only [hj, hj', Nat.add_zero, Int.pow_zero, Int.mul_one]
  rw [show e - ((0 : Nat) : Int) = e by simp, hd, hV, hLs]
theorem vl_pos (d : List Int) (h : Canon d) (hz : d ≠ [0]) : 1 ≤ vl d := by
  have b := (vl_bd d h.1).1
  have : vl d ≠ 0 := fun e => hz (canon_nought d h e)
  omega
end Go.Proofs.YteofommckgeemaaGreatDoor

namespace Go.Proofs.YteofommckgeemaaGreatDoor
open Go.RowKit
set_option linter.unusedVariables false
set_option maxRecDepth 100000
theorem nt_vl (d : List Int) (h : Canon d) (hl : d.length ≤ 500) : nt (vl d) = d := (nt_of d (vl d) h rfl hl).symm
theorem nt_0 : nt 0 = [0] := (nt_of [0] 0 canon_zero rfl (by decide)).symm
theorem nok_ne0 {v : Int} (h : Nok v) (h0 : v ≠ 0) : nt v ≠ [0] := fun e => h0 (by rw [← (nok_spec h).2, e]; rfl)
theorem finD_ne (f mode : Int) (neg : Bool) (ds : List Int) (e : Int) (rest : Bool) (want : Int) (h : ds ≠ [0]) : finD f mode neg ds e rest want = finN (limP f).toNat (limL f) (limH f) mode neg ds e rest want := if_neg h
theorem finD_0 (f mode : Int) (neg : Bool) (e e' : Int) (rest rest' : Bool) (want : Int) : finD f mode neg [0] e rest want = finD f mode neg [0] e' rest' want := by
  unfold finD; rw [if_pos rfl, if_pos rfl]
theorem tn_vl (d : List Int) (h : Canon d) (hl : d.length ≤ 500) : (tn (vl d)).size = d.length := by rw [tn_tx, nt_vl d h hl, tx_size]
/-- What the program makes of a sum, by its sign, exponent and digits' number. -/
def prR (f mode : Int) (nx ny : Bool) (T : Bool × Int × Int) (want : Int) : Bool × (Int × Int × ByteArray × Int) :=
  ((if T.2.2 = 0 ∧ nx ≠ ny then decide (mode = 3) else T.1), finD f mode (if T.2.2 = 0 ∧ nx ≠ ny then decide (mode = 3) else T.1) (nt T.2.2) T.2.1 false want)
/-- Near sums. -/
theorem near_same (f mode : Int) (nx : Bool) (X : Int) (ny : Bool) (Y ey : Int) (hX : 1 ≤ X) (hY : 1 ≤ Y) :
    prR f mode nx ny (esN nx X ny Y, ey, esV nx X ny Y) ey =
      (if nx = ny then (nx, finD f mode nx (nt (X + Y)) ey false ey) else if X = Y then (decide (mode = 3), finD f mode (decide (mode = 3)) [0] ey false ey) else if Y < X then (nx, finD f mode nx (nt (X - Y)) ey false ey) else (ny, finD f mode ny (nt (Y - X)) ey false ey)) := by
  unfold prR esN esV
  by_cases h1 : nx = ny
  · simp only [if_pos h1]
    rw [if_neg (fun q => q.2 h1)]
  · simp only [if_neg h1]
    by_cases h2 : X = Y
    · subst h2
      simp only [Int.lt_irrefl, if_false, Int.sub_self, if_true]
      rw [if_pos ⟨trivial, h1⟩, nt_0]
    · rw [if_neg h2]
      by_cases h3 : X < Y
      · simp only [if_pos h3]
        rw [if_neg (fun q => by have := q.1; omega), if_neg (show ¬ Y < X by omega)]
      · simp only [if_neg h3]
        rw [if_neg (fun q => by have := q.1; omega), if_pos (show Y < X by omega)]
theorem sumY_near (f mode : Int) (n1 : Bool) (e1 : Int) (d1 : List Int) (n2 : Bool) (e2 : Int) (d2 : List Int) (M : Int) (h : ¬ 180 < (d1.length : Int) + e1 - M) : sumY f mode n1 e1 d1 n2 e2 d2 M =
    (if n1 = n2 then (n1, finD f mode n1 (nt (vl d1 * 10 ^ (e1 - M).toNat + vl d2 * 10 ^ (e2 - M).toNat)) M false M) else if vl d1 * 10 ^ (e1 - M).toNat = vl d2 * 10 ^ (e2 - M).toNat then (decide (mode = 3), finD f mode (decide (mode = 3)) [0] M false M) else if vl d2 * 10 ^ (e2 - M).toNat < vl d1 * 10 ^ (e1 - M).toNat then (n1, finD f mode n1 (nt (vl d1 * 10 ^ (e1 - M).toNat - vl d2 * 10 ^ (e2 - M).toNat)) M false M) else (n2, finD f mode n2 (nt (vl d2 * 10 ^ (e2 - M).toNat - vl d1 * 10 ^ (e1 - M).toNat)) M false M)) := by
  unfold sumY; rw [if_neg h]
/-- Near sums go both ways. -/
theorem sumY_turn (f mode : Int) (n1 : Bool) (e1 : Int) (d1 : List Int) (n2 : Bool) (e2 : Int) (d2 : List Int) (M : Int) (h : ¬ 180 < (d1.length : Int) + e1 - M) (h' : ¬ 180 < (d2.length : Int) + e2 - M) : sumY f mode n1 e1 d1 n2 e2 d2 M = sumY f mode n2 e2 d2 n1 e1 d1 M := by
  rw [sumY_near f mode n1 e1 d1 n2 e2 d2 M h, sumY_near f mode n2 e2 d2 n1 e1 d1 M h']
  generalize vl d1 * 10 ^ (e1 - M).toNat = X
  generalize vl d2 * 10 ^ (e2 - M).toNat = Y
  by_cases c : n1 = n2
  · subst c; rw [if_pos rfl, if_pos rfl, Int.add_comm X Y]
  · rw [if_neg c, if_neg (show ¬ n2 = n1 from fun q => c q.symm)]
    by_cases c2 : X = Y
    · subst c2; rw [if_pos rfl, if_pos rfl]
    · rw [if_neg c2, if_neg (show ¬ Y = X from fun q => c2 q.symm)]
      by_cases c3 : Y < X
      · rw [if_pos c3, if_neg (show ¬ X < Y by omega)]
      · rw [if_neg c3, if_pos (show X < Y by omega)]
set_option maxHeartbeats 1000000 in
/-- Far sums: what stands below matters only by its sign. -/
theorem far_same (f mode : Int) (P : Nat) (hP : limP f = (P : Int)) (hP1 : 1 ≤ P) (hP2 : P ≤ 34) (nx : Bool) (ex : Int) (dx : List Int) (ny : Bool) (ey : Int) (dy : List Int) (cx : Canon dx) (zx : dx ≠ [0]) (cy : Canon dy) (zy : dy ≠ [0]) (hl : dx.length + dy.length ≤ 102)
    (hfar : ey + (dy.length : Int) ≤ ex - P - 1) :
    prR f mode nx ny (esN nx (vl dx * 10 ^ (P + 1)) ny 1, ex - P - 1, esV nx (vl dx * 10 ^ (P + 1)) ny 1) ey = sumY f mode nx ex dx ny ey dy ey := by
  have vx := vl_pos dx cx zx
  have vy := vl_pos dy cy zy
  have bx := (vl_bd dx cx.1).2
  have by' := (vl_bd dy cy.1).2
  have hyl := cy.2.1
  have pP := ten_pos (P + 1)
  have lx : vl dx < 10 ^ 102 := Int.lt_of_lt_of_le bx (pow_mono _ _ (by omega))
  obtain ⟨D, hD⟩ : ∃ D : Nat, (ex - ey).toNat = D := ⟨_, rfl⟩
  have hD2 : (D : Int) = ex - ey := by omega
  have hD3 : P + 1 + dy.length ≤ D := by omega
  have h0 : (ey - ey).toNat = 0 := by omega
  -- sizes
  have nokm : ∀ (k : Nat) (r : Int), k ≤ 90 → 0 ≤ r → r < 10 ^ k → Nok (vl dx * 10 ^ k + r) := fun k r hk h0 h1 => by
    have pk := ten_pos k
    refine ⟨by have := Int.mul_nonneg (show 0 ≤ vl dx by omega) (Int.le_of_lt pk); omega, ?_⟩
    have a : (vl dx + 1) * 10 ^ k ≤ 10 ^ 102 * 10 ^ k := Int.mul_le_mul_of_nonneg_right (by omega) (Int.le_of_lt pk)
    rw [← Int.pow_add, Int.add_mul] at a
    have := pow_mono (102 + k) 200 (by omega)
    omega
  have ten1 : (10 : Int) ≤ 10 ^ (P + 1) := by have := pow_mono 1 (P + 1) (by omega); omega
  have X10 : 10 ≤ vl dx * 10 ^ (P + 1) := by
    have := Int.mul_le_mul_of_nonneg_right vx (Int.le_of_lt pP)
    omega
  have hpn : (limP f).toNat = P := by omega
  by_cases hs : nx = ny
  · -- one sign
    have eN : esN nx (vl dx * 10 ^ (P + 1)) ny 1 = nx := if_pos hs
    have eV : esV nx (vl dx * 10 ^ (P + 1)) ny 1 = vl dx * 10 ^ (P + 1) + 1 := if_pos hs
    unfold prR
    simp only [eN, eV]
    rw [if_neg (fun q => q.2 hs)]
    -- the base
    have nB := nokm P 0 (by omega) (Int.le_refl _) (ten_pos P)
    rw [Int.add_zero] at nB
    obtain ⟨cB, vB⟩ := nok_spec nB
    have zB : nt (vl dx * 10 ^ P) ≠ [0] := nok_ne0 nB (by have := Int.mul_le_mul_of_nonneg_right vx (Int.le_of_lt (ten_pos P)); have := ten_pos P; omega)
    have lB : (nt (vl dx * 10 ^ P)).length = dx.length + P := len_more dx _ cx zx cB P 0 (by rw [vB]; omega) (Int.le_refl _) (ten_pos P)
    have hxl := cx.2.1
    have key : ∀ (ds' : List Int) (k : Nat) (r : Int) (rest' : Bool), Canon ds' → vl ds' = vl dx * 10 ^ P * 10 ^ k + r → 0 ≤ r → r < 10 ^ k → (r ≠ 0 ∨ rest' = true) → dx.length + P + k ≤ 198 → finN P (limL f) (limH f) mode nx (nt (vl dx * 10 ^ P)) (ex - P) true ey = finN P (limL f) (limH f) mode nx ds' (ex - P - k) rest' ey := fun ds' k r rest' c' hv r0 r1 hs' hk =>
      finN_more P hP1 (limL f) (limH f) mode nx _ ds' (ex - P) rest' ey k r cB zB c' (by rw [hv, vB]) r0 r1 hs' (by omega) (by omega)
    have n1 := nokm (P + 1) 1 (by omega) (by decide) (by omega)
    obtain ⟨c1, v1⟩ := nok_spec n1
    have k1 := key (nt (vl dx * 10 ^ (P + 1) + 1)) 1 1 false c1 (by rw [v1, Int.mul_assoc, ← Int.pow_add]) (by decide) (by decide) (.inl (by decide)) (by omega)
    rw [finD_ne f mode nx _ _ _ _ (nok_ne0 n1 (by omega)), hpn]
    have e1 : ex - (P : Int) - 1 = ex - (P : Int) - ((1 : Nat) : Int) := by omega
    rw [e1, ← k1]
    by_cases h180 : 180 < (dx.length : Int) + ex - ey
    · unfold sumY
      rw [if_pos h180, if_pos hs, Int.sub_zero]
      have n40 := nokm 40 0 (by omega) (Int.le_refl _) (ten_pos 40)
      rw [Int.add_zero] at n40
      obtain ⟨c40, v40⟩ := nok_spec n40
      have k40 := key (nt (vl dx * 10 ^ 40)) (40 - P) 0 true c40 (by rw [v40, Int.mul_assoc, ← Int.pow_add, show P + (40 - P) = 40 by omega]; omega) (Int.le_refl _) (ten_pos _) (.inr rfl) (by omega)
      rw [finD_ne f mode nx _ _ _ _ (nok_ne0 n40 (by have := Int.mul_le_mul_of_nonneg_right vx (Int.le_of_lt (ten_pos 40)); have := ten_pos 40; omega)), hpn, k40]
      rw [show ex - (P : Int) - ((40 - P : Nat) : Int) = ex - 40 by omega]
    · rw [sumY_near f mode nx ex dx ny ey dy ey h180, if_pos hs, hD, h0, Int.pow_zero, Int.mul_one]
      have hyD : vl dy < 10 ^ (D - P) := Int.lt_of_lt_of_le by' (pow_mono _ _ (by omega))
      have nE : Nok (vl dx * 10 ^ D + vl dy) := by
        have pk := ten_pos D
        refine ⟨by have := Int.mul_nonneg (show 0 ≤ vl dx by omega) (Int.le_of_lt pk); omega, ?_⟩
        have a : (vl dx + 1) * 10 ^ D ≤ 10 ^ dx.length * 10 ^ D := Int.mul_le_mul_of_nonneg_right (by omega) (Int.le_of_lt pk)
        rw [← Int.pow_add, Int.add_mul] at a
        have := pow_mono (dx.length + D) 200 (by omega)
        have := pow_mono (D - P) D (by omega)
        omega
      obtain ⟨cE, vE⟩ := nok_spec nE
      have kE := key (nt (vl dx * 10 ^ D + vl dy)) (D - P) (vl dy) false cE (by rw [vE, Int.mul_assoc, ← Int.pow_add, show P + (D - P) = D by omega]) (by omega) hyD (.inl (by omega)) (by omega)
      rw [finD_ne f mode nx _ _ _ _ (nok_ne0 nE (by have := Int.mul_nonneg (show 0 ≤ vl dx by omega) (Int.le_of_lt (ten_pos D)); omega)), hpn, kE]
      rw [show ex - (P : Int) - ((D - P : Nat) : Int) = ey by omega]
  · -- unlike signs
    have eN : esN nx (vl dx * 10 ^ (P + 1)) ny 1 = nx := (if_neg hs).trans (if_neg (by omega))
    have eV : esV nx (vl dx * 10 ^ (P + 1)) ny 1 = vl dx * 10 ^ (P + 1) - 1 := (if_neg hs).trans (if_neg (by omega))
    unfold prR
    simp only [eN, eV]
    rw [if_neg (fun q => by have := q.1; omega)]
    have nB : Nok (vl dx * 10 ^ (P + 1) - 1) := (nokm (P + 1) 0 (by omega) (Int.le_refl _) pP).le (by omega) (by omega)
    obtain ⟨cB, vB⟩ := nok_spec nB
    have zB : nt (vl dx * 10 ^ (P + 1) - 1) ≠ [0] := nok_ne0 nB (by omega)
    have hxl := cx.2.1
    -- at least P + 1 digits, at most as many as with the noughts
    have lB1 : P + 1 ≤ (nt (vl dx * 10 ^ (P + 1) - 1)).length := by
      rcases Nat.lt_or_ge (nt (vl dx * 10 ^ (P + 1) - 1)).length (P + 1) with c | c
      · exfalso
        have b := (vl_bd _ cB.1).2
        rw [vB] at b
        have q := pow_mono (nt (vl dx * 10 ^ (P + 1) - 1)).length P (by omega)
        have q2 : (10 : Int) ^ (P + 1) = 10 ^ P * 10 := Int.pow_succ 10 P
        have q3 := Int.mul_le_mul_of_nonneg_right vx (Int.le_of_lt pP)
        have q4 := ten_pos P
        omega
      · exact c
    have lB2 : (nt (vl dx * 10 ^ (P + 1) - 1)).length ≤ dx.length + (P + 1) := by
      refine canon_le _ cB _ (by omega) ?_
      rw [vB, show (10 : Int) ^ (dx.length + (P + 1)) = 10 ^ dx.length * 10 ^ (P + 1) from Int.pow_add _ _ _]
      have := Int.mul_lt_mul_of_pos_right bx pP
      omega
    have key : ∀ (ds' : List Int) (k : Nat) (r : Int) (rest' : Bool), Canon ds' → vl ds' = (vl dx * 10 ^ (P + 1) - 1) * 10 ^ k + r → 0 ≤ r → r < 10 ^ k → (r ≠ 0 ∨ rest' = true) → dx.length + (P + 1) + k ≤ 198 → finN P (limL f) (limH f) mode nx (nt (vl dx * 10 ^ (P + 1) - 1)) (ex - P - 1) true ey = finN P (limL f) (limH f) mode nx ds' (ex - P - 1 - k) rest' ey := fun ds' k r rest' c' hv r0 r1 hs' hk =>
      finN_more P hP1 (limL f) (limH f) mode nx _ ds' (ex - P - 1) rest' ey k r cB zB c' (by rw [hv, vB]) r0 r1 hs' lB1 (by omega)
    have h9 : vl (nt (vl dx * 10 ^ (P + 1) - 1)) % 10 = 9 := by
      rw [vB, Int.pow_succ, ← Int.mul_assoc]; omega
    rw [finD_ne f mode nx _ _ _ _ zB, hpn, ← finN_nine P hP1 (limL f) (limH f) mode nx _ _ _ cB h9 lB1]
    by_cases h180 : 180 < (dx.length : Int) + ex - ey
    · unfold sumY
      rw [if_pos h180, if_neg hs]
      have n40 : Nok (vl dx * 10 ^ 40 - 1) := by
        have q := nokm 40 0 (by omega) (Int.le_refl _) (ten_pos 40)
        have q3 := Int.mul_le_mul_of_nonneg_right vx (Int.le_of_lt (ten_pos 40))
        have := ten_pos 40
        exact q.le (by omega) (by omega)
      obtain ⟨c40, v40⟩ := nok_spec n40
      have pk := ten_pos (39 - P)
      have k40 := key (nt (vl dx * 10 ^ 40 - 1)) (39 - P) (10 ^ (39 - P) - 1) true c40 (by
        rw [v40, Int.sub_mul, Int.mul_assoc, ← Int.pow_add, show P + 1 + (39 - P) = 40 by omega]; omega) (by omega) (by omega) (.inr rfl) (by omega)
      have q3 := Int.mul_le_mul_of_nonneg_right vx (Int.le_of_lt (ten_pos 40))
      have q4 : (10 : Int) ^ 1 ≤ 10 ^ 40 := pow_mono 1 40 (by decide)
      rw [show (10 : Int) ^ 1 = 10 from rfl] at q4
      generalize (10 : Int) ^ 40 = t40 at *
      rw [finD_ne f mode nx _ _ _ _ (nok_ne0 n40 (by omega)), hpn, k40]
      rw [show ex - (P : Int) - 1 - ((39 - P : Nat) : Int) = ex - 40 by omega]
    · have hyD : vl dy < 10 ^ (D - (P + 1)) := Int.lt_of_lt_of_le by' (pow_mono _ _ (by omega))
      have pk := ten_pos (D - (P + 1))
      have hsp : (10 : Int) ^ D = 10 ^ (P + 1) * 10 ^ (D - (P + 1)) := by rw [← Int.pow_add, show P + 1 + (D - (P + 1)) = D by omega]
      have hgt : vl dy < vl dx * 10 ^ D := by
        rw [hsp, ← Int.mul_assoc]
        have : 1 * 10 ^ (D - (P + 1)) ≤ vl dx * 10 ^ (P + 1) * 10 ^ (D - (P + 1)) := Int.mul_le_mul_of_nonneg_right (by omega) (Int.le_of_lt pk)
        omega
      rw [sumY_near f mode nx ex dx ny ey dy ey h180, if_neg hs, hD, h0, Int.pow_zero, Int.mul_one, if_neg (by omega), if_pos hgt]
      have nE : Nok (vl dx * 10 ^ D - vl dy) := by
        refine ⟨by omega, ?_⟩
        have a : vl dx * 10 ^ D < 10 ^ dx.length * 10 ^ D := Int.mul_lt_mul_of_pos_right bx (ten_pos D)
        rw [← Int.pow_add] at a
        have := pow_mono (dx.length + D) 200 (by omega)
        omega
      obtain ⟨cE, vE⟩ := nok_spec nE
      have kE := key (nt (vl dx * 10 ^ D - vl dy)) (D - (P + 1)) (10 ^ (D - (P + 1)) - vl dy) false cE (by
        rw [vE, Int.sub_mul, Int.mul_assoc, ← hsp]; omega) (by omega) (by omega) (.inl (by omega)) (by omega)
      rw [finD_ne f mode nx _ _ _ _ (nok_ne0 nE (by omega)), hpn, kE]
      rw [show ex - (P : Int) - 1 - ((D - (P + 1) : Nat) : Int) = ey by omega]
end Go.Proofs.YteofommckgeemaaGreatDoor
