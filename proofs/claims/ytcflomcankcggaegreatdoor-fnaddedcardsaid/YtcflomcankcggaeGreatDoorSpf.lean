/-
  Sums of the program: two numbers that are no NaNs, finished or thrown, walked.
-/
import Derived.Test.YtcflomcankcggaeGreatDoorSpd
import Derived.Test.YtcflomcankcggaeGreatDoorFnz
import Derived.Test.YtcflomcankcggaeGreatDoorSmL
namespace Go.Proofs.YtcflomcankcggaeGreatDoor
open Go.RowKit
set_option linter.unusedVariables false
set_option maxRecDepth 100000
theorem tn_tx (v : Int) : tn v = tx (nt v) := rfl
set_option maxRecDepth 100000 in
theorem finished_any (f mode : Int) (hf : f = 64 ∨ f = 128) (hm : 1 ≤ mode ∧ mode ≤ 5) (k : Int) (neg : Bool) (e v want : Int) (w : World) (hv : Nok v) (he : -200000 ≤ e ∧ e ≤ 200000) (hwt : -200000 ≤ want ∧ want ≤ 200000) :
    Calls Tryz.prog 45 #[.int .i64 f, .int .i64 mode, numV k neg e (tn v), .int .i64 want] w fun x w' => x = .returned (rsD neg (finD f mode neg (nt v) e false want)) ∧ Below w.heap.size w w' := by
  have HF : Hid (∀ X, Calls Tryz.prog 69 #[.int .i64 f, .int .i64 mode, .bool neg, .string (tn v), .int .i64 e, .bool false, .int .i64 want] X fun x w' => x = .returned (rsD neg (finD f mode neg (nt v) e false want)) ∧ Below X.heap.size X w') := fun X => iFinish_all f mode hf hm neg (nt v) e want X (nok_spec hv).1 (nok_len hv) he hwt
  generalize finD f mode neg (nt v) e false want = FD at *
  obtain ⟨F1, F2, F3, F4⟩ := FD
  generalize tn v = T at *
  have HZ : Hid (At5 ((w.alloc (.cells #[.int .i64 k, .bool neg, .int .i64 e, .string T] 25)).alloc (.cells #[.int .i64 0, .bool false, .int .i64 0, .string { data := #[] }, .int .i64 0] 29)) (w.heap.size + 1) (.int .i64 0) (.bool false) (.int .i64 0) (.string { data := #[] }) (.int .i64 0) ∧ Below w.heap.size w ((w.alloc (.cells #[.int .i64 k, .bool neg, .int .i64 e, .string T] 25)).alloc (.cells #[.int .i64 0, .bool false, .int .i64 0, .string { data := #[] }, .int .i64 0] 29))) := by
    have h2 := at5_new (w.alloc (.cells #[.int .i64 k, .bool neg, .int .i64 e, .string T] 25)) (.int .i64 0) (.bool false) (.int .i64 0) (.string { data := #[] }) (.int .i64 0)
    rw [show (w.alloc (.cells #[.int .i64 k, .bool neg, .int .i64 e, .string T] 25)).heap.size = w.heap.size + 1 from new_size _ _] at h2
    exact ⟨h2, two_below _ _ _⟩
  clear hv he hwt hm hf
  go_enter Tryz.func45, Tryz.ntmps45
  go_wp2_with fail
  refine (HF.out _).mono ?_
  rintro x w1 ⟨rfl, hb1⟩
  have HZ1 : Hid (At5 w1 (w.heap.size + 1) (.int .i64 0) (.bool false) (.int .i64 0) (.string { data := #[] }) (.int .i64 0) ∧ Below w.heap.size w w1) := ⟨HZ.out.1.below hb1 HZ.out.1.lt, HZ.out.2.trans (hb1.mono HZ.out.2.size)⟩
  clear hb1 HZ HF
  go_wp2_with (refine wpList_store_row rfl 29 (.tmp 8) (.tmp 18) rfl (w.heap.size + 1) #[.int .i64 F1, .bool neg, .int .i64 F2, .string F3, .int .i64 F4] rfl rfl _ _ HZ1.out.1 (by kernel_rfl) rfl (one5 _ _ _ _ _) ?_)
  have hP := (HZ1.out.1.row (.int .i64 F1) (.bool neg) (.int .i64 F2) (.string F3) (.int .i64 F4)).cells
  refine bodyPost_ret (results_res rfl _ _ rfl hP.1 hP.2.1 hP.2.2.1 hP.2.2.2.1 hP.2.2.2.2.1) rfl ?_
  exact ⟨rfl, bel_row HZ1.out.2 (by omega) _⟩
/-- The sum of two numbers, none of them nought, the first one's exponent not below the other's: sign, exponent, digits' number. -/
def sgT (p : Int) (nx : Bool) (ex x : Int) (ny : Bool) (ey y : Int) : Bool × Int × Int := (esN nx (sgX p ex x y ey) ny (sgY p ex y ey), sgE p ex y ey, esV nx (sgX p ex x y ey) ny (sgY p ex y ey))
/-- The sum of any two. -/
def sfT (p : Int) (na : Bool) (ea a : Int) (nb : Bool) (eb b : Int) : Bool × Int × Int :=
  if a = 0 then (nb, eb, b) else if b = 0 then (na, ea, a) else if ea < eb then sgT p nb eb b na ea a else sgT p na ea a nb eb b
theorem tn_digits {n : Int} {k : Nat} (h0 : 0 ≤ n) (h : n < 10 ^ k) (hk : 1 ≤ k) (hk2 : k ≤ 200) : Nok n ∧ (tn n).size ≤ k ∧ 1 ≤ (tn n).size := by
  have hn : Nok n := ⟨h0, Int.lt_of_lt_of_le h (pow_mono _ _ hk2)⟩
  obtain ⟨hc, hv⟩ := nok_spec hn
  rw [tn_tx, tx_size]
  exact ⟨hn, canon_le (nt n) hc k hk (by rw [hv]; exact h), hc.2.1⟩
/-- What such a sum stays within. -/
theorem sg_bd (p ex x : Int) (ey y : Int) (m n : Nat) (hp : 0 ≤ p ∧ p ≤ 34) (hx : 0 ≤ x) (hxm : x < 10 ^ m) (hy : 0 ≤ y) (hyn : y < 10 ^ n) (hm : 1 ≤ m) (hn : 1 ≤ n) (hmn : m + n ≤ 120) (hge : ¬ ex < ey) :
    (0 ≤ ex - sgE p ex y ey ∧ ex - sgE p ex y ey ≤ 155) ∧ Nok (sgX p ex x y ey) ∧ Nok (sgX p ex x y ey + sgY p ex y ey) ∧ 0 ≤ sgY p ex y ey := by
  obtain ⟨hyk, hys, -⟩ := tn_digits hy hyn hn (by omega)
  have hE : 0 ≤ ex - sgE p ex y ey ∧ ex - sgE p ex y ey ≤ n + 35 := by
    unfold sgE sgF farB
    by_cases c : ey + ((tn y).size : Int) ≤ ex - p - 1
    · rw [decide_eq_true c, if_pos rfl]; omega
    · rw [decide_eq_false c, if_neg Bool.false_ne_true]; omega
  have hX : 0 ≤ sgX p ex x y ey ∧ sgX p ex x y ey < 10 ^ (m + n + 35) := by
    unfold sgX
    obtain ⟨d, hd⟩ : ∃ d, (ex - sgE p ex y ey).toNat = d := ⟨_, rfl⟩
    have hd2 : d ≤ n + 35 := by omega
    rw [hd]
    have pd := ten_pos d
    refine ⟨Int.mul_nonneg hx (Int.le_of_lt pd), ?_⟩
    have a := Int.mul_lt_mul_of_pos_right hxm pd
    rw [← Int.pow_add] at a
    exact Int.lt_of_lt_of_le a (pow_mono _ _ (by omega))
  have hY : 0 ≤ sgY p ex y ey ∧ sgY p ex y ey ≤ 10 ^ (m + n + 35) := by
    unfold sgY
    split
    · exact ⟨by decide, by have := ten_pos (m + n + 35); omega⟩
    · exact ⟨hy, Int.le_trans (Int.le_of_lt hyn) (pow_mono _ _ (by omega))⟩
  have h2 : (10 : Int) ^ (m + n + 36) = 10 ^ (m + n + 35) * 10 := Int.pow_succ 10 (m + n + 35)
  have h3 := pow_mono (m + n + 36) 200 (by omega)
  have h4 := ten_pos (m + n + 35)
  refine ⟨⟨hE.1, by omega⟩, ⟨hX.1, by omega⟩, ⟨by omega, by omega⟩, hY.1⟩
set_option maxRecDepth 100000 in
set_option maxHeartbeats 1000000 in
theorem sumFor_any (f : Int) (na : Bool) (ea a : Int) (nb : Bool) (eb b : Int) (m n : Nat) (w : World) (hp : 0 ≤ limP f ∧ limP f ≤ 34) (ha : 0 ≤ a) (ham : a < 10 ^ m) (hb : 0 ≤ b) (hbn : b < 10 ^ n) (hm : 1 ≤ m) (hn : 1 ≤ n) (hmn : m + n ≤ 120) (hea : -20000 ≤ ea ∧ ea ≤ 20000) (heb : -20000 ≤ eb ∧ eb ≤ 20000) :
    Calls Tryz.prog 43 #[.int .i64 f, numV 1 na ea (tn a), numV 1 nb eb (tn b)] w fun r w' => r = .returned (numV 1 (sfT (limP f) na ea a nb eb b).1 (sfT (limP f) na ea a nb eb b).2.1 (tn (sfT (limP f) na ea a nb eb b).2.2)) ∧ Below w.heap.size w w' := by
  obtain ⟨hka, -, -⟩ := tn_digits ha ham hm (by omega)
  obtain ⟨hkb, -, -⟩ := tn_digits hb hbn hn (by omega)
  have HN : Hid (N3 w 1 na ea (tn a) 1 nb eb (tn b) (n3W w 1 na ea (tn a) 1 nb eb (tn b))) := n3_new w 1 na ea (tn a) 1 nb eb (tn b)
  by_cases ha0 : a = 0
  · have E : Hid (sfT (limP f) na ea a nb eb b = (nb, eb, b)) := if_pos ha0
    rw [E.out]
    have HZ1 : Hid (∀ X, Calls Tryz.prog 44 #[numV 1 na ea (tn a)] X fun r w' => r = .returned (.bool true) ∧ Below X.heap.size X w') := fun X => by
      have := isNought_fin na ea a X hka
      rwa [decide_eq_true ha0] at this
    generalize tn a = S1 at *
    generalize tn b = S2 at *
    clear E ha ham hb hbn hka hkb hea heb hp ha0 hm hn hmn
    go_enter Tryz.func43, Tryz.ntmps43
    go_wp2_with fail
    refine (HZ1.out _).mono ?_
    rintro r w1 ⟨rfl, hb1⟩
    have HN1 : Hid (N3 w 1 na ea S1 1 nb eb S2 w1) := HN.out.next hb1
    obtain ⟨c0, c1, c2, c3, c4⟩ := HN1.out.2.1.cells
    clear hb1 HN HZ1
    go_wp2_with (refine wpList_store_row rfl 25 (.tmp 6) (.tmp 10) rfl (w.heap.size + 2) #[.int .i64 1, .bool nb, .int .i64 eb, .string S2] rfl rfl _ _ HN1.out.2.2.1 (by kernel_rfl) rfl (one4 _ _ _ _) ?_)
    have hP := (HN1.out.2.2.1.row (.int .i64 1) (.bool nb) (.int .i64 eb) (.string S2)).cells
    refine bodyPost_ret (results_num rfl _ _ rfl hP.1 hP.2.1 hP.2.2.1 hP.2.2.2.1) rfl ?_
    exact ⟨rfl, bel_row HN1.out.2.2.2 (by omega) _⟩
  · have HZ1 : Hid (∀ X, Calls Tryz.prog 44 #[numV 1 na ea (tn a)] X fun r w' => r = .returned (.bool false) ∧ Below X.heap.size X w') := fun X => by
      have := isNought_fin na ea a X hka
      rwa [decide_eq_false ha0] at this
    by_cases hb0 : b = 0
    · have E : Hid (sfT (limP f) na ea a nb eb b = (na, ea, a)) := (if_neg ha0).trans (if_pos hb0)
      rw [E.out]
      have HZ2 : Hid (∀ X, Calls Tryz.prog 44 #[numV 1 nb eb (tn b)] X fun r w' => r = .returned (.bool true) ∧ Below X.heap.size X w') := fun X => by
        have := isNought_fin nb eb b X hkb
        rwa [decide_eq_true hb0] at this
      generalize tn a = S1 at *
      generalize tn b = S2 at *
      clear E ha ham hb hbn hka hkb hea heb hp ha0 hb0 hm hn hmn
      go_enter Tryz.func43, Tryz.ntmps43
      go_wp2_with fail
      refine (HZ1.out _).mono ?_
      rintro r w1 ⟨rfl, hb1⟩
      have HN1 : Hid (N3 w 1 na ea S1 1 nb eb S2 w1) := HN.out.next hb1
      obtain ⟨c0, c1, c2, c3, c4⟩ := HN1.out.2.1.cells
      clear hb1 HN HZ1
      go_wp2_with fail
      refine (HZ2.out _).mono ?_
      rintro r w2 ⟨rfl, hb2⟩
      have HN2 : Hid (N3 w 1 na ea S1 1 nb eb S2 w2) := HN1.out.next hb2
      clear hb2 HN1 HZ2 c0 c1 c2 c3 c4
      obtain ⟨c0, c1, c2, c3, c4⟩ := HN2.out.1.cells
      go_wp2_with (refine wpList_store_row rfl 25 (.tmp 6) (.tmp 14) rfl (w.heap.size + 2) #[.int .i64 1, .bool na, .int .i64 ea, .string S1] rfl rfl _ _ HN2.out.2.2.1 (by kernel_rfl) rfl (one4 _ _ _ _) ?_)
      have hP := (HN2.out.2.2.1.row (.int .i64 1) (.bool na) (.int .i64 ea) (.string S1)).cells
      refine bodyPost_ret (results_num rfl _ _ rfl hP.1 hP.2.1 hP.2.2.1 hP.2.2.2.1) rfl ?_
      exact ⟨rfl, bel_row HN2.out.2.2.2 (by omega) _⟩
    · by_cases hlt : ea < eb
      · have E : Hid (sfT (limP f) na ea a nb eb b = sgT (limP f) nb eb b na ea a) := ((if_neg ha0).trans (if_neg hb0)).trans (if_pos hlt)
        rw [E.out]
        obtain ⟨g1, g2, g3, -⟩ := sg_bd (limP f) eb b ea a n m hp hb hbn ha ham hn hm (by omega) (by omega)
        have HSF : Hid (∀ X, Calls Tryz.prog 43 #[.int .i64 f, numV 1 nb eb (tn b), numV 1 na ea (tn a)] X fun r w' => r = .returned (numV 1 (sgT (limP f) nb eb b na ea a).1 (sgT (limP f) nb eb b na ea a).2.1 (tn (sgT (limP f) nb eb b na ea a).2.2)) ∧ Below X.heap.size X w') := fun X => sumFor_far f nb eb b na ea a X hp hkb hka hb0 ha0 heb hea (by omega) ⟨g1.1, by omega⟩ g2 g3
        have HZ2 : Hid (∀ X, Calls Tryz.prog 44 #[numV 1 nb eb (tn b)] X fun r w' => r = .returned (.bool false) ∧ Below X.heap.size X w') := fun X => by
          have := isNought_fin nb eb b X hkb
          rwa [decide_eq_false hb0] at this
        generalize sgT (limP f) nb eb b na ea a = ST at *
        obtain ⟨RN, RE, RV⟩ := ST
        simp only at HSF
        generalize tn RV = RT at *
        generalize tn a = S1 at *
        generalize tn b = S2 at *
        clear E ha ham hb hbn hka hkb hea heb hp ha0 hb0 g1 g2 g3 hm hn hmn
        go_enter Tryz.func43, Tryz.ntmps43
        go_wp2_with fail
        refine (HZ1.out _).mono ?_
        rintro r w1 ⟨rfl, hb1⟩
        have HN1 : Hid (N3 w 1 na ea S1 1 nb eb S2 w1) := HN.out.next hb1
        obtain ⟨c0, c1, c2, c3, c4⟩ := HN1.out.2.1.cells
        clear hb1 HN HZ1
        go_wp2_with fail
        refine (HZ2.out _).mono ?_
        rintro r w2 ⟨rfl, hb2⟩
        have HN2 : Hid (N3 w 1 na ea S1 1 nb eb S2 w2) := HN1.out.next hb2
        clear hb2 HN1 HZ2 c0 c1 c2 c3 c4
        obtain ⟨a0, a1, a2, a3, a4⟩ := HN2.out.1.cells
        obtain ⟨c0, c1, c2, c3, c4⟩ := HN2.out.2.1.cells
        go_wp2_with fail
        refine (HSF.out _).mono ?_
        rintro r w3 ⟨rfl, hb3⟩
        have HN3 : Hid (N3 w 1 na ea S1 1 nb eb S2 w3) := HN2.out.next hb3
        clear hb3 HN2 HSF a0 a1 a2 a3 a4 c0 c1 c2 c3 c4
        go_wp2_with (refine wpList_store_row rfl 25 (.tmp 6) (.tmp 24) rfl (w.heap.size + 2) #[.int .i64 1, .bool RN, .int .i64 RE, .string RT] rfl rfl _ _ HN3.out.2.2.1 (by kernel_rfl) rfl (one4 _ _ _ _) ?_)
        have hP := (HN3.out.2.2.1.row (.int .i64 1) (.bool RN) (.int .i64 RE) (.string RT)).cells
        refine bodyPost_ret (results_num rfl _ _ rfl hP.1 hP.2.1 hP.2.2.1 hP.2.2.2.1) rfl ?_
        exact ⟨rfl, bel_row HN3.out.2.2.2 (by omega) _⟩
      · have E : Hid (sfT (limP f) na ea a nb eb b = sgT (limP f) na ea a nb eb b) := ((if_neg ha0).trans (if_neg hb0)).trans (if_neg hlt)
        rw [E.out]
        obtain ⟨g1, g2, g3, -⟩ := sg_bd (limP f) ea a eb b m n hp ha ham hb hbn hm hn hmn hlt
        exact sumFor_far f na ea a nb eb b w hp hka hkb ha0 hb0 hea heb hlt ⟨g1.1, by omega⟩ g2 g3
end Go.Proofs.YtcflomcankcggaeGreatDoor
namespace Go.Proofs.YtcflomcankcggaeGreatDoor
open Go.RowKit
set_option linter.unusedVariables false
set_option maxRecDepth 100000
/-- The sum of two finite numbers, finished: the sign and the rest. -/
def fsN (f mode : Int) (na : Bool) (ea a : Int) (nb : Bool) (eb b : Int) : Bool := if (sfT (limP f) na ea a nb eb b).2.2 = 0 ∧ na ≠ nb then decide (mode = 3) else (sfT (limP f) na ea a nb eb b).1
def fsR (f mode : Int) (na : Bool) (ea a : Int) (nb : Bool) (eb b : Int) : Int × Int × ByteArray × Int := finD f mode (fsN f mode na ea a nb eb b) (nt (sfT (limP f) na ea a nb eb b).2.2) (sfT (limP f) na ea a nb eb b).2.1 false (min ea eb)
theorem es_bd (nx : Bool) (x : Int) (ny : Bool) (y : Int) (hx : Nok x) (hy : 0 ≤ y) (hs : Nok (x + y)) : Nok (esV nx x ny y) := by
  unfold esV
  split
  · exact hs
  · split
    · exact hs.le (by omega) (by have := hx.1; omega)
    · exact hs.le (by omega) (by omega)
theorem sf_bd (p : Int) (na : Bool) (ea a : Int) (nb : Bool) (eb b : Int) (m n : Nat) (hp : 0 ≤ p ∧ p ≤ 34) (ha : 0 ≤ a) (ham : a < 10 ^ m) (hb : 0 ≤ b) (hbn : b < 10 ^ n) (hm : 1 ≤ m) (hn : 1 ≤ n) (hmn : m + n ≤ 120) (hea : -20000 ≤ ea ∧ ea ≤ 20000) (heb : -20000 ≤ eb ∧ eb ≤ 20000) :
    Nok (sfT p na ea a nb eb b).2.2 ∧ -20200 ≤ (sfT p na ea a nb eb b).2.1 ∧ (sfT p na ea a nb eb b).2.1 ≤ 20000 := by
  obtain ⟨hka, -, -⟩ := tn_digits ha ham hm (by omega)
  obtain ⟨hkb, -, -⟩ := tn_digits hb hbn hn (by omega)
  unfold sfT
  split
  · exact ⟨hkb, by show -20200 ≤ eb; omega, heb.2⟩
  · split
    · exact ⟨hka, by show -20200 ≤ ea; omega, hea.2⟩
    · split
      · obtain ⟨g1, g2, g3, g4⟩ := sg_bd p eb b ea a n m hp hb hbn ha ham hn hm (by omega) (by omega)
        exact ⟨es_bd nb _ na _ g2 g4 g3, by show -20200 ≤ sgE p eb a ea; omega, by show sgE p eb a ea ≤ 20000; omega⟩
      · obtain ⟨g1, g2, g3, g4⟩ := sg_bd p ea a eb b m n hp ha ham hb hbn hm hn hmn (by omega)
        exact ⟨es_bd na _ nb _ g2 g4 g3, by show -20200 ≤ sgE p ea b eb; omega, by show sgE p ea b eb ≤ 20000; omega⟩
theorem min_i (x y : Int) : (if y < x then y else x) = min x y := by omega
theorem SU.at1 {w W : World} {ka : Int} {na : Bool} {ea : Int} {sa : ByteArray} {kb : Int} {nb : Bool} {eb : Int} {sb : ByteArray} (h : SU w W ka na ea sa kb nb eb sb) : At4r W w.heap.size (.int .i64 ka) (.bool na) (.int .i64 ea) (.string sa) := h.1
theorem SU.at2 {w W : World} {ka : Int} {na : Bool} {ea : Int} {sa : ByteArray} {kb : Int} {nb : Bool} {eb : Int} {sb : ByteArray} (h : SU w W ka na ea sa kb nb eb sb) : At4r W (w.heap.size + 1) (.int .i64 kb) (.bool nb) (.int .i64 eb) (.string sb) := h.2.1
theorem SU.set1 {w W : World} {ka : Int} {na : Bool} {ea : Int} {sa : ByteArray} {kb : Int} {nb : Bool} {eb : Int} {sb : ByteArray} (h : SU w W ka na ea sa kb nb eb sb) {b : Nat} (hb : w.heap.size + 2 < b) (i : Nat) (v : Value) : SU w (W.setCell ⟨b, i, none⟩ v) ka na ea sa kb nb eb sb := by
  refine ⟨h.at1.far (by omega) i v, h.at2.far (by omega) i v, ?_, h.2.2.2.1.setCell (show w.heap.size ≤ b by omega) v, ?_⟩
  · have := h.2.2.1
    unfold At5 at this ⊢
    simp [World.setCell, Array.getElem?_modify, this]
    intro c; omega
  · have := h.2.2.2.2
    simp [World.setCell]
    exact this
/-- The row of two numbers that is handed on. -/
abbrev rowW (W : World) (ka : Int) (na : Bool) (ea : Int) (sa : ByteArray) (kb : Int) (nb : Bool) (eb : Int) (sb : ByteArray) : World := W.alloc (.cells #[.int .i64 ka, .bool na, .int .i64 ea, .string sa, .int .i64 kb, .bool nb, .int .i64 eb, .string sb] 25)
theorem row_new (W : World) (ka : Int) (na : Bool) (ea : Int) (sa : ByteArray) (kb : Int) (nb : Bool) (eb : Int) (sb : ByteArray) : NRw (rowW W ka na ea sa kb nb eb sb) W.heap.size 2 (tw2 ka kb) (tw2 na nb) (tw2 ea eb) (tw2 sa sb) ∧ W.heap.size < (rowW W ka na ea sa kb nb eb sb).heap.size :=
  ⟨nrw2 (heap_at W _), by rw [show (rowW W ka na ea sa kb nb eb sb).heap.size = W.heap.size + 1 from new_size _ _]; omega⟩
set_option maxRecDepth 100000 in
set_option maxHeartbeats 1000000 in
theorem finishedSum_thrown (f mode : Int) (ka : Int) (na : Bool) (ea : Int) (sa : ByteArray) (kb : Int) (nb : Bool) (eb : Int) (sb : ByteArray) (w : World) (r : Value) (hr : tiE 2 (tw2 ka kb) (tw2 na nb) (tw2 ea eb) (tw2 sa sb) = thrown r) :
    Calls Tryz.prog 23 #[.int .i64 f, .int .i64 mode, numV ka na ea sa, numV kb nb eb sb] w fun x w' => x = thrown r ∧ Below w.heap.size w w' := by
  have HS : Hid (SU w (suW w ka na ea sa kb nb eb sb) ka na ea sa kb nb eb sb) := su_new w ka na ea sa kb nb eb sb
  obtain ⟨W, hW⟩ : ∃ W, suW w ka na ea sa kb nb eb sb = W := ⟨_, rfl⟩
  have HR : Hid (NRw (rowW (suW w ka na ea sa kb nb eb sb) ka na ea sa kb nb eb sb) (suW w ka na ea sa kb nb eb sb).heap.size 2 (tw2 ka kb) (tw2 na nb) (tw2 ea eb) (tw2 sa sb) ∧ (suW w ka na ea sa kb nb eb sb).heap.size < (rowW (suW w ka na ea sa kb nb eb sb) ka na ea sa kb nb eb sb).heap.size) := row_new _ ka na ea sa kb nb eb sb
  have hz : (suW w ka na ea sa kb nb eb sb).heap.size = w.heap.size + 1 + 1 + 1 := by simp
  have HB : Hid (Below w.heap.size w (rowW (suW w ka na ea sa kb nb eb sb) ka na ea sa kb nb eb sb)) := HS.out.2.2.2.1.alloc (by rw [hz]; omega) _
  rw [hz] at HR
  have HT : Hid (∀ X, NRw X (w.heap.size + 1 + 1 + 1) 2 (tw2 ka kb) (tw2 na nb) (tw2 ea eb) (tw2 sa sb) → w.heap.size + 1 + 1 + 1 < X.heap.size → Calls Tryz.prog 42 #[.slice (some ⟨w.heap.size + 1 + 1 + 1, 0, none⟩) 2 2] X fun x w' => x = thrown r ∧ Below X.heap.size X w') := fun X h1 h2 => by
    rw [← hr]; exact throwInfinity_any 2 (w.heap.size + 1 + 1 + 1) _ _ _ _ X (by decide) h2 h1
  clear hr hW W hz HS
  go_enter Tryz.func23, Tryz.ntmps23
  go_wp2_with fail
  refine (HT.out _ HR.out.1 HR.out.2).mono ?_
  rintro x w1 ⟨rfl, hb1⟩
  go_wp2
  exact ⟨rfl, rfl, HB.out.trans (hb1.mono HB.out.size)⟩
set_option maxRecDepth 100000 in
set_option maxHeartbeats 400000 in
theorem finishedSum_fin (f mode : Int) (hf : f = 64 ∨ f = 128) (hmo : 1 ≤ mode ∧ mode ≤ 5) (na : Bool) (ea a : Int) (nb : Bool) (eb b : Int) (m n : Nat) (w : World) (ha : 0 ≤ a) (ham : a < 10 ^ m) (hb : 0 ≤ b) (hbn : b < 10 ^ n) (hm : 1 ≤ m) (hn : 1 ≤ n) (hmn : m + n ≤ 120) (hea : -20000 ≤ ea ∧ ea ≤ 20000) (heb : -20000 ≤ eb ∧ eb ≤ 20000) :
    Calls Tryz.prog 23 #[.int .i64 f, .int .i64 mode, numV 1 na ea (tn a), numV 1 nb eb (tn b)] w fun x w' => x = .returned (rsD (fsN f mode na ea a nb eb b) (fsR f mode na ea a nb eb b)) ∧ Below w.heap.size w w' := by
  have hp : 0 ≤ limP f ∧ limP f ≤ 34 := by rcases hf with rfl | rfl <;> decide
  have HSf : Hid (∀ X, Calls Tryz.prog 43 #[.int .i64 f, numV 1 na ea (tn a), numV 1 nb eb (tn b)] X fun r w' => r = .returned (numV 1 (sfT (limP f) na ea a nb eb b).1 (sfT (limP f) na ea a nb eb b).2.1 (tn (sfT (limP f) na ea a nb eb b).2.2)) ∧ Below X.heap.size X w') := fun X => sumFor_any f na ea a nb eb b m n X hp ha ham hb hbn hm hn hmn hea heb
  obtain ⟨k1, k2, k3⟩ := sf_bd (limP f) na ea a nb eb b m n hp ha ham hb hbn hm hn hmn hea heb
  have HFn : Hid (∀ X, Calls Tryz.prog 45 #[.int .i64 f, .int .i64 mode, numV 1 (fsN f mode na ea a nb eb b) (sfT (limP f) na ea a nb eb b).2.1 (tn (sfT (limP f) na ea a nb eb b).2.2), .int .i64 (min ea eb)] X fun x w' => x = .returned (rsD (fsN f mode na ea a nb eb b) (fsR f mode na ea a nb eb b)) ∧ Below X.heap.size X w') := fun X => by
    unfold fsR
    exact finished_any f mode hf hmo 1 (fsN f mode na ea a nb eb b) (sfT (limP f) na ea a nb eb b).2.1 (sfT (limP f) na ea a nb eb b).2.2 (min ea eb) X k1 (by omega) (by omega)
  have HIs : Hid (∀ X, Calls Tryz.prog 44 #[numV 1 (sfT (limP f) na ea a nb eb b).1 (sfT (limP f) na ea a nb eb b).2.1 (tn (sfT (limP f) na ea a nb eb b).2.2)] X fun x w' => x = .returned (.bool (decide ((sfT (limP f) na ea a nb eb b).2.2 = 0))) ∧ Below X.heap.size X w') := fun X => isNought_fin _ _ _ X k1
  have HE : Hid (fsN f mode na ea a nb eb b = if decide ((sfT (limP f) na ea a nb eb b).2.2 = 0) = true ∧ na ≠ nb then decide (mode = 3) else (sfT (limP f) na ea a nb eb b).1) := by
    show _ = _
    unfold fsN
    simp only [decide_eq_true_eq]
  have HTi : Hid (tiE 2 (tw2 1 1) (tw2 na nb) (tw2 ea eb) (tw2 (tn a) (tn b)) = .returned (.tuple #[])) := by
    show _ = _
    simp [tiE, tiX, tiA, tw2]
  generalize fsR f mode na ea a nb eb b = FR at *
  generalize fsN f mode na ea a nb eb b = FN at *
  generalize sfT (limP f) na ea a nb eb b = ST at *
  obtain ⟨SN, SE, SV⟩ := ST
  obtain ⟨F1, F2, F3, F4⟩ := FR
  simp only at HSf HFn HIs HE
  generalize decide (SV = 0) = Z at *
  generalize tn SV = TS at *
  generalize tn a = S1 at *
  generalize tn b = S2 at *
  clear k1 k2 k3 hp ha ham hb hbn hm hn hmn hea heb hf hmo
  have HS : Hid (SU w (suW w 1 na ea S1 1 nb eb S2) 1 na ea S1 1 nb eb S2) := su_new w 1 na ea S1 1 nb eb S2
  have HR : Hid (NRw (rowW (suW w 1 na ea S1 1 nb eb S2) 1 na ea S1 1 nb eb S2) (suW w 1 na ea S1 1 nb eb S2).heap.size 2 (tw2 1 1) (tw2 na nb) (tw2 ea eb) (tw2 S1 S2) ∧ (suW w 1 na ea S1 1 nb eb S2).heap.size < (rowW (suW w 1 na ea S1 1 nb eb S2) 1 na ea S1 1 nb eb S2).heap.size) := row_new _ 1 na ea S1 1 nb eb S2
  have hz : (suW w 1 na ea S1 1 nb eb S2).heap.size = w.heap.size + 1 + 1 + 1 := by simp
  rw [hz] at HR
  have HSr : Hid (SU w (rowW (suW w 1 na ea S1 1 nb eb S2) 1 na ea S1 1 nb eb S2) 1 na ea S1 1 nb eb S2) := HS.out.alloc _
  have HT : Hid (∀ X, NRw X (w.heap.size + 1 + 1 + 1) 2 (tw2 1 1) (tw2 na nb) (tw2 ea eb) (tw2 S1 S2) → w.heap.size + 1 + 1 + 1 < X.heap.size → Calls Tryz.prog 42 #[.slice (some ⟨w.heap.size + 1 + 1 + 1, 0, none⟩) 2 2] X fun x w' => x = .returned (.tuple #[]) ∧ Below X.heap.size X w') := fun X h1 h2 => by
    rw [← HTi.out]; exact throwInfinity_any 2 (w.heap.size + 1 + 1 + 1) _ _ _ _ X (by decide) h2 h1
  clear hz HS HTi
  go_enter Tryz.func23, Tryz.ntmps23
  go_wp2_with fail
  refine (HT.out _ HR.out.1 HR.out.2).mono ?_
  rintro x w1 ⟨rfl, hb1⟩
  have HS1 : Hid (SU w w1 1 na ea S1 1 nb eb S2) := HSr.out.next hb1
  clear hb1 HSr HR HT
  obtain ⟨a0, a1, a2, a3, a4⟩ := HS1.out.at1.cells
  obtain ⟨c0, c1, c2, c3, c4⟩ := HS1.out.at2.cells
  go_wp2_with fail
  refine (HSf.out _).mono ?_
  rintro x w2 ⟨rfl, hb2⟩
  have HS2 : Hid (SU w w2 1 na ea S1 1 nb eb S2) := HS1.out.next hb2
  clear hb2 HS1 HSf a0 a1 a2 a3 a4 c0 c1 c2 c3 c4
  have HS3 : Hid (SU w (w2.alloc (.cells #[.int .i64 1, .bool SN, .int .i64 SE, .string TS] 25)) 1 na ea S1 1 nb eb S2 ∧ At4r (w2.alloc (.cells #[.int .i64 1, .bool SN, .int .i64 SE, .string TS] 25)) w2.heap.size (.int .i64 1) (.bool SN) (.int .i64 SE) (.string TS) ∧ w.heap.size + 2 < w2.heap.size) := ⟨HS2.out.alloc _, at4r_new w2 _ _ _ _, HS2.out.2.2.2.2⟩
  clear HS2
  go_wp2_with fail
  refine (HIs.out _).mono ?_
  rintro x w4 ⟨rfl, hb4⟩
  have HS4 : Hid (SU w w4 1 na ea S1 1 nb eb S2 ∧ At4r w4 w2.heap.size (.int .i64 1) (.bool SN) (.int .i64 SE) (.string TS) ∧ w.heap.size + 2 < w2.heap.size) := ⟨HS3.out.1.next hb4, HS3.out.2.1.next hb4, HS3.out.2.2⟩
  clear hb4 HS3 HIs
  generalize w2.heap.size = b9 at *
  obtain ⟨a0, a1, a2, a3, a4⟩ := HS4.out.1.at1.cells
  obtain ⟨c0, c1, c2, c3, c4⟩ := HS4.out.1.at2.cells
  obtain ⟨g0, g1, g2, g3, g4⟩ := HS4.out.2.1.cells
  by_cases hc : Z = true ∧ na ≠ nb
  · have E : Hid (FN = (mode == 3)) := by
      show _ = _
      rw [HE.out, if_pos hc]
      by_cases h3 : mode = 3
      · rw [decide_eq_true h3, h3]; rfl
      · rw [decide_eq_false h3]; exact (beq_eq_false_iff_ne.2 h3).symm
    obtain ⟨hz, hne⟩ := hc
    subst hz
    have hneb : (na == nb) = false := beq_eq_false_iff_ne.2 hne
    rw [E.out] at HFn
    clear HE hne
    have HS5 : Hid (SU w (w4.setCell ⟨b9, 1, none⟩ (.bool (mode == 3))) 1 na ea S1 1 nb eb S2 ∧ At4r (w4.setCell ⟨b9, 1, none⟩ (.bool (mode == 3))) b9 (.int .i64 1) (.bool (mode == 3)) (.int .i64 SE) (.string TS)) := ⟨HS4.out.1.set1 HS4.out.2.2 _ _, HS4.out.2.1.set1 _⟩
    obtain ⟨p0, p1, p2, p3, p4⟩ := HS5.out.1.at1.cells
    obtain ⟨r0, r1, r2, r3, r4⟩ := HS5.out.1.at2.cells
    obtain ⟨t0, t1, t2, t3, t4⟩ := HS5.out.2.cells
    go_wp2_with fail
    refine (HFn.out _).mono ?_
    rintro x w6 ⟨rfl, hb6⟩
    have HZ6 : Hid (At5 w6 (w.heap.size + 2) (.int .i64 0) (.bool false) (.int .i64 0) (.string { data := #[] }) (.int .i64 0) ∧ Below w.heap.size w w6) := sum_end HS5.out.1 hb6
    clear hb6 HS5 HFn p0 p1 p2 p3 p4 r0 r1 r2 r3 r4 t0 t1 t2 t3 t4
    go_wp2_with (refine wpList_store_row rfl 29 (.tmp 8) (.tmp 38) rfl (w.heap.size + 2) #[.int .i64 F1, .bool (mode == 3), .int .i64 F2, .string F3, .int .i64 F4] rfl rfl _ _ HZ6.out.1 (by kernel_rfl) rfl (one5 _ _ _ _ _) ?_)
    have hP := (HZ6.out.1.row (.int .i64 F1) (.bool (mode == 3)) (.int .i64 F2) (.string F3) (.int .i64 F4)).cells
    refine bodyPost_ret (results_res rfl _ _ rfl hP.1 hP.2.1 hP.2.2.1 hP.2.2.2.1 hP.2.2.2.2.1) rfl ?_
    exact ⟨by rw [E.out], bel_row HZ6.out.2 (by omega) _⟩
  · have E : Hid (FN = SN) := by show _ = _; rw [HE.out, if_neg hc]
    rw [E.out] at HFn
    clear HE
    cases Z with
    | false =>
      clear hc
      go_wp2_with fail
      refine (HFn.out _).mono ?_
      rintro x w6 ⟨rfl, hb6⟩
      have HZ6 : Hid (At5 w6 (w.heap.size + 2) (.int .i64 0) (.bool false) (.int .i64 0) (.string { data := #[] }) (.int .i64 0) ∧ Below w.heap.size w w6) := sum_end HS4.out.1 hb6
      clear hb6 HS4 HFn a0 a1 a2 a3 a4 c0 c1 c2 c3 c4 g0 g1 g2 g3 g4
      go_wp2_with (refine wpList_store_row rfl 29 (.tmp 8) (.tmp 38) rfl (w.heap.size + 2) #[.int .i64 F1, .bool SN, .int .i64 F2, .string F3, .int .i64 F4] rfl rfl _ _ HZ6.out.1 (by kernel_rfl) rfl (one5 _ _ _ _ _) ?_)
      have hP := (HZ6.out.1.row (.int .i64 F1) (.bool SN) (.int .i64 F2) (.string F3) (.int .i64 F4)).cells
      refine bodyPost_ret (results_res rfl _ _ rfl hP.1 hP.2.1 hP.2.2.1 hP.2.2.2.1 hP.2.2.2.2.1) rfl ?_
      exact ⟨by rw [E.out], bel_row HZ6.out.2 (by omega) _⟩
    | true =>
      have heq : na = nb := Classical.byContradiction fun h => hc ⟨rfl, h⟩
      have hneb : (na == nb) = true := by rw [heq]; exact beq_self_eq_true _
      clear hc heq
      go_wp2_with fail
      refine (HFn.out _).mono ?_
      rintro x w6 ⟨rfl, hb6⟩
      have HZ6 : Hid (At5 w6 (w.heap.size + 2) (.int .i64 0) (.bool false) (.int .i64 0) (.string { data := #[] }) (.int .i64 0) ∧ Below w.heap.size w w6) := sum_end HS4.out.1 hb6
      clear hb6 HS4 HFn a0 a1 a2 a3 a4 c0 c1 c2 c3 c4 g0 g1 g2 g3 g4
      go_wp2_with (refine wpList_store_row rfl 29 (.tmp 8) (.tmp 38) rfl (w.heap.size + 2) #[.int .i64 F1, .bool SN, .int .i64 F2, .string F3, .int .i64 F4] rfl rfl _ _ HZ6.out.1 (by kernel_rfl) rfl (one5 _ _ _ _ _) ?_)
      have hP := (HZ6.out.1.row (.int .i64 F1) (.bool SN) (.int .i64 F2) (.string F3) (.int .i64 F4)).cells
      refine bodyPost_ret (results_res rfl _ _ rfl hP.1 hP.2.1 hP.2.2.1 hP.2.2.2.1 hP.2.2.2.2.1) rfl ?_
      exact ⟨by rw [E.out], bel_row HZ6.out.2 (by omega) _⟩
end Go.Proofs.YtcflomcankcggaeGreatDoor
