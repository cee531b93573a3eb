/-
  Order of the model: Compare, Total; walked.
-/
import Derived.Test.YtnkoeidolmiheaaGreatDoorOrq
import Derived.Test.YtnkoeidolmiheaaGreatDoorNatS
namespace Go.Proofs.YtnkoeidolmiheaaGreatDoor
open Go.RowKit
set_option linter.unusedVariables false
set_option maxRecDepth 100000
theorem l15Sign_any (k : Int) (b : Bool) (e : Int) (s : ByteArray) (w : World) : Calls Tryz.prog 133 #[numV k b e s] w fun x w' => x = .returned (.int .i64 (mSg k b s)) ∧ Below w.heap.size w w' := by
  have E : Hid (mSg k b s = if nouB k s then 0 else if b then -1 else 1) := rfl
  rw [E.out]
  cases h1 : (k == 1) with
  | false =>
    have E1 : Hid (nouB k s = false) := by show _ = _; unfold nouB; rw [h1]; rfl
    rw [E1.out]
    cases b
    all_goals
      go_enter Tryz.func133, Tryz.ntmps133
      go_wp2
      go_ret
      exact ⟨rfl, (Below.refl _ _).alloc (Nat.le_refl _) _⟩
  | true =>
    cases h2 : (s.toList == [48]) with
    | false =>
      have E1 : Hid (nouB k s = false) := by show _ = _; unfold nouB; rw [h1, h2]; rfl
      rw [E1.out]
      cases b
      all_goals
        go_enter Tryz.func133, Tryz.ntmps133
        go_wp2
        go_ret
        exact ⟨rfl, (Below.refl _ _).alloc (Nat.le_refl _) _⟩
    | true =>
      have E1 : Hid (nouB k s = true) := by show _ = _; unfold nouB; rw [h1, h2]; rfl
      rw [E1.out]
      go_enter Tryz.func133, Tryz.ntmps133
      go_wp2
      go_ret
      exact ⟨rfl, (Below.refl _ _).alloc (Nat.le_refl _) _⟩
theorem oMin_is (x y : Int) (w : World) : Calls Tryz.prog 83 #[.int .i64 x, .int .i64 y] w fun e w' => e = .returned (.int .i64 (min x y)) ∧ w' = w := by
  by_cases h : x < y
  · have E : Hid (min x y = x) := by show _ = _; omega
    rw [E.out]
    go_enter Tryz.func83, Tryz.ntmps83
    go_wp2
    go_ret
    exact ⟨rfl, rfl⟩
  · have E : Hid (min x y = y) := by show _ = _; omega
    rw [E.out]
    go_enter Tryz.func83, Tryz.ntmps83
    go_wp2
    go_ret
    exact ⟨rfl, rfl⟩
theorem oShift_is (a : List Int) (n : Nat) (w : World) (ha : Canon a) (hz : a ≠ [0]) (la : a.length ≤ 200) (hn : n ≤ 200) : Calls Tryz.prog 64 #[.string (tx a), .int .i64 n] w fun e w' => e = .returned (.string (tx (a ++ List.replicate n 0))) ∧ Below w.heap.size w w' := by
  rcases Nat.eq_zero_or_pos n with h | h
  · subst h
    refine (l11Shift_none a w ha la).mono ?_
    rintro e w' ⟨rfl, hb⟩
    exact ⟨by simp, hb⟩
  · refine (l11Shift_any a n w ha la h hn).mono ?_
    rintro e w' ⟨R, rfl, hc, hv, hl, hb⟩
    exact ⟨by rw [canon_unique R (a ++ List.replicate n 0) hc (canon_noughts a n ha hz) (by rw [hv, vl_noughts])], hb⟩
theorem nou_no (d : List Int) (h : nouB 1 (tx d) = false) : d ≠ [0] := by
  rintro rfl
  have : nouB 1 (tx [0]) = true := by unfold nouB; rw [ByteArray.toList_eq, tx_data]; rfl
  rw [this] at h; cases h
set_option maxRecDepth 100000 in
set_option maxHeartbeats 1000000 in
theorem l15Cmp_any (f : Int) (ka : Int) (na : Bool) (ea : Int) (sa : ByteArray) (kb : Int) (nb : Bool) (eb : Int) (sb : ByteArray) (w : World) (hA : numB f ka na ea sa = true) (hB : numB f kb nb eb sb = true) (k1 : ka = 1 ∨ ka = 2) (k2 : kb = 1 ∨ kb = 2) :
    Calls Tryz.prog 66 #[numV ka na ea sa, numV kb nb eb sb] w fun r w' => r = .returned (.int .i64 (mcV ka na ea sa kb nb eb sb)) ∧ Below w.heap.size w w' := by
  have HX : Hid (∀ X, Calls Tryz.prog 133 #[numV ka na ea sa] X fun x w' => x = .returned (.int .i64 (mSg ka na sa)) ∧ Below X.heap.size X w') := fun X => l15Sign_any ka na ea sa X
  have HY : Hid (∀ X, Calls Tryz.prog 133 #[numV kb nb eb sb] X fun x w' => x = .returned (.int .i64 (mSg kb nb sb)) ∧ Below X.heap.size X w') := fun X => l15Sign_any kb nb eb sb X
  obtain ⟨hN0, hb0, -⟩ := n2o_new w ka na ea sa kb nb eb sb
  have HN : Hid (N2o w.heap.size ka na ea sa kb nb eb sb ((w.alloc (.cells #[.int .i64 ka, .bool na, .int .i64 ea, .string sa] 25)).alloc (.cells #[.int .i64 kb, .bool nb, .int .i64 eb, .string sb] 25)) ∧ Below w.heap.size w ((w.alloc (.cells #[.int .i64 ka, .bool na, .int .i64 ea, .string sa] 25)).alloc (.cells #[.int .i64 kb, .bool nb, .int .i64 eb, .string sb] 25))) := ⟨hN0, hb0⟩
  clear hN0 hb0
  by_cases hxy : mSg ka na sa = mSg kb nb sb
  case neg =>
    have hb : (mSg ka na sa == mSg kb nb sb) = false := beq_eq_false_iff_ne.2 hxy
    by_cases hlt : mSg ka na sa < mSg kb nb sb
    · have E : Hid (mcV ka na ea sa kb nb eb sb = -1) := mc_less f ka na ea sa kb nb eb sb hA hB k1 k2 hlt
      rw [E.out]
      clear hA hB k1 k2 E
      generalize mSg ka na sa = SX at *
      generalize mSg kb nb sb = SY at *
      go_enter Tryz.func66, Tryz.ntmps66
      go_wp2_with fail
      refine (HX.out _).mono ?_
      rintro x w1 ⟨rfl, hb1⟩
      have HN1 : Hid (N2o w.heap.size ka na ea sa kb nb eb sb w1 ∧ Below w.heap.size w w1) := ⟨HN.out.1.next hb1, HN.out.2.trans (hb1.mono HN.out.2.size)⟩
      clear hb1 HN
      try clear c0 c1 c2 c3 c4 d0 d1 d2 d3 d4
      obtain ⟨c0, c1, c2, c3, c4⟩ := HN1.out.1.1.cells
      obtain ⟨d0, d1, d2, d3, d4⟩ := HN1.out.1.2.cells
      go_wp2_with fail
      refine (HY.out _).mono ?_
      rintro x w2 ⟨rfl, hb2⟩
      have HN2 : Hid (N2o w.heap.size ka na ea sa kb nb eb sb w2 ∧ Below w.heap.size w w2) := ⟨HN1.out.1.next hb2, HN1.out.2.trans (hb2.mono HN1.out.2.size)⟩
      clear hb2 HN1
      try clear c0 c1 c2 c3 c4 d0 d1 d2 d3 d4
      obtain ⟨c0, c1, c2, c3, c4⟩ := HN2.out.1.1.cells
      obtain ⟨d0, d1, d2, d3, d4⟩ := HN2.out.1.2.cells
      go_wp2
      go_ret
      exact ⟨rfl, HN2.out.2⟩
    · have E : Hid (mcV ka na ea sa kb nb eb sb = 1) := mc_more f ka na ea sa kb nb eb sb hA hB k1 k2 (by omega)
      rw [E.out]
      clear hA hB k1 k2 E
      generalize mSg ka na sa = SX at *
      generalize mSg kb nb sb = SY at *
      go_enter Tryz.func66, Tryz.ntmps66
      go_wp2_with fail
      refine (HX.out _).mono ?_
      rintro x w1 ⟨rfl, hb1⟩
      have HN1 : Hid (N2o w.heap.size ka na ea sa kb nb eb sb w1 ∧ Below w.heap.size w w1) := ⟨HN.out.1.next hb1, HN.out.2.trans (hb1.mono HN.out.2.size)⟩
      clear hb1 HN
      try clear c0 c1 c2 c3 c4 d0 d1 d2 d3 d4
      obtain ⟨c0, c1, c2, c3, c4⟩ := HN1.out.1.1.cells
      obtain ⟨d0, d1, d2, d3, d4⟩ := HN1.out.1.2.cells
      go_wp2_with fail
      refine (HY.out _).mono ?_
      rintro x w2 ⟨rfl, hb2⟩
      have HN2 : Hid (N2o w.heap.size ka na ea sa kb nb eb sb w2 ∧ Below w.heap.size w w2) := ⟨HN1.out.1.next hb2, HN1.out.2.trans (hb2.mono HN1.out.2.size)⟩
      clear hb2 HN1
      try clear c0 c1 c2 c3 c4 d0 d1 d2 d3 d4
      obtain ⟨c0, c1, c2, c3, c4⟩ := HN2.out.1.1.cells
      obtain ⟨d0, d1, d2, d3, d4⟩ := HN2.out.1.2.cells
      go_wp2
      go_ret
      exact ⟨rfl, HN2.out.2⟩
  by_cases h0 : mSg ka na sa = 0
  · have E : Hid (mcV ka na ea sa kb nb eb sb = 0) := mc_none ka na ea sa kb nb eb sb hxy h0
    rw [E.out]
    rw [← hxy, h0] at HY
    rw [h0] at HX
    clear hA hB k1 k2 E hxy h0
    go_enter Tryz.func66, Tryz.ntmps66
    go_wp2_with fail
    refine (HX.out _).mono ?_
    rintro x w1 ⟨rfl, hb1⟩
    have HN1 : Hid (N2o w.heap.size ka na ea sa kb nb eb sb w1 ∧ Below w.heap.size w w1) := ⟨HN.out.1.next hb1, HN.out.2.trans (hb1.mono HN.out.2.size)⟩
    clear hb1 HN
    try clear c0 c1 c2 c3 c4 d0 d1 d2 d3 d4
    obtain ⟨c0, c1, c2, c3, c4⟩ := HN1.out.1.1.cells
    obtain ⟨d0, d1, d2, d3, d4⟩ := HN1.out.1.2.cells
    go_wp2_with fail
    refine (HY.out _).mono ?_
    rintro x w2 ⟨rfl, hb2⟩
    have HN2 : Hid (N2o w.heap.size ka na ea sa kb nb eb sb w2 ∧ Below w.heap.size w w2) := ⟨HN1.out.1.next hb2, HN1.out.2.trans (hb2.mono HN1.out.2.size)⟩
    clear hb2 HN1
    try clear c0 c1 c2 c3 c4 d0 d1 d2 d3 d4
    obtain ⟨c0, c1, c2, c3, c4⟩ := HN2.out.1.1.cells
    obtain ⟨d0, d1, d2, d3, d4⟩ := HN2.out.1.2.cells
    go_wp2
    go_ret
    exact ⟨rfl, HN2.out.2⟩
  obtain ⟨hE, za, zb, hs⟩ := mc_sign ka na ea sa kb nb eb sb hxy h0
  rw [hE]
  have hnz : (mSg ka na sa == 0) = false := beq_eq_false_iff_ne.2 h0
  rw [← hxy] at HY
  clear hxy hE h0
  generalize mSg ka na sa = SX at *
  have wp : IntKind.i64.wrap SX = SX ∧ IntKind.i64.wrap (-SX) = -SX := by
    rw [IntKind.wrap_i64, IntKind.wrap_i64]
    rcases hs with rfl | rfl <;> exact ⟨rfl, rfl⟩
  have wm : ∀ r : Int, (r = 0 ∨ r = 1 ∨ r = -1) → IntKind.i64.wrap (SX * r) = SX * r := fun r hr => by
    rw [IntKind.wrap_i64]
    rcases hs with rfl | rfl <;> rcases hr with rfl | rfl | rfl <;> rfl
  obtain ⟨RV, hRV⟩ : ∃ v, cmpU false ka ea sa kb eb sb = v := ⟨_, rfl⟩
  rw [hRV]
  by_cases k1b : ka = 2
  · have q1 : (ka == 2) = true := by rw [k1b]; rfl
    by_cases k2b : kb = 2
    · have q2 : (kb == 2) = true := by rw [k2b]; rfl
      have E : RV = 0 := by rw [← hRV]; subst k1b k2b; exact cu_inf2 f na ea sa nb eb sb hA hB
      clear wp
      subst E
      rw [Int.mul_zero]
      try clear wp
      clear hA hB wm hs hRV k1 k2 k1b k2b za zb
      go_enter Tryz.func66, Tryz.ntmps66
      go_wp2_with fail
      refine (HX.out _).mono ?_
      rintro x w1 ⟨rfl, hb1⟩
      have HN1 : Hid (N2o w.heap.size ka na ea sa kb nb eb sb w1 ∧ Below w.heap.size w w1) := ⟨HN.out.1.next hb1, HN.out.2.trans (hb1.mono HN.out.2.size)⟩
      clear hb1 HN
      try clear c0 c1 c2 c3 c4 d0 d1 d2 d3 d4
      obtain ⟨c0, c1, c2, c3, c4⟩ := HN1.out.1.1.cells
      obtain ⟨d0, d1, d2, d3, d4⟩ := HN1.out.1.2.cells
      go_wp2_with fail
      refine (HY.out _).mono ?_
      rintro x w2 ⟨rfl, hb2⟩
      have HN2 : Hid (N2o w.heap.size ka na ea sa kb nb eb sb w2 ∧ Below w.heap.size w w2) := ⟨HN1.out.1.next hb2, HN1.out.2.trans (hb2.mono HN1.out.2.size)⟩
      clear hb2 HN1
      try clear c0 c1 c2 c3 c4 d0 d1 d2 d3 d4
      obtain ⟨c0, c1, c2, c3, c4⟩ := HN2.out.1.1.cells
      obtain ⟨d0, d1, d2, d3, d4⟩ := HN2.out.1.2.cells
      go_wp2
      go_ret
      exact ⟨rfl, HN2.out.2⟩
    · have q2 : (kb == 2) = false := beq_eq_false_iff_ne.2 k2b
      have E : RV = 1 := by rw [← hRV]; obtain rfl := k2.resolve_right k2b; subst k1b; rfl
      have wr := wp.1
      subst E
      rw [Int.mul_one]
      try clear wp
      clear hA hB wm hs hRV k1 k2 k1b k2b za zb
      go_enter Tryz.func66, Tryz.ntmps66
      go_wp2_with fail
      refine (HX.out _).mono ?_
      rintro x w1 ⟨rfl, hb1⟩
      have HN1 : Hid (N2o w.heap.size ka na ea sa kb nb eb sb w1 ∧ Below w.heap.size w w1) := ⟨HN.out.1.next hb1, HN.out.2.trans (hb1.mono HN.out.2.size)⟩
      clear hb1 HN
      try clear c0 c1 c2 c3 c4 d0 d1 d2 d3 d4
      obtain ⟨c0, c1, c2, c3, c4⟩ := HN1.out.1.1.cells
      obtain ⟨d0, d1, d2, d3, d4⟩ := HN1.out.1.2.cells
      go_wp2_with fail
      refine (HY.out _).mono ?_
      rintro x w2 ⟨rfl, hb2⟩
      have HN2 : Hid (N2o w.heap.size ka na ea sa kb nb eb sb w2 ∧ Below w.heap.size w w2) := ⟨HN1.out.1.next hb2, HN1.out.2.trans (hb2.mono HN1.out.2.size)⟩
      clear hb2 HN1
      try clear c0 c1 c2 c3 c4 d0 d1 d2 d3 d4
      obtain ⟨c0, c1, c2, c3, c4⟩ := HN2.out.1.1.cells
      obtain ⟨d0, d1, d2, d3, d4⟩ := HN2.out.1.2.cells
      go_wp2
      go_ret
      exact ⟨rfl, HN2.out.2⟩
  · have q1 : (ka == 2) = false := beq_eq_false_iff_ne.2 k1b
    by_cases k2b : kb = 2
    · have q2 : (kb == 2) = true := by rw [k2b]; rfl
      have E : RV = -1 := by rw [← hRV]; obtain rfl := k1.resolve_right k1b; subst k2b; rfl
      have wr := wp.2
      subst E
      rw [Int.mul_neg_one]
      try clear wp
      clear hA hB wm hs hRV k1 k2 k1b k2b za zb
      go_enter Tryz.func66, Tryz.ntmps66
      go_wp2_with fail
      refine (HX.out _).mono ?_
      rintro x w1 ⟨rfl, hb1⟩
      have HN1 : Hid (N2o w.heap.size ka na ea sa kb nb eb sb w1 ∧ Below w.heap.size w w1) := ⟨HN.out.1.next hb1, HN.out.2.trans (hb1.mono HN.out.2.size)⟩
      clear hb1 HN
      try clear c0 c1 c2 c3 c4 d0 d1 d2 d3 d4
      obtain ⟨c0, c1, c2, c3, c4⟩ := HN1.out.1.1.cells
      obtain ⟨d0, d1, d2, d3, d4⟩ := HN1.out.1.2.cells
      go_wp2_with fail
      refine (HY.out _).mono ?_
      rintro x w2 ⟨rfl, hb2⟩
      have HN2 : Hid (N2o w.heap.size ka na ea sa kb nb eb sb w2 ∧ Below w.heap.size w w2) := ⟨HN1.out.1.next hb2, HN1.out.2.trans (hb2.mono HN1.out.2.size)⟩
      clear hb2 HN1
      try clear c0 c1 c2 c3 c4 d0 d1 d2 d3 d4
      obtain ⟨c0, c1, c2, c3, c4⟩ := HN2.out.1.1.cells
      obtain ⟨d0, d1, d2, d3, d4⟩ := HN2.out.1.2.cells
      go_wp2
      go_ret
      exact ⟨rfl, HN2.out.2⟩
    · have q2 : (kb == 2) = false := beq_eq_false_iff_ne.2 k2b
      have e1 := k1.resolve_right k1b
      have e2 := k2.resolve_right k2b
      have hRV2 : orI (cI (ea + sa.size) (eb + sb.size)) (Lib.compareBytes (trS sa).data.toList (trS sb).data.toList) = RV := by
        rw [← hRV]; subst e1 e2; exact (cu_fin ea sa eb sb za zb).symm
      have hA1 : numB f 1 na ea sa = true := e1 ▸ hA
      have hB1 : numB f 1 nb eb sb = true := e2 ▸ hB
      have za1 : nouB 1 sa = false := e1 ▸ za
      have zb1 : nouB 1 sb = false := e2 ▸ zb
      clear hA hB e1 e2 k1 k2 k1b k2b za zb hRV
      obtain ⟨-, -, lA, eA, -, -⟩ := numB_bd f 1 na ea sa hA1
      obtain ⟨-, -, lB, eB, -, -⟩ := numB_bd f 1 nb eb sb hB1
      have wa : IntKind.i64.wrap ((sa.size : Int) + ea) = (sa.size : Int) + ea := by rw [IntKind.wrap_i64]; omega
      have wb : IntKind.i64.wrap ((sb.size : Int) + eb) = (sb.size : Int) + eb := by rw [IntKind.wrap_i64]; omega
      by_cases hm : (sa.size : Int) + ea < (sb.size : Int) + eb
      · have E : RV = -1 := by rw [← hRV2, cI_lt _ _ (by omega)]; rfl
        subst E
        have wr := wp.2
        rw [Int.mul_neg_one]
        clear wp
        clear hA1 hB1 wm hs lA lB eA eB hRV2 za1 zb1
        go_enter Tryz.func66, Tryz.ntmps66
        go_wp2_with fail
        refine (HX.out _).mono ?_
        rintro x w1 ⟨rfl, hb1⟩
        have HN1 : Hid (N2o w.heap.size ka na ea sa kb nb eb sb w1 ∧ Below w.heap.size w w1) := ⟨HN.out.1.next hb1, HN.out.2.trans (hb1.mono HN.out.2.size)⟩
        clear hb1 HN
        try clear c0 c1 c2 c3 c4 d0 d1 d2 d3 d4
        obtain ⟨c0, c1, c2, c3, c4⟩ := HN1.out.1.1.cells
        obtain ⟨d0, d1, d2, d3, d4⟩ := HN1.out.1.2.cells
        go_wp2_with fail
        refine (HY.out _).mono ?_
        rintro x w2 ⟨rfl, hb2⟩
        have HN2 : Hid (N2o w.heap.size ka na ea sa kb nb eb sb w2 ∧ Below w.heap.size w w2) := ⟨HN1.out.1.next hb2, HN1.out.2.trans (hb2.mono HN1.out.2.size)⟩
        clear hb2 HN1
        try clear c0 c1 c2 c3 c4 d0 d1 d2 d3 d4
        obtain ⟨c0, c1, c2, c3, c4⟩ := HN2.out.1.1.cells
        obtain ⟨d0, d1, d2, d3, d4⟩ := HN2.out.1.2.cells
        go_wp2
        go_ret
        exact ⟨rfl, HN2.out.2⟩
      by_cases hm2 : (sb.size : Int) + eb < (sa.size : Int) + ea
      · have E : RV = 1 := by rw [← hRV2, cI_gt _ _ (by omega)]; rfl
        subst E
        have wr := wp.1
        rw [Int.mul_one]
        clear wp
        clear hA1 hB1 wm hs lA lB eA eB hRV2 za1 zb1
        go_enter Tryz.func66, Tryz.ntmps66
        go_wp2_with fail
        refine (HX.out _).mono ?_
        rintro x w1 ⟨rfl, hb1⟩
        have HN1 : Hid (N2o w.heap.size ka na ea sa kb nb eb sb w1 ∧ Below w.heap.size w w1) := ⟨HN.out.1.next hb1, HN.out.2.trans (hb1.mono HN.out.2.size)⟩
        clear hb1 HN
        try clear c0 c1 c2 c3 c4 d0 d1 d2 d3 d4
        obtain ⟨c0, c1, c2, c3, c4⟩ := HN1.out.1.1.cells
        obtain ⟨d0, d1, d2, d3, d4⟩ := HN1.out.1.2.cells
        go_wp2_with fail
        refine (HY.out _).mono ?_
        rintro x w2 ⟨rfl, hb2⟩
        have HN2 : Hid (N2o w.heap.size ka na ea sa kb nb eb sb w2 ∧ Below w.heap.size w w2) := ⟨HN1.out.1.next hb2, HN1.out.2.trans (hb2.mono HN1.out.2.size)⟩
        clear hb2 HN1
        try clear c0 c1 c2 c3 c4 d0 d1 d2 d3 d4
        obtain ⟨c0, c1, c2, c3, c4⟩ := HN2.out.1.1.cells
        obtain ⟨d0, d1, d2, d3, d4⟩ := HN2.out.1.2.cells
        go_wp2
        go_ret
        exact ⟨rfl, HN2.out.2⟩
      obtain ⟨da, ca, rfl⟩ := right_nat f na ea sa hA1
      obtain ⟨db, cb, rfl⟩ := right_nat f nb eb sb hB1
      have sA := tx_size da
      have sB := tx_size db
      rw [sA] at lA wa hm hm2
      rw [sB] at lB wb hm hm2
      have HE : Hid (cI (vl da * 10 ^ (ea - min ea eb).toNat) (vl db * 10 ^ (eb - min ea eb).toNat) = RV) := by
        show _ = _
        rw [← hRV2, show ea + ((tx da).size : Int) = eb + ((tx db).size : Int) by omega, cI_same]
        exact (cmp_trS da db ca.1 cb.1 _ _ (by omega)).symm
      have HM : Hid (∀ X, Calls Tryz.prog 83 #[.int .i64 ea, .int .i64 eb] X fun e w' => e = .returned (.int .i64 (min ea eb)) ∧ w' = X) := fun X => oMin_is ea eb X
      have x3 : (ea - min ea eb).toNat ≤ 100 := by omega
      have x4 : (eb - min ea eb).toNat ≤ 100 := by omega
      have v1 : IntKind.i64.wrap (ea - min ea eb) = ((ea - min ea eb).toNat : Int) := by rw [IntKind.wrap_i64]; omega
      have v2 : IntKind.i64.wrap (eb - min ea eb) = ((eb - min ea eb).toNat : Int) := by rw [IntKind.wrap_i64]; omega
      generalize (ea - min ea eb).toNat = i at *
      generalize (eb - min ea eb).toNat = j at *
      generalize min ea eb = M at *
      have HSa : Hid (∀ X, Calls Tryz.prog 64 #[.string (tx da), .int .i64 i] X fun e w' => e = .returned (.string (tx (da ++ List.replicate i 0))) ∧ Below X.heap.size X w') := fun X => oShift_is da i X ca (nou_no da za1) (by omega) (by omega)
      have HSb : Hid (∀ X, Calls Tryz.prog 64 #[.string (tx db), .int .i64 j] X fun e w' => e = .returned (.string (tx (db ++ List.replicate j 0))) ∧ Below X.heap.size X w') := fun X => oShift_is db j X cb (nou_no db zb1) (by omega) (by omega)
      have HSc : Hid (∀ X, Calls Tryz.prog 85 #[.string (tx (da ++ List.replicate i 0)), .string (tx (db ++ List.replicate j 0))] X fun e w' => e = .returned (.int .i64 RV) ∧ Below X.heap.size X w') := fun X => by
        have := l11Cmp_any _ _ X (canon_noughts da i ca (nou_no da za1)) (canon_noughts db j cb (nou_no db zb1)) (by simp; omega) (by simp; omega)
        rw [vl_noughts, vl_noughts] at this
        rw [← HE.out]
        exact this
      have wr := wm RV (by rw [← HE.out]; unfold cI; split <;> (try split) <;> omega)
      clear wp hA1 hB1 wm hs lA lB eA eB hRV2 ca cb x3 x4 HE za1 zb1
      generalize tx (da ++ List.replicate i 0) = UA at *
      generalize tx (db ++ List.replicate j 0) = UB at *
      generalize tx da = TA at *
      generalize tx db = TB at *
      go_enter Tryz.func66, Tryz.ntmps66
      go_wp2_with fail
      refine (HX.out _).mono ?_
      rintro x w1 ⟨rfl, hb1⟩
      have HN1 : Hid (N2o w.heap.size ka na ea TA kb nb eb TB w1 ∧ Below w.heap.size w w1) := ⟨HN.out.1.next hb1, HN.out.2.trans (hb1.mono HN.out.2.size)⟩
      clear hb1 HN
      try clear c0 c1 c2 c3 c4 d0 d1 d2 d3 d4
      obtain ⟨c0, c1, c2, c3, c4⟩ := HN1.out.1.1.cells
      obtain ⟨d0, d1, d2, d3, d4⟩ := HN1.out.1.2.cells
      go_wp2_with fail
      refine (HY.out _).mono ?_
      rintro x w2 ⟨rfl, hb2⟩
      have HN2 : Hid (N2o w.heap.size ka na ea TA kb nb eb TB w2 ∧ Below w.heap.size w w2) := ⟨HN1.out.1.next hb2, HN1.out.2.trans (hb2.mono HN1.out.2.size)⟩
      clear hb2 HN1
      try clear c0 c1 c2 c3 c4 d0 d1 d2 d3 d4
      obtain ⟨c0, c1, c2, c3, c4⟩ := HN2.out.1.1.cells
      obtain ⟨d0, d1, d2, d3, d4⟩ := HN2.out.1.2.cells
      go_wp2_with fail
      refine (HM.out _).mono ?_
      rintro x w3 ⟨rfl, rfl⟩
      go_upto_region 13 with fail
      have HX13 : Hid (Below w3.heap.size w3 w3.drew) := (Below.refl _ _).drew
      refine wp_region_class (C := fun W => Below w3.heap.size w3 W) (by kernel_rfl) (by kernel_rfl) HX13.out ?_
      repeat (refine wpQuiet_step (fun K hK => ?_); go_simp; first | (refine hK _ ?_; clear hK K) | (apply Exists.intro; refine ⟨fun wx hC => ?_, hK _ ?_⟩; (first | exact rfl | ((with_reducible refine Calls.class_of (HSa.out wx) ?_); exact (fun w' hb => bel1 hC hb)) | ((with_reducible refine Calls.class_of (HSb.out wx) ?_); exact (fun w' hb => bel1 hC hb)) | ((with_reducible refine Calls.class_of (HSc.out wx) ?_); exact (fun w' hb => bel1 hC hb)) | (obtain ⟨q0, q1, q2, q3, q4⟩ := (HN2.out.1.next hC).1.cells; go_simp; exact rfl) | (obtain ⟨q0, q1, q2, q3, q4⟩ := (HN2.out.1.next hC).2.cells; go_simp; exact rfl)); clear hK K))
      refine wpQuiet_nil ?_
      intro w4 hb4
      have HB4 := HN2.out.2.trans (hb4.mono HN2.out.2.size)
      clear hb4 HN2 HX13 HSa HSb HSc c0 c1 c2 c3 c4 d0 d1 d2 d3 d4
      go_wp2
      go_ret
      exact ⟨rfl, HB4⟩
end Go.Proofs.YtnkoeidolmiheaaGreatDoor
namespace Go.Proofs.YtnkoeidolmiheaaGreatDoor
open Go.RowKit
set_option linter.unusedVariables false
set_option maxRecDepth 100000
theorem l15IsNan_any (k : Int) (b : Bool) (e : Int) (s : ByteArray) (w : World) : Calls Tryz.prog 65 #[numV k b e s] w fun x w' => x = .returned (.bool ((k == 3) || (k == 4))) ∧ Below w.heap.size w w' := by
  cases h1 : (k == 3) with
  | true =>
    go_enter Tryz.func65, Tryz.ntmps65
    go_wp2
    go_ret
    exact ⟨rfl, (Below.refl _ _).alloc (Nat.le_refl _) _⟩
  | false =>
    go_enter Tryz.func65, Tryz.ntmps65
    go_wp2
    go_ret
    exact ⟨rfl, (Below.refl _ _).alloc (Nat.le_refl _) _⟩
end Go.Proofs.YtnkoeidolmiheaaGreatDoor
namespace Go.Proofs.YtnkoeidolmiheaaGreatDoor
open Go.RowKit
set_option linter.unusedVariables false
set_option maxRecDepth 100000
set_option maxHeartbeats 1000000 in
theorem sCompare_any (f : Int) (ka : Int) (na : Bool) (ea : Int) (sa : ByteArray) (kb : Int) (nb : Bool) (eb : Int) (sb : ByteArray) (w : World) (hsa : sa.size ≤ 4611686018427387904) (hsb : sb.size ≤ 4611686018427387904) :
    Calls Tryz.prog 13 #[.int .i64 f, numV ka na ea sa, numV kb nb eb sb] w fun x w' => x = .returned (.int .i64 (cpR f ka na ea sa kb nb eb sb)) ∧ Below w.heap.size w w' := by
  have HA : Hid (∀ X, Calls Tryz.prog 43 #[.int .i64 f, numV ka na ea sa] X fun x w' => x = .returned (.bool (numB f ka na ea sa)) ∧ Below X.heap.size X w') := fun X => sNumOk_any f ka na ea sa X hsa
  have HB : Hid (∀ X, Calls Tryz.prog 43 #[.int .i64 f, numV kb nb eb sb] X fun x w' => x = .returned (.bool (numB f kb nb eb sb)) ∧ Below X.heap.size X w') := fun X => sNumOk_any f kb nb eb sb X hsb
  have HNa : Hid (∀ X, Calls Tryz.prog 65 #[numV ka na ea sa] X fun x w' => x = .returned (.bool ((ka == 3) || (ka == 4))) ∧ Below X.heap.size X w') := fun X => l15IsNan_any ka na ea sa X
  have HNb : Hid (∀ X, Calls Tryz.prog 65 #[numV kb nb eb sb] X fun x w' => x = .returned (.bool ((kb == 3) || (kb == 4))) ∧ Below X.heap.size X w') := fun X => l15IsNan_any kb nb eb sb X
  obtain ⟨hN0, hb0, -⟩ := n2o_new w ka na ea sa kb nb eb sb
  have HN : Hid (N2o w.heap.size ka na ea sa kb nb eb sb ((w.alloc (.cells #[.int .i64 ka, .bool na, .int .i64 ea, .string sa] 25)).alloc (.cells #[.int .i64 kb, .bool nb, .int .i64 eb, .string sb] 25)) ∧ Below w.heap.size w ((w.alloc (.cells #[.int .i64 ka, .bool na, .int .i64 ea, .string sa] 25)).alloc (.cells #[.int .i64 kb, .bool nb, .int .i64 eb, .string sb] 25))) := ⟨hN0, hb0⟩
  clear hN0 hb0
  obtain ⟨RV, hRV⟩ : ∃ v, cpR f ka na ea sa kb nb eb sb = v := ⟨_, rfl⟩
  have HE : Hid ((if numB f ka na ea sa && numB f kb nb eb sb then (if ((ka == 3) || (ka == 4)) || ((kb == 3) || (kb == 4)) then 2 else mcV ka na ea sa kb nb eb sb) else 3) = RV) := hRV
  have HC : Hid (numB f ka na ea sa = true → numB f kb nb eb sb = true → ((ka == 3) || (ka == 4)) = false → ((kb == 3) || (kb == 4)) = false → ∀ X, Calls Tryz.prog 66 #[numV ka na ea sa, numV kb nb eb sb] X fun r w' => r = .returned (.int .i64 (mcV ka na ea sa kb nb eb sb)) ∧ Below X.heap.size X w') := fun a b h1 h2 X => by
    obtain ⟨-, k1, -⟩ := numB_bd f ka na ea sa a
    obtain ⟨-, k2, -⟩ := numB_bd f kb nb eb sb b
    simp only [Bool.or_eq_false_iff, beq_eq_false_iff_ne] at h1 h2
    exact l15Cmp_any f ka na ea sa kb nb eb sb X a b (by omega) (by omega)
  rw [hRV]
  clear hRV hsa hsb
  generalize mcV ka na ea sa kb nb eb sb = MC at *
  generalize numB f ka na ea sa = RA at *
  generalize numB f kb nb eb sb = RB at *
  generalize ((ka == 3) || (ka == 4)) = NA at *
  generalize ((kb == 3) || (kb == 4)) = NB at *
  cases RA with
  | false =>
    have E : 3 = RV := HE.out
    subst E
    clear HE HC
    go_enter Tryz.func13, Tryz.ntmps13
    go_wp2_with fail
    refine (HA.out _).mono ?_
    rintro x w1 ⟨rfl, hb1⟩
    have HN1 : Hid (N2o w.heap.size ka na ea sa kb nb eb sb w1 ∧ Below w.heap.size w w1) := ⟨HN.out.1.next hb1, HN.out.2.trans (hb1.mono HN.out.2.size)⟩
    clear hb1 HN
    try clear c0 c1 c2 c3 c4 d0 d1 d2 d3 d4
    obtain ⟨c0, c1, c2, c3, c4⟩ := HN1.out.1.1.cells
    obtain ⟨d0, d1, d2, d3, d4⟩ := HN1.out.1.2.cells
    go_wp2
    go_ret
    exact ⟨rfl, HN1.out.2⟩
  | true =>
    cases RB with
    | false =>
      have E : 3 = RV := HE.out
      subst E
      clear HE HC
      go_enter Tryz.func13, Tryz.ntmps13
      go_wp2_with fail
      refine (HA.out _).mono ?_
      rintro x w1 ⟨rfl, hb1⟩
      have HN1 : Hid (N2o w.heap.size ka na ea sa kb nb eb sb w1 ∧ Below w.heap.size w w1) := ⟨HN.out.1.next hb1, HN.out.2.trans (hb1.mono HN.out.2.size)⟩
      clear hb1 HN
      try clear c0 c1 c2 c3 c4 d0 d1 d2 d3 d4
      obtain ⟨c0, c1, c2, c3, c4⟩ := HN1.out.1.1.cells
      obtain ⟨d0, d1, d2, d3, d4⟩ := HN1.out.1.2.cells
      go_wp2_with fail
      refine (HB.out _).mono ?_
      rintro x w2 ⟨rfl, hb2⟩
      have HN2 : Hid (N2o w.heap.size ka na ea sa kb nb eb sb w2 ∧ Below w.heap.size w w2) := ⟨HN1.out.1.next hb2, HN1.out.2.trans (hb2.mono HN1.out.2.size)⟩
      clear hb2 HN1
      try clear c0 c1 c2 c3 c4 d0 d1 d2 d3 d4
      obtain ⟨c0, c1, c2, c3, c4⟩ := HN2.out.1.1.cells
      obtain ⟨d0, d1, d2, d3, d4⟩ := HN2.out.1.2.cells
      go_wp2
      go_ret
      exact ⟨rfl, HN2.out.2⟩
    | true =>
      cases NA with
      | true =>
        have E : 2 = RV := HE.out
        subst E
        clear HE HC
        go_enter Tryz.func13, Tryz.ntmps13
        go_wp2_with fail
        refine (HA.out _).mono ?_
        rintro x w1 ⟨rfl, hb1⟩
        have HN1 : Hid (N2o w.heap.size ka na ea sa kb nb eb sb w1 ∧ Below w.heap.size w w1) := ⟨HN.out.1.next hb1, HN.out.2.trans (hb1.mono HN.out.2.size)⟩
        clear hb1 HN
        try clear c0 c1 c2 c3 c4 d0 d1 d2 d3 d4
        obtain ⟨c0, c1, c2, c3, c4⟩ := HN1.out.1.1.cells
        obtain ⟨d0, d1, d2, d3, d4⟩ := HN1.out.1.2.cells
        go_wp2_with fail
        refine (HB.out _).mono ?_
        rintro x w2 ⟨rfl, hb2⟩
        have HN2 : Hid (N2o w.heap.size ka na ea sa kb nb eb sb w2 ∧ Below w.heap.size w w2) := ⟨HN1.out.1.next hb2, HN1.out.2.trans (hb2.mono HN1.out.2.size)⟩
        clear hb2 HN1
        try clear c0 c1 c2 c3 c4 d0 d1 d2 d3 d4
        obtain ⟨c0, c1, c2, c3, c4⟩ := HN2.out.1.1.cells
        obtain ⟨d0, d1, d2, d3, d4⟩ := HN2.out.1.2.cells
        go_wp2_with fail
        refine (HNa.out _).mono ?_
        rintro x w3 ⟨rfl, hb3⟩
        have HN3 : Hid (N2o w.heap.size ka na ea sa kb nb eb sb w3 ∧ Below w.heap.size w w3) := ⟨HN2.out.1.next hb3, HN2.out.2.trans (hb3.mono HN2.out.2.size)⟩
        clear hb3 HN2
        try clear c0 c1 c2 c3 c4 d0 d1 d2 d3 d4
        obtain ⟨c0, c1, c2, c3, c4⟩ := HN3.out.1.1.cells
        obtain ⟨d0, d1, d2, d3, d4⟩ := HN3.out.1.2.cells
        go_wp2
        go_ret
        exact ⟨rfl, HN3.out.2⟩
      | false =>
        cases NB with
        | true =>
          have E : 2 = RV := HE.out
          subst E
          clear HE HC
          go_enter Tryz.func13, Tryz.ntmps13
          go_wp2_with fail
          refine (HA.out _).mono ?_
          rintro x w1 ⟨rfl, hb1⟩
          have HN1 : Hid (N2o w.heap.size ka na ea sa kb nb eb sb w1 ∧ Below w.heap.size w w1) := ⟨HN.out.1.next hb1, HN.out.2.trans (hb1.mono HN.out.2.size)⟩
          clear hb1 HN
          try clear c0 c1 c2 c3 c4 d0 d1 d2 d3 d4
          obtain ⟨c0, c1, c2, c3, c4⟩ := HN1.out.1.1.cells
          obtain ⟨d0, d1, d2, d3, d4⟩ := HN1.out.1.2.cells
          go_wp2_with fail
          refine (HB.out _).mono ?_
          rintro x w2 ⟨rfl, hb2⟩
          have HN2 : Hid (N2o w.heap.size ka na ea sa kb nb eb sb w2 ∧ Below w.heap.size w w2) := ⟨HN1.out.1.next hb2, HN1.out.2.trans (hb2.mono HN1.out.2.size)⟩
          clear hb2 HN1
          try clear c0 c1 c2 c3 c4 d0 d1 d2 d3 d4
          obtain ⟨c0, c1, c2, c3, c4⟩ := HN2.out.1.1.cells
          obtain ⟨d0, d1, d2, d3, d4⟩ := HN2.out.1.2.cells
          go_wp2_with fail
          refine (HNa.out _).mono ?_
          rintro x w3 ⟨rfl, hb3⟩
          have HN3 : Hid (N2o w.heap.size ka na ea sa kb nb eb sb w3 ∧ Below w.heap.size w w3) := ⟨HN2.out.1.next hb3, HN2.out.2.trans (hb3.mono HN2.out.2.size)⟩
          clear hb3 HN2
          try clear c0 c1 c2 c3 c4 d0 d1 d2 d3 d4
          obtain ⟨c0, c1, c2, c3, c4⟩ := HN3.out.1.1.cells
          obtain ⟨d0, d1, d2, d3, d4⟩ := HN3.out.1.2.cells
          go_wp2_with fail
          refine (HNb.out _).mono ?_
          rintro x w4 ⟨rfl, hb4⟩
          have HN4 : Hid (N2o w.heap.size ka na ea sa kb nb eb sb w4 ∧ Below w.heap.size w w4) := ⟨HN3.out.1.next hb4, HN3.out.2.trans (hb4.mono HN3.out.2.size)⟩
          clear hb4 HN3
          try clear c0 c1 c2 c3 c4 d0 d1 d2 d3 d4
          obtain ⟨c0, c1, c2, c3, c4⟩ := HN4.out.1.1.cells
          obtain ⟨d0, d1, d2, d3, d4⟩ := HN4.out.1.2.cells
          go_wp2
          go_ret
          exact ⟨rfl, HN4.out.2⟩
        | false =>
          have E : MC = RV := HE.out
          subst E
          have HC1 : Hid (∀ X, Calls Tryz.prog 66 #[numV ka na ea sa, numV kb nb eb sb] X fun r w' => r = .returned (.int .i64 MC) ∧ Below X.heap.size X w') := HC.out rfl rfl rfl rfl
          clear HE HC
          go_enter Tryz.func13, Tryz.ntmps13
          go_wp2_with fail
          refine (HA.out _).mono ?_
          rintro x w1 ⟨rfl, hb1⟩
          have HN1 : Hid (N2o w.heap.size ka na ea sa kb nb eb sb w1 ∧ Below w.heap.size w w1) := ⟨HN.out.1.next hb1, HN.out.2.trans (hb1.mono HN.out.2.size)⟩
          clear hb1 HN
          try clear c0 c1 c2 c3 c4 d0 d1 d2 d3 d4
          obtain ⟨c0, c1, c2, c3, c4⟩ := HN1.out.1.1.cells
          obtain ⟨d0, d1, d2, d3, d4⟩ := HN1.out.1.2.cells
          go_wp2_with fail
          refine (HB.out _).mono ?_
          rintro x w2 ⟨rfl, hb2⟩
          have HN2 : Hid (N2o w.heap.size ka na ea sa kb nb eb sb w2 ∧ Below w.heap.size w w2) := ⟨HN1.out.1.next hb2, HN1.out.2.trans (hb2.mono HN1.out.2.size)⟩
          clear hb2 HN1
          try clear c0 c1 c2 c3 c4 d0 d1 d2 d3 d4
          obtain ⟨c0, c1, c2, c3, c4⟩ := HN2.out.1.1.cells
          obtain ⟨d0, d1, d2, d3, d4⟩ := HN2.out.1.2.cells
          go_wp2_with fail
          refine (HNa.out _).mono ?_
          rintro x w3 ⟨rfl, hb3⟩
          have HN3 : Hid (N2o w.heap.size ka na ea sa kb nb eb sb w3 ∧ Below w.heap.size w w3) := ⟨HN2.out.1.next hb3, HN2.out.2.trans (hb3.mono HN2.out.2.size)⟩
          clear hb3 HN2
          try clear c0 c1 c2 c3 c4 d0 d1 d2 d3 d4
          obtain ⟨c0, c1, c2, c3, c4⟩ := HN3.out.1.1.cells
          obtain ⟨d0, d1, d2, d3, d4⟩ := HN3.out.1.2.cells
          go_wp2_with fail
          refine (HNb.out _).mono ?_
          rintro x w4 ⟨rfl, hb4⟩
          have HN4 : Hid (N2o w.heap.size ka na ea sa kb nb eb sb w4 ∧ Below w.heap.size w w4) := ⟨HN3.out.1.next hb4, HN3.out.2.trans (hb4.mono HN3.out.2.size)⟩
          clear hb4 HN3
          try clear c0 c1 c2 c3 c4 d0 d1 d2 d3 d4
          obtain ⟨c0, c1, c2, c3, c4⟩ := HN4.out.1.1.cells
          obtain ⟨d0, d1, d2, d3, d4⟩ := HN4.out.1.2.cells
          go_wp2_with fail
          refine (HC1.out _).mono ?_
          rintro x w5 ⟨rfl, hb5⟩
          have HN5 : Hid (N2o w.heap.size ka na ea sa kb nb eb sb w5 ∧ Below w.heap.size w w5) := ⟨HN4.out.1.next hb5, HN4.out.2.trans (hb5.mono HN4.out.2.size)⟩
          clear hb5 HN4
          try clear c0 c1 c2 c3 c4 d0 d1 d2 d3 d4
          obtain ⟨c0, c1, c2, c3, c4⟩ := HN5.out.1.1.cells
          obtain ⟨d0, d1, d2, d3, d4⟩ := HN5.out.1.2.cells
          go_wp2
          go_ret
          exact ⟨rfl, HN5.out.2⟩
end Go.Proofs.YtnkoeidolmiheaaGreatDoor
