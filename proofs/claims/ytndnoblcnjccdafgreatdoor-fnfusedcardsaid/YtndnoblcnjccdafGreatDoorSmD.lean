/-
  The model's sum of two finite numbers, walked: none of them nought.
-/
import Derived.Test.YtndnoblcnjccdafGreatDoorSmC
import Derived.Deep.RegionWith
namespace Go.Proofs.YtndnoblcnjccdafGreatDoor
open Go.RowKit
set_option linter.unusedVariables false
set_option maxRecDepth 100000
/-- The exact sum of two numbers, the first one reaching higher, finished: the sign and the rest. -/
def sumY (f mode : Int) (n1 : Bool) (e1 : Int) (d1 : List Int) (n2 : Bool) (e2 : Int) (d2 : List Int) (M : Int) : Bool × (Int × Int × ByteArray × Int) :=
  if 180 < (d1.length : Int) + e1 - M then (n1, finD f mode n1 (nt (vl d1 * 10 ^ 40 - if n1 = n2 then 0 else 1)) (e1 - 40) true M)
  else if n1 = n2 then (n1, finD f mode n1 (nt (vl d1 * 10 ^ (e1 - M).toNat + vl d2 * 10 ^ (e2 - M).toNat)) M false M)
  else if vl d1 * 10 ^ (e1 - M).toNat = vl d2 * 10 ^ (e2 - M).toNat then (decide (mode = 3), finD f mode (decide (mode = 3)) [0] M false M)
  else if vl d2 * 10 ^ (e2 - M).toNat < vl d1 * 10 ^ (e1 - M).toNat then (n1, finD f mode n1 (nt (vl d1 * 10 ^ (e1 - M).toNat - vl d2 * 10 ^ (e2 - M).toNat)) M false M)
  else (n2, finD f mode n2 (nt (vl d2 * 10 ^ (e2 - M).toNat - vl d1 * 10 ^ (e1 - M).toNat)) M false M)
theorem noughts40 (d : List Int) (h : Canon d) (hz : d ≠ [0]) : tx d ++ tx (List.replicate 40 0) = tx (d ++ List.replicate 40 0) ∧ Canon (d ++ List.replicate 40 0) ∧ vl (d ++ List.replicate 40 0) = vl d * 10 ^ 40 ∧ (d ++ List.replicate 40 0).length = d.length + 40 :=
  ⟨tx_append _ _, canon_noughts d 40 h hz, vl_noughts d 40, by simp⟩
set_option maxRecDepth 100000 in
set_option maxHeartbeats 1000000 in
theorem l13Sum_far (f mode : Int) (HF : FinOK f mode) (ka : Int) (na : Bool) (ea : Int) (da : List Int) (kb : Int) (nb : Bool) (eb : Int) (db : List Int) (k1 : Int) (n1 : Bool) (e1 : Int) (d1 : List Int) (k2 : Int) (n2 : Bool) (e2 : Int) (d2 : List Int) (M : Int) (w : World)
    (hM : min ea eb = M) (ca : Canon da) (za : da ≠ [0]) (cb : Canon db) (zb : db ≠ [0]) (la : da.length ≤ 100) (lb : db.length ≤ 100) (ha : -13000 ≤ ea ∧ ea ≤ 13000) (hb : -13000 ≤ eb ∧ eb ≤ 13000)
    (hs : ((da.length : Int) + ea < (db.length : Int) + eb ∧ k1 = kb ∧ n1 = nb ∧ e1 = eb ∧ d1 = db ∧ k2 = ka ∧ n2 = na ∧ e2 = ea ∧ d2 = da) ∨ (¬ (da.length : Int) + ea < (db.length : Int) + eb ∧ k1 = ka ∧ n1 = na ∧ e1 = ea ∧ d1 = da ∧ k2 = kb ∧ n2 = nb ∧ e2 = eb ∧ d2 = db)) (hfar : 180 < (d1.length : Int) + e1 - M) :
    Calls Tryz.prog 106 #[.int .i64 f, .int .i64 mode, numV ka na ea (tx da), numV kb nb eb (tx db)] w fun x w' => x = .returned (rsD n1 (finD f mode n1 (nt (vl d1 * 10 ^ 40 - if n1 = n2 then 0 else 1)) (e1 - 40) true M)) ∧ Below w.heap.size w w' := by
  have HM : Hid (min ea eb = M) := hM
  have HS : Hid (SU w (suW w k1 n1 e1 (tx d1) k2 n2 e2 (tx d2)) k1 n1 e1 (tx d1) k2 n2 e2 (tx d2)) := su_new w k1 n1 e1 (tx d1) k2 n2 e2 (tx d2)
  have hz1 : ((tx da).toList == [48]) = false := tx_is0 da ca.1 za
  have hz2 : ((tx db).toList == [48]) = false := tx_is0 db cb.1 zb
  have sza := tx_size da
  have szb := tx_size db
  have wsa : IntKind.i64.wrap ((da.length : Int) + ea) = (da.length : Int) + ea := by rw [IntKind.wrap_i64]; omega
  have wsb : IntKind.i64.wrap ((db.length : Int) + eb) = (db.length : Int) + eb := by rw [IntKind.wrap_i64]; omega
  have HSW : Hid (((da.length : Int) + ea < (db.length : Int) + eb ∧ k1 = kb ∧ n1 = nb ∧ e1 = eb ∧ d1 = db ∧ k2 = ka ∧ n2 = na ∧ e2 = ea ∧ d2 = da) ∨ (¬ (da.length : Int) + ea < (db.length : Int) + eb ∧ k1 = ka ∧ n1 = na ∧ e1 = ea ∧ d1 = da ∧ k2 = kb ∧ n2 = nb ∧ e2 = eb ∧ d2 = db)) := hs
  have g1 : Canon d1 ∧ d1 ≠ [0] ∧ d1.length ≤ 100 ∧ (-13000 ≤ e1 ∧ e1 ≤ 13000) ∧ Canon d2 ∧ d2 ≠ [0] ∧ d2.length ≤ 100 ∧ (-13000 ≤ e2 ∧ e2 ≤ 13000) ∧ M = min e1 e2 := by
    rcases hs with ⟨-, -, -, rfl, rfl, -, -, rfl, rfl⟩ | ⟨-, -, -, rfl, rfl, -, -, rfl, rfl⟩
    · exact ⟨cb, zb, lb, hb, ca, za, la, ha, by omega⟩
    · exact ⟨ca, za, la, ha, cb, zb, lb, hb, by omega⟩
  have HC : Hid (Canon d1 ∧ d1 ≠ [0] ∧ d1.length ≤ 100 ∧ (-13000 ≤ e1 ∧ e1 ≤ 13000) ∧ Canon d2 ∧ d2 ≠ [0] ∧ d2.length ≤ 100 ∧ (-13000 ≤ e2 ∧ e2 ≤ 13000) ∧ M = min e1 e2) := g1
  obtain ⟨c1, z1, l1, x1, c2, z2, l2, x2, hm⟩ := g1
  obtain ⟨t40, c40, v40, l40⟩ := noughts40 d1 c1 z1
  have s40 : (tx (List.replicate 40 0)).size = 40 := by rw [tx_size, List.length_replicate]
  have sz1 := tx_size d1
  have w40 : IntKind.i64.wrap (e1 - 40) = e1 - 40 := by rw [IntKind.wrap_i64]; omega
  have wA : IntKind.i64.wrap ((d1.length : Int) + e1) = (d1.length : Int) + e1 := by rw [IntKind.wrap_i64]; omega
  have wB : IntKind.i64.wrap ((d1.length : Int) + e1 - M) = (d1.length : Int) + e1 - M := by rw [IntKind.wrap_i64]; omega
  clear hs ca za cb zb hm hM
  have HZ40 : Hid (∀ X, Calls Tryz.prog 126 #[.int .i64 40] X fun e w' => e = .returned (.string (tx (List.replicate 40 0))) ∧ Below X.heap.size X w') := fun X => l11Zeros_any 40 X (by decide) (by decide)
  have p40 : (0 : Int) < 10 ^ 40 := by decide
  have v1 : 1 ≤ vl d1 := by
    have := vl_bd d1 c1.1
    rcases Int.lt_or_eq_of_le this.1 with h | h
    · omega
    · exact absurd (canon_nought d1 c1 h.symm) z1
  have hge : (10 : Int) ^ 40 ≤ vl d1 * 10 ^ 40 := by
    have : 1 * (10 : Int) ^ 40 ≤ vl d1 * 10 ^ 40 := Int.mul_le_mul_of_nonneg_right v1 (Int.le_of_lt p40)
    omega
  have HEq : Hid (n1 = n2 → d1 ++ List.replicate 40 0 = nt (vl d1 * 10 ^ 40 - if n1 = n2 then 0 else 1)) := fun h => nt_of _ _ c40 (by rw [v40, if_pos h]; omega) (by omega)
  have HSub : Hid (n1 ≠ n2 → ∀ X, Calls Tryz.prog 90 #[.string (tx (d1 ++ List.replicate 40 0)), .string { data := #[49] }] X fun e w' => e = .returned (.string (tx (nt (vl d1 * 10 ^ 40 - if n1 = n2 then 0 else 1)))) ∧ Below X.heap.size X w') := fun h X => by
    rw [if_neg h, ← tx_1]
    have hv1 : vl [1] = 1 := by decide
    refine (l11Sub_any (d1 ++ List.replicate 40 0) [1] X c40 (canon_one 1 (by decide) (by decide)) (by omega) (by rw [hv1, v40]; omega)).mono ?_
    rintro e w' ⟨R, rfl, hR, vR, lR, hbR⟩
    rw [nt_of R _ hR (by rw [vR, v40, hv1]) (by omega)]
    exact ⟨rfl, hbR⟩
  have HNt : Hid (Canon (nt (vl d1 * 10 ^ 40 - if n1 = n2 then 0 else 1)) ∧ (nt (vl d1 * 10 ^ 40 - if n1 = n2 then 0 else 1)).length ≤ 200) := by
    have hbd := (vl_bd (d1 ++ List.replicate 40 0) c40.1)
    rw [v40, l40] at hbd
    have hpw : (10 : Int) ^ (d1.length + 40) ≤ 10 ^ 140 := pow_mono _ _ (by omega)
    have h5 : (10 : Int) ^ 140 < 10 ^ 500 := by decide +kernel
    have hlo : 0 ≤ vl d1 * 10 ^ 40 - (if n1 = n2 then 0 else 1) := by split <;> omega
    have hhi : vl d1 * 10 ^ 40 - (if n1 = n2 then 0 else 1) < 10 ^ 140 := by split <;> omega
    have sp := nt_spec _ hlo (Int.lt_trans hhi h5)
    exact ⟨sp.1, Nat.le_trans (canon_le _ sp.1 140 (by decide) (by rw [sp.2]; exact hhi)) (by decide)⟩
  have HX : Hid (∀ X, Calls Tryz.prog 47 #[.int .i64 f, .int .i64 mode, .bool n1, .string (tx (nt (vl d1 * 10 ^ 40 - if n1 = n2 then 0 else 1))), .int .i64 (e1 - 40), .bool true, .int .i64 M] X fun x w' => x = .returned (rsD n1 (finD f mode n1 (nt (vl d1 * 10 ^ 40 - if n1 = n2 then 0 else 1)) (e1 - 40) true M)) ∧ Below X.heap.size X w') := fun X => HF n1 _ (e1 - 40) true M X HNt.out.1 HNt.out.2 (by omega) (by have := HC.out; omega)
  clear HF HNt hge c40 v40 l40 c1 z1 c2 z2 v1 p40 la lb ha hb
  generalize nt (vl d1 * 10 ^ 40 - if n1 = n2 then 0 else 1) = NT at *
  generalize finD f mode n1 NT (e1 - 40) true M = F at *
  obtain ⟨F1, F2, F3, F4⟩ := F
  generalize d1 ++ List.replicate 40 0 = D40 at *
  generalize tx (List.replicate 40 0) = Z40 at *
  go_enter Tryz.func106, Tryz.ntmps106
  go_wp2_with fail
  refine (l1Min_is ea eb _).mono ?_
  rintro e w1 ⟨rfl, rfl⟩
  rw [HM.out]
  go_upto_if 80 with fail
  go_cut [81, 82] (fun x y wx => wx = suW w k1 n1 e1 (tx d1) k2 n2 e2 (tx d2))
  case first =>
    rcases HSW.out with ⟨hlt, rfl, rfl, rfl, rfl, rfl, rfl, rfl, rfl⟩ | ⟨hlt, rfl, rfl, rfl, rfl, rfl, rfl, rfl, rfl⟩
    · clear HSW
      go_wp2
      go_meet
      case rel => rfl
    · clear HSW
      go_wp2
      go_meet
      case rel => rfl
  case rest =>
    obtain rfl := hcut
    clear HSW hz1 hz2 sza szb wsa wsb
    generalize tx d1 = T1 at *
    generalize tx d2 = T2 at *
    go_wp2_with fail
    go_region_with (go_at_call 126; refine (HZ40.out _).mono ?_; rintro e w2 ⟨rfl, hb2⟩; have HS2 : Hid (SU w w2 k1 n1 e1 T1 k2 n2 e2 T2) := HS.out.drew.next hb2; clear hb2; obtain ⟨⟨q1, q2, q3⟩, r1, r2, r3⟩ := HS2.out.cells)
    all_goals
      clear HS
      have HS := HS2
      clear HS2
      cases n1 <;> cases n2
      · have ED : Hid (D40 = NT) := HEq.out rfl
        clear HEq HSub
        go_wp2_with fail
        rw [ED.out]
        refine (HX.out _).mono ?_
        rintro e wd ⟨rfl, hbd⟩
        have HZ3 : Hid (At5 wd (w.heap.size + 2) (.int .i64 0) (.bool false) (.int .i64 0) (.string { data := #[] }) (.int .i64 0) ∧ Below w.heap.size w wd) := sum_end HS.out hbd
        clear hbd HS HX
        go_wp2_with (refine wpList_store_row rfl _ _ _ rfl (w.heap.size + 2) #[.int .i64 F1, .bool _, .int .i64 F2, .string F3, .int .i64 F4] rfl rfl _ _ HZ3.out.1 (by kernel_rfl) rfl (one5 _ _ _ _ _) ?_)
        have hP := fun y => (HZ3.out.1.row (.int .i64 F1) (.bool y) (.int .i64 F2) (.string F3) (.int .i64 F4)).cells
        refine bodyPost_ret (results_res rfl _ _ rfl (hP _).1 (hP _).2.1 (hP _).2.2.1 (hP _).2.2.2.1 (hP _).2.2.2.2.1) rfl ?_
        exact ⟨rfl, bel_row HZ3.out.2 (by omega) _⟩
      · have HY := HSub.out (by decide)
        have HY2 : Hid (∀ X, Calls Tryz.prog 90 #[.string (tx D40), .string { data := #[49] }] X fun e w' => e = .returned (.string (tx NT)) ∧ Below X.heap.size X w') := HY
        clear HEq HSub HY
        go_wp2_with fail
        refine (HY2.out _).mono ?_
        rintro e w3 ⟨rfl, hb3⟩
        have HS3 := HS.out.next hb3
        obtain ⟨⟨q1, q2, q3⟩, r1, r2, r3⟩ := HS3.cells
        replace HS : Hid (SU w w3 k1 false e1 T1 k2 true e2 T2) := HS3
        clear HS3 hb3 HY2
        go_wp2_with fail
        refine (HX.out _).mono ?_
        rintro e wd ⟨rfl, hbd⟩
        have HZ3 : Hid (At5 wd (w.heap.size + 2) (.int .i64 0) (.bool false) (.int .i64 0) (.string { data := #[] }) (.int .i64 0) ∧ Below w.heap.size w wd) := sum_end HS.out hbd
        clear hbd HS HX
        go_wp2_with (refine wpList_store_row rfl _ _ _ rfl (w.heap.size + 2) #[.int .i64 F1, .bool _, .int .i64 F2, .string F3, .int .i64 F4] rfl rfl _ _ HZ3.out.1 (by kernel_rfl) rfl (one5 _ _ _ _ _) ?_)
        have hP := fun y => (HZ3.out.1.row (.int .i64 F1) (.bool y) (.int .i64 F2) (.string F3) (.int .i64 F4)).cells
        refine bodyPost_ret (results_res rfl _ _ rfl (hP _).1 (hP _).2.1 (hP _).2.2.1 (hP _).2.2.2.1 (hP _).2.2.2.2.1) rfl ?_
        exact ⟨rfl, bel_row HZ3.out.2 (by omega) _⟩
      · have HY := HSub.out (by decide)
        have HY2 : Hid (∀ X, Calls Tryz.prog 90 #[.string (tx D40), .string { data := #[49] }] X fun e w' => e = .returned (.string (tx NT)) ∧ Below X.heap.size X w') := HY
        clear HEq HSub HY
        go_wp2_with fail
        refine (HY2.out _).mono ?_
        rintro e w3 ⟨rfl, hb3⟩
        have HS3 := HS.out.next hb3
        obtain ⟨⟨q1, q2, q3⟩, r1, r2, r3⟩ := HS3.cells
        replace HS : Hid (SU w w3 k1 true e1 T1 k2 false e2 T2) := HS3
        clear HS3 hb3 HY2
        go_wp2_with fail
        refine (HX.out _).mono ?_
        rintro e wd ⟨rfl, hbd⟩
        have HZ3 : Hid (At5 wd (w.heap.size + 2) (.int .i64 0) (.bool false) (.int .i64 0) (.string { data := #[] }) (.int .i64 0) ∧ Below w.heap.size w wd) := sum_end HS.out hbd
        clear hbd HS HX
        go_wp2_with (refine wpList_store_row rfl _ _ _ rfl (w.heap.size + 2) #[.int .i64 F1, .bool _, .int .i64 F2, .string F3, .int .i64 F4] rfl rfl _ _ HZ3.out.1 (by kernel_rfl) rfl (one5 _ _ _ _ _) ?_)
        have hP := fun y => (HZ3.out.1.row (.int .i64 F1) (.bool y) (.int .i64 F2) (.string F3) (.int .i64 F4)).cells
        refine bodyPost_ret (results_res rfl _ _ rfl (hP _).1 (hP _).2.1 (hP _).2.2.1 (hP _).2.2.2.1 (hP _).2.2.2.2.1) rfl ?_
        exact ⟨rfl, bel_row HZ3.out.2 (by omega) _⟩
      · have ED : Hid (D40 = NT) := HEq.out rfl
        clear HEq HSub
        go_wp2_with fail
        rw [ED.out]
        refine (HX.out _).mono ?_
        rintro e wd ⟨rfl, hbd⟩
        have HZ3 : Hid (At5 wd (w.heap.size + 2) (.int .i64 0) (.bool false) (.int .i64 0) (.string { data := #[] }) (.int .i64 0) ∧ Below w.heap.size w wd) := sum_end HS.out hbd
        clear hbd HS HX
        go_wp2_with (refine wpList_store_row rfl _ _ _ rfl (w.heap.size + 2) #[.int .i64 F1, .bool _, .int .i64 F2, .string F3, .int .i64 F4] rfl rfl _ _ HZ3.out.1 (by kernel_rfl) rfl (one5 _ _ _ _ _) ?_)
        have hP := fun y => (HZ3.out.1.row (.int .i64 F1) (.bool y) (.int .i64 F2) (.string F3) (.int .i64 F4)).cells
        refine bodyPost_ret (results_res rfl _ _ rfl (hP _).1 (hP _).2.1 (hP _).2.2.1 (hP _).2.2.2.1 (hP _).2.2.2.2.1) rfl ?_
        exact ⟨rfl, bel_row HZ3.out.2 (by omega) _⟩
end Go.Proofs.YtndnoblcnjccdafGreatDoor
