/-
  The model's sum of two finite numbers, walked: none of them nought, near each other: the second one is more.
-/
import Derived.Test.YtndnoblcnjccdafGreatDoorSmF
namespace Go.Proofs.YtndnoblcnjccdafGreatDoor
open Go.RowKit
set_option linter.unusedVariables false
set_option maxRecDepth 100000
set_option maxRecDepth 100000 in
set_option maxHeartbeats 1000000 in
theorem l13Sum_more (f mode : Int) (HF : FinOK f mode) (ka : Int) (na : Bool) (ea : Int) (da : List Int) (kb : Int) (nb : Bool) (eb : Int) (db : List Int) (k1 : Int) (n1 : Bool) (e1 : Int) (d1 : List Int) (k2 : Int) (n2 : Bool) (e2 : Int) (d2 : List Int) (M : Int) (w : World)
    (hM : min ea eb = M) (ca : Canon da) (za : da ≠ [0]) (cb : Canon db) (zb : db ≠ [0]) (la : da.length ≤ 100) (lb : db.length ≤ 100) (ha : -13000 ≤ ea ∧ ea ≤ 13000) (hb : -13000 ≤ eb ∧ eb ≤ 13000)
    (hs : ((da.length : Int) + ea < (db.length : Int) + eb ∧ k1 = kb ∧ n1 = nb ∧ e1 = eb ∧ d1 = db ∧ k2 = ka ∧ n2 = na ∧ e2 = ea ∧ d2 = da) ∨ (¬ (da.length : Int) + ea < (db.length : Int) + eb ∧ k1 = ka ∧ n1 = na ∧ e1 = ea ∧ d1 = da ∧ k2 = kb ∧ n2 = nb ∧ e2 = eb ∧ d2 = db)) (hnear : ¬ 180 < (d1.length : Int) + e1 - M) (hn : n1 ≠ n2) (hxy : vl d2 * 10 ^ (e2 - M).toNat < vl d1 * 10 ^ (e1 - M).toNat) :
    Calls Tryz.prog 106 #[.int .i64 f, .int .i64 mode, numV ka na ea (tx da), numV kb nb eb (tx db)] w fun x w' => x = .returned (rsD n1 (finD f mode n1 (nt (vl d1 * 10 ^ (e1 - M).toNat - vl d2 * 10 ^ (e2 - M).toNat)) M false M)) ∧ Below w.heap.size w w' := by
  have HM : Hid (min ea eb = M) := hM
  have HS : Hid (SU w (suW w k1 n1 e1 (tx d1) k2 n2 e2 (tx d2)) k1 n1 e1 (tx d1) k2 n2 e2 (tx d2)) := su_new w k1 n1 e1 (tx d1) k2 n2 e2 (tx d2)
  have hz1 : ((tx da).toList == [48]) = false := tx_is0 da ca.1 za
  have hz2 : ((tx db).toList == [48]) = false := tx_is0 db cb.1 zb
  have sza := tx_size da
  have szb := tx_size db
  have wsa : IntKind.i64.wrap ((da.length : Int) + ea) = (da.length : Int) + ea := by rw [IntKind.wrap_i64]; omega
  have wsb : IntKind.i64.wrap ((db.length : Int) + eb) = (db.length : Int) + eb := by rw [IntKind.wrap_i64]; omega
  have HSW : Hid (((da.length : Int) + ea < (db.length : Int) + eb ∧ k1 = kb ∧ n1 = nb ∧ e1 = eb ∧ d1 = db ∧ k2 = ka ∧ n2 = na ∧ e2 = ea ∧ d2 = da) ∨ (¬ (da.length : Int) + ea < (db.length : Int) + eb ∧ k1 = ka ∧ n1 = na ∧ e1 = ea ∧ d1 = da ∧ k2 = kb ∧ n2 = nb ∧ e2 = eb ∧ d2 = db)) := hs
  have g1 : Canon d1 ∧ d1 ≠ [0] ∧ d1.length ≤ 100 ∧ (-13000 ≤ e1 ∧ e1 ≤ 13000) ∧ Canon d2 ∧ d2 ≠ [0] ∧ d2.length ≤ 100 ∧ (-13000 ≤ e2 ∧ e2 ≤ 13000) ∧ M = min e1 e2 := by
    rcases hs with ⟨-, -, -, rfl, rfl, -, -, rfl, rfl⟩ | ⟨-, -, -, rfl, rfl, -, -, rfl, rfl⟩
    · exact ⟨cb, zb, lb, hb, ca, za, la, ha, by omega⟩
    · exact ⟨ca, za, la, ha, cb, zb, lb, hb, by omega⟩
  have HC : Hid (Canon d1 ∧ d1 ≠ [0] ∧ d1.length ≤ 100 ∧ (-13000 ≤ e1 ∧ e1 ≤ 13000) ∧ Canon d2 ∧ d2 ≠ [0] ∧ d2.length ≤ 100 ∧ (-13000 ≤ e2 ∧ e2 ≤ 13000) ∧ M = min e1 e2) := g1
  obtain ⟨c1, z1, l1, x1, c2, z2, l2, x2, hm⟩ := g1
  have hM1 : M ≤ e1 := by omega
  have hM2 : M ≤ e2 := by omega
  have hnear2 : (d2.length : Int) + e2 - M ≤ 180 := by
    rcases HSW.out with ⟨h, -, -, rfl, rfl, -, -, rfl, rfl⟩ | ⟨h, -, -, rfl, rfl, -, -, rfl, rfl⟩ <;> omega
  obtain ⟨b10, b11, b12, b13⟩ := near_bd d1 e1 M c1 hM1 (by omega)
  obtain ⟨b20, b21, b22, b23⟩ := near_bd d2 e2 M c2 hM2 hnear2
  have hp181 : (10 : Int) ^ 181 = 10 ^ 180 * 10 := Int.pow_succ 10 180
  have hp180 : (0 : Int) < 10 ^ 180 := Int.pow_pos (by decide)
  have sz1 := tx_size d1
  have wA : IntKind.i64.wrap ((d1.length : Int) + e1) = (d1.length : Int) + e1 := by rw [IntKind.wrap_i64]; omega
  have wB : IntKind.i64.wrap ((d1.length : Int) + e1 - M) = (d1.length : Int) + e1 - M := by rw [IntKind.wrap_i64]; omega
  have wC : IntKind.i64.wrap (e1 - M) = e1 - M := by rw [IntKind.wrap_i64]; omega
  have wD : IntKind.i64.wrap (e2 - M) = e2 - M := by rw [IntKind.wrap_i64]; omega
  have H1 : Hid (∀ X, Calls Tryz.prog 80 #[.string (tx d1), .int .i64 (e1 - M)] X fun e w' => e = .returned (.string (tx (nt (vl d1 * 10 ^ (e1 - M).toNat)))) ∧ Below X.heap.size X w') := fun X => by
    have hc := l11Shift_all d1 (e1 - M).toNat X c1 (by omega) b12
    rw [← b13] at hc
    refine hc.mono ?_
    rintro e w' ⟨R, he, hR, -, hbR⟩
    rw [hR] at he
    exact ⟨he, hbR⟩
  have H2 : Hid (∀ X, Calls Tryz.prog 80 #[.string (tx d2), .int .i64 (e2 - M)] X fun e w' => e = .returned (.string (tx (nt (vl d2 * 10 ^ (e2 - M).toNat)))) ∧ Below X.heap.size X w') := fun X => by
    have hc := l11Shift_all d2 (e2 - M).toNat X c2 (by omega) b22
    rw [← b23] at hc
    refine hc.mono ?_
    rintro e w' ⟨R, he, hR, -, hbR⟩
    rw [hR] at he
    exact ⟨he, hbR⟩
  have MB : -13000 ≤ M ∧ M ≤ 13000 := by omega
  clear hs ca za cb zb hm hM hM1 hM2 hnear2 b12 b13 b22 b23 la lb ha hb z1 z2 l2 HC
  generalize hX : vl d1 * 10 ^ (e1 - M).toNat = x at *
  generalize hY : vl d2 * 10 ^ (e2 - M).toNat = y at *
  clear hX hY
  obtain ⟨cX, vX, lX⟩ := nt_near x b10 (by omega)
  obtain ⟨cY, vY, lY⟩ := nt_near y b20 (by omega)
  have HCm : Hid (∀ X, Calls Tryz.prog 109 #[.string (tx (nt x)), .string (tx (nt y))] X fun e w' => e = .returned (.int .i64 (cmpI x y)) ∧ Below X.heap.size X w') := fun X => by
    have := l11Cmp_any (nt x) (nt y) X cX cY (by omega) (by omega)
    rw [vX, vY] at this
    exact this
  have HN : Hid (n1 ≠ n2) := hn
  clear hn
  have EC : Hid (cmpI x y = 1) := by show _ = _; unfold cmpI; rw [if_neg (by omega), if_pos (by omega)]
  rw [EC.out] at HCm
  have HAd : Hid (∀ X, Calls Tryz.prog 90 #[.string (tx (nt x)), .string (tx (nt y))] X fun e w' => e = .returned (.string (tx (nt (x - y)))) ∧ Below X.heap.size X w') := fun X => by
    refine (l11Sub_any (nt x) (nt y) X cX cY (by omega) (by rw [vX, vY]; omega)).mono ?_
    rintro e w' ⟨R, rfl, hR, vR, lR, hbR⟩
    rw [nt_of R (x - y) hR (by rw [vR, vX, vY]) (by omega)]
    exact ⟨rfl, hbR⟩
  obtain ⟨cZ, vZ, lZ⟩ := nt_near (x - y) (by omega) (by omega)
  have HX : Hid (∀ X, Calls Tryz.prog 47 #[.int .i64 f, .int .i64 mode, .bool n1, .string (tx (nt (x - y))), .int .i64 M, .bool false, .int .i64 M] X fun r w' => r = .returned (rsD n1 (finD f mode n1 (nt (x - y)) M false M)) ∧ Below X.heap.size X w') := fun X => HF n1 _ M false M X cZ (by omega) (by omega) (by omega)
  clear hxy cZ vZ lZ
  clear HF cX vX lX cY vY lY b10 b11 b20 b21 hp181 hp180
  generalize finD f mode n1 (nt (x - y)) M false M = F at *
  obtain ⟨F1, F2, F3, F4⟩ := F
  generalize tx (nt (x - y)) = TZ at *
  generalize tx (nt x) = TX at *
  generalize tx (nt y) = TY at *
  go_enter Tryz.func106, Tryz.ntmps106
  go_wp2_with fail
  refine (l1Min_is ea eb _).mono ?_
  rintro e w1 ⟨rfl, rfl⟩
  rw [HM.out]
  go_upto_if 80 with fail
  go_cut [81, 82] (fun x y wx => wx = suW w k1 n1 e1 (tx d1) k2 n2 e2 (tx d2))
  case first =>
    rcases HSW.out with ⟨hlt, rfl, rfl, rfl, rfl, rfl, rfl, rfl, rfl⟩ | ⟨hlt, rfl, rfl, rfl, rfl, rfl, rfl, rfl, rfl⟩
    · clear HSW
      go_wp2
      go_meet
      case rel => rfl
    · clear HSW
      go_wp2
      go_meet
      case rel => rfl
  case rest =>
    obtain rfl := hcut
    clear HSW hz1 hz2 sza szb wsa wsb
    clear c1 c2
    generalize tx d1 = T1 at *
    generalize tx d2 = T2 at *
    go_wp2_with fail
    refine (H1.out _).mono ?_
    rintro e w2 ⟨rfl, hb2⟩
    have HS2 : Hid (SU w w2 k1 n1 e1 T1 k2 n2 e2 T2) := HS.out.next hb2
    obtain ⟨⟨q1, q2, q3⟩, r1, r2, r3⟩ := HS2.out.cells
    clear hb2 HS H1
    go_wp2_with fail
    refine (H2.out _).mono ?_
    rintro e w3 ⟨rfl, hb3⟩
    have HS3 : Hid (SU w w3 k1 n1 e1 T1 k2 n2 e2 T2) := HS2.out.next hb3
    clear q1 q2 q3 r1 r2 r3
    obtain ⟨⟨q1, q2, q3⟩, r1, r2, r3⟩ := HS3.out.cells
    clear hb3 HS2 H2
    cases n1 <;> cases n2
    · exact absurd rfl HN.out
    · go_wp2_with fail
      refine (HCm.out _).mono ?_
      rintro e w5 ⟨rfl, hb5⟩
      have HS5 : Hid (SU w w5 k1 false e1 T1 k2 true e2 T2) := HS3.out.next hb5
      clear q1 q2 q3 r1 r2 r3
      obtain ⟨⟨q1, q2, q3⟩, r1, r2, r3⟩ := HS5.out.cells
      clear hb5 HS3 HCm
      have HS3 := HS5
      clear HS5
      go_wp2_with fail
      go_region_with (first
        | (go_at_call 90; refine (HAd.out _).mono ?_; rintro e w4 ⟨rfl, hb4⟩; have HS4 : Hid (SU w w4 k1 false e1 T1 k2 true e2 T2) := HS3.out.drew.next hb4; clear hb4; obtain ⟨⟨y1, y2, y3⟩, z1, z2, z3⟩ := HS4.out.cells)
        | (go_at_call 47; refine (HX.out _).mono ?_; rintro e wd ⟨rfl, hbd⟩; have HZ3 : Hid (At5 wd (w.heap.size + 1 + 1) (.int .i64 0) (.bool false) (.int .i64 0) (.string { data := #[] }) (.int .i64 0) ∧ Below w.heap.size w wd) := sum_end HS4.out hbd; clear hbd; obtain ⟨p0, p1, p2, p3, p4, p5⟩ := HZ3.out.1.cells; have f0 := p5 0; have f1 := p5 1; have f2 := p5 2; have f3 := p5 3; have f4 := p5 4; clear p5))
      all_goals
        go_wp2
        have hP := (HZ3.out.1.put (.int .i64 F1) (.bool false) (.int .i64 F2) (.string F3) (.int .i64 F4)).cells
        refine bodyPost_ret (results_res rfl _ _ rfl hP.1 hP.2.1 hP.2.2.1 hP.2.2.2.1 hP.2.2.2.2.1) rfl ?_
        exact ⟨rfl, bel_five HZ3.out.2 (by omega) _ _ _ _ _⟩
    · go_wp2_with fail
      refine (HCm.out _).mono ?_
      rintro e w5 ⟨rfl, hb5⟩
      have HS5 : Hid (SU w w5 k1 true e1 T1 k2 false e2 T2) := HS3.out.next hb5
      clear q1 q2 q3 r1 r2 r3
      obtain ⟨⟨q1, q2, q3⟩, r1, r2, r3⟩ := HS5.out.cells
      clear hb5 HS3 HCm
      have HS3 := HS5
      clear HS5
      go_wp2_with fail
      go_region_with (first
        | (go_at_call 90; refine (HAd.out _).mono ?_; rintro e w4 ⟨rfl, hb4⟩; have HS4 : Hid (SU w w4 k1 true e1 T1 k2 false e2 T2) := HS3.out.drew.next hb4; clear hb4; obtain ⟨⟨y1, y2, y3⟩, z1, z2, z3⟩ := HS4.out.cells)
        | (go_at_call 47; refine (HX.out _).mono ?_; rintro e wd ⟨rfl, hbd⟩; have HZ3 : Hid (At5 wd (w.heap.size + 1 + 1) (.int .i64 0) (.bool false) (.int .i64 0) (.string { data := #[] }) (.int .i64 0) ∧ Below w.heap.size w wd) := sum_end HS4.out hbd; clear hbd; obtain ⟨p0, p1, p2, p3, p4, p5⟩ := HZ3.out.1.cells; have f0 := p5 0; have f1 := p5 1; have f2 := p5 2; have f3 := p5 3; have f4 := p5 4; clear p5))
      all_goals
        go_wp2
        have hP := (HZ3.out.1.put (.int .i64 F1) (.bool true) (.int .i64 F2) (.string F3) (.int .i64 F4)).cells
        refine bodyPost_ret (results_res rfl _ _ rfl hP.1 hP.2.1 hP.2.2.1 hP.2.2.2.1 hP.2.2.2.2.1) rfl ?_
        exact ⟨rfl, bel_five HZ3.out.2 (by omega) _ _ _ _ _⟩
    · exact absurd rfl HN.out
end Go.Proofs.YtndnoblcnjccdafGreatDoor
namespace Go.Proofs.YtndnoblcnjccdafGreatDoor
open Go.RowKit
set_option linter.unusedVariables false
set_option maxRecDepth 100000
set_option maxRecDepth 100000 in
set_option maxHeartbeats 1000000 in
theorem l13Sum_less (f mode : Int) (HF : FinOK f mode) (ka : Int) (na : Bool) (ea : Int) (da : List Int) (kb : Int) (nb : Bool) (eb : Int) (db : List Int) (k1 : Int) (n1 : Bool) (e1 : Int) (d1 : List Int) (k2 : Int) (n2 : Bool) (e2 : Int) (d2 : List Int) (M : Int) (w : World)
    (hM : min ea eb = M) (ca : Canon da) (za : da ≠ [0]) (cb : Canon db) (zb : db ≠ [0]) (la : da.length ≤ 100) (lb : db.length ≤ 100) (ha : -13000 ≤ ea ∧ ea ≤ 13000) (hb : -13000 ≤ eb ∧ eb ≤ 13000)
    (hs : ((da.length : Int) + ea < (db.length : Int) + eb ∧ k1 = kb ∧ n1 = nb ∧ e1 = eb ∧ d1 = db ∧ k2 = ka ∧ n2 = na ∧ e2 = ea ∧ d2 = da) ∨ (¬ (da.length : Int) + ea < (db.length : Int) + eb ∧ k1 = ka ∧ n1 = na ∧ e1 = ea ∧ d1 = da ∧ k2 = kb ∧ n2 = nb ∧ e2 = eb ∧ d2 = db)) (hnear : ¬ 180 < (d1.length : Int) + e1 - M) (hn : n1 ≠ n2) (hxy : vl d1 * 10 ^ (e1 - M).toNat < vl d2 * 10 ^ (e2 - M).toNat) :
    Calls Tryz.prog 106 #[.int .i64 f, .int .i64 mode, numV ka na ea (tx da), numV kb nb eb (tx db)] w fun x w' => x = .returned (rsD n2 (finD f mode n2 (nt (vl d2 * 10 ^ (e2 - M).toNat - vl d1 * 10 ^ (e1 - M).toNat)) M false M)) ∧ Below w.heap.size w w' := by
  have HM : Hid (min ea eb = M) := hM
  have HS : Hid (SU w (suW w k1 n1 e1 (tx d1) k2 n2 e2 (tx d2)) k1 n1 e1 (tx d1) k2 n2 e2 (tx d2)) := su_new w k1 n1 e1 (tx d1) k2 n2 e2 (tx d2)
  have hz1 : ((tx da).toList == [48]) = false := tx_is0 da ca.1 za
  have hz2 : ((tx db).toList == [48]) = false := tx_is0 db cb.1 zb
  have sza := tx_size da
  have szb := tx_size db
  have wsa : IntKind.i64.wrap ((da.length : Int) + ea) = (da.length : Int) + ea := by rw [IntKind.wrap_i64]; omega
  have wsb : IntKind.i64.wrap ((db.length : Int) + eb) = (db.length : Int) + eb := by rw [IntKind.wrap_i64]; omega
  have HSW : Hid (((da.length : Int) + ea < (db.length : Int) + eb ∧ k1 = kb ∧ n1 = nb ∧ e1 = eb ∧ d1 = db ∧ k2 = ka ∧ n2 = na ∧ e2 = ea ∧ d2 = da) ∨ (¬ (da.length : Int) + ea < (db.length : Int) + eb ∧ k1 = ka ∧ n1 = na ∧ e1 = ea ∧ d1 = da ∧ k2 = kb ∧ n2 = nb ∧ e2 = eb ∧ d2 = db)) := hs
  have g1 : Canon d1 ∧ d1 ≠ [0] ∧ d1.length ≤ 100 ∧ (-13000 ≤ e1 ∧ e1 ≤ 13000) ∧ Canon d2 ∧ d2 ≠ [0] ∧ d2.length ≤ 100 ∧ (-13000 ≤ e2 ∧ e2 ≤ 13000) ∧ M = min e1 e2 := by
    rcases hs with ⟨-, -, -, rfl, rfl, -, -, rfl, rfl⟩ | ⟨-, -, -, rfl, rfl, -, -, rfl, rfl⟩
    · exact ⟨cb, zb, lb, hb, ca, za, la, ha, by omega⟩
    · exact ⟨ca, za, la, ha, cb, zb, lb, hb, by omega⟩
  have HC : Hid (Canon d1 ∧ d1 ≠ [0] ∧ d1.length ≤ 100 ∧ (-13000 ≤ e1 ∧ e1 ≤ 13000) ∧ Canon d2 ∧ d2 ≠ [0] ∧ d2.length ≤ 100 ∧ (-13000 ≤ e2 ∧ e2 ≤ 13000) ∧ M = min e1 e2) := g1
  obtain ⟨c1, z1, l1, x1, c2, z2, l2, x2, hm⟩ := g1
  have hM1 : M ≤ e1 := by omega
  have hM2 : M ≤ e2 := by omega
  have hnear2 : (d2.length : Int) + e2 - M ≤ 180 := by
    rcases HSW.out with ⟨h, -, -, rfl, rfl, -, -, rfl, rfl⟩ | ⟨h, -, -, rfl, rfl, -, -, rfl, rfl⟩ <;> omega
  obtain ⟨b10, b11, b12, b13⟩ := near_bd d1 e1 M c1 hM1 (by omega)
  obtain ⟨b20, b21, b22, b23⟩ := near_bd d2 e2 M c2 hM2 hnear2
  have hp181 : (10 : Int) ^ 181 = 10 ^ 180 * 10 := Int.pow_succ 10 180
  have hp180 : (0 : Int) < 10 ^ 180 := Int.pow_pos (by decide)
  have sz1 := tx_size d1
  have wA : IntKind.i64.wrap ((d1.length : Int) + e1) = (d1.length : Int) + e1 := by rw [IntKind.wrap_i64]; omega
  have wB : IntKind.i64.wrap ((d1.length : Int) + e1 - M) = (d1.length : Int) + e1 - M := by rw [IntKind.wrap_i64]; omega
  have wC : IntKind.i64.wrap (e1 - M) = e1 - M := by rw [IntKind.wrap_i64]; omega
  have wD : IntKind.i64.wrap (e2 - M) = e2 - M := by rw [IntKind.wrap_i64]; omega
  have H1 : Hid (∀ X, Calls Tryz.prog 80 #[.string (tx d1), .int .i64 (e1 - M)] X fun e w' => e = .returned (.string (tx (nt (vl d1 * 10 ^ (e1 - M).toNat)))) ∧ Below X.heap.size X w') := fun X => by
    have hc := l11Shift_all d1 (e1 - M).toNat X c1 (by omega) b12
    rw [← b13] at hc
    refine hc.mono ?_
    rintro e w' ⟨R, he, hR, -, hbR⟩
    rw [hR] at he
    exact ⟨he, hbR⟩
  have H2 : Hid (∀ X, Calls Tryz.prog 80 #[.string (tx d2), .int .i64 (e2 - M)] X fun e w' => e = .returned (.string (tx (nt (vl d2 * 10 ^ (e2 - M).toNat)))) ∧ Below X.heap.size X w') := fun X => by
    have hc := l11Shift_all d2 (e2 - M).toNat X c2 (by omega) b22
    rw [← b23] at hc
    refine hc.mono ?_
    rintro e w' ⟨R, he, hR, -, hbR⟩
    rw [hR] at he
    exact ⟨he, hbR⟩
  have MB : -13000 ≤ M ∧ M ≤ 13000 := by omega
  clear hs ca za cb zb hm hM hM1 hM2 hnear2 b12 b13 b22 b23 la lb ha hb z1 z2 l2 HC
  generalize hX : vl d1 * 10 ^ (e1 - M).toNat = x at *
  generalize hY : vl d2 * 10 ^ (e2 - M).toNat = y at *
  clear hX hY
  obtain ⟨cX, vX, lX⟩ := nt_near x b10 (by omega)
  obtain ⟨cY, vY, lY⟩ := nt_near y b20 (by omega)
  have HCm : Hid (∀ X, Calls Tryz.prog 109 #[.string (tx (nt x)), .string (tx (nt y))] X fun e w' => e = .returned (.int .i64 (cmpI x y)) ∧ Below X.heap.size X w') := fun X => by
    have := l11Cmp_any (nt x) (nt y) X cX cY (by omega) (by omega)
    rw [vX, vY] at this
    exact this
  have HN : Hid (n1 ≠ n2) := hn
  clear hn
  have EC : Hid (cmpI x y = (-1)) := by show _ = _; unfold cmpI; rw [if_pos (by omega)]
  rw [EC.out] at HCm
  have HAd : Hid (∀ X, Calls Tryz.prog 90 #[.string (tx (nt y)), .string (tx (nt x))] X fun e w' => e = .returned (.string (tx (nt (y - x)))) ∧ Below X.heap.size X w') := fun X => by
    refine (l11Sub_any (nt y) (nt x) X cY cX (by omega) (by rw [vX, vY]; omega)).mono ?_
    rintro e w' ⟨R, rfl, hR, vR, lR, hbR⟩
    rw [nt_of R (y - x) hR (by rw [vR, vX, vY]) (by omega)]
    exact ⟨rfl, hbR⟩
  obtain ⟨cZ, vZ, lZ⟩ := nt_near (y - x) (by omega) (by omega)
  have HX : Hid (∀ X, Calls Tryz.prog 47 #[.int .i64 f, .int .i64 mode, .bool n2, .string (tx (nt (y - x))), .int .i64 M, .bool false, .int .i64 M] X fun r w' => r = .returned (rsD n2 (finD f mode n2 (nt (y - x)) M false M)) ∧ Below X.heap.size X w') := fun X => HF n2 _ M false M X cZ (by omega) (by omega) (by omega)
  clear hxy cZ vZ lZ
  clear HF cX vX lX cY vY lY b10 b11 b20 b21 hp181 hp180
  generalize finD f mode n2 (nt (y - x)) M false M = F at *
  obtain ⟨F1, F2, F3, F4⟩ := F
  generalize tx (nt (y - x)) = TZ at *
  generalize tx (nt x) = TX at *
  generalize tx (nt y) = TY at *
  go_enter Tryz.func106, Tryz.ntmps106
  go_wp2_with fail
  refine (l1Min_is ea eb _).mono ?_
  rintro e w1 ⟨rfl, rfl⟩
  rw [HM.out]
  go_upto_if 80 with fail
  go_cut [81, 82] (fun x y wx => wx = suW w k1 n1 e1 (tx d1) k2 n2 e2 (tx d2))
  case first =>
    rcases HSW.out with ⟨hlt, rfl, rfl, rfl, rfl, rfl, rfl, rfl, rfl⟩ | ⟨hlt, rfl, rfl, rfl, rfl, rfl, rfl, rfl, rfl⟩
    · clear HSW
      go_wp2
      go_meet
      case rel => rfl
    · clear HSW
      go_wp2
      go_meet
      case rel => rfl
  case rest =>
    obtain rfl := hcut
    clear HSW hz1 hz2 sza szb wsa wsb
    clear c1 c2
    generalize tx d1 = T1 at *
    generalize tx d2 = T2 at *
    go_wp2_with fail
    refine (H1.out _).mono ?_
    rintro e w2 ⟨rfl, hb2⟩
    have HS2 : Hid (SU w w2 k1 n1 e1 T1 k2 n2 e2 T2) := HS.out.next hb2
    obtain ⟨⟨q1, q2, q3⟩, r1, r2, r3⟩ := HS2.out.cells
    clear hb2 HS H1
    go_wp2_with fail
    refine (H2.out _).mono ?_
    rintro e w3 ⟨rfl, hb3⟩
    have HS3 : Hid (SU w w3 k1 n1 e1 T1 k2 n2 e2 T2) := HS2.out.next hb3
    clear q1 q2 q3 r1 r2 r3
    obtain ⟨⟨q1, q2, q3⟩, r1, r2, r3⟩ := HS3.out.cells
    clear hb3 HS2 H2
    cases n1 <;> cases n2
    · exact absurd rfl HN.out
    · go_wp2_with fail
      refine (HCm.out _).mono ?_
      rintro e w5 ⟨rfl, hb5⟩
      have HS5 : Hid (SU w w5 k1 false e1 T1 k2 true e2 T2) := HS3.out.next hb5
      clear q1 q2 q3 r1 r2 r3
      obtain ⟨⟨q1, q2, q3⟩, r1, r2, r3⟩ := HS5.out.cells
      clear hb5 HS3 HCm
      have HS3 := HS5
      clear HS5
      go_wp2_with fail
      go_region_with (first
        | (go_at_call 90; refine (HAd.out _).mono ?_; rintro e w4 ⟨rfl, hb4⟩; have HS4 : Hid (SU w w4 k1 false e1 T1 k2 true e2 T2) := HS3.out.drew.next hb4; clear hb4; obtain ⟨⟨y1, y2, y3⟩, z1, z2, z3⟩ := HS4.out.cells)
        | (go_at_call 47; refine (HX.out _).mono ?_; rintro e wd ⟨rfl, hbd⟩; have HZ3 : Hid (At5 wd (w.heap.size + 1 + 1) (.int .i64 0) (.bool false) (.int .i64 0) (.string { data := #[] }) (.int .i64 0) ∧ Below w.heap.size w wd) := sum_end HS4.out hbd; clear hbd; obtain ⟨p0, p1, p2, p3, p4, p5⟩ := HZ3.out.1.cells; have f0 := p5 0; have f1 := p5 1; have f2 := p5 2; have f3 := p5 3; have f4 := p5 4; clear p5))
      all_goals
        go_wp2
        have hP := (HZ3.out.1.put (.int .i64 F1) (.bool true) (.int .i64 F2) (.string F3) (.int .i64 F4)).cells
        refine bodyPost_ret (results_res rfl _ _ rfl hP.1 hP.2.1 hP.2.2.1 hP.2.2.2.1 hP.2.2.2.2.1) rfl ?_
        exact ⟨rfl, bel_five HZ3.out.2 (by omega) _ _ _ _ _⟩
    · go_wp2_with fail
      refine (HCm.out _).mono ?_
      rintro e w5 ⟨rfl, hb5⟩
      have HS5 : Hid (SU w w5 k1 true e1 T1 k2 false e2 T2) := HS3.out.next hb5
      clear q1 q2 q3 r1 r2 r3
      obtain ⟨⟨q1, q2, q3⟩, r1, r2, r3⟩ := HS5.out.cells
      clear hb5 HS3 HCm
      have HS3 := HS5
      clear HS5
      go_wp2_with fail
      go_region_with (first
        | (go_at_call 90; refine (HAd.out _).mono ?_; rintro e w4 ⟨rfl, hb4⟩; have HS4 : Hid (SU w w4 k1 true e1 T1 k2 false e2 T2) := HS3.out.drew.next hb4; clear hb4; obtain ⟨⟨y1, y2, y3⟩, z1, z2, z3⟩ := HS4.out.cells)
        | (go_at_call 47; refine (HX.out _).mono ?_; rintro e wd ⟨rfl, hbd⟩; have HZ3 : Hid (At5 wd (w.heap.size + 1 + 1) (.int .i64 0) (.bool false) (.int .i64 0) (.string { data := #[] }) (.int .i64 0) ∧ Below w.heap.size w wd) := sum_end HS4.out hbd; clear hbd; obtain ⟨p0, p1, p2, p3, p4, p5⟩ := HZ3.out.1.cells; have f0 := p5 0; have f1 := p5 1; have f2 := p5 2; have f3 := p5 3; have f4 := p5 4; clear p5))
      all_goals
        go_wp2
        have hP := (HZ3.out.1.put (.int .i64 F1) (.bool false) (.int .i64 F2) (.string F3) (.int .i64 F4)).cells
        refine bodyPost_ret (results_res rfl _ _ rfl hP.1 hP.2.1 hP.2.2.1 hP.2.2.2.1 hP.2.2.2.2.1) rfl ?_
        exact ⟨rfl, bel_five HZ3.out.2 (by omega) _ _ _ _ _⟩
    · exact absurd rfl HN.out
end Go.Proofs.YtndnoblcnjccdafGreatDoor
