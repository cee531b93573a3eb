/-
  What is right in a format, by its digits; Add of the model in one word.
-/
import Derived.Test.YtndnoblcnjccdafGreatDoorSmF
import Derived.Test.YtndnoblcnjccdafGreatDoorSmH
import Derived.Test.YtndnoblcnjccdafGreatDoorNatS
namespace Go.Proofs.YtndnoblcnjccdafGreatDoor
open Go.RowKit
set_option linter.unusedVariables false
set_option maxRecDepth 100000
/-- The exact sum of two finite numbers, finished: the sign and the rest. -/
def sumX (f mode : Int) (na : Bool) (ea : Int) (da : List Int) (nb : Bool) (eb : Int) (db : List Int) : Bool × (Int × Int × ByteArray × Int) :=
  if da = [0] ∧ db = [0] then ((if na = nb then na else decide (mode = 3)), finD f mode (if na = nb then na else decide (mode = 3)) [0] (min ea eb) false (min ea eb))
  else if da = [0] then (nb, finD f mode nb db eb false (min ea eb))
  else if db = [0] then (na, finD f mode na da ea false (min ea eb))
  else if (da.length : Int) + ea < (db.length : Int) + eb then sumY f mode nb eb db na ea da (min ea eb)
  else sumY f mode na ea da nb eb db (min ea eb)
set_option maxRecDepth 100000 in
theorem l13Sum_pos (f mode : Int) (HF : FinOK f mode) (ka : Int) (na : Bool) (ea : Int) (da : List Int) (kb : Int) (nb : Bool) (eb : Int) (db : List Int) (k1 : Int) (n1 : Bool) (e1 : Int) (d1 : List Int) (k2 : Int) (n2 : Bool) (e2 : Int) (d2 : List Int) (M : Int) (w : World)
    (hM : min ea eb = M) (ca : Canon da) (za : da ≠ [0]) (cb : Canon db) (zb : db ≠ [0]) (la : da.length ≤ 100) (lb : db.length ≤ 100) (ha : -13000 ≤ ea ∧ ea ≤ 13000) (hb : -13000 ≤ eb ∧ eb ≤ 13000)
    (hs : ((da.length : Int) + ea < (db.length : Int) + eb ∧ k1 = kb ∧ n1 = nb ∧ e1 = eb ∧ d1 = db ∧ k2 = ka ∧ n2 = na ∧ e2 = ea ∧ d2 = da) ∨ (¬ (da.length : Int) + ea < (db.length : Int) + eb ∧ k1 = ka ∧ n1 = na ∧ e1 = ea ∧ d1 = da ∧ k2 = kb ∧ n2 = nb ∧ e2 = eb ∧ d2 = db)) :
    Calls Tryz.prog 106 #[.int .i64 f, .int .i64 mode, numV ka na ea (tx da), numV kb nb eb (tx db)] w fun x w' => x = .returned (rsD (sumY f mode n1 e1 d1 n2 e2 d2 M).1 (sumY f mode n1 e1 d1 n2 e2 d2 M).2) ∧ Below w.heap.size w w' := by
  unfold sumY
  by_cases h1 : 180 < (d1.length : Int) + e1 - M
  · rw [if_pos h1]
    dsimp only
    exact l13Sum_far f mode HF ka na ea da kb nb eb db k1 n1 e1 d1 k2 n2 e2 d2 M w hM ca za cb zb la lb ha hb hs h1
  · rw [if_neg h1]
    by_cases h2 : n1 = n2
    · rw [if_pos h2]
      dsimp only
      exact l13Sum_same f mode HF ka na ea da kb nb eb db k1 n1 e1 d1 k2 n2 e2 d2 M w hM ca za cb zb la lb ha hb hs h1 h2
    · rw [if_neg h2]
      by_cases h3 : vl d1 * 10 ^ (e1 - M).toNat = vl d2 * 10 ^ (e2 - M).toNat
      · rw [if_pos h3]
        dsimp only
        exact l13Sum_even f mode HF ka na ea da kb nb eb db k1 n1 e1 d1 k2 n2 e2 d2 M w hM ca za cb zb la lb ha hb hs h1 h2 h3
      · rw [if_neg h3]
        by_cases h4 : vl d2 * 10 ^ (e2 - M).toNat < vl d1 * 10 ^ (e1 - M).toNat
        · rw [if_pos h4]
          dsimp only
          exact l13Sum_more f mode HF ka na ea da kb nb eb db k1 n1 e1 d1 k2 n2 e2 d2 M w hM ca za cb zb la lb ha hb hs h1 h2 h4
        · rw [if_neg h4]
          dsimp only
          exact l13Sum_less f mode HF ka na ea da kb nb eb db k1 n1 e1 d1 k2 n2 e2 d2 M w hM ca za cb zb la lb ha hb hs h1 h2 (by omega)
set_option maxRecDepth 100000 in
theorem l13Sum_any (f mode : Int) (HF : FinOK f mode) (ka : Int) (na : Bool) (ea : Int) (da : List Int) (kb : Int) (nb : Bool) (eb : Int) (db : List Int) (w : World)
    (ca : Canon da) (cb : Canon db) (la : da.length ≤ 100) (lb : db.length ≤ 100) (ha : -13000 ≤ ea ∧ ea ≤ 13000) (hb : -13000 ≤ eb ∧ eb ≤ 13000) :
    Calls Tryz.prog 106 #[.int .i64 f, .int .i64 mode, numV ka na ea (tx da), numV kb nb eb (tx db)] w fun x w' => x = .returned (rsD (sumX f mode na ea da nb eb db).1 (sumX f mode na ea da nb eb db).2) ∧ Below w.heap.size w w' := by
  unfold sumX
  by_cases za : da = [0]
  · by_cases zb : db = [0]
    · subst za zb
      rw [if_pos ⟨rfl, rfl⟩]
      dsimp only
      exact l13Sum_zz f mode HF ka na ea kb nb eb w ha hb
    · subst za
      rw [if_neg fun h => zb h.2, if_pos rfl]
      dsimp only
      exact l13Sum_za f mode HF ka na ea kb nb eb db w cb zb lb ha hb
  · rw [if_neg fun h => za h.1, if_neg za]
    by_cases zb : db = [0]
    · subst zb
      rw [if_pos rfl]
      dsimp only
      exact l13Sum_zb f mode HF ka na ea kb nb eb da w ca za la ha hb
    · rw [if_neg zb]
      by_cases hlt : (da.length : Int) + ea < (db.length : Int) + eb
      · rw [if_pos hlt]
        exact l13Sum_pos f mode HF ka na ea da kb nb eb db kb nb eb db ka na ea da (min ea eb) w rfl ca za cb zb la lb ha hb (.inl ⟨hlt, rfl, rfl, rfl, rfl, rfl, rfl, rfl, rfl⟩)
      · rw [if_neg hlt]
        exact l13Sum_pos f mode HF ka na ea da kb nb eb db ka na ea da kb nb eb db (min ea eb) w rfl ca za cb zb la lb ha hb (.inr ⟨hlt, rfl, rfl, rfl, rfl, rfl, rfl, rfl, rfl⟩)
end Go.Proofs.YtndnoblcnjccdafGreatDoor
namespace Go.Proofs.YtndnoblcnjccdafGreatDoor
open Go.RowKit
set_option linter.unusedVariables false
set_option maxRecDepth 100000
/-- The Result of a sum, as its five cells (sign told apart). -/
abbrev R5 := Bool × (Int × Int × ByteArray × Int)
def addX (f mode : Int) (ka : Int) (na : Bool) (ea : Int) (da : List Int) (kb : Int) (nb : Bool) (eb : Int) (db : List Int) : R5 :=
  if ka = 2 ∧ kb = 2 ∧ na ≠ nb then (false, (3, 0, { data := #[] }, 1))
  else if ka = 2 then (na, (2, 0, { data := #[] }, 0))
  else if kb = 2 then (nb, (2, 0, { data := #[] }, 0))
  else sumX f mode na ea da nb eb db
set_option maxRecDepth 100000 in
set_option maxHeartbeats 1000000 in
theorem l13Add_inv_f (f mode : Int) (ea : Int) (sa : ByteArray) (eb : Int) (sb : ByteArray) (w : World) :
    Calls Tryz.prog 60 #[.int .i64 f, .int .i64 mode, numV 2 false ea sa, numV 2 true eb sb] w fun x w' => x = .returned (rsD false (3, 0, { data := #[] }, 1)) ∧ Below w.heap.size w w' := by
  have HS : Hid (SU w (suW w 2 false ea sa 2 true eb sb) 2 false ea sa 2 true eb sb) := su_new w 2 false ea sa 2 true eb sb
  have HX : Hid (∀ X, Calls Tryz.prog 45 #[] X fun x w' => x = .returned (rsV 3 false 0 { data := #[] } 1) ∧ Below X.heap.size X w') := fun X => l13Invalid_any X
  go_enter Tryz.func60, Tryz.ntmps60
  go_wp2_with fail
  refine (HX.out _).mono ?_
  rintro e wd ⟨rfl, hbd⟩
  have HZ3 : Hid (At5 wd (w.heap.size + 2) (.int .i64 0) (.bool false) (.int .i64 0) (.string { data := #[] }) (.int .i64 0) ∧ Below w.heap.size w wd) := sum_end HS.out hbd
  clear hbd HS HX
  go_wp2_with (refine wpList_store_row rfl 29 (.tmp 8) (.tmp 25) rfl (w.heap.size + 2) #[.int .i64 3, .bool _, .int .i64 0, .string { data := #[] }, .int .i64 1] rfl rfl _ _ HZ3.out.1 (by kernel_rfl) rfl (one5 _ _ _ _ _) ?_)
  have hP := fun y => (HZ3.out.1.row (.int .i64 3) (.bool y) (.int .i64 0) (.string { data := #[] }) (.int .i64 1)).cells
  refine bodyPost_ret (results_res rfl _ _ rfl (hP _).1 (hP _).2.1 (hP _).2.2.1 (hP _).2.2.2.1 (hP _).2.2.2.2.1) rfl ?_
  exact ⟨rfl, bel_row HZ3.out.2 (by omega) _⟩
set_option maxRecDepth 100000 in
set_option maxHeartbeats 1000000 in
theorem l13Add_inv_t (f mode : Int) (ea : Int) (sa : ByteArray) (eb : Int) (sb : ByteArray) (w : World) :
    Calls Tryz.prog 60 #[.int .i64 f, .int .i64 mode, numV 2 true ea sa, numV 2 false eb sb] w fun x w' => x = .returned (rsD false (3, 0, { data := #[] }, 1)) ∧ Below w.heap.size w w' := by
  have HS : Hid (SU w (suW w 2 true ea sa 2 false eb sb) 2 true ea sa 2 false eb sb) := su_new w 2 true ea sa 2 false eb sb
  have HX : Hid (∀ X, Calls Tryz.prog 45 #[] X fun x w' => x = .returned (rsV 3 false 0 { data := #[] } 1) ∧ Below X.heap.size X w') := fun X => l13Invalid_any X
  go_enter Tryz.func60, Tryz.ntmps60
  go_wp2_with fail
  refine (HX.out _).mono ?_
  rintro e wd ⟨rfl, hbd⟩
  have HZ3 : Hid (At5 wd (w.heap.size + 2) (.int .i64 0) (.bool false) (.int .i64 0) (.string { data := #[] }) (.int .i64 0) ∧ Below w.heap.size w wd) := sum_end HS.out hbd
  clear hbd HS HX
  go_wp2_with (refine wpList_store_row rfl 29 (.tmp 8) (.tmp 25) rfl (w.heap.size + 2) #[.int .i64 3, .bool _, .int .i64 0, .string { data := #[] }, .int .i64 1] rfl rfl _ _ HZ3.out.1 (by kernel_rfl) rfl (one5 _ _ _ _ _) ?_)
  have hP := fun y => (HZ3.out.1.row (.int .i64 3) (.bool y) (.int .i64 0) (.string { data := #[] }) (.int .i64 1)).cells
  refine bodyPost_ret (results_res rfl _ _ rfl (hP _).1 (hP _).2.1 (hP _).2.2.1 (hP _).2.2.2.1 (hP _).2.2.2.2.1) rfl ?_
  exact ⟨rfl, bel_row HZ3.out.2 (by omega) _⟩
set_option maxRecDepth 100000 in
set_option maxHeartbeats 1000000 in
theorem l13Add_two_f (f mode : Int) (ea : Int) (sa : ByteArray) (eb : Int) (sb : ByteArray) (w : World) :
    Calls Tryz.prog 60 #[.int .i64 f, .int .i64 mode, numV 2 false ea sa, numV 2 false eb sb] w fun x w' => x = .returned (rsD false (2, 0, { data := #[] }, 0)) ∧ Below w.heap.size w w' := by
  have HS : Hid (SU w (suW w 2 false ea sa 2 false eb sb) 2 false ea sa 2 false eb sb) := su_new w 2 false ea sa 2 false eb sb
  have HX : Hid (∀ X, Calls Tryz.prog 46 #[.bool false] X fun x w' => x = .returned (rsV 2 false 0 { data := #[] } 0) ∧ Below X.heap.size X w') := fun X => l13Inf_any false X
  go_enter Tryz.func60, Tryz.ntmps60
  go_wp2_with fail
  refine (HX.out _).mono ?_
  rintro e wd ⟨rfl, hbd⟩
  have HZ3 : Hid (At5 wd (w.heap.size + 2) (.int .i64 0) (.bool false) (.int .i64 0) (.string { data := #[] }) (.int .i64 0) ∧ Below w.heap.size w wd) := sum_end HS.out hbd
  clear hbd HS HX
  go_wp2_with (refine wpList_store_row rfl 29 (.tmp 8) (.tmp 32) rfl (w.heap.size + 2) #[.int .i64 2, .bool _, .int .i64 0, .string { data := #[] }, .int .i64 0] rfl rfl _ _ HZ3.out.1 (by kernel_rfl) rfl (one5 _ _ _ _ _) ?_)
  have hP := fun y => (HZ3.out.1.row (.int .i64 2) (.bool y) (.int .i64 0) (.string { data := #[] }) (.int .i64 0)).cells
  refine bodyPost_ret (results_res rfl _ _ rfl (hP _).1 (hP _).2.1 (hP _).2.2.1 (hP _).2.2.2.1 (hP _).2.2.2.2.1) rfl ?_
  exact ⟨rfl, bel_row HZ3.out.2 (by omega) _⟩
set_option maxRecDepth 100000 in
set_option maxHeartbeats 1000000 in
theorem l13Add_two_t (f mode : Int) (ea : Int) (sa : ByteArray) (eb : Int) (sb : ByteArray) (w : World) :
    Calls Tryz.prog 60 #[.int .i64 f, .int .i64 mode, numV 2 true ea sa, numV 2 true eb sb] w fun x w' => x = .returned (rsD true (2, 0, { data := #[] }, 0)) ∧ Below w.heap.size w w' := by
  have HS : Hid (SU w (suW w 2 true ea sa 2 true eb sb) 2 true ea sa 2 true eb sb) := su_new w 2 true ea sa 2 true eb sb
  have HX : Hid (∀ X, Calls Tryz.prog 46 #[.bool true] X fun x w' => x = .returned (rsV 2 true 0 { data := #[] } 0) ∧ Below X.heap.size X w') := fun X => l13Inf_any true X
  go_enter Tryz.func60, Tryz.ntmps60
  go_wp2_with fail
  refine (HX.out _).mono ?_
  rintro e wd ⟨rfl, hbd⟩
  have HZ3 : Hid (At5 wd (w.heap.size + 2) (.int .i64 0) (.bool false) (.int .i64 0) (.string { data := #[] }) (.int .i64 0) ∧ Below w.heap.size w wd) := sum_end HS.out hbd
  clear hbd HS HX
  go_wp2_with (refine wpList_store_row rfl 29 (.tmp 8) (.tmp 32) rfl (w.heap.size + 2) #[.int .i64 2, .bool _, .int .i64 0, .string { data := #[] }, .int .i64 0] rfl rfl _ _ HZ3.out.1 (by kernel_rfl) rfl (one5 _ _ _ _ _) ?_)
  have hP := fun y => (HZ3.out.1.row (.int .i64 2) (.bool y) (.int .i64 0) (.string { data := #[] }) (.int .i64 0)).cells
  refine bodyPost_ret (results_res rfl _ _ rfl (hP _).1 (hP _).2.1 (hP _).2.2.1 (hP _).2.2.2.1 (hP _).2.2.2.2.1) rfl ?_
  exact ⟨rfl, bel_row HZ3.out.2 (by omega) _⟩
set_option maxRecDepth 100000 in
set_option maxHeartbeats 1000000 in
theorem l13Add_a (f mode : Int) (na nb : Bool) (ea : Int) (sa : ByteArray) (eb : Int) (sb : ByteArray) (w : World) :
    Calls Tryz.prog 60 #[.int .i64 f, .int .i64 mode, numV 2 na ea sa, numV 1 nb eb sb] w fun x w' => x = .returned (rsD na (2, 0, { data := #[] }, 0)) ∧ Below w.heap.size w w' := by
  have HS : Hid (SU w (suW w 2 na ea sa 1 nb eb sb) 2 na ea sa 1 nb eb sb) := su_new w 2 na ea sa 1 nb eb sb
  have HX : Hid (∀ X, Calls Tryz.prog 46 #[.bool na] X fun x w' => x = .returned (rsV 2 na 0 { data := #[] } 0) ∧ Below X.heap.size X w') := fun X => l13Inf_any na X
  go_enter Tryz.func60, Tryz.ntmps60
  go_wp2_with fail
  refine (HX.out _).mono ?_
  rintro e wd ⟨rfl, hbd⟩
  have HZ3 : Hid (At5 wd (w.heap.size + 2) (.int .i64 0) (.bool false) (.int .i64 0) (.string { data := #[] }) (.int .i64 0) ∧ Below w.heap.size w wd) := sum_end HS.out hbd
  clear hbd HS HX
  go_wp2_with (refine wpList_store_row rfl 29 (.tmp 8) (.tmp 32) rfl (w.heap.size + 2) #[.int .i64 2, .bool _, .int .i64 0, .string { data := #[] }, .int .i64 0] rfl rfl _ _ HZ3.out.1 (by kernel_rfl) rfl (one5 _ _ _ _ _) ?_)
  have hP := fun y => (HZ3.out.1.row (.int .i64 2) (.bool y) (.int .i64 0) (.string { data := #[] }) (.int .i64 0)).cells
  refine bodyPost_ret (results_res rfl _ _ rfl (hP _).1 (hP _).2.1 (hP _).2.2.1 (hP _).2.2.2.1 (hP _).2.2.2.2.1) rfl ?_
  exact ⟨rfl, bel_row HZ3.out.2 (by omega) _⟩
set_option maxRecDepth 100000 in
set_option maxHeartbeats 1000000 in
theorem l13Add_b (f mode : Int) (na nb : Bool) (ea : Int) (sa : ByteArray) (eb : Int) (sb : ByteArray) (w : World) :
    Calls Tryz.prog 60 #[.int .i64 f, .int .i64 mode, numV 1 na ea sa, numV 2 nb eb sb] w fun x w' => x = .returned (rsD nb (2, 0, { data := #[] }, 0)) ∧ Below w.heap.size w w' := by
  have HS : Hid (SU w (suW w 1 na ea sa 2 nb eb sb) 1 na ea sa 2 nb eb sb) := su_new w 1 na ea sa 2 nb eb sb
  have HX : Hid (∀ X, Calls Tryz.prog 46 #[.bool nb] X fun x w' => x = .returned (rsV 2 nb 0 { data := #[] } 0) ∧ Below X.heap.size X w') := fun X => l13Inf_any nb X
  go_enter Tryz.func60, Tryz.ntmps60
  go_wp2_with fail
  refine (HX.out _).mono ?_
  rintro e wd ⟨rfl, hbd⟩
  have HZ3 : Hid (At5 wd (w.heap.size + 2) (.int .i64 0) (.bool false) (.int .i64 0) (.string { data := #[] }) (.int .i64 0) ∧ Below w.heap.size w wd) := sum_end HS.out hbd
  clear hbd HS HX
  go_wp2_with (refine wpList_store_row rfl 29 (.tmp 8) (.tmp 39) rfl (w.heap.size + 2) #[.int .i64 2, .bool _, .int .i64 0, .string { data := #[] }, .int .i64 0] rfl rfl _ _ HZ3.out.1 (by kernel_rfl) rfl (one5 _ _ _ _ _) ?_)
  have hP := fun y => (HZ3.out.1.row (.int .i64 2) (.bool y) (.int .i64 0) (.string { data := #[] }) (.int .i64 0)).cells
  refine bodyPost_ret (results_res rfl _ _ rfl (hP _).1 (hP _).2.1 (hP _).2.2.1 (hP _).2.2.2.1 (hP _).2.2.2.2.1) rfl ?_
  exact ⟨rfl, bel_row HZ3.out.2 (by omega) _⟩
set_option maxRecDepth 100000 in
set_option maxHeartbeats 1000000 in
theorem l13Add_fin (f mode : Int) (na nb : Bool) (ea : Int) (sa : ByteArray) (eb : Int) (sb : ByteArray) (w : World) (sg : Bool) (F : Int × Int × ByteArray × Int)
    (HX : Hid (∀ X, Calls Tryz.prog 106 #[.int .i64 f, .int .i64 mode, numV 1 na ea sa, numV 1 nb eb sb] X fun x w' => x = .returned (rsD sg F) ∧ Below X.heap.size X w')) :
    Calls Tryz.prog 60 #[.int .i64 f, .int .i64 mode, numV 1 na ea sa, numV 1 nb eb sb] w fun x w' => x = .returned (rsD sg F) ∧ Below w.heap.size w w' := by
  have HS : Hid (SU w (suW w 1 na ea sa 1 nb eb sb) 1 na ea sa 1 nb eb sb) := su_new w 1 na ea sa 1 nb eb sb
  obtain ⟨F1, F2, F3, F4⟩ := F
  go_enter Tryz.func60, Tryz.ntmps60
  go_wp2_with fail
  refine (HX.out _).mono ?_
  rintro e wd ⟨rfl, hbd⟩
  have HZ3 : Hid (At5 wd (w.heap.size + 2) (.int .i64 0) (.bool false) (.int .i64 0) (.string { data := #[] }) (.int .i64 0) ∧ Below w.heap.size w wd) := sum_end HS.out hbd
  clear hbd HS HX
  go_wp2_with (refine wpList_store_row rfl 29 (.tmp 8) (.tmp 44) rfl (w.heap.size + 2) #[.int .i64 F1, .bool _, .int .i64 F2, .string F3, .int .i64 F4] rfl rfl _ _ HZ3.out.1 (by kernel_rfl) rfl (one5 _ _ _ _ _) ?_)
  have hP := fun y => (HZ3.out.1.row (.int .i64 F1) (.bool y) (.int .i64 F2) (.string F3) (.int .i64 F4)).cells
  refine bodyPost_ret (results_res rfl _ _ rfl (hP _).1 (hP _).2.1 (hP _).2.2.1 (hP _).2.2.2.1 (hP _).2.2.2.2.1) rfl ?_
  exact ⟨rfl, bel_row HZ3.out.2 (by omega) _⟩
theorem l13Add_any (f mode : Int) (HF : FinOK f mode) (ka : Int) (na : Bool) (ea : Int) (da : List Int) (kb : Int) (nb : Bool) (eb : Int) (db : List Int) (w : World)
    (hka : ka = 1 ∨ ka = 2) (hkb : kb = 1 ∨ kb = 2) (ca : ka = 1 → Canon da ∧ da.length ≤ 100 ∧ -13000 ≤ ea ∧ ea ≤ 13000) (cb : kb = 1 → Canon db ∧ db.length ≤ 100 ∧ -13000 ≤ eb ∧ eb ≤ 13000) :
    Calls Tryz.prog 60 #[.int .i64 f, .int .i64 mode, numV ka na ea (tx da), numV kb nb eb (tx db)] w fun x w' => x = .returned (rsD (addX f mode ka na ea da kb nb eb db).1 (addX f mode ka na ea da kb nb eb db).2) ∧ Below w.heap.size w w' := by
  unfold addX
  rcases hka with rfl | rfl
  · rcases hkb with rfl | rfl
    · rw [if_neg (by simp), if_neg (by decide), if_neg (by decide)]
      obtain ⟨c1, l1, e1⟩ := ca rfl
      obtain ⟨c2, l2, e2⟩ := cb rfl
      exact l13Add_fin f mode na nb ea (tx da) eb (tx db) w _ _ (fun X => l13Sum_any f mode HF 1 na ea da 1 nb eb db X c1 c2 l1 l2 e1 e2)
    · rw [if_neg (by simp), if_neg (by decide), if_pos rfl]
      exact l13Add_b f mode na nb ea (tx da) eb (tx db) w
  · rcases hkb with rfl | rfl
    · rw [if_neg (by simp), if_pos rfl]
      exact l13Add_a f mode na nb ea (tx da) eb (tx db) w
    · cases na <;> cases nb
      · rw [if_neg (by simp), if_pos rfl]
        exact l13Add_two_f f mode ea (tx da) eb (tx db) w
      · rw [if_pos ⟨rfl, rfl, by decide⟩]
        exact l13Add_inv_f f mode ea (tx da) eb (tx db) w
      · rw [if_pos ⟨rfl, rfl, by decide⟩]
        exact l13Add_inv_t f mode ea (tx da) eb (tx db) w
      · rw [if_neg (by simp), if_pos rfl]
        exact l13Add_two_t f mode ea (tx da) eb (tx db) w
end Go.Proofs.YtndnoblcnjccdafGreatDoor
namespace Go.Proofs.YtndnoblcnjccdafGreatDoor
open Go.RowKit
set_option linter.unusedVariables false
set_option maxRecDepth 100000
/-- One of two. -/
def tw2 {α : Type} (a b : α) (i : Nat) : α := if i = 0 then a else b
theorem nrw2 {W : World} {g : Nat} {T : TypeId} {ka : Int} {na : Bool} {ea : Int} {sa : ByteArray} {kb : Int} {nb : Bool} {eb : Int} {sb : ByteArray} (h : W.heap[g]? = some (.cells #[.int .i64 ka, .bool na, .int .i64 ea, .string sa, .int .i64 kb, .bool nb, .int .i64 eb, .string sb] T (0, 0))) :
    NRw W g 2 (tw2 ka kb) (tw2 na nb) (tw2 ea eb) (tw2 sa sb) := fun i hi => by
  match i, hi with
  | 0, _ => exact ⟨(cell_lit h 0).trans rfl, (cell_lit h 1).trans rfl, (cell_lit h 2).trans rfl, (cell_lit h 3).trans rfl⟩
  | 1, _ => exact ⟨(cell_lit h 4).trans rfl, (cell_lit h 5).trans rfl, (cell_lit h 6).trans rfl, (cell_lit h 7).trans rfl⟩
theorem SU.kinds {w W : World} {ka : Int} {na : Bool} {ea : Int} {sa : ByteArray} {kb : Int} {nb : Bool} {eb : Int} {sb : ByteArray} (h : SU w W ka na ea sa kb nb eb sb) : W.cell? ⟨w.heap.size, 0, none⟩ = some (.int .i64 ka) ∧ W.cell? ⟨w.heap.size + 1, 0, none⟩ = some (.int .i64 kb) :=
  ⟨(cell_lit h.1 0).trans rfl, (cell_lit h.2.1 0).trans rfl⟩
theorem SU.alloc {w W : World} {ka : Int} {na : Bool} {ea : Int} {sa : ByteArray} {kb : Int} {nb : Bool} {eb : Int} {sb : ByteArray} (h : SU w W ka na ea sa kb nb eb sb) (o : Obj) : SU w (W.alloc o) ka na ea sa kb nb eb sb := h.next ((Below.refl _ _).alloc (Nat.le_refl _) o)
theorem build_res00 (w : World) : (Instr.build 29 #[]).run Tryz.prog w = .ok (rsV 0 false 0 { data := #[] } 0) w := run_build w _ _ _ (by kernel_rfl)
theorem okB2 (g : Nat → Bool) [Decidable (∀ i, i < 2 → g i = true)] : decide (∀ i, i < 2 → g i = true) = (g 0 && g 1) := by
  by_cases h : ∀ i, i < 2 → g i = true
  · rw [decide_eq_true h, h 0 (by decide), h 1 (by decide)]; rfl
  · rw [decide_eq_false h]
    cases h0 : g 0 with
    | false => rfl
    | true =>
      cases h1 : g 1 with
      | false => rfl
      | true => exact absurd (fun i hi => by
          match i, hi with
          | 0, _ => exact h0
          | 1, _ => exact h1) h
def addO (f mode : Int) (ka : Int) (na : Bool) (ea : Int) (sa : ByteArray) (kb : Int) (nb : Bool) (eb : Int) (sb : ByteArray) : Bool := decide (1 ≤ mode ∧ mode ≤ 5) && (numB f ka na ea sa && numB f kb nb eb sb)
/-- What Add tells: the sign, and kind, exponent, digits, flags. -/
def addR (f mode : Int) (ka : Int) (na : Bool) (ea : Int) (sa : ByteArray) (kb : Int) (nb : Bool) (eb : Int) (sb : ByteArray) : R5 :=
  if addO f mode ka na ea sa kb nb eb sb then (if spB 2 (tw2 ka kb) then (false, (3, 0, { data := #[] }, spF 2 (tw2 ka kb))) else addX f mode ka na ea (dl sa) kb nb eb (dl sb))
  else (false, (0, 0, { data := #[] }, 0))
end Go.Proofs.YtndnoblcnjccdafGreatDoor
namespace Go.Proofs.YtndnoblcnjccdafGreatDoor
open Go.RowKit
set_option linter.unusedVariables false
set_option maxRecDepth 100000
theorem dl_empty (s : ByteArray) (h : s.size = 0) : s = tx (dl s) ∧ dl s = [] := by
  have e : s = { data := #[] } := by
    apply ByteArray.ext
    exact Array.eq_empty_of_size_eq_zero h
  subst e
  exact ⟨by apply ByteArray.ext; rw [tx_data]; rfl, rfl⟩
/-- A right number that is no NaN. -/
theorem right_two (f k : Int) (b : Bool) (e : Int) (s : ByteArray) (h : numB f k b e s = true) (h3 : k ≠ 3) (h4 : k ≠ 4) :
    (f = 64 ∨ f = 128) ∧ s = tx (dl s) ∧ (k = 1 ∨ k = 2) ∧ (k = 1 → Canon (dl s) ∧ ((dl s).length : Int) ≤ limP f ∧ limL f ≤ e ∧ e ≤ limH f) := by
  unfold numB at h
  by_cases h0 : limP f = 0
  · rw [if_pos h0] at h; cases h
  rw [if_neg h0] at h
  have hf : f = 64 ∨ f = 128 := by
    unfold limP at h0
    by_cases c : f = 64
    · exact .inl c
    · rw [if_neg c] at h0
      by_cases c2 : f = 128
      · exact .inr c2
      · rw [if_neg c2] at h0; exact absurd rfl h0
  by_cases h1 : k = 1
  · subst h1
    rw [if_pos rfl] at h
    simp only [Bool.and_eq_true, decide_eq_true_eq] at h
    obtain ⟨hn, hl, hh⟩ := h
    obtain ⟨hc, hlen, he⟩ := natB_dl (limP f) s hn
    exact ⟨hf, he, .inl rfl, fun _ => ⟨hc, hlen, hl, hh⟩⟩
  · rw [if_neg h1] at h
    by_cases h2 : k = 2
    · subst h2
      rw [if_pos rfl] at h
      simp only [Bool.and_eq_true] at h
      have hs : s.size = 0 := by
        have := h.2
        rw [ByteArray.toList_eq, List.isEmpty_iff] at this
        show s.data.size = 0
        rw [← Array.length_toList, this]; rfl
      exact ⟨hf, (dl_empty s hs).1, .inr rfl, fun c => by cases c⟩
    · rw [if_neg h2, if_neg (fun c => c.elim h3 h4)] at h
      cases h
theorem lims (f : Int) (hf : f = 64 ∨ f = 128) : limP f ≤ 34 ∧ -6176 ≤ limL f ∧ limH f ≤ 6111 := by
  rcases hf with rfl | rfl <;> decide
end Go.Proofs.YtndnoblcnjccdafGreatDoor
