/-
  Order of the program, its parts: two numbers held against each other, the first that is not nought, the place of the first digit, sizes; walked.
-/
import Derived.Test.YtmndemegiimagasGreatDoorShf
import Derived.Test.YtmndemegiimagasGreatDoorOrz
import Derived.Test.YtmndemegiimagasGreatDoorQta
import Derived.BigQuiet
namespace Go.Proofs.YtmndemegiimagasGreatDoor
open Go.RowKit
set_option linter.unusedVariables false
set_option maxRecDepth 100000
/-- -1, 0, 1 of two numbers. -/
def cI (x y : Int) : Int := if x < y then -1 else if y < x then 1 else 0
def orI (x y : Int) : Int := if x = 0 then y else x
/-- Is it a nought? -/
def nouB (k : Int) (s : ByteArray) : Bool := (k == 1) && (s.toList == [48])
/-- The place of the first digit. -/
def fpl (k e : Int) (s : ByteArray) : Int := if nouB k s then -9223372036854775808 else e + s.size
/-- A text without the noughts behind it. -/
def trS (s : ByteArray) : ByteArray := ⟨(Lib.trimRightB s.data.toList 48).toArray⟩
def cszI (ka ea : Int) (sa : ByteArray) (kb eb : Int) (sb : ByteArray) : Int := orI (cI (fpl ka ea sa) (fpl kb eb sb)) (Lib.compareBytes (trS sa).data.toList (trS sb).data.toList)
theorem oNaN_any (x : Int) (w : World) : Calls Tryz.prog 102 #[.int .i64 x] w fun e w' => e = .returned (.bool false) ∧ w' = w := by
  go_enter Tryz.func102, Tryz.ntmps102
  go_wp2
  go_ret
  exact ⟨by simp, rfl⟩
theorem oCmp_any (x y : Int) (w : World) : Calls Tryz.prog 77 #[.int .i64 x, .int .i64 y] w fun e w' => e = .returned (.int .i64 (cI x y)) ∧ w' = w := by
  by_cases h1 : x < y
  · have E : Hid (cI x y = -1) := if_pos h1
    rw [E.out]
    go_enter Tryz.func77, Tryz.ntmps77
    go_wp2_with fail
    refine (oNaN_any x _).mono ?_
    rintro e w1 ⟨rfl, rfl⟩
    go_wp2_with fail
    refine (oNaN_any y _).mono ?_
    rintro e w1 ⟨rfl, rfl⟩
    go_wp2
    go_ret
    exact ⟨rfl, rfl⟩
  · by_cases h2 : y < x
    · have E : Hid (cI x y = 1) := by show _ = _; unfold cI; rw [if_neg h1, if_pos h2]
      rw [E.out]
      go_enter Tryz.func77, Tryz.ntmps77
      go_wp2_with fail
      refine (oNaN_any x _).mono ?_
      rintro e w1 ⟨rfl, rfl⟩
      go_wp2_with fail
      refine (oNaN_any y _).mono ?_
      rintro e w1 ⟨rfl, rfl⟩
      go_wp2
      go_ret
      exact ⟨rfl, rfl⟩
    · have E : Hid (cI x y = 0) := by show _ = _; unfold cI; rw [if_neg h1, if_neg h2]
      rw [E.out]
      go_enter Tryz.func77, Tryz.ntmps77
      go_wp2_with fail
      refine (oNaN_any x _).mono ?_
      rintro e w1 ⟨rfl, rfl⟩
      go_wp2_with fail
      refine (oNaN_any y _).mono ?_
      rintro e w1 ⟨rfl, rfl⟩
      go_wp2
      go_ret
      exact ⟨rfl, rfl⟩
/-- The first of two that is not nought. -/
theorem oOr_any (x y : Int) (g : Nat) (w : World) (c0 : w.cell? ⟨g, 0, none⟩ = some (.int .i64 x)) (c1 : w.cell? ⟨g, 1, none⟩ = some (.int .i64 y)) :
    Calls Tryz.prog 76 #[.slice (some ⟨g, 0, none⟩) 2 2] w fun e w' => e = .returned (.int .i64 (orI x y)) ∧ w' = w := by
  obtain ⟨R, hR⟩ : ∃ R, orI x y = R := ⟨_, rfl⟩
  have HR : Hid (orI x y = R) := hR
  rw [hR]
  clear hR
  go_enter Tryz.func76, Tryz.ntmps76
  go_wp2
  go_loopw [8] (fun s wr => ∃ j : Nat, j ≤ 2 ∧ s = .int .i64 j ∧ Hid (0 < j → x = 0) ∧ Hid (1 < j → y = 0) ∧ wr = w) (fun s _ => 2 - (intOf s).toNat)
  case atStart => exact ⟨0, Nat.zero_le _, rfl, fun h => by omega, fun h => by omega, rfl⟩
  case round =>
    obtain ⟨j, hj, rfl, hx, hy, rfl⟩ := hrel
    match j, hj with
    | 0, _ =>
      by_cases h0 : x = 0
      · subst h0
        clear hx hy
        go_wp2
        go_roundw
        case rel => exact ⟨1, by omega, by go_num, by first | exact fun _ => trivial | exact fun _ => rfl, fun h => by omega, by first | exact trivial | rfl⟩
        case measure => simp [intOf]
      · have hb : (x == 0) = false := by simpa using h0
        have E0 : Hid (R = x) := by show _ = _; rw [← HR.out]; exact if_neg h0
        clear hx hy h0
        go_wp2
        go_ret
        exact ⟨by rw [E0.out]; rfl, rfl⟩
    | 1, _ =>
      have e0 := hx.out (by omega)
      subst e0
      by_cases h0 : y = 0
      · subst h0
        clear hx hy
        go_wp2
        go_roundw
        case rel => exact ⟨2, by omega, by go_num, by first | exact fun _ => trivial | exact fun _ => rfl, by first | exact fun _ => trivial | exact fun _ => rfl, by first | exact trivial | rfl⟩
        case measure => simp [intOf]
      · have hb : (y == 0) = false := by simpa using h0
        have E0 : Hid (R = y) := by show _ = _; rw [← HR.out]; exact if_pos rfl
        clear hx hy h0
        go_wp2
        go_ret
        exact ⟨by rw [E0.out]; rfl, rfl⟩
    | 2, _ =>
      have e0 := hx.out (by omega)
      have e1 := hy.out (by omega)
      subst e0 e1
      have E0 : Hid (R = 0) := by show _ = _; rw [← HR.out]; exact if_pos rfl
      clear hx hy
      go_wp2
      go_ret
      exact ⟨by rw [E0.out]; rfl, rfl⟩
theorem oNought_any (k : Int) (b : Bool) (e : Int) (s : ByteArray) (w : World) : Calls Tryz.prog 26 #[numV k b e s] w fun x w' => x = .returned (.bool (nouB k s)) ∧ Below w.heap.size w w' := by
  cases h1 : (k == 1) with
  | false =>
    have E : Hid (nouB k s = false) := by show _ = _; unfold nouB; rw [h1]; rfl
    rw [E.out]
    go_enter Tryz.func26, Tryz.ntmps26
    go_wp2
    go_ret
    exact ⟨rfl, (Below.refl _ _).alloc (Nat.le_refl _) _⟩
  | true =>
    cases h2 : (s.toList == [48]) with
    | false =>
      have E : Hid (nouB k s = false) := by show _ = _; unfold nouB; rw [h1, h2]; rfl
      rw [E.out]
      go_enter Tryz.func26, Tryz.ntmps26
      go_wp2
      go_ret
      exact ⟨rfl, (Below.refl _ _).alloc (Nat.le_refl _) _⟩
    | true =>
      have E : Hid (nouB k s = true) := by show _ = _; unfold nouB; rw [h1, h2]; rfl
      rw [E.out]
      go_enter Tryz.func26, Tryz.ntmps26
      go_wp2
      go_ret
      exact ⟨rfl, (Below.refl _ _).alloc (Nat.le_refl _) _⟩
theorem oTrim_any (s : ByteArray) (w : World) (hs : s.size ≤ 100) : Calls Tryz.prog 104 #[.string s, .string { data := #[48] }] w fun e w' => e = .returned (.string (trS s)) ∧ w' = w :=
  Tryz.strings_TrimRight_one s 48 (by decide) w (by omega)
theorem oPlace_any (k : Int) (b : Bool) (e : Int) (s : ByteArray) (w : World) (hs : s.size ≤ 100) (he : -20000 ≤ e ∧ e ≤ 20000) : Calls Tryz.prog 105 #[numV k b e s] w fun x w' => x = .returned (.int .i64 (fpl k e s)) ∧ Below w.heap.size w w' := by
  have HN : Hid (∀ X, Calls Tryz.prog 26 #[numV k b e s] X fun x w' => x = .returned (.bool (nouB k s)) ∧ Below X.heap.size X w') := fun X => oNought_any k b e s X
  have HF : Hid (fpl k e s = if nouB k s then -9223372036854775808 else e + s.size) := rfl
  have hw : IntKind.i64.wrap (e + (s.size : Int)) = e + s.size := by rw [IntKind.wrap_i64]; omega
  have HA : Hid (At4q (w.alloc (.cells #[.int .i64 k, .bool b, .int .i64 e, .string s] 25)) w.heap.size (.int .i64 k) (.bool b) (.int .i64 e) (.string s) ∧ Below w.heap.size w (w.alloc (.cells #[.int .i64 k, .bool b, .int .i64 e, .string s] 25))) := ⟨at4q_new w _ _ _ _, (Below.refl _ _).alloc (Nat.le_refl _) _⟩
  rw [HF.out]
  generalize nouB k s = Z at *
  clear HF he hs
  cases Z with
  | true =>
    go_enter Tryz.func105, Tryz.ntmps105
    go_wp2_with fail
    refine (HN.out _).mono ?_
    rintro x w1 ⟨rfl, hb1⟩
    go_wp2
    go_ret
    exact ⟨rfl, HA.out.2.trans (hb1.mono HA.out.2.size)⟩
  | false =>
    go_enter Tryz.func105, Tryz.ntmps105
    go_wp2_with fail
    refine (HN.out _).mono ?_
    rintro x w1 ⟨rfl, hb1⟩
    have HA1 : Hid (At4q w1 w.heap.size (.int .i64 k) (.bool b) (.int .i64 e) (.string s) ∧ Below w.heap.size w w1) := ⟨HA.out.1.next hb1, HA.out.2.trans (hb1.mono HA.out.2.size)⟩
    clear hb1 HA HN
    obtain ⟨c0, c1, c2, c3, c4⟩ := HA1.out.1.cells
    go_wp2
    go_ret
    exact ⟨rfl, HA1.out.2⟩
/-- A new row of two numbers. -/
theorem rowI_new (w : World) (x y : Int) (t : TypeId) : (w.alloc (.cells #[.int .i64 x, .int .i64 y] t)).cell? ⟨w.heap.size, 0, none⟩ = some (.int .i64 x) ∧ (w.alloc (.cells #[.int .i64 x, .int .i64 y] t)).cell? ⟨w.heap.size, 1, none⟩ = some (.int .i64 y) ∧ Below w.heap.size w (w.alloc (.cells #[.int .i64 x, .int .i64 y] t)) := by
  have h := (MapKept.heap_alloc w (.cells #[.int .i64 x, .int .i64 y] t)).1
  exact ⟨by unfold World.cell?; simp only [h]; rfl, by unfold World.cell?; simp only [h]; rfl, (Below.refl _ _).alloc (Nat.le_refl _) _⟩
set_option maxRecDepth 100000 in
theorem oSizes_any (ka : Int) (na : Bool) (ea : Int) (sa : ByteArray) (kb : Int) (nb : Bool) (eb : Int) (sb : ByteArray) (w : World) (hsa : sa.size ≤ 100) (hsb : sb.size ≤ 100) (hea : -20000 ≤ ea ∧ ea ≤ 20000) (heb : -20000 ≤ eb ∧ eb ≤ 20000) :
    Calls Tryz.prog 78 #[numV ka na ea sa, numV kb nb eb sb] w fun x w' => x = .returned (.int .i64 (cszI ka ea sa kb eb sb)) ∧ Below w.heap.size w w' := by
  have HTa : Hid (∀ X, Calls Tryz.prog 104 #[.string sa, .string { data := #[48] }] X fun e w' => e = .returned (.string (trS sa)) ∧ w' = X) := fun X => oTrim_any sa X hsa
  have HTb : Hid (∀ X, Calls Tryz.prog 104 #[.string sb, .string { data := #[48] }] X fun e w' => e = .returned (.string (trS sb)) ∧ w' = X) := fun X => oTrim_any sb X hsb
  have HCm : Hid (∀ X, Calls Tryz.prog 103 #[.string (trS sa), .string (trS sb)] X fun e w' => e = .returned (.int .i64 (Lib.compareBytes (trS sa).data.toList (trS sb).data.toList)) ∧ w' = X) := fun X => Tryz.strings_Compare (trS sa) (trS sb) X
  have HPa : Hid (∀ X, Calls Tryz.prog 105 #[numV ka na ea sa] X fun x w' => x = .returned (.int .i64 (fpl ka ea sa)) ∧ Below X.heap.size X w') := fun X => oPlace_any ka na ea sa X hsa hea
  have HPb : Hid (∀ X, Calls Tryz.prog 105 #[numV kb nb eb sb] X fun x w' => x = .returned (.int .i64 (fpl kb eb sb)) ∧ Below X.heap.size X w') := fun X => oPlace_any kb nb eb sb X hsb heb
  have HCi : Hid (∀ X, Calls Tryz.prog 77 #[.int .i64 (fpl ka ea sa), .int .i64 (fpl kb eb sb)] X fun e w' => e = .returned (.int .i64 (cI (fpl ka ea sa) (fpl kb eb sb))) ∧ w' = X) := fun X => oCmp_any _ _ X
  have HE : Hid (cszI ka ea sa kb eb sb = orI (cI (fpl ka ea sa) (fpl kb eb sb)) (Lib.compareBytes (trS sa).data.toList (trS sb).data.toList)) := rfl
  rw [HE.out]
  obtain ⟨hN0, hb0, hz0⟩ := n2_new w ka na ea sa kb nb eb sb
  have HN : Hid (N2 w.heap.size ka na ea sa kb nb eb sb ((w.alloc (.cells #[.int .i64 ka, .bool na, .int .i64 ea, .string sa] 25)).alloc (.cells #[.int .i64 kb, .bool nb, .int .i64 eb, .string sb] 25)) ∧ Below w.heap.size w ((w.alloc (.cells #[.int .i64 ka, .bool na, .int .i64 ea, .string sa] 25)).alloc (.cells #[.int .i64 kb, .bool nb, .int .i64 eb, .string sb] 25))) := ⟨hN0, hb0⟩
  clear hN0 hb0 hz0 HE hsa hsb hea heb
  generalize cI (fpl ka ea sa) (fpl kb eb sb) = C1 at *
  generalize fpl ka ea sa = PA at *
  generalize fpl kb eb sb = PB at *
  generalize Lib.compareBytes (trS sa).data.toList (trS sb).data.toList = C2 at *
  generalize trS sa = TA at *
  generalize trS sb = TB at *
  go_enter Tryz.func78, Tryz.ntmps78
  go_upto_region 1 with fail
  generalize ((w.alloc (.cells #[.int .i64 ka, .bool na, .int .i64 ea, .string sa] 25)).alloc (.cells #[.int .i64 kb, .bool nb, .int .i64 eb, .string sb] 25)) = w0 at *
  have HX0 : Hid (Below w0.heap.size w0 w0.drew) := (Below.refl _ _).drew
  refine wp_region_class (C := fun W => Below w0.heap.size w0 W) (by kernel_rfl) (by kernel_rfl) HX0.out ?_
  repeat (refine wpQuiet_step (fun K hK => ?_); go_simp; first | (refine hK _ ?_; clear hK K) | (apply Exists.intro; refine ⟨fun wx hC => ?_, hK _ ?_⟩; (first | exact rfl | ((with_reducible refine (HTa.out wx).mono ?_); exact (fun _ _ h => ⟨h.1, by rw [h.2]; exact hC⟩)) | ((with_reducible refine (HTb.out wx).mono ?_); exact (fun _ _ h => ⟨h.1, by rw [h.2]; exact hC⟩)) | ((with_reducible refine (HCm.out wx).mono ?_); exact (fun _ _ h => ⟨h.1, by rw [h.2]; exact hC⟩)) | (obtain ⟨q0, q1, q2, q3, q4⟩ := (HN.out.1.next hC).1.cells; go_simp; exact rfl) | (obtain ⟨q0, q1, q2, q3, q4⟩ := (HN.out.1.next hC).2.cells; go_simp; exact rfl)); clear hK K))
  refine wpQuiet_nil ?_
  intro w1 hb0
  have HN0 : Hid (N2 w.heap.size ka na ea sa kb nb eb sb w1 ∧ Below w.heap.size w w1) := ⟨HN.out.1.next hb0, HN.out.2.trans (hb0.mono HN.out.2.size)⟩
  clear hb0
  clear HX0 HN HTa HTb HCm
  go_upto_region 2 with fail
  have HX1 : Hid (Below w1.heap.size w1 w1.drew) := (Below.refl _ _).drew
  refine wp_region_tail (C := fun W => Below w1.heap.size w1 W) 6 (by kernel_rfl) (by kernel_rfl) HX1.out ?_
  simp only [List.take_succ_cons, List.take_zero, List.drop_succ_cons, List.drop_zero]
  repeat (refine wpQuiet_step (fun K hK => ?_); go_simp; first | (refine hK _ ?_; clear hK K) | (apply Exists.intro; refine ⟨fun wx hC => ?_, hK _ ?_⟩; (first | exact rfl | ((with_reducible refine Calls.class_of (HPa.out wx) ?_); exact (fun w' hb => bel1 hC hb)) | ((with_reducible refine Calls.class_of (HPb.out wx) ?_); exact (fun w' hb => bel1 hC hb)) | ((with_reducible refine (HCi.out wx).mono ?_); exact (fun _ _ h => ⟨h.1, by rw [h.2]; exact hC⟩)) | (obtain ⟨q0, q1, q2, q3, q4⟩ := (HN0.out.1.next hC).1.cells; go_simp; exact rfl) | (obtain ⟨q0, q1, q2, q3, q4⟩ := (HN0.out.1.next hC).2.cells; go_simp; exact rfl)); clear hK K))
  refine wpQuiet_nil ?_
  intro w2 hb2
  have HB2 : Hid (Below w.heap.size w w2) := HN0.out.2.trans (hb2.mono HN0.out.2.size)
  clear hb2 HN0 HX1 HPa HPb HCi
  have HRn : Hid (∀ t, (w2.alloc (.cells #[.int .i64 C1, .int .i64 C2] t)).cell? ⟨w2.heap.size, 0, none⟩ = some (.int .i64 C1) ∧ (w2.alloc (.cells #[.int .i64 C1, .int .i64 C2] t)).cell? ⟨w2.heap.size, 1, none⟩ = some (.int .i64 C2) ∧ Below w2.heap.size w2 (w2.alloc (.cells #[.int .i64 C1, .int .i64 C2] t))) := rowI_new w2 C1 C2
  go_wp2_with fail
  refine (oOr_any C1 C2 w2.heap.size _ (HRn.out _).1 (HRn.out _).2.1).mono ?_
  rintro x w3 ⟨rfl, rfl⟩
  have HB3 := HB2.out.trans ((HRn.out 3).2.2.mono HB2.out.size)
  go_wp2
  go_ret
  exact ⟨rfl, HB3⟩
end Go.Proofs.YtmndemegiimagasGreatDoor
