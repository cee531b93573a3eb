/-
  What is told of a right number: plain facts.
-/
import Derived.Test.YteofommckgeemaaGreatDoorFmt
import Derived.Test.YteofommckgeemaaGreatDoorCls
import Derived.BigQuiet
import Derived.Test.YteofommckgeemaaGreatDoorShf
import Derived.Test.YteofommckgeemaaGreatDoorQtl

namespace Go.Proofs.YteofommckgeemaaGreatDoor
open Go.RowKit
set_option linter.unusedVariables false
set_option maxRecDepth 100000
/-- A Num's four cells in a block, which may be written. -/
def At4q (W : World) (b : Nat) (x y z u : Value) : Prop := W.heap[b]? = some (.cells #[x, y, z, u] 78 (0, 0))
theorem at4q_new (w : World) (x y z u : Value) : At4q (w.alloc (.cells #[x, y, z, u] 78)) w.heap.size x y z u := (MapKept.heap_alloc w (.cells #[x, y, z, u] 78)).1
theorem At4q.cells {w : World} {b : Nat} {x y z u : Value} (h : At4q w b x y z u) : w.cell? ⟨b, 0, none⟩ = some x ∧ w.cell? ⟨b, 1, none⟩ = some y ∧ w.cell? ⟨b, 2, none⟩ = some z ∧ w.cell? ⟨b, 3, none⟩ = some u ∧ ∀ i, w.frozen? ⟨b, i, none⟩ = false := by
  unfold At4q at h
  exact ⟨by simp [World.cell?, h], by simp [World.cell?, h], by simp [World.cell?, h], by simp [World.cell?, h], fun i => by simp [World.frozen?, h]⟩
theorem At4q.lt {w : World} {b : Nat} {x y z u : Value} (h : At4q w b x y z u) : b < w.heap.size := (Array.getElem?_eq_some_iff.1 h).1
theorem At4q.below {w w' : World} {b B : Nat} {x y z u : Value} (h : At4q w b x y z u) (hb : Below B w w') (hB : b < B) : At4q w' b x y z u := (hb.block b hB).trans h
theorem At4q.next {w w' : World} {b : Nat} {x y z u : Value} (h : At4q w b x y z u) (hb : Below w.heap.size w w') : At4q w' b x y z u := h.below hb h.lt
/-- Two numbers' boxes. -/
abbrev n2W (w : World) (kx : Int) (nx : Bool) (ex : Int) (sx : ByteArray) (ky : Int) (ny : Bool) (ey : Int) (sy : ByteArray) : World := (w.alloc (.cells #[.int .i64 kx, .bool nx, .int .i64 ex, .string sx] 78)).alloc (.cells #[.int .i64 ky, .bool ny, .int .i64 ey, .string sy] 78)
def N2o (p : Nat) (kx : Int) (nx : Bool) (ex : Int) (sx : ByteArray) (ky : Int) (ny : Bool) (ey : Int) (sy : ByteArray) (W : World) : Prop :=
  At4q W p (.int .i64 kx) (.bool nx) (.int .i64 ex) (.string sx) ∧ At4q W (p + 1) (.int .i64 ky) (.bool ny) (.int .i64 ey) (.string sy)
theorem n2o_new (w : World) (kx : Int) (nx : Bool) (ex : Int) (sx : ByteArray) (ky : Int) (ny : Bool) (ey : Int) (sy : ByteArray) : N2o w.heap.size kx nx ex sx ky ny ey sy (n2W w kx nx ex sx ky ny ey sy) ∧ Below w.heap.size w (n2W w kx nx ex sx ky ny ey sy) ∧ (n2W w kx nx ex sx ky ny ey sy).heap.size = w.heap.size + 2 := by
  unfold n2W
  have h1 := at4q_new w (.int .i64 kx) (.bool nx) (.int .i64 ex) (.string sx)
  have z1 : (w.alloc (.cells #[.int .i64 kx, .bool nx, .int .i64 ex, .string sx] 78)).heap.size = w.heap.size + 1 := by simp
  have b1 : Below w.heap.size w (w.alloc (.cells #[.int .i64 kx, .bool nx, .int .i64 ex, .string sx] 78)) := (Below.refl _ _).alloc (Nat.le_refl _) _
  generalize w.alloc (.cells #[.int .i64 kx, .bool nx, .int .i64 ex, .string sx] 78) = w1 at *
  have h2 := at4q_new w1 (.int .i64 ky) (.bool ny) (.int .i64 ey) (.string sy)
  have z2 : (w1.alloc (.cells #[.int .i64 ky, .bool ny, .int .i64 ey, .string sy] 78)).heap.size = w1.heap.size + 1 := by simp
  have b2 : Below w1.heap.size w1 (w1.alloc (.cells #[.int .i64 ky, .bool ny, .int .i64 ey, .string sy] 78)) := (Below.refl _ _).alloc (Nat.le_refl _) _
  rw [z1] at h2
  exact ⟨⟨h1.next b2, h2⟩, b1.trans (b2.mono b1.size), by omega⟩
theorem N2o.next {p : Nat} {W W' : World} {kx : Int} {nx : Bool} {ex : Int} {sx : ByteArray} {ky : Int} {ny : Bool} {ey : Int} {sy : ByteArray} (h : N2o p kx nx ex sx ky ny ey sy W) (hb : Below W.heap.size W W') : N2o p kx nx ex sx ky ny ey sy W' := ⟨h.1.next hb, h.2.next hb⟩
end Go.Proofs.YteofommckgeemaaGreatDoor
namespace Go.Proofs.YteofommckgeemaaGreatDoor
open Go.RowKit
set_option linter.unusedVariables false
set_option maxRecDepth 100000
/-- -1, 0, 1 of two numbers. -/
def cI (x y : Int) : Int := if x < y then -1 else if y < x then 1 else 0
def orI (x y : Int) : Int := if x = 0 then y else x
/-- Is it a nought? -/
def nouB (k : Int) (s : ByteArray) : Bool := (k == 1) && (s.toList == [48])
/-- The place of the first digit. -/
def fpl (k e : Int) (s : ByteArray) : Int := if nouB k s then -9223372036854775808 else e + s.size
/-- A text without the noughts behind it. -/
def trS (s : ByteArray) : ByteArray := ⟨(Lib.trimRightB s.data.toList 48).toArray⟩
def cszI (ka ea : Int) (sa : ByteArray) (kb eb : Int) (sb : ByteArray) : Int := orI (cI (fpl ka ea sa) (fpl kb eb sb)) (Lib.compareBytes (trS sa).data.toList (trS sb).data.toList)
theorem oNaN_any (x : Int) (w : World) : Calls Tryz.prog 275 #[.int .i64 x] w fun e w' => e = .returned (.bool false) ∧ w' = w := by
  go_enter Tryz.func275, Tryz.ntmps275
  go_wp2
  go_ret
  exact ⟨by simp, rfl⟩
theorem oCmp_any (x y : Int) (w : World) : Calls Tryz.prog 234 #[.int .i64 x, .int .i64 y] w fun e w' => e = .returned (.int .i64 (cI x y)) ∧ w' = w := by
  by_cases h1 : x < y
  · have E : Hid (cI x y = -1) := if_pos h1
    rw [E.out]
    go_enter Tryz.func234, Tryz.ntmps234
    go_wp2_with fail
    refine (oNaN_any x _).mono ?_
    rintro e w1 ⟨rfl, rfl⟩
    go_wp2_with fail
    refine (oNaN_any y _).mono ?_
    rintro e w1 ⟨rfl, rfl⟩
    go_wp2
    go_ret
    exact ⟨rfl, rfl⟩
  · by_cases h2 : y < x
    · have E : Hid (cI x y = 1) := by show _ = _; unfold cI; rw [if_neg h1, if_pos h2]
      rw [E.out]
      go_enter Tryz.func234, Tryz.ntmps234
      go_wp2_with fail
      refine (oNaN_any x _).mono ?_
      rintro e w1 ⟨rfl, rfl⟩
      go_wp2_with fail
      refine (oNaN_any y _).mono ?_
      rintro e w1 ⟨rfl, rfl⟩
      go_wp2
      go_ret
      exact ⟨rfl, rfl⟩
    · have E : Hid (cI x y = 0) := by show _ = _; unfold cI; rw [if_neg h1, if_neg h2]
      rw [E.out]
      go_enter Tryz.func234, Tryz.ntmps234
      go_wp2_with fail
      refine (oNaN_any x _).mono ?_
      rintro e w1 ⟨rfl, rfl⟩
      go_wp2_with fail
      refine (oNaN_any y _).mono ?_
      rintro e w1 ⟨rfl, rfl⟩
      go_wp2
      go_ret
      exact ⟨rfl, rfl⟩
/-- The first of two that is not nought. -/
theorem oOr_any (x y : Int) (g : Nat) (w : World) (c0 : w.cell? ⟨g, 0, none⟩ = some (.int .i64 x)) (c1 : w.cell? ⟨g, 1, none⟩ = some (.int .i64 y)) :
    Calls Tryz.prog 233 #[.slice (some ⟨g, 0, none⟩) 2 2] w fun e w' => e = .returned (.int .i64 (orI x y)) ∧ w' = w := by
  obtain ⟨R, hR⟩ : ∃ R, orI x y = R := ⟨_, rfl⟩
  have HR : Hid (orI x y = R) := hR
  rw [hR]
  clear hR
  go_enter Tryz.func233, Tryz.ntmps233
  go_wp2
  go_loopw [8] (fun s wr => ∃ j : Nat, j ≤ 2 ∧ s = .int .i64 j ∧ Hid (0 < j → x = 0) ∧ Hid (1 < j → y = 0) ∧ wr = w) (fun s _ => 2 - (intOf s).toNat)
  case atStart => exact ⟨0, Nat.zero_le _, rfl, fun h => by omega, fun h => by omega, rfl⟩
  case round =>
    obtain ⟨j, hj, rfl, hx, hy, rfl⟩ := hrel
    match j, hj with
    | 0, _ =>
      by_cases h0 : x = 0
      · subst h0
        clear hx hy
        go_wp2
        go_roundw
        case rel => exact ⟨1, by omega, by go_num, by first | exact fun _ => trivial | exact fun _ => rfl, fun h => by omega, by first | exact trivial | rfl⟩
        case measure => simp [intOf]
      · have hb : (x == 0) = false := by simpa using h0
        have E0 : Hid (R = x) := by show _ = _; rw [← HR.out]; exact if_neg h0
        clear hx hy h0
        go_wp2
        go_ret
        exact ⟨by rw [E0.out]; rfl, rfl⟩
    | 1, _ =>
      have e0 := hx.out (by omega)
      subst e0
      by_cases h0 : y = 0
      · subst h0
        clear hx hy
        go_wp2
        go_roundw
        case rel => exact ⟨2, by omega, by go_num, by first | exact fun _ => trivial | exact fun _ => rfl, by first | exact fun _ => trivial | exact fun _ => rfl, by first | exact trivial | rfl⟩
        case measure => simp [intOf]
      · have hb : (y == 0) = false := by simpa using h0
        have E0 : Hid (R = y) := by show _ = _; rw [← HR.out]; exact if_pos rfl
        clear hx hy h0
        go_wp2
        go_ret
        exact ⟨by rw [E0.out]; rfl, rfl⟩
    | 2, _ =>
      have e0 := hx.out (by omega)
      have e1 := hy.out (by omega)
      subst e0 e1
      have E0 : Hid (R = 0) := by show _ = _; rw [← HR.out]; exact if_pos rfl
      clear hx hy
      go_wp2
      go_ret
      exact ⟨by rw [E0.out]; rfl, rfl⟩
theorem oNought_any (k : Int) (b : Bool) (e : Int) (s : ByteArray) (w : World) : Calls Tryz.prog 93 #[numV k b e s] w fun x w' => x = .returned (.bool (nouB k s)) ∧ Below w.heap.size w w' := by
  cases h1 : (k == 1) with
  | false =>
    have E : Hid (nouB k s = false) := by show _ = _; unfold nouB; rw [h1]; rfl
    rw [E.out]
    go_enter Tryz.func93, Tryz.ntmps93
    go_wp2
    go_ret
    exact ⟨rfl, (Below.refl _ _).alloc (Nat.le_refl _) _⟩
  | true =>
    cases h2 : (s.toList == [48]) with
    | false =>
      have E : Hid (nouB k s = false) := by show _ = _; unfold nouB; rw [h1, h2]; rfl
      rw [E.out]
      go_enter Tryz.func93, Tryz.ntmps93
      go_wp2
      go_ret
      exact ⟨rfl, (Below.refl _ _).alloc (Nat.le_refl _) _⟩
    | true =>
      have E : Hid (nouB k s = true) := by show _ = _; unfold nouB; rw [h1, h2]; rfl
      rw [E.out]
      go_enter Tryz.func93, Tryz.ntmps93
      go_wp2
      go_ret
      exact ⟨rfl, (Below.refl _ _).alloc (Nat.le_refl _) _⟩
theorem oTrim_any (s : ByteArray) (w : World) (hs : s.size ≤ 100) : Calls Tryz.prog 277 #[.string s, .string { data := #[48] }] w fun e w' => e = .returned (.string (trS s)) ∧ w' = w :=
  Tryz.strings_TrimRight_one s 48 (by decide) w (by omega)
theorem oPlace_any (k : Int) (b : Bool) (e : Int) (s : ByteArray) (w : World) (hs : s.size ≤ 100) (he : -20000 ≤ e ∧ e ≤ 20000) : Calls Tryz.prog 278 #[numV k b e s] w fun x w' => x = .returned (.int .i64 (fpl k e s)) ∧ Below w.heap.size w w' := by
  have HN : Hid (∀ X, Calls Tryz.prog 93 #[numV k b e s] X fun x w' => x = .returned (.bool (nouB k s)) ∧ Below X.heap.size X w') := fun X => oNought_any k b e s X
  have HF : Hid (fpl k e s = if nouB k s then -9223372036854775808 else e + s.size) := rfl
  have hw : IntKind.i64.wrap (e + (s.size : Int)) = e + s.size := by rw [IntKind.wrap_i64]; omega
  have HA : Hid (At4q (w.alloc (.cells #[.int .i64 k, .bool b, .int .i64 e, .string s] 78)) w.heap.size (.int .i64 k) (.bool b) (.int .i64 e) (.string s) ∧ Below w.heap.size w (w.alloc (.cells #[.int .i64 k, .bool b, .int .i64 e, .string s] 78))) := ⟨at4q_new w _ _ _ _, (Below.refl _ _).alloc (Nat.le_refl _) _⟩
  rw [HF.out]
  generalize nouB k s = Z at *
  clear HF he hs
  cases Z with
  | true =>
    go_enter Tryz.func278, Tryz.ntmps278
    go_wp2_with fail
    refine (HN.out _).mono ?_
    rintro x w1 ⟨rfl, hb1⟩
    go_wp2
    go_ret
    exact ⟨rfl, HA.out.2.trans (hb1.mono HA.out.2.size)⟩
  | false =>
    go_enter Tryz.func278, Tryz.ntmps278
    go_wp2_with fail
    refine (HN.out _).mono ?_
    rintro x w1 ⟨rfl, hb1⟩
    have HA1 : Hid (At4q w1 w.heap.size (.int .i64 k) (.bool b) (.int .i64 e) (.string s) ∧ Below w.heap.size w w1) := ⟨HA.out.1.next hb1, HA.out.2.trans (hb1.mono HA.out.2.size)⟩
    clear hb1 HA HN
    obtain ⟨c0, c1, c2, c3, c4⟩ := HA1.out.1.cells
    go_wp2
    go_ret
    exact ⟨rfl, HA1.out.2⟩
/-- A new row of two numbers. -/
theorem rowI_new (w : World) (x y : Int) (t : TypeId) : (w.alloc (.cells #[.int .i64 x, .int .i64 y] t)).cell? ⟨w.heap.size, 0, none⟩ = some (.int .i64 x) ∧ (w.alloc (.cells #[.int .i64 x, .int .i64 y] t)).cell? ⟨w.heap.size, 1, none⟩ = some (.int .i64 y) ∧ Below w.heap.size w (w.alloc (.cells #[.int .i64 x, .int .i64 y] t)) := by
  have h := (MapKept.heap_alloc w (.cells #[.int .i64 x, .int .i64 y] t)).1
  exact ⟨by unfold World.cell?; simp only [h]; rfl, by unfold World.cell?; simp only [h]; rfl, (Below.refl _ _).alloc (Nat.le_refl _) _⟩
set_option maxRecDepth 100000 in
theorem oSizes_any (ka : Int) (na : Bool) (ea : Int) (sa : ByteArray) (kb : Int) (nb : Bool) (eb : Int) (sb : ByteArray) (w : World) (hsa : sa.size ≤ 100) (hsb : sb.size ≤ 100) (hea : -20000 ≤ ea ∧ ea ≤ 20000) (heb : -20000 ≤ eb ∧ eb ≤ 20000) :
    Calls Tryz.prog 235 #[numV ka na ea sa, numV kb nb eb sb] w fun x w' => x = .returned (.int .i64 (cszI ka ea sa kb eb sb)) ∧ Below w.heap.size w w' := by
  have HTa : Hid (∀ X, Calls Tryz.prog 277 #[.string sa, .string { data := #[48] }] X fun e w' => e = .returned (.string (trS sa)) ∧ w' = X) := fun X => oTrim_any sa X hsa
  have HTb : Hid (∀ X, Calls Tryz.prog 277 #[.string sb, .string { data := #[48] }] X fun e w' => e = .returned (.string (trS sb)) ∧ w' = X) := fun X => oTrim_any sb X hsb
  have HCm : Hid (∀ X, Calls Tryz.prog 276 #[.string (trS sa), .string (trS sb)] X fun e w' => e = .returned (.int .i64 (Lib.compareBytes (trS sa).data.toList (trS sb).data.toList)) ∧ w' = X) := fun X => Tryz.strings_Compare (trS sa) (trS sb) X
  have HPa : Hid (∀ X, Calls Tryz.prog 278 #[numV ka na ea sa] X fun x w' => x = .returned (.int .i64 (fpl ka ea sa)) ∧ Below X.heap.size X w') := fun X => oPlace_any ka na ea sa X hsa hea
  have HPb : Hid (∀ X, Calls Tryz.prog 278 #[numV kb nb eb sb] X fun x w' => x = .returned (.int .i64 (fpl kb eb sb)) ∧ Below X.heap.size X w') := fun X => oPlace_any kb nb eb sb X hsb heb
  have HCi : Hid (∀ X, Calls Tryz.prog 234 #[.int .i64 (fpl ka ea sa), .int .i64 (fpl kb eb sb)] X fun e w' => e = .returned (.int .i64 (cI (fpl ka ea sa) (fpl kb eb sb))) ∧ w' = X) := fun X => oCmp_any _ _ X
  have HE : Hid (cszI ka ea sa kb eb sb = orI (cI (fpl ka ea sa) (fpl kb eb sb)) (Lib.compareBytes (trS sa).data.toList (trS sb).data.toList)) := rfl
  rw [HE.out]
  obtain ⟨hN0, hb0, hz0⟩ := n2o_new w ka na ea sa kb nb eb sb
  have HN : Hid (N2o w.heap.size ka na ea sa kb nb eb sb ((w.alloc (.cells #[.int .i64 ka, .bool na, .int .i64 ea, .string sa] 78)).alloc (.cells #[.int .i64 kb, .bool nb, .int .i64 eb, .string sb] 78)) ∧ Below w.heap.size w ((w.alloc (.cells #[.int .i64 ka, .bool na, .int .i64 ea, .string sa] 78)).alloc (.cells #[.int .i64 kb, .bool nb, .int .i64 eb, .string sb] 78))) := ⟨hN0, hb0⟩
  clear hN0 hb0 hz0 HE hsa hsb hea heb
  generalize cI (fpl ka ea sa) (fpl kb eb sb) = C1 at *
  generalize fpl ka ea sa = PA at *
  generalize fpl kb eb sb = PB at *
  generalize Lib.compareBytes (trS sa).data.toList (trS sb).data.toList = C2 at *
  generalize trS sa = TA at *
  generalize trS sb = TB at *
  go_enter Tryz.func235, Tryz.ntmps235
  go_upto_region 1 with fail
  generalize ((w.alloc (.cells #[.int .i64 ka, .bool na, .int .i64 ea, .string sa] 78)).alloc (.cells #[.int .i64 kb, .bool nb, .int .i64 eb, .string sb] 78)) = w0 at *
  have HX0 : Hid (Below w0.heap.size w0 w0.drew) := (Below.refl _ _).drew
  refine wp_region_class (C := fun W => Below w0.heap.size w0 W) (by kernel_rfl) (by kernel_rfl) HX0.out ?_
  repeat (refine wpQuiet_step (fun K hK => ?_); go_simp; first | (refine hK _ ?_; clear hK K) | (apply Exists.intro; refine ⟨fun wx hC => ?_, hK _ ?_⟩; (first | exact rfl | ((with_reducible refine (HTa.out wx).mono ?_); exact (fun _ _ h => ⟨h.1, by rw [h.2]; exact hC⟩)) | ((with_reducible refine (HTb.out wx).mono ?_); exact (fun _ _ h => ⟨h.1, by rw [h.2]; exact hC⟩)) | ((with_reducible refine (HCm.out wx).mono ?_); exact (fun _ _ h => ⟨h.1, by rw [h.2]; exact hC⟩)) | (obtain ⟨q0, q1, q2, q3, q4⟩ := (HN.out.1.next hC).1.cells; go_simp; exact rfl) | (obtain ⟨q0, q1, q2, q3, q4⟩ := (HN.out.1.next hC).2.cells; go_simp; exact rfl)); clear hK K))
  refine wpQuiet_nil ?_
  intro w1 hb0
  have HN0 : Hid (N2o w.heap.size ka na ea sa kb nb eb sb w1 ∧ Below w.heap.size w w1) := ⟨HN.out.1.next hb0, HN.out.2.trans (hb0.mono HN.out.2.size)⟩
  clear hb0
  clear HX0 HN HTa HTb HCm
  go_upto_region 2 with fail
  have HX1 : Hid (Below w1.heap.size w1 w1.drew) := (Below.refl _ _).drew
  refine wp_region_tail (C := fun W => Below w1.heap.size w1 W) 6 (by kernel_rfl) (by kernel_rfl) HX1.out ?_
  simp only [List.take_succ_cons, List.take_zero, List.drop_succ_cons, List.drop_zero]
  repeat (refine wpQuiet_step (fun K hK => ?_); go_simp; first | (refine hK _ ?_; clear hK K) | (apply Exists.intro; refine ⟨fun wx hC => ?_, hK _ ?_⟩; (first | exact rfl | ((with_reducible refine Calls.class_of (HPa.out wx) ?_); exact (fun w' hb => bel1 hC hb)) | ((with_reducible refine Calls.class_of (HPb.out wx) ?_); exact (fun w' hb => bel1 hC hb)) | ((with_reducible refine (HCi.out wx).mono ?_); exact (fun _ _ h => ⟨h.1, by rw [h.2]; exact hC⟩)) | (obtain ⟨q0, q1, q2, q3, q4⟩ := (HN0.out.1.next hC).1.cells; go_simp; exact rfl) | (obtain ⟨q0, q1, q2, q3, q4⟩ := (HN0.out.1.next hC).2.cells; go_simp; exact rfl)); clear hK K))
  refine wpQuiet_nil ?_
  intro w2 hb2
  have HB2 : Hid (Below w.heap.size w w2) := HN0.out.2.trans (hb2.mono HN0.out.2.size)
  clear hb2 HN0 HX1 HPa HPb HCi
  have HRn : Hid (∀ t, (w2.alloc (.cells #[.int .i64 C1, .int .i64 C2] t)).cell? ⟨w2.heap.size, 0, none⟩ = some (.int .i64 C1) ∧ (w2.alloc (.cells #[.int .i64 C1, .int .i64 C2] t)).cell? ⟨w2.heap.size, 1, none⟩ = some (.int .i64 C2) ∧ Below w2.heap.size w2 (w2.alloc (.cells #[.int .i64 C1, .int .i64 C2] t))) := rowI_new w2 C1 C2
  go_wp2_with fail
  refine (oOr_any C1 C2 w2.heap.size _ (HRn.out _).1 (HRn.out _).2.1).mono ?_
  rintro x w3 ⟨rfl, rfl⟩
  have HB3 := HB2.out.trans ((HRn.out 3).2.2.mono HB2.out.size)
  go_wp2
  go_ret
  exact ⟨rfl, HB3⟩
end Go.Proofs.YteofommckgeemaaGreatDoor

namespace Go.Proofs.YteofommckgeemaaGreatDoor
open Go.RowKit
set_option linter.unusedVariables false
set_option maxRecDepth 100000
/-- The place of a kind. -/
def kpl (k : Int) : Int := if k = 1 then 0 else if k = 2 then 1 else if k = 4 then 2 else 3
/-- The table of places lies in its variable. -/
def KTab (w : World) : Prop := (∀ k : Nat, 1 ≤ k → k ≤ 4 → w.cell? ⟨1, k, none⟩ = some (.int .i64 (kpl k))) ∧ 1 < w.heap.size
theorem KTab.below {B : Nat} {w w' : World} (h : KTab w) (hb : Below B w w') (hB : 1 < B) : KTab w' :=
  ⟨fun k h1 h4 => (hb.cell (p := ⟨1, k, none⟩) hB).trans (h.1 k h1 h4), Nat.lt_of_lt_of_le h.2 hb.size⟩
theorem KTab.next {w w' : World} (h : KTab w) (hb : Below w.heap.size w w') : KTab w' := h.below hb h.2
/-- Two of one sign, above nought. -/
def cmpU (x : Bool) (ka ea : Int) (sa : ByteArray) (kb eb : Int) (sb : ByteArray) : Int :=
  if x then orI (orI (cI (kpl ka) (kpl kb)) (cszI ka ea sa kb eb sb)) (cI ea eb) else orI (cI (kpl ka) (kpl kb)) (cszI ka ea sa kb eb sb)
def cmpR (x : Bool) (ka : Int) (na : Bool) (ea : Int) (sa : ByteArray) (kb : Int) (nb : Bool) (eb : Int) (sb : ByteArray) : Int :=
  if na && !nb then -1 else if nb && !na then 1 else if na then cmpU x kb eb sb ka ea sa else cmpU x ka ea sa kb eb sb
/-- The box of how it is compared, and the two numbers'. -/
def N3o (p : Nat) (x : Bool) (ka : Int) (na : Bool) (ea : Int) (sa : ByteArray) (kb : Int) (nb : Bool) (eb : Int) (sb : ByteArray) (W : World) : Prop :=
  W.heap[p]? = some (.cells #[.bool x] 204 (0, 0)) ∧ At4q W (p + 1) (.int .i64 ka) (.bool na) (.int .i64 ea) (.string sa) ∧ At4q W (p + 2) (.int .i64 kb) (.bool nb) (.int .i64 eb) (.string sb)
theorem N3o.next {p : Nat} {x : Bool} {W W' : World} {ka : Int} {na : Bool} {ea : Int} {sa : ByteArray} {kb : Int} {nb : Bool} {eb : Int} {sb : ByteArray} (h : N3o p x ka na ea sa kb nb eb sb W) (hb : Below W.heap.size W W') : N3o p x ka na ea sa kb nb eb sb W' :=
  ⟨(hb.block p (Array.getElem?_eq_some_iff.1 h.1).1).trans h.1, h.2.1.next hb, h.2.2.next hb⟩
theorem N3o.box {p : Nat} {x : Bool} {W : World} {ka : Int} {na : Bool} {ea : Int} {sa : ByteArray} {kb : Int} {nb : Bool} {eb : Int} {sb : ByteArray} (h : N3o p x ka na ea sa kb nb eb sb W) : W.cell? ⟨p, 0, none⟩ = some (.bool x) := by
  unfold World.cell?; simp only [h.1]; rfl
theorem n3o_new (w : World) (x : Bool) (ka : Int) (na : Bool) (ea : Int) (sa : ByteArray) (kb : Int) (nb : Bool) (eb : Int) (sb : ByteArray) :
    N3o w.heap.size x ka na ea sa kb nb eb sb (n2W (w.alloc (.cells #[.bool x] 204)) ka na ea sa kb nb eb sb) ∧ Below w.heap.size w (n2W (w.alloc (.cells #[.bool x] 204)) ka na ea sa kb nb eb sb) := by
  have h1 := (MapKept.heap_alloc w (.cells #[.bool x] 204)).1
  have z1 : (w.alloc (.cells #[.bool x] 204)).heap.size = w.heap.size + 1 := by simp
  have b1 : Below w.heap.size w (w.alloc (.cells #[.bool x] 204)) := (Below.refl _ _).alloc (Nat.le_refl _) _
  generalize w.alloc (.cells #[.bool x] 204) = w1 at *
  obtain ⟨hN, hb, hz⟩ := n2o_new w1 ka na ea sa kb nb eb sb
  rw [z1] at hN
  exact ⟨⟨(hb.block _ (by omega)).trans h1, hN.1, hN.2⟩, b1.trans (hb.mono b1.size)⟩
end Go.Proofs.YteofommckgeemaaGreatDoor

namespace Go.Proofs.YteofommckgeemaaGreatDoor
open Go.RowKit
set_option linter.unusedVariables false
set_option maxRecDepth 100000
set_option maxRecDepth 100000 in
set_option maxHeartbeats 1000000 in
theorem oCompare_any (x : Bool) (ka : Nat) (na : Bool) (ea : Int) (sa : ByteArray) (kb : Nat) (nb : Bool) (eb : Int) (sb : ByteArray) (w : World) (hka : 1 ≤ ka ∧ ka ≤ 4) (hkb : 1 ≤ kb ∧ kb ≤ 4) (hsa : sa.size ≤ 100) (hsb : sb.size ≤ 100) (hea : -20000 ≤ ea ∧ ea ≤ 20000) (heb : -20000 ≤ eb ∧ eb ≤ 20000) (hT : KTab w) :
    Calls Tryz.prog 181 #[.agg #[.bool x], numV ka na ea sa, numV kb nb eb sb] w fun r w' => r = .returned (.int .i64 (cmpR x ka na ea sa kb nb eb sb)) ∧ Below w.heap.size w w' := by
  have HN : Hid (N3o w.heap.size x ka na ea sa kb nb eb sb (((w.alloc (.cells #[.bool x] 204)).alloc (.cells #[.int .i64 ka, .bool na, .int .i64 ea, .string sa] 78)).alloc (.cells #[.int .i64 kb, .bool nb, .int .i64 eb, .string sb] 78)) ∧ Below w.heap.size w (((w.alloc (.cells #[.bool x] 204)).alloc (.cells #[.int .i64 ka, .bool na, .int .i64 ea, .string sa] 78)).alloc (.cells #[.int .i64 kb, .bool nb, .int .i64 eb, .string sb] 78))) := n3o_new w x ka na ea sa kb nb eb sb
  have HT : Hid (KTab (((w.alloc (.cells #[.bool x] 204)).alloc (.cells #[.int .i64 ka, .bool na, .int .i64 ea, .string sa] 78)).alloc (.cells #[.int .i64 kb, .bool nb, .int .i64 eb, .string sb] 78))) := hT.next HN.out.2
  have HC : Hid (∀ (kx : Nat) (nx : Bool) (ex : Int) (sx : ByteArray) (ky : Nat) (ny : Bool) (ey : Int) (sy : ByteArray), sx.size ≤ 100 → sy.size ≤ 100 → (-20000 ≤ ex ∧ ex ≤ 20000) → (-20000 ≤ ey ∧ ey ≤ 20000) → ∀ X, Calls Tryz.prog 235 #[numV kx nx ex sx, numV ky ny ey sy] X fun r w' => r = .returned (.int .i64 (cszI kx ex sx ky ey sy)) ∧ Below X.heap.size X w') := fun kx nx ex sx ky ny ey sy h1 h2 h3 h4 X => oSizes_any kx nx ex sx ky ny ey sy X h1 h2 h3 h4
  have HI : Hid (∀ (u v : Int) X, Calls Tryz.prog 234 #[.int .i64 u, .int .i64 v] X fun e w' => e = .returned (.int .i64 (cI u v)) ∧ w' = X) := fun u v X => oCmp_any u v X
  have HT0 : Hid (KTab w) := hT
  clear hT
  cases na with
  | true =>
    cases nb with
    | false =>
      clear HC HI HT HT0
      go_enter Tryz.func181, Tryz.ntmps181
      go_wp2
      go_ret
      exact ⟨rfl, HN.out.2⟩
    | true =>
      have E : Hid (cmpR x ka true ea sa kb true eb sb = cmpU x kb eb sb ka ea sa) := rfl
      rw [E.out]
      have HCz : Hid (∀ X, Calls Tryz.prog 235 #[numV kb true eb sb, numV ka true ea sa] X fun r w' => r = .returned (.int .i64 (cszI kb eb sb ka ea sa)) ∧ Below X.heap.size X w') := HC.out kb true eb sb ka true ea sa hsb hsa heb hea
      have HU : Hid (cmpU x kb eb sb ka ea sa = if x then orI (orI (cI (kpl kb) (kpl ka)) (cszI kb eb sb ka ea sa)) (cI eb ea) else orI (cI (kpl kb) (kpl ka)) (cszI kb eb sb ka ea sa)) := rfl
      rw [HU.out]
      have HCp : Hid (∀ X, Calls Tryz.prog 234 #[.int .i64 (kpl kb), .int .i64 (kpl ka)] X fun e w' => e = .returned (.int .i64 (cI (kpl kb) (kpl ka))) ∧ w' = X) := HI.out _ _
      have HCe : Hid (∀ X, Calls Tryz.prog 234 #[.int .i64 eb, .int .i64 ea] X fun e w' => e = .returned (.int .i64 (cI eb ea)) ∧ w' = X) := HI.out _ _
      clear E HU HC HI
      have ha0 : (0 : Int) ≤ (ka : Int) := by omega
      have ha1 : (ka : Int) < 5 := by omega
      have hb0 : (0 : Int) ≤ (kb : Int) := by omega
      have hb1 : (kb : Int) < 5 := by omega
      have HK : Hid (1 ≤ ka ∧ ka ≤ 4 ∧ 1 ≤ kb ∧ kb ≤ 4) := ⟨hka.1, hka.2, hkb.1, hkb.2⟩
      clear hka hkb hsa hsb hea heb
      generalize cszI kb eb sb ka ea sa = CZ at *
      generalize cI eb ea = CE at *
      generalize hKa : kpl kb = PA at *
      generalize hKb : kpl ka = PB at *
      have HPA : Hid (kpl kb = PA ∧ kpl ka = PB) := ⟨hKa, hKb⟩
      clear hKa hKb
      generalize cI PA PB = CK at *
      obtain ⟨O1, hO1⟩ : ∃ O, orI CK CZ = O := ⟨_, rfl⟩
      rw [hO1]
      have HOr : Hid (∀ (g : Nat) X, X.cell? ⟨g, 0, none⟩ = some (.int .i64 CK) → X.cell? ⟨g, 1, none⟩ = some (.int .i64 CZ) → Calls Tryz.prog 233 #[.slice (some ⟨g, 0, none⟩) 2 2] X fun e w' => e = .returned (.int .i64 O1) ∧ w' = X) := fun g X h0 h1 => hO1 ▸ oOr_any CK CZ g X h0 h1
      clear hO1
      clear HN HT
      have HN : Hid (N3o w.heap.size x kb true eb sb ka true ea sa (((w.alloc (.cells #[.bool x] 204)).alloc (.cells #[.int .i64 kb, .bool true, .int .i64 eb, .string sb] 78)).alloc (.cells #[.int .i64 ka, .bool true, .int .i64 ea, .string sa] 78)) ∧ Below w.heap.size w (((w.alloc (.cells #[.bool x] 204)).alloc (.cells #[.int .i64 kb, .bool true, .int .i64 eb, .string sb] 78)).alloc (.cells #[.int .i64 ka, .bool true, .int .i64 ea, .string sa] 78))) := n3o_new w x kb true eb sb ka true ea sa
      have HT : Hid (KTab (((w.alloc (.cells #[.bool x] 204)).alloc (.cells #[.int .i64 kb, .bool true, .int .i64 eb, .string sb] 78)).alloc (.cells #[.int .i64 ka, .bool true, .int .i64 ea, .string sa] 78))) := HT0.out.next HN.out.2
      clear HT0
      go_enter Tryz.func181, Tryz.ntmps181
      go_upto_region 7 with fail
      generalize (((w.alloc (.cells #[.bool x] 204)).alloc (.cells #[.int .i64 kb, .bool true, .int .i64 eb, .string sb] 78)).alloc (.cells #[.int .i64 ka, .bool true, .int .i64 ea, .string sa] 78)) = w0 at *
      have HX0 : Hid (Below w0.heap.size w0 w0.drew) := (Below.refl _ _).drew
      refine wp_region_tail (C := fun W => Below w0.heap.size w0 W) 12 (by kernel_rfl) (by kernel_rfl) HX0.out ?_
      simp only [List.take_succ_cons, List.take_zero, List.drop_succ_cons, List.drop_zero]
      repeat (refine wpQuiet_step (fun K hK => ?_); go_simp; first | (refine hK _ ?_; clear hK K) | (apply Exists.intro; refine ⟨fun wx hC => ?_, hK _ ?_⟩; (first | exact rfl | ((with_reducible refine Calls.class_of (HCz.out wx) ?_); exact (fun w' hb => bel1 hC hb)) | ((with_reducible refine (HCp.out wx).mono ?_); exact (fun _ _ h => ⟨h.1, by rw [h.2]; exact hC⟩)) | (obtain ⟨q0, q1, q2, q3, q4⟩ := (HN.out.1.next hC).2.1.cells; go_simp; exact rfl) | (obtain ⟨q0, q1, q2, q3, q4⟩ := (HN.out.1.next hC).2.2.cells; go_simp; exact rfl) | (have q0 := (HT.out.next hC).1 kb (by have := HK.out; omega) (by have := HK.out; omega); rw [HPA.out.1] at q0; go_simp; exact rfl) | (have q0 := (HT.out.next hC).1 ka (by have := HK.out; omega) (by have := HK.out; omega); rw [HPA.out.2] at q0; go_simp; exact rfl)); clear hK K))
      refine wpQuiet_nil ?_
      intro w2 hb2
      have HN2 : Hid (N3o w.heap.size x kb true eb sb ka true ea sa w2 ∧ Below w.heap.size w w2) := ⟨HN.out.1.next hb2, HN.out.2.trans (hb2.mono HN.out.2.size)⟩
      clear hb2 HN HX0 HT HCz HCp
      have HRn : Hid (∀ t, (w2.alloc (.cells #[.int .i64 CK, .int .i64 CZ] t)).cell? ⟨w2.heap.size, 0, none⟩ = some (.int .i64 CK) ∧ (w2.alloc (.cells #[.int .i64 CK, .int .i64 CZ] t)).cell? ⟨w2.heap.size, 1, none⟩ = some (.int .i64 CZ) ∧ Below w2.heap.size w2 (w2.alloc (.cells #[.int .i64 CK, .int .i64 CZ] t))) := rowI_new w2 CK CZ
      go_wp2_with fail
      refine (HOr.out w2.heap.size _ (HRn.out _).1 (HRn.out _).2.1).mono ?_
      rintro r w3 ⟨rfl, rfl⟩
      have HN3 : Hid (N3o w.heap.size x kb true eb sb ka true ea sa (w2.alloc (.cells #[.int .i64 CK, .int .i64 CZ] 3)) ∧ Below w.heap.size w (w2.alloc (.cells #[.int .i64 CK, .int .i64 CZ] 3))) := ⟨HN2.out.1.next (HRn.out _).2.2, HN2.out.2.trans ((HRn.out _).2.2.mono HN2.out.2.size)⟩
      clear HN2 HRn HOr
      generalize w2.alloc (.cells #[.int .i64 CK, .int .i64 CZ] 3) = w3 at *
      have q0 := HN3.out.1.box
      obtain ⟨c0, c1, c2, c3, c4⟩ := HN3.out.1.2.1.cells
      obtain ⟨d0, d1, d2, d3, d4⟩ := HN3.out.1.2.2.cells
      cases x with
      | false =>
        go_wp2
        go_ret
        exact ⟨rfl, HN3.out.2⟩
      | true =>
        go_wp2_with fail
        refine (HCe.out _).mono ?_
        rintro r w4 ⟨rfl, rfl⟩
        have HRm : Hid (∀ t, (w4.alloc (.cells #[.int .i64 O1, .int .i64 CE] t)).cell? ⟨w4.heap.size, 0, none⟩ = some (.int .i64 O1) ∧ (w4.alloc (.cells #[.int .i64 O1, .int .i64 CE] t)).cell? ⟨w4.heap.size, 1, none⟩ = some (.int .i64 CE) ∧ Below w4.heap.size w4 (w4.alloc (.cells #[.int .i64 O1, .int .i64 CE] t))) := rowI_new w4 O1 CE
        go_wp2_with fail
        refine (oOr_any O1 CE w4.heap.size _ (HRm.out _).1 (HRm.out _).2.1).mono ?_
        rintro r w5 ⟨rfl, rfl⟩
        have HB5 := HN3.out.2.trans ((HRm.out 3).2.2.mono HN3.out.2.size)
        go_wp2
        go_ret
        exact ⟨rfl, HB5⟩
  | false =>
    cases nb with
    | true =>
      clear HC HI HT HT0
      go_enter Tryz.func181, Tryz.ntmps181
      go_wp2
      go_ret
      exact ⟨rfl, HN.out.2⟩
    | false =>
      have E : Hid (cmpR x ka false ea sa kb false eb sb = cmpU x ka ea sa kb eb sb) := rfl
      rw [E.out]
      have HCz : Hid (∀ X, Calls Tryz.prog 235 #[numV ka false ea sa, numV kb false eb sb] X fun r w' => r = .returned (.int .i64 (cszI ka ea sa kb eb sb)) ∧ Below X.heap.size X w') := HC.out ka false ea sa kb false eb sb hsa hsb hea heb
      have HU : Hid (cmpU x ka ea sa kb eb sb = if x then orI (orI (cI (kpl ka) (kpl kb)) (cszI ka ea sa kb eb sb)) (cI ea eb) else orI (cI (kpl ka) (kpl kb)) (cszI ka ea sa kb eb sb)) := rfl
      rw [HU.out]
      have HCp : Hid (∀ X, Calls Tryz.prog 234 #[.int .i64 (kpl ka), .int .i64 (kpl kb)] X fun e w' => e = .returned (.int .i64 (cI (kpl ka) (kpl kb))) ∧ w' = X) := HI.out _ _
      have HCe : Hid (∀ X, Calls Tryz.prog 234 #[.int .i64 ea, .int .i64 eb] X fun e w' => e = .returned (.int .i64 (cI ea eb)) ∧ w' = X) := HI.out _ _
      clear E HU HC HI
      have ha0 : (0 : Int) ≤ (ka : Int) := by omega
      have ha1 : (ka : Int) < 5 := by omega
      have hb0 : (0 : Int) ≤ (kb : Int) := by omega
      have hb1 : (kb : Int) < 5 := by omega
      have HK : Hid (1 ≤ ka ∧ ka ≤ 4 ∧ 1 ≤ kb ∧ kb ≤ 4) := ⟨hka.1, hka.2, hkb.1, hkb.2⟩
      clear hka hkb hsa hsb hea heb
      generalize cszI ka ea sa kb eb sb = CZ at *
      generalize cI ea eb = CE at *
      generalize hKa : kpl ka = PA at *
      generalize hKb : kpl kb = PB at *
      have HPA : Hid (kpl ka = PA ∧ kpl kb = PB) := ⟨hKa, hKb⟩
      clear hKa hKb
      generalize cI PA PB = CK at *
      obtain ⟨O1, hO1⟩ : ∃ O, orI CK CZ = O := ⟨_, rfl⟩
      rw [hO1]
      have HOr : Hid (∀ (g : Nat) X, X.cell? ⟨g, 0, none⟩ = some (.int .i64 CK) → X.cell? ⟨g, 1, none⟩ = some (.int .i64 CZ) → Calls Tryz.prog 233 #[.slice (some ⟨g, 0, none⟩) 2 2] X fun e w' => e = .returned (.int .i64 O1) ∧ w' = X) := fun g X h0 h1 => hO1 ▸ oOr_any CK CZ g X h0 h1
      clear hO1
      clear HT0
      go_enter Tryz.func181, Tryz.ntmps181
      go_upto_region 7 with fail
      generalize (((w.alloc (.cells #[.bool x] 204)).alloc (.cells #[.int .i64 ka, .bool false, .int .i64 ea, .string sa] 78)).alloc (.cells #[.int .i64 kb, .bool false, .int .i64 eb, .string sb] 78)) = w0 at *
      have HX0 : Hid (Below w0.heap.size w0 w0.drew) := (Below.refl _ _).drew
      refine wp_region_tail (C := fun W => Below w0.heap.size w0 W) 12 (by kernel_rfl) (by kernel_rfl) HX0.out ?_
      simp only [List.take_succ_cons, List.take_zero, List.drop_succ_cons, List.drop_zero]
      repeat (refine wpQuiet_step (fun K hK => ?_); go_simp; first | (refine hK _ ?_; clear hK K) | (apply Exists.intro; refine ⟨fun wx hC => ?_, hK _ ?_⟩; (first | exact rfl | ((with_reducible refine Calls.class_of (HCz.out wx) ?_); exact (fun w' hb => bel1 hC hb)) | ((with_reducible refine (HCp.out wx).mono ?_); exact (fun _ _ h => ⟨h.1, by rw [h.2]; exact hC⟩)) | (obtain ⟨q0, q1, q2, q3, q4⟩ := (HN.out.1.next hC).2.1.cells; go_simp; exact rfl) | (obtain ⟨q0, q1, q2, q3, q4⟩ := (HN.out.1.next hC).2.2.cells; go_simp; exact rfl) | (have q0 := (HT.out.next hC).1 ka (by have := HK.out; omega) (by have := HK.out; omega); rw [HPA.out.1] at q0; go_simp; exact rfl) | (have q0 := (HT.out.next hC).1 kb (by have := HK.out; omega) (by have := HK.out; omega); rw [HPA.out.2] at q0; go_simp; exact rfl)); clear hK K))
      refine wpQuiet_nil ?_
      intro w2 hb2
      have HN2 : Hid (N3o w.heap.size x ka false ea sa kb false eb sb w2 ∧ Below w.heap.size w w2) := ⟨HN.out.1.next hb2, HN.out.2.trans (hb2.mono HN.out.2.size)⟩
      clear hb2 HN HX0 HT HCz HCp
      have HRn : Hid (∀ t, (w2.alloc (.cells #[.int .i64 CK, .int .i64 CZ] t)).cell? ⟨w2.heap.size, 0, none⟩ = some (.int .i64 CK) ∧ (w2.alloc (.cells #[.int .i64 CK, .int .i64 CZ] t)).cell? ⟨w2.heap.size, 1, none⟩ = some (.int .i64 CZ) ∧ Below w2.heap.size w2 (w2.alloc (.cells #[.int .i64 CK, .int .i64 CZ] t))) := rowI_new w2 CK CZ
      go_wp2_with fail
      refine (HOr.out w2.heap.size _ (HRn.out _).1 (HRn.out _).2.1).mono ?_
      rintro r w3 ⟨rfl, rfl⟩
      have HN3 : Hid (N3o w.heap.size x ka false ea sa kb false eb sb (w2.alloc (.cells #[.int .i64 CK, .int .i64 CZ] 3)) ∧ Below w.heap.size w (w2.alloc (.cells #[.int .i64 CK, .int .i64 CZ] 3))) := ⟨HN2.out.1.next (HRn.out _).2.2, HN2.out.2.trans ((HRn.out _).2.2.mono HN2.out.2.size)⟩
      clear HN2 HRn HOr
      generalize w2.alloc (.cells #[.int .i64 CK, .int .i64 CZ] 3) = w3 at *
      have q0 := HN3.out.1.box
      obtain ⟨c0, c1, c2, c3, c4⟩ := HN3.out.1.2.1.cells
      obtain ⟨d0, d1, d2, d3, d4⟩ := HN3.out.1.2.2.cells
      cases x with
      | false =>
        go_wp2
        go_ret
        exact ⟨rfl, HN3.out.2⟩
      | true =>
        go_wp2_with fail
        refine (HCe.out _).mono ?_
        rintro r w4 ⟨rfl, rfl⟩
        have HRm : Hid (∀ t, (w4.alloc (.cells #[.int .i64 O1, .int .i64 CE] t)).cell? ⟨w4.heap.size, 0, none⟩ = some (.int .i64 O1) ∧ (w4.alloc (.cells #[.int .i64 O1, .int .i64 CE] t)).cell? ⟨w4.heap.size, 1, none⟩ = some (.int .i64 CE) ∧ Below w4.heap.size w4 (w4.alloc (.cells #[.int .i64 O1, .int .i64 CE] t))) := rowI_new w4 O1 CE
        go_wp2_with fail
        refine (oOr_any O1 CE w4.heap.size _ (HRm.out _).1 (HRm.out _).2.1).mono ?_
        rintro r w5 ⟨rfl, rfl⟩
        have HB5 := HN3.out.2.trans ((HRm.out 3).2.2.mono HN3.out.2.size)
        go_wp2
        go_ret
        exact ⟨rfl, HB5⟩
end Go.Proofs.YteofommckgeemaaGreatDoor

namespace Go.Proofs.YteofommckgeemaaGreatDoor
open Go.RowKit
set_option linter.unusedVariables false
set_option maxRecDepth 100000
theorem numB_bd (f k : Int) (b : Bool) (e : Int) (s : ByteArray) (h : numB f k b e s = true) : (f = 64 ∨ f = 128) ∧ (1 ≤ k ∧ k ≤ 4) ∧ s.size ≤ 34 ∧ (-6176 ≤ e ∧ e ≤ 6111) ∧ (k ≠ 1 → e = 0 ∧ s.size = 0) ∧ (k = 3 ∨ k = 4 → b = false) := by
  unfold numB at h
  by_cases hp : limP f = 0
  · rw [if_pos hp] at h; cases h
  rw [if_neg hp] at h
  have hf : f = 64 ∨ f = 128 := by
    unfold limP at hp
    by_cases h1 : f = 64
    · exact .inl h1
    · rw [if_neg h1] at hp
      by_cases h2 : f = 128
      · exact .inr h2
      · rw [if_neg h2] at hp; exact absurd rfl hp
  have hl : limP f ≤ 34 ∧ -6176 ≤ limL f ∧ limH f ≤ 6111 := by rcases hf with rfl | rfl <;> decide
  have hem : s.toList.isEmpty = true → s.size = 0 := fun hE => by
    have e : s.toList.length = s.size := by rw [ByteArray.toList_eq, Array.length_toList]; rfl
    rw [List.isEmpty_iff.1 hE] at e
    exact e.symm
  by_cases h1 : k = 1
  · rw [if_pos h1] at h
    unfold natB at h
    simp only [Bool.and_eq_true, decide_eq_true_eq] at h
    have h2 := h.1.1.1.2
    exact ⟨hf, by omega, by omega, by omega, fun q => absurd h1 q, fun q => by omega⟩
  · rw [if_neg h1] at h
    by_cases h2 : k = 2
    · rw [if_pos h2] at h
      simp only [Bool.and_eq_true, decide_eq_true_eq] at h
      have h3 := hem h.2
      exact ⟨hf, by omega, by omega, by omega, fun _ => ⟨h.1, h3⟩, fun q => by omega⟩
    · rw [if_neg h2] at h
      by_cases h3 : k = 3 ∨ k = 4
      · rw [if_pos h3] at h
        simp only [Bool.and_eq_true, decide_eq_true_eq, Bool.not_eq_true'] at h
        have h4 := hem h.2.1
        exact ⟨hf, by omega, by omega, by omega, fun _ => ⟨h.1, h4⟩, fun _ => h.2.2⟩
      · rw [if_neg h3] at h; cases h
end Go.Proofs.YteofommckgeemaaGreatDoor
