/-
  FnExactAdd: the law's own walk.
-/
import Derived.Test.YtmndemegiimagaqGreatDoorBx4
import Derived.BigQuiet
import Derived.Deep.QuietTactic
import Derived.Test.YtmndemegiimagaqGreatDoorQta
import Derived.Test.YtmndemegiimagaqGreatDoorBx5
import Derived.Test.YtmndemegiimagaqGreatDoorFinA
import Derived.Test.YtmndemegiimagaqGreatDoorSph
import Derived.Test.YtmndemegiimagaqGreatDoorSmO
namespace Go.Proofs.YtmndemegiimagaqGreatDoor
open Go.RowKit
set_option linter.unusedVariables false
set_option maxRecDepth 100000
theorem eqNum_same (k : Int) (b : Bool) (e : Int) (s : ByteArray) (w : World) :
    Calls Tryz.prog 26 #[numV k b e s, numV k b e s] w fun r w' => r = .returned (.bool true) ∧ Below w.heap.size w w' := by
  go_enter Tryz.func26, Tryz.ntmps26
  go_wp2
  go_ret
  exact ⟨rfl, ((Below.refl _ _).alloc (Nat.le_refl _) _).alloc (by simp) _⟩
/-- A result's value. -/
abbrev resV (k : Int) (b : Bool) (e : Int) (s : ByteArray) (f : Int) : Value := .agg #[.int .i64 k, .bool b, .int .i64 e, .string s, .int .i64 f]
theorem eqResult_same (k : Int) (b : Bool) (e : Int) (s : ByteArray) (f : Int) (w : World) :
    Calls Tryz.prog 7 #[resV k b e s f, resV k b e s f] w fun r w' => r = .returned (.bool true) ∧ Below w.heap.size w w' := by
  have HB : Hid (Below w.heap.size w ((w.alloc (.cells #[.int .i64 k, .bool b, .int .i64 e, .string s, .int .i64 f] 25)).alloc (.cells #[.int .i64 k, .bool b, .int .i64 e, .string s, .int .i64 f] 25))) := ((Below.refl _ _).alloc (Nat.le_refl _) _).alloc (by simp) _
  have c1 : ((w.alloc (.cells #[.int .i64 k, .bool b, .int .i64 e, .string s, .int .i64 f] 25)).alloc (.cells #[.int .i64 k, .bool b, .int .i64 e, .string s, .int .i64 f] 25)).cell? ⟨w.heap.size, 4, none⟩ = some (.int .i64 f) := by simp
  have c2 : ((w.alloc (.cells #[.int .i64 k, .bool b, .int .i64 e, .string s, .int .i64 f] 25)).alloc (.cells #[.int .i64 k, .bool b, .int .i64 e, .string s, .int .i64 f] 25)).cell? ⟨w.heap.size + 1, 4, none⟩ = some (.int .i64 f) := by simp
  have C1 : Hid (_ = _) := c1
  have C2 : Hid (_ = _) := c2
  clear c1 c2
  go_enter Tryz.func7, Tryz.ntmps7
  go_wp2_with fail
  refine (eqNum_same k b e s _).mono ?_
  rintro r w3 ⟨rfl, hb⟩
  have d1 := (hb.cell (p := ⟨w.heap.size, 4, none⟩) (by simp; omega)).trans C1.out
  have d2 := (hb.cell (p := ⟨w.heap.size + 1, 4, none⟩) (by simp)).trans C2.out
  have HB3 : Hid (Below w.heap.size w w3) := HB.out.trans (hb.mono (by simp; omega))
  clear hb
  go_wp2
  go_ret
  exact ⟨rfl, HB3.out⟩
end Go.Proofs.YtmndemegiimagaqGreatDoor
namespace Go.Proofs.YtmndemegiimagaqGreatDoor
open Go.RowKit
set_option linter.unusedVariables false
set_option maxRecDepth 100000
/-- A law's own copy of a number in a block. -/
def At4l (W : World) (b : Nat) (x y z u : Value) : Prop := W.heap[b]? = some (.cells #[x, y, z, u] 29 (0, 0))
theorem At4l.cells {w : World} {b : Nat} {x y z u : Value} (h : At4l w b x y z u) : w.cell? ⟨b, 0, none⟩ = some x ∧ w.cell? ⟨b, 1, none⟩ = some y ∧ w.cell? ⟨b, 2, none⟩ = some z ∧ w.cell? ⟨b, 3, none⟩ = some u := by
  unfold At4l at h
  exact ⟨by simp [World.cell?, h], by simp [World.cell?, h], by simp [World.cell?, h], by simp [World.cell?, h]⟩
theorem At4l.lt {w : World} {b : Nat} {x y z u : Value} (h : At4l w b x y z u) : b < w.heap.size := (Array.getElem?_eq_some_iff.1 h).1
theorem At4l.below {w w' : World} {b B : Nat} {x y z u : Value} (h : At4l w b x y z u) (hb : Below B w w') (hB : b < B) : At4l w' b x y z u := (hb.block b hB).trans h
theorem At4l.other {w : World} {b c : Nat} {x y z u : Value} (h : At4l w b x y z u) (hc : b ≠ c) (cs : Array Value) : At4l (w.setRow c cs) b x y z u := (setRow_other w c b cs hc).trans h
/-- Two boxes. -/
def LB (w : World) (ka : Int) (na : Bool) (ea : Int) (sa : ByteArray) (kb : Int) (nb : Bool) (eb : Int) (sb : ByteArray) (W : World) : Prop :=
  At4l W w.heap.size (.int .i64 ka) (.bool na) (.int .i64 ea) (.string sa) ∧ At4l W (w.heap.size + 1) (.int .i64 kb) (.bool nb) (.int .i64 eb) (.string sb) ∧ Below w.heap.size w W ∧ w.heap.size + 2 ≤ W.heap.size
section
variable {w W W' : World} {ka : Int} {na : Bool} {ea : Int} {sa : ByteArray} {kb : Int} {nb : Bool} {eb : Int} {sb : ByteArray}
theorem lb_new (w : World) (ka : Int) (na : Bool) (ea : Int) (sa : ByteArray) (kb : Int) (nb : Bool) (eb : Int) (sb : ByteArray) : LB w ka na ea sa kb nb eb sb ((w.alloc (.cells #[.int .i64 ka, .bool na, .int .i64 ea, .string sa] 29)).alloc (.cells #[.int .i64 kb, .bool nb, .int .i64 eb, .string sb] 29)) := by
  have h1 : At4l (w.alloc (.cells #[.int .i64 ka, .bool na, .int .i64 ea, .string sa] 29)) w.heap.size (.int .i64 ka) (.bool na) (.int .i64 ea) (.string sa) := (MapKept.heap_alloc w _).1
  have z1 : (w.alloc (.cells #[.int .i64 ka, .bool na, .int .i64 ea, .string sa] 29)).heap.size = w.heap.size + 1 := by simp
  have b1 : Below w.heap.size w (w.alloc (.cells #[.int .i64 ka, .bool na, .int .i64 ea, .string sa] 29)) := (Below.refl _ _).alloc (Nat.le_refl _) _
  generalize w.alloc (.cells #[.int .i64 ka, .bool na, .int .i64 ea, .string sa] 29) = w1 at *
  have h2 : At4l (w1.alloc (.cells #[.int .i64 kb, .bool nb, .int .i64 eb, .string sb] 29)) w1.heap.size (.int .i64 kb) (.bool nb) (.int .i64 eb) (.string sb) := (MapKept.heap_alloc w1 _).1
  have b2 : Below w1.heap.size w1 (w1.alloc (.cells #[.int .i64 kb, .bool nb, .int .i64 eb, .string sb] 29)) := (Below.refl _ _).alloc (Nat.le_refl _) _
  have z2 : (w1.alloc (.cells #[.int .i64 kb, .bool nb, .int .i64 eb, .string sb] 29)).heap.size = w1.heap.size + 1 := by simp
  rw [z1] at h2
  exact ⟨h1.below b2 (by omega), h2, b1.trans (b2.mono b1.size), by omega⟩
theorem LB.next (h : LB w ka na ea sa kb nb eb sb W) (hb : Below W.heap.size W W') : LB w ka na ea sa kb nb eb sb W' :=
  ⟨h.1.below hb h.1.lt, h.2.1.below hb h.2.1.lt, h.2.2.1.trans (hb.mono h.2.2.1.size), Nat.le_trans h.2.2.2 hb.size⟩
theorem LB.drew (h : LB w ka na ea sa kb nb eb sb W) : LB w ka na ea sa kb nb eb sb W.drew := ⟨h.1, h.2.1, h.2.2.1.drew, h.2.2.2⟩
theorem LB.row (h : LB w ka na ea sa kb nb eb sb W) {p : Nat} (hp : w.heap.size + 2 ≤ p) (cs : Array Value) : LB w ka na ea sa kb nb eb sb (W.setRow p cs) :=
  ⟨h.1.other (by omega) cs, h.2.1.other (by omega) cs, bel_row h.2.2.1 (by omega) cs, by rw [show (W.setRow p cs).heap.size = W.heap.size by simp [World.setRow]]; exact h.2.2.2⟩
/-- The boxes, a Result's block where it is laid, and what else is kept. -/
def LC (w : World) (ka : Int) (na : Bool) (ea : Int) (sa : ByteArray) (kb : Int) (nb : Bool) (eb : Int) (sb : ByteArray) (X : World → Prop) (b : Option Nat) (W : World) : Prop :=
  LB w ka na ea sa kb nb eb sb W ∧ (∀ p, b = some p → At5 W p (.int .i64 0) (.bool false) (.int .i64 0) (.string { data := #[] }) (.int .i64 0) ∧ w.heap.size + 2 ≤ p) ∧ X W
theorem LC.next {X : World → Prop} {b : Option Nat} (h : LC w ka na ea sa kb nb eb sb X b W) (hb : Below W.heap.size W W') (hX : X W → Below W.heap.size W W' → LB w ka na ea sa kb nb eb sb W → X W') : LC w ka na ea sa kb nb eb sb X b W' :=
  ⟨h.1.next hb, fun p hp => ⟨(h.2.1 p hp).1.below hb (h.2.1 p hp).1.lt, (h.2.1 p hp).2⟩, hX h.2.2 hb h.1⟩
theorem LC.lay {X : World → Prop} (h : LC w ka na ea sa kb nb eb sb X none W) (hX : X W → Below W.heap.size W (W.alloc (.cells #[.int .i64 0, .bool false, .int .i64 0, .string { data := #[] }, .int .i64 0] 25)) → LB w ka na ea sa kb nb eb sb W → X (W.alloc (.cells #[.int .i64 0, .bool false, .int .i64 0, .string { data := #[] }, .int .i64 0] 25))) :
    LC w ka na ea sa kb nb eb sb X (some W.heap.size) (W.alloc (.cells #[.int .i64 0, .bool false, .int .i64 0, .string { data := #[] }, .int .i64 0] 25)) := by
  have hb : Below W.heap.size W (W.alloc (.cells #[.int .i64 0, .bool false, .int .i64 0, .string { data := #[] }, .int .i64 0] 25)) := (Below.refl _ _).alloc (Nat.le_refl _) _
  refine ⟨h.1.next hb, fun p hp => ?_, hX h.2.2 hb h.1⟩
  cases hp
  exact ⟨at5_new W _ _ _ _ _, h.1.2.2.2⟩
end
end Go.Proofs.YtmndemegiimagaqGreatDoor
namespace Go.Proofs.YtmndemegiimagaqGreatDoor
open Go.RowKit
set_option linter.unusedVariables false
set_option maxRecDepth 100000
set_option maxRecDepth 100000 in
set_option maxHeartbeats 2000000 in
theorem exAdd_any (f mode : Int) (ka : Int) (na : Bool) (ea : Int) (sa : ByteArray) (kb : Int) (nb : Bool) (eb : Int) (sb : ByteArray) (w : World) (hma : sa.size ≤ 9223372036854775807) (hmb : sb.size ≤ 9223372036854775807) :
    Calls Tryz.prog 4 #[.int .i64 f, .int .i64 mode, numV ka na ea sa, numV kb nb eb sb] w fun r w' => r = .returned (.bool true) ∧ Below w.heap.size w w' := by
  have HL : Hid (LB w ka na ea sa kb nb eb sb ((w.alloc (.cells #[.int .i64 ka, .bool na, .int .i64 ea, .string sa] 29)).alloc (.cells #[.int .i64 kb, .bool nb, .int .i64 eb, .string sb] 29))) := lb_new w ka na ea sa kb nb eb sb
  by_cases h1 : (sa.size : Int) ≤ 1048576
  case neg =>
    have HZ : Hid (∀ X, Calls Tryz.prog 8 #[numV ka na ea sa, .int .i64 1048576] X fun r w' => r = .returned (.int .i64 (-1)) ∧ Below X.heap.size X w') := fun X => szNum_no ka na ea sa 1048576 X (by decide) (by decide) hma (by omega)
    clear hma hmb h1
    go_enter Tryz.func4, Tryz.ntmps4
    go_wp2_with fail
    refine (HZ.out _).mono ?_
    rintro r u1 ⟨rfl, hb1⟩
    have HB1 := (HL.out.next hb1).2.2.1
    clear hb1 HL HZ
    go_wp2
    go_ret
    exact ⟨rfl, HB1⟩
  have HZ1 : Hid (∀ X, Calls Tryz.prog 8 #[numV ka na ea sa, .int .i64 1048576] X fun r w' => r = .returned (.int .i64 (1048576 - sa.size)) ∧ Below X.heap.size X w') := fun X => szNum_yes ka na ea sa 1048576 X (by decide) (by decide) hma h1
  have hs1 : ¬ (1048576 - (sa.size : Int)) < 0 := by omega
  by_cases h2 : (sb.size : Int) ≤ 1048576 - sa.size
  case neg =>
    have HZ2 : Hid (∀ X, Calls Tryz.prog 8 #[numV kb nb eb sb, .int .i64 (1048576 - sa.size)] X fun r w' => r = .returned (.int .i64 (-1)) ∧ Below X.heap.size X w') := fun X => szNum_no kb nb eb sb (1048576 - sa.size) X (by omega) (by omega) hmb (by omega)
    clear hma hmb h1 h2
    generalize 1048576 - (sa.size : Int) = L1 at *
    go_enter Tryz.func4, Tryz.ntmps4
    go_wp2_with fail
    refine (HZ1.out _).mono ?_
    rintro r u1 ⟨rfl, hb1⟩
    have HL1 : Hid (LB w ka na ea sa kb nb eb sb u1) := HL.out.next hb1
    obtain ⟨c0, c1, c2, c3⟩ := HL1.out.2.1.cells
    clear hb1 HL HZ1
    go_wp2_with fail
    refine (HZ2.out _).mono ?_
    rintro r u2 ⟨rfl, hb2⟩
    have HB2 := (HL1.out.next hb2).2.2.1
    clear hb2 HL1 HZ2 c0 c1 c2 c3
    go_wp2
    go_ret
    exact ⟨rfl, HB2⟩
  have HZ2 : Hid (∀ X, Calls Tryz.prog 8 #[numV kb nb eb sb, .int .i64 (1048576 - sa.size)] X fun r w' => r = .returned (.int .i64 (1048576 - sa.size - sb.size)) ∧ Below X.heap.size X w') := fun X => szNum_yes kb nb eb sb (1048576 - sa.size) X (by omega) (by omega) hmb h2
  have hs2 : ¬ (1048576 - (sa.size : Int) - (sb.size : Int)) < 0 := by omega
  have HTa : Hid (∀ X, Calls Tryz.prog 10 #[numV ka na ea sa] X fun r w' => r = .returned (numV ka na ea sa) ∧ Below X.heap.size X w') := fun X => toNum_any ka na ea sa X
  have HTb : Hid (∀ X, Calls Tryz.prog 10 #[numV kb nb eb sb] X fun r w' => r = .returned (numV kb nb eb sb) ∧ Below X.heap.size X w') := fun X => toNum_any kb nb eb sb X
  have HS : Hid (∀ X, Calls Tryz.prog 9 #[.int .i64 f, .int .i64 mode, numV ka na ea sa, numV kb nb eb sb] X fun r w' => r = .returned (rsD (addR f mode ka na ea sa kb nb eb sb).1 (addR f mode ka na ea sa kb nb eb sb).2) ∧ Below X.heap.size X w') := fun X => sAdd_ok f mode ka na ea sa kb nb eb sb X (by omega) (by omega)
  have HI : Hid (∀ X, Calls Tryz.prog 11 #[.int .i64 f, .int .i64 mode, numV ka na ea sa, numV kb nb eb sb] X fun r w' => r = .returned (rsD (addR f mode ka na ea sa kb nb eb sb).1 (addR f mode ka na ea sa kb nb eb sb).2) ∧ Below X.heap.size X w') := fun X => iAdd_any f mode ka na ea sa kb nb eb sb X (by omega) (by omega)
  generalize addR f mode ka na ea sa kb nb eb sb = R at *
  obtain ⟨R0, F1, F2, F3, F4⟩ := R
  have HEq : Hid (∀ X, Calls Tryz.prog 7 #[resV F1 R0 F2 F3 F4, resV F1 R0 F2 F3 F4] X fun r w' => r = .returned (.bool true) ∧ Below X.heap.size X w') := fun X => eqResult_same F1 R0 F2 F3 F4 X
  clear hma hmb h1 h2
  generalize 1048576 - (sa.size : Int) - (sb.size : Int) = L2 at *
  generalize 1048576 - (sa.size : Int) = L1 at *
  go_enter Tryz.func4, Tryz.ntmps4
  go_wp2_with fail
  refine (HZ1.out _).mono ?_
  rintro r u1 ⟨rfl, hb1⟩
  have HL1 : Hid (LB w ka na ea sa kb nb eb sb u1) := HL.out.next hb1
  obtain ⟨c0, c1, c2, c3⟩ := HL1.out.2.1.cells
  clear hb1 HL HZ1
  go_wp2_with fail
  refine (HZ2.out _).mono ?_
  rintro r u2 ⟨rfl, hb2⟩
  have HL2 : Hid (LB w ka na ea sa kb nb eb sb u2) := HL1.out.next hb2
  clear hb2 HL1 HZ2 c0 c1 c2 c3
  go_upto_region 8 with fail
  have HX8 : Hid (LC w ka na ea sa kb nb eb sb (fun _ => True) none u2.drew) := ⟨HL2.out.drew, (fun p h => by cases h), trivial⟩
  refine wp_region_laid (C := LC w ka na ea sa kb nb eb sb (fun _ => True)) 8 7 10 _ (.cells #[.int .i64 0, .bool false, .int .i64 0, .string { data := #[] }, .int .i64 0] 25) rfl rfl rfl rfl ?_ (fun W hW => hW.lay (fun _ _ _ => trivial)) (by kernel_rfl) (by kernel_rfl) HX8.out ?_
  · intro a W
    go_simp
  simp only [List.take_succ_cons, List.take_zero, List.drop_succ_cons, List.drop_zero]
  repeat (refine wpQuietF_step (fun K hK => ?_); go_simp; first | (refine hK _ ?_; clear hK K) | (apply Exists.intro; refine ⟨fun bb wx hC => ?_, hK _ ?_⟩; (first | exact rfl | ((with_reducible refine Calls.class_of (HTa.out wx) ?_); exact fun w' hb => LC.next hC hb (fun _ _ _ => trivial)) | ((with_reducible refine Calls.class_of (HTb.out wx) ?_); exact fun w' hb => LC.next hC hb (fun _ _ _ => trivial)) | ((with_reducible refine Calls.class_of (HS.out wx) ?_); exact fun w' hb => LC.next hC hb (fun _ _ _ => trivial)) | (obtain ⟨a0, a1, a2, a3⟩ := hC.1.1.cells; go_simp; exact rfl) | (obtain ⟨a0, a1, a2, a3⟩ := hC.1.2.1.cells; go_simp; exact rfl)); clear hK K))
  refine wpQuietF_nil ?_
  intro p1 u3 hC3
  obtain ⟨hA3, hp3⟩ := hC3.2.1 p1 rfl
  have HL3 : Hid (LB w ka na ea sa kb nb eb sb u3 ∧ At5 u3 p1 (.int .i64 0) (.bool false) (.int .i64 0) (.string { data := #[] }) (.int .i64 0) ∧ w.heap.size + 2 ≤ p1) := ⟨hC3.1, hA3, hp3⟩
  clear hC3 hA3 hp3 HX8 HL2 HS
  simp only [Act.put]
  go_wp2_with (refine wpList_store_row rfl 25 (.tmp 10) (.tmp 28) rfl p1 #[.int .i64 F1, .bool R0, .int .i64 F2, .string F3, .int .i64 F4] rfl rfl _ _ HL3.out.2.1 (by kernel_rfl) rfl (one5 _ _ _ _ _) ?_)
  have HL4 : Hid (LB w ka na ea sa kb nb eb sb (u3.setRow p1 #[.int .i64 F1, .bool R0, .int .i64 F2, .string F3, .int .i64 F4]) ∧ At5 (u3.setRow p1 #[.int .i64 F1, .bool R0, .int .i64 F2, .string F3, .int .i64 F4]) p1 (.int .i64 F1) (.bool R0) (.int .i64 F2) (.string F3) (.int .i64 F4)) := ⟨HL3.out.1.row HL3.out.2.2 _, HL3.out.2.1.row _ _ _ _ _⟩
  generalize u3.setRow p1 #[.int .i64 F1, .bool R0, .int .i64 F2, .string F3, .int .i64 F4] = u4 at *
  clear HL3
  have HX9 : Hid (LC w ka na ea sa kb nb eb sb (fun W => At5 W p1 (.int .i64 F1) (.bool R0) (.int .i64 F2) (.string F3) (.int .i64 F4)) none u4.drew) := ⟨HL4.out.1.drew, (fun p h => by cases h), HL4.out.2⟩
  refine wp_region_laid (C := LC w ka na ea sa kb nb eb sb (fun W => At5 W p1 (.int .i64 F1) (.bool R0) (.int .i64 F2) (.string F3) (.int .i64 F4))) 8 7 11 _ (.cells #[.int .i64 0, .bool false, .int .i64 0, .string { data := #[] }, .int .i64 0] 25) rfl rfl rfl rfl ?_ (fun W hW => hW.lay (fun h hb _ => h.below hb h.lt)) (by kernel_rfl) (by kernel_rfl) HX9.out ?_
  · intro a W
    go_simp
  simp only [List.take_succ_cons, List.take_zero, List.drop_succ_cons, List.drop_zero]
  repeat (refine wpQuietF_step (fun K hK => ?_); go_simp; first | (refine hK _ ?_; clear hK K) | (apply Exists.intro; refine ⟨fun bb wx hC => ?_, hK _ ?_⟩; (first | exact rfl | ((with_reducible refine Calls.class_of (HTa.out wx) ?_); exact fun w' hb => LC.next hC hb (fun h hb _ => h.below hb h.lt)) | ((with_reducible refine Calls.class_of (HTb.out wx) ?_); exact fun w' hb => LC.next hC hb (fun h hb _ => h.below hb h.lt)) | ((with_reducible refine Calls.class_of (HI.out wx) ?_); exact fun w' hb => LC.next hC hb (fun h hb _ => h.below hb h.lt)) | (obtain ⟨a0, a1, a2, a3⟩ := hC.1.1.cells; go_simp; exact rfl) | (obtain ⟨a0, a1, a2, a3⟩ := hC.1.2.1.cells; go_simp; exact rfl)); clear hK K))
  refine wpQuietF_nil ?_
  intro p2 u5 hC5
  obtain ⟨hA5, hp5⟩ := hC5.2.1 p2 rfl
  have HB5 : Hid (Below w.heap.size w u5 ∧ w.heap.size ≤ p2) := ⟨hC5.1.2.2.1, by omega⟩
  have HA5 : Hid (At5 u5 p2 (.int .i64 0) (.bool false) (.int .i64 0) (.string { data := #[] }) (.int .i64 0)) := hA5
  have HA6 : Hid (At5 (u5.setRow p2 #[.int .i64 F1, .bool R0, .int .i64 F2, .string F3, .int .i64 F4]) p1 (.int .i64 F1) (.bool R0) (.int .i64 F2) (.string F3) (.int .i64 F4)) := by
    by_cases hpp : p1 = p2
    · subst hpp; exact hA5.row _ _ _ _ _
    · exact (setRow_other u5 p2 p1 _ hpp).trans hC5.2.2
  have HA7 : Hid (At5 (u5.setRow p2 #[.int .i64 F1, .bool R0, .int .i64 F2, .string F3, .int .i64 F4]) p2 (.int .i64 F1) (.bool R0) (.int .i64 F2) (.string F3) (.int .i64 F4)) := hA5.row _ _ _ _ _
  have HB6 : Hid (Below w.heap.size w (u5.setRow p2 #[.int .i64 F1, .bool R0, .int .i64 F2, .string F3, .int .i64 F4])) := bel_row HB5.out.1 HB5.out.2 _
  obtain ⟨a0, a1, a2, a3, a4, -⟩ := HA6.out.cells
  obtain ⟨c0, c1, c2, c3, c4, -⟩ := HA7.out.cells
  clear hC5 hA5 hp5 HX9 HI HL4 HTa HTb
  simp only [Act.put]
  go_wp2_with (refine wpList_store_row rfl 25 (.tmp 11) (.tmp 35) rfl p2 #[.int .i64 F1, .bool R0, .int .i64 F2, .string F3, .int .i64 F4] rfl rfl _ _ HA5.out (by kernel_rfl) rfl (one5 _ _ _ _ _) ?_)
  refine (HEq.out _).mono ?_
  rintro r u7 ⟨rfl, hb7⟩
  have HB7 := HB6.out.trans (hb7.mono HB6.out.size)
  clear hb7 HA5 HA6 HA7 HB5 HB6 HEq a0 a1 a2 a3 a4 c0 c1 c2 c3 c4
  go_wp2
  go_ret
  exact ⟨rfl, HB7⟩
end Go.Proofs.YtmndemegiimagaqGreatDoor
