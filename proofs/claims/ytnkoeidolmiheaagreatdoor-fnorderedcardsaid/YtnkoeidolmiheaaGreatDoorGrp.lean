/-
  The greater one: plain facts; Greater of the model, walked.
-/
import Derived.Test.YtnkoeidolmiheaaGreatDoorSrt
import Derived.Test.YtnkoeidolmiheaaGreatDoorOrq
import Derived.Test.YtnkoeidolmiheaaGreatDoorWhj
import Derived.Test.YtnkoeidolmiheaaGreatDoorPsd
import Derived.Test.YtnkoeidolmiheaaGreatDoorOru
namespace Go.Proofs.YtnkoeidolmiheaaGreatDoor
open Go.RowKit
set_option linter.unusedVariables false
set_option maxRecDepth 100000
theorem At4r.gset3 {w : World} {b : Nat} {x y z u : Value} (h : At4r w b x y z u) (u' : Value) : At4r (w.setCell ⟨b, 3, none⟩ u') b x y z u' := by
  unfold At4r at *
  simp [World.setCell, Array.getElem?_modify, h]
theorem At4r.gfar {w : World} {b c : Nat} {x y z u : Value} (h : At4r w b x y z u) (hc : c ≠ b) (i : Nat) (v : Value) : At4r (w.setCell ⟨c, i, none⟩ v) b x y z u := by
  unfold At4r at *
  simp [World.setCell, Array.getElem?_modify, h, hc]
theorem gCopied_any (k : Int) (b : Bool) (e : Int) (s : ByteArray) (w : World) (hs : s.size ≤ 600) : Calls Tryz.prog 79 #[numV k b e s] w fun x w' => x = .returned (numV k b e s) ∧ Below w.heap.size w w' := by
  have HCl : Hid (∀ X, Calls Tryz.prog 140 #[.string s] X fun e w' => e = .returned (.string s) ∧ Below X.heap.size X w') := fun X => iClone_any s X hs
  clear hs
  have h1 := at4r_new w (.int .i64 k) (.bool b) (.int .i64 e) (.string s)
  have z1 := new_size w (.cells #[.int .i64 k, .bool b, .int .i64 e, .string s] 25)
  have b1 : Below w.heap.size w (w.alloc (.cells #[.int .i64 k, .bool b, .int .i64 e, .string s] 25)) := (Below.refl _ _).alloc (Nat.le_refl _) _
  have h2 := at4r_new (w.alloc (.cells #[.int .i64 k, .bool b, .int .i64 e, .string s] 25)) (.int .i64 0) (.bool false) (.int .i64 0) (.string { data := #[] })
  have b2 : Below (w.alloc (.cells #[.int .i64 k, .bool b, .int .i64 e, .string s] 25)).heap.size (w.alloc (.cells #[.int .i64 k, .bool b, .int .i64 e, .string s] 25)) ((w.alloc (.cells #[.int .i64 k, .bool b, .int .i64 e, .string s] 25)).alloc (.cells #[.int .i64 0, .bool false, .int .i64 0, .string { data := #[] }] 25)) := (Below.refl _ _).alloc (Nat.le_refl _) _
  rw [z1] at h2
  have HN : Hid (At4r ((w.alloc (.cells #[.int .i64 k, .bool b, .int .i64 e, .string s] 25)).alloc (.cells #[.int .i64 0, .bool false, .int .i64 0, .string { data := #[] }] 25)) w.heap.size (.int .i64 k) (.bool b) (.int .i64 e) (.string s) ∧ At4r ((w.alloc (.cells #[.int .i64 k, .bool b, .int .i64 e, .string s] 25)).alloc (.cells #[.int .i64 0, .bool false, .int .i64 0, .string { data := #[] }] 25)) (w.heap.size + 1) (.int .i64 0) (.bool false) (.int .i64 0) (.string { data := #[] }) ∧ Below w.heap.size w ((w.alloc (.cells #[.int .i64 k, .bool b, .int .i64 e, .string s] 25)).alloc (.cells #[.int .i64 0, .bool false, .int .i64 0, .string { data := #[] }] 25))) := ⟨h1.next b2, h2, b1.trans (b2.mono b1.size)⟩
  clear h1 z1 b1 h2 b2
  go_enter Tryz.func79, Tryz.ntmps79
  go_wp2_with fail
  refine (HCl.out _).mono ?_
  rintro x w1 ⟨rfl, hb1⟩
  have HN1 : Hid (At4r w1 w.heap.size (.int .i64 k) (.bool b) (.int .i64 e) (.string s) ∧ At4r w1 (w.heap.size + 1) (.int .i64 0) (.bool false) (.int .i64 0) (.string { data := #[] }) ∧ Below w.heap.size w w1) := ⟨HN.out.1.next hb1, HN.out.2.1.next hb1, HN.out.2.2.trans (hb1.mono HN.out.2.2.size)⟩
  have HN2 : Hid (At4r (w1.setCell ⟨w.heap.size, 3, none⟩ (.string s)) w.heap.size (.int .i64 k) (.bool b) (.int .i64 e) (.string s) ∧ At4r (w1.setCell ⟨w.heap.size, 3, none⟩ (.string s)) (w.heap.size + 1) (.int .i64 0) (.bool false) (.int .i64 0) (.string { data := #[] }) ∧ Below w.heap.size w (w1.setCell ⟨w.heap.size, 3, none⟩ (.string s))) := ⟨HN1.out.1.gset3 _, HN1.out.2.1.gfar (by omega) _ _, HN1.out.2.2.setCell (Nat.le_refl _) _⟩
  obtain ⟨a0, a1, a2, a3, a4⟩ := HN1.out.1.cells
  obtain ⟨c0, c1, c2, c3, c4⟩ := HN2.out.1.cells
  clear hb1 HN HCl HN1
  go_wp2_with (refine wpList_store_row rfl 25 (.tmp 2) (.tmp 7) rfl (w.heap.size + 1) #[.int .i64 k, .bool b, .int .i64 e, .string s] rfl rfl _ _ HN2.out.2.1 (by kernel_rfl) rfl (one4 _ _ _ _) ?_)
  have hP := (HN2.out.2.1.row (.int .i64 k) (.bool b) (.int .i64 e) (.string s)).cells
  refine bodyPost_ret (results_num rfl _ _ rfl hP.1 hP.2.1 hP.2.2.1 hP.2.2.2.1) rfl ?_
  exact ⟨rfl, bel_row HN2.out.2.2 (by omega) _⟩
def pr2 {α : Type} (a b : α) (i : Nat) : α := if i = 0 then a else b
/-- The last one by the order of all. -/
def lstR (ka : Int) (na : Bool) (ea : Int) (sa : ByteArray) (kb : Int) (nb : Bool) (eb : Int) (sb : ByteArray) : R5o := if cmpR true kb nb eb sb ka na ea sa < 0 then (na, (ka, ea, sa, 0)) else (nb, (kb, eb, sb, 0))
abbrev rw2 (W : World) (ka : Int) (na : Bool) (ea : Int) (sa : ByteArray) (kb : Int) (nb : Bool) (eb : Int) (sb : ByteArray) : World := W.alloc (.cells #[.int .i64 ka, .bool na, .int .i64 ea, .string sa, .int .i64 kb, .bool nb, .int .i64 eb, .string sb] 25)
theorem rw2_new (W : World) (ka : Int) (na : Bool) (ea : Int) (sa : ByteArray) (kb : Int) (nb : Bool) (eb : Int) (sb : ByteArray) : Row2 (rw2 W ka na ea sa kb nb eb sb) W.heap.size ka na ea sa kb nb eb sb ∧ Below W.heap.size W (rw2 W ka na ea sa kb nb eb sb) := ⟨(MapKept.heap_alloc W _).1, (Below.refl _ _).alloc (Nat.le_refl _) _⟩
set_option maxRecDepth 100000 in
set_option maxHeartbeats 1000000 in
theorem lastOf_any (f : Int) (ka : Int) (na : Bool) (ea : Int) (sa : ByteArray) (kb : Int) (nb : Bool) (eb : Int) (sb : ByteArray) (w : World) (hA : numB f ka na ea sa = true) (hB : numB f kb nb eb sb = true) (hT : KTab w) :
    Calls Tryz.prog 101 #[numV ka na ea sa, numV kb nb eb sb] w fun x w' => x = .returned (numV (lstR ka na ea sa kb nb eb sb).2.1 (lstR ka na ea sa kb nb eb sb).1 (lstR ka na ea sa kb nb eb sb).2.2.1 (lstR ka na ea sa kb nb eb sb).2.2.2.1) ∧ Below w.heap.size w w' := by
  have hmf : ∀ (fn : Fn) (first cap : Array Value) (w : World), (Instr.makeFunc fn first cap).run Tryz.prog w = .ok (.func fn first cap) w := fun _ _ _ _ => rfl
  have hbo := build_ord true
  obtain ⟨W, hW⟩ : ∃ W, (n2W w ka na ea sa kb nb eb sb).alloc (.cells #[.int .i64 0, .bool false, .int .i64 0, .string { data := #[] }] 25) = W := ⟨_, rfl⟩
  obtain ⟨hN0, hb0, hz0⟩ := n2o_new w ka na ea sa kb nb eb sb
  have h3 := at4r_new (n2W w ka na ea sa kb nb eb sb) (.int .i64 0) (.bool false) (.int .i64 0) (.string { data := #[] })
  have b3 : Below (n2W w ka na ea sa kb nb eb sb).heap.size (n2W w ka na ea sa kb nb eb sb) ((n2W w ka na ea sa kb nb eb sb).alloc (.cells #[.int .i64 0, .bool false, .int .i64 0, .string { data := #[] }] 25)) := (Below.refl _ _).alloc (Nat.le_refl _) _
  have z3 : ((n2W w ka na ea sa kb nb eb sb).alloc (.cells #[.int .i64 0, .bool false, .int .i64 0, .string { data := #[] }] 25)).heap.size = w.heap.size + 3 := by rw [new_size, hz0]
  have hbW := hb0.trans (b3.mono hb0.size)
  rw [hz0] at h3
  rw [hW] at h3 hbW z3
  obtain ⟨hR, hRb⟩ := rw2_new W ka na ea sa kb nb eb sb
  have HC : Hid (∀ X, Below (rw2 W ka na ea sa kb nb eb sb).heap.size (rw2 W ka na ea sa kb nb eb sb) X → Calls Tryz.prog 99 #[.agg #[.bool true], numV kb nb eb sb, numV ka na ea sa] X fun r w' => r = .returned (.int .i64 (cmpR true kb nb eb sb ka na ea sa)) ∧ Below X.heap.size X w') := fun X hX => oCompare_right true f kb nb eb sb ka na ea sa X hB hA (((hT.next hbW).next hRb).next hX)
  have HS : Hid (Calls Tryz.prog 154 #[.slice (some ⟨W.heap.size, 0, none⟩) 2 2, .func (.func 99) #[.agg #[.bool true]] #[]] (rw2 W ka na ea sa kb nb eb sb) fun e w' => e = .returned (.tuple #[]) ∧ srt (cmpR true kb nb eb sb ka na ea sa) w' W.heap.size ka na ea sa kb nb eb sb ∧ Below W.heap.size W w') := sort2_any W.heap.size W.heap.size W ka na ea sa kb nb eb sb _ _ hR hRb (Nat.le_refl _) HC
  have HZ : Hid (At4r W (w.heap.size + 2) (.int .i64 0) (.bool false) (.int .i64 0) (.string { data := #[] }) ∧ Below w.heap.size w W ∧ W.heap.size = w.heap.size + 3) := ⟨h3, hbW, z3⟩
  have HL : Hid (lstR ka na ea sa kb nb eb sb = if cmpR true kb nb eb sb ka na ea sa < 0 then (na, (ka, ea, sa, 0)) else (nb, (kb, eb, sb, 0))) := rfl
  rw [z3] at HS
  rw [HL.out]
  clear hN0 hb0 hz0 h3 b3 z3 hbW hR hRb HC hA hB hT HL
  generalize cmpR true kb nb eb sb ka na ea sa = C at *
  rw [← hW] at HS
  have HW : Hid (((w.alloc (.cells #[.int .i64 ka, .bool na, .int .i64 ea, .string sa] 25)).alloc (.cells #[.int .i64 kb, .bool nb, .int .i64 eb, .string sb] 25)).alloc (.cells #[.int .i64 0, .bool false, .int .i64 0, .string { data := #[] }] 25) = W) := hW
  clear hW
  by_cases hc : C < 0
  · rw [if_pos hc]
    have HcC : Hid (C < 0) := hc
    clear hc
    go_enter Tryz.func101, Tryz.ntmps101
    go_wp2_with fail
    refine HS.out.mono ?_
    rintro e w1 ⟨rfl, h1, h2⟩
    have h2' : Below (w.heap.size + 3) W w1 := by rw [← HW.out]; exact h2
    rw [← HZ.out.2.2] at h2'
    have HZ1 : Hid (At4r w1 (w.heap.size + 2) (.int .i64 0) (.bool false) (.int .i64 0) (.string { data := #[] }) ∧ Below w.heap.size w w1) := ⟨HZ.out.1.next h2', HZ.out.2.1.trans (h2'.mono HZ.out.2.1.size)⟩
    have hr : Row2 w1 (w.heap.size + 3) kb nb eb sb ka na ea sa := by unfold srt at h1; rw [if_pos HcC.out] at h1; exact h1
    obtain ⟨q0, q1, q2, q3, q4, q5, q6, q7, q8⟩ := hr.cells
    clear h2 h2' HS HW HZ h1 hr HcC
    go_wp2_with (refine wpList_store_row rfl 25 (.tmp 4) (.tmp 15) rfl (w.heap.size + 2) #[.int .i64 ka, .bool na, .int .i64 ea, .string sa] rfl rfl _ _ HZ1.out.1 (by kernel_rfl) rfl (one4 _ _ _ _) ?_)
    have hP := (HZ1.out.1.row (.int .i64 ka) (.bool na) (.int .i64 ea) (.string sa)).cells
    refine bodyPost_ret (results_num rfl _ _ rfl hP.1 hP.2.1 hP.2.2.1 hP.2.2.2.1) rfl ?_
    exact ⟨rfl, bel_row HZ1.out.2 (by omega) _⟩
  · rw [if_neg hc]
    have HcC : Hid (¬ C < 0) := hc
    clear hc
    go_enter Tryz.func101, Tryz.ntmps101
    go_wp2_with fail
    refine HS.out.mono ?_
    rintro e w1 ⟨rfl, h1, h2⟩
    have h2' : Below (w.heap.size + 3) W w1 := by rw [← HW.out]; exact h2
    rw [← HZ.out.2.2] at h2'
    have HZ1 : Hid (At4r w1 (w.heap.size + 2) (.int .i64 0) (.bool false) (.int .i64 0) (.string { data := #[] }) ∧ Below w.heap.size w w1) := ⟨HZ.out.1.next h2', HZ.out.2.1.trans (h2'.mono HZ.out.2.1.size)⟩
    have hr : Row2 w1 (w.heap.size + 3) ka na ea sa kb nb eb sb := by unfold srt at h1; rw [if_neg (by have := HcC.out; omega)] at h1; exact h1
    obtain ⟨q0, q1, q2, q3, q4, q5, q6, q7, q8⟩ := hr.cells
    clear h2 h2' HS HW HZ h1 hr HcC
    go_wp2_with (refine wpList_store_row rfl 25 (.tmp 4) (.tmp 15) rfl (w.heap.size + 2) #[.int .i64 kb, .bool nb, .int .i64 eb, .string sb] rfl rfl _ _ HZ1.out.1 (by kernel_rfl) rfl (one4 _ _ _ _) ?_)
    have hP := (HZ1.out.1.row (.int .i64 kb) (.bool nb) (.int .i64 eb) (.string sb)).cells
    refine bodyPost_ret (results_num rfl _ _ rfl hP.1 hP.2.1 hP.2.2.1 hP.2.2.2.1) rfl ?_
    exact ⟨rfl, bel_row HZ1.out.2 (by omega) _⟩
set_option maxRecDepth 100000 in
set_option maxHeartbeats 1000000 in
theorem greater1_any (p : Nat) (f : Int) (ka : Int) (na : Bool) (ea : Int) (sa : ByteArray) (kb : Int) (nb : Bool) (eb : Int) (sb : ByteArray) (w : World) (hA : numB f ka na ea sa = true) (hB : numB f kb nb eb sb = true) (hT : KTab w) (h1 : At4q w p (.int .i64 ka) (.bool na) (.int .i64 ea) (.string sa)) (h2 : At4q w (p + 1) (.int .i64 kb) (.bool nb) (.int .i64 eb) (.string sb)) :
    Calls Tryz.prog 100 #[.pointer (some ⟨p, 0, none⟩), .pointer (some ⟨p + 1, 0, none⟩)] w fun x w' => x = .returned (rsD (lstR ka na ea sa kb nb eb sb).1 (lstR ka na ea sa kb nb eb sb).2) ∧ Below w.heap.size w w' := by
  have hZ := at5_new w (.int .i64 0) (.bool false) (.int .i64 0) (.string { data := #[] }) (.int .i64 0)
  have hb : Below w.heap.size w (w.alloc (.cells #[.int .i64 0, .bool false, .int .i64 0, .string { data := #[] }, .int .i64 0] 29)) := (Below.refl _ _).alloc (Nat.le_refl _) _
  have HL : Hid (∀ X, Below w.heap.size w X → Calls Tryz.prog 101 #[numV ka na ea sa, numV kb nb eb sb] X fun x w' => x = .returned (numV (lstR ka na ea sa kb nb eb sb).2.1 (lstR ka na ea sa kb nb eb sb).1 (lstR ka na ea sa kb nb eb sb).2.2.1 (lstR ka na ea sa kb nb eb sb).2.2.2.1) ∧ Below X.heap.size X w') := fun X hX => lastOf_any f ka na ea sa kb nb eb sb X hA hB (hT.next hX)
  obtain ⟨-, -, lA, -⟩ := numB_bd f ka na ea sa hA
  obtain ⟨-, -, lB, -⟩ := numB_bd f kb nb eb sb hB
  have hsz : (lstR ka na ea sa kb nb eb sb).2.2.2.1.size ≤ 600 ∧ (lstR ka na ea sa kb nb eb sb).2.2.2.2 = 0 := by
    unfold lstR
    split
    · exact ⟨by show sa.size ≤ 600; omega, rfl⟩
    · exact ⟨by show sb.size ≤ 600; omega, rfl⟩
  obtain ⟨q0, q1, q2, q3, -⟩ := (h1.next hb).cells
  obtain ⟨d0, d1, d2, d3, -⟩ := (h2.next hb).cells
  generalize lstR ka na ea sa kb nb eb sb = R at *
  obtain ⟨R0, F1, F2, F3, F4⟩ := R
  obtain ⟨hs, h4⟩ := hsz
  dsimp only at hs h4 HL
  subst h4
  have HCp : Hid (∀ X, Calls Tryz.prog 79 #[numV F1 R0 F2 F3] X fun x w' => x = .returned (numV F1 R0 F2 F3) ∧ Below X.heap.size X w') := fun X => gCopied_any F1 R0 F2 F3 X hs
  have HZ : Hid (At5 (w.alloc (.cells #[.int .i64 0, .bool false, .int .i64 0, .string { data := #[] }, .int .i64 0] 29)) w.heap.size (.int .i64 0) (.bool false) (.int .i64 0) (.string { data := #[] }) (.int .i64 0) ∧ Below w.heap.size w (w.alloc (.cells #[.int .i64 0, .bool false, .int .i64 0, .string { data := #[] }, .int .i64 0] 29))) := ⟨hZ, hb⟩
  have hbr := build_res0 F1 R0 F2 F3
  clear hZ hb hA hB hT h1 h2 lA lB hs
  go_enter Tryz.func100, Tryz.ntmps100
  go_wp2_with fail
  refine (HL.out _ HZ.out.2).mono ?_
  rintro x w1 ⟨rfl, hb1⟩
  have HZ1 : Hid (At5 w1 w.heap.size (.int .i64 0) (.bool false) (.int .i64 0) (.string { data := #[] }) (.int .i64 0) ∧ Below w.heap.size w w1) := ⟨HZ.out.1.below hb1 HZ.out.1.lt, HZ.out.2.trans (hb1.mono HZ.out.2.size)⟩
  clear hb1 HZ HL q0 q1 q2 q3 d0 d1 d2 d3
  go_wp2_with fail
  refine (HCp.out _).mono ?_
  rintro x w2 ⟨rfl, hb2⟩
  have HZ2 : Hid (At5 w2 w.heap.size (.int .i64 0) (.bool false) (.int .i64 0) (.string { data := #[] }) (.int .i64 0) ∧ Below w.heap.size w w2) := ⟨HZ1.out.1.below hb2 HZ1.out.1.lt, HZ1.out.2.trans (hb2.mono HZ1.out.2.size)⟩
  clear hb2 HZ1 HCp
  go_wp2_with (refine wpList_store_row rfl 29 (.tmp 2) (.tmp 7) rfl w.heap.size #[.int .i64 F1, .bool R0, .int .i64 F2, .string F3, .int .i64 0] rfl rfl _ _ HZ2.out.1 (by kernel_rfl) rfl (one5 _ _ _ _ _) ?_)
  have hP := (HZ2.out.1.row (.int .i64 F1) (.bool R0) (.int .i64 F2) (.string F3) (.int .i64 0)).cells
  refine bodyPost_ret (results_res rfl _ _ rfl hP.1 hP.2.1 hP.2.2.1 hP.2.2.2.1 hP.2.2.2.2.1) rfl ?_
  exact ⟨rfl, bel_row HZ2.out.2 (Nat.le_refl _) _⟩
end Go.Proofs.YtnkoeidolmiheaaGreatDoor
namespace Go.Proofs.YtnkoeidolmiheaaGreatDoor
open Go.RowKit
set_option linter.unusedVariables false
set_option maxRecDepth 100000
/-- What is told of the two that are held against each other. -/
def gtP (f : Int) (ka : Int) (na : Bool) (ea : Int) (sa : ByteArray) (kb : Int) (nb : Bool) (eb : Int) (sb : ByteArray) : R5o := ofR f 1 2 (pr2 ka kb) (pr2 na nb) (pr2 ea eb) (pr2 sa sb) (lstR ka na ea sa kb nb eb sb)
def gtI (f : Int) (ka : Int) (na : Bool) (ea : Int) (sa : ByteArray) (kb : Int) (nb : Bool) (eb : Int) (sb : ByteArray) : R5o :=
  if numB f ka na ea sa && numB f kb nb eb sb then (if ka == 3 then gtP f kb nb eb sb kb nb eb sb else if kb == 3 then gtP f ka na ea sa ka na ea sa else gtP f ka na ea sa kb nb eb sb) else (false, (0, 0, { data := #[] }, 0))
theorem rw2_nrw (W : World) (ka : Int) (na : Bool) (ea : Int) (sa : ByteArray) (kb : Int) (nb : Bool) (eb : Int) (sb : ByteArray) : NRw (rw2 W ka na ea sa kb nb eb sb) W.heap.size 2 (pr2 ka kb) (pr2 na nb) (pr2 ea eb) (pr2 sa sb) := by
  obtain ⟨q0, q1, q2, q3, q4, q5, q6, q7, -⟩ := (rw2_new W ka na ea sa kb nb eb sb).1.cells
  intro i hi
  match i, hi with
  | 0, _ => exact ⟨q0, q1, q2, q3⟩
  | 1, _ => exact ⟨q4, q5, q6, q7⟩
theorem ofG_any (f : Int) (ka : Int) (na : Bool) (ea : Int) (sa : ByteArray) (kb : Int) (nb : Bool) (eb : Int) (sb : ByteArray) (p : Nat) (W : World) (hA : numB f ka na ea sa = true) (hB : numB f kb nb eb sb = true) (hT : KTab W) (h1 : At4q W p (.int .i64 ka) (.bool na) (.int .i64 ea) (.string sa)) (h2 : At4q W (p + 1) (.int .i64 kb) (.bool nb) (.int .i64 eb) (.string sb)) :
    Calls Tryz.prog 46 #[.int .i64 f, .int .i64 1, .func (.func 100) #[] #[.pointer (some ⟨p, 0, none⟩), .pointer (some ⟨p + 1, 0, none⟩)], .slice (some ⟨W.heap.size, 0, none⟩) 2 2] (rw2 W ka na ea sa kb nb eb sb) fun x w' => x = .returned (rsD (gtP f ka na ea sa kb nb eb sb).1 (gtP f ka na ea sa kb nb eb sb).2) ∧ Below (rw2 W ka na ea sa kb nb eb sb).heap.size (rw2 W ka na ea sa kb nb eb sb) w' := by
  obtain ⟨hR, hRb⟩ := rw2_new W ka na ea sa kb nb eb sb
  obtain ⟨-, -, lA, -⟩ := numB_bd f ka na ea sa hA
  obtain ⟨-, -, lB, -⟩ := numB_bd f kb nb eb sb hB
  have HE : ∀ args w, (callFunc 100 args).run Tryz.prog w = .ok (.enter 100 args) w := enters_of Tryz.func100 (by kernel_rfl) rfl
  exact ofNumbers_any f 1 100 _ HE 2 W.heap.size (pr2 ka kb) (pr2 na nb) (pr2 ea eb) (pr2 sa sb) (lstR ka na ea sa kb nb eb sb) _ (by decide) (by decide) hR.lt (rw2_nrw W ka na ea sa kb nb eb sb) (fun i hi => by match i, hi with
    | 0, _ => show sa.size ≤ _; omega
    | 1, _ => show sb.size ≤ _; omega) (fun _ _ Y hY => (greater1_any p f ka na ea sa kb nb eb sb Y hA hB ((hT.next hRb).next hY) ((h1.next hRb).next hY) ((h2.next hRb).next hY)).mono fun _ _ h => ⟨.inl h.1, h.2⟩)
/-- The boxes of Greater: the two numbers, its result. -/
def GB (p : Nat) (ka : Int) (na : Bool) (ea : Int) (sa : ByteArray) (kb : Int) (nb : Bool) (eb : Int) (sb : ByteArray) (W : World) : Prop := N2o p ka na ea sa kb nb eb sb W ∧ At5 W (p + 2) (.int .i64 0) (.bool false) (.int .i64 0) (.string { data := #[] }) (.int .i64 0)
theorem GB.next {p : Nat} {W W' : World} {ka : Int} {na : Bool} {ea : Int} {sa : ByteArray} {kb : Int} {nb : Bool} {eb : Int} {sb : ByteArray} (h : GB p ka na ea sa kb nb eb sb W) (hb : Below W.heap.size W W') : GB p ka na ea sa kb nb eb sb W' := ⟨h.1.next hb, h.2.below hb h.2.lt⟩
theorem At4q.rowq {w : World} {b : Nat} {x y z u : Value} (h : At4q w b x y z u) (x' y' z' u' : Value) : At4q (w.setRow b #[x', y', z', u']) b x' y' z' u' := setRow_heap w b _ _ _ _ h
theorem At4q.othq {w : World} {b c : Nat} {x y z u : Value} (h : At4q w b x y z u) (hc : b ≠ c) (cs : Array Value) : At4q (w.setRow c cs) b x y z u := (setRow_other w c b cs hc).trans h
theorem gb_new (w : World) (ka : Int) (na : Bool) (ea : Int) (sa : ByteArray) (kb : Int) (nb : Bool) (eb : Int) (sb : ByteArray) : GB w.heap.size ka na ea sa kb nb eb sb ((n2W w ka na ea sa kb nb eb sb).alloc (.cells #[.int .i64 0, .bool false, .int .i64 0, .string { data := #[] }, .int .i64 0] 29)) ∧ Below w.heap.size w ((n2W w ka na ea sa kb nb eb sb).alloc (.cells #[.int .i64 0, .bool false, .int .i64 0, .string { data := #[] }, .int .i64 0] 29)) := by
  obtain ⟨hN0, hb0, hz0⟩ := n2o_new w ka na ea sa kb nb eb sb
  have h3 := at5_new (n2W w ka na ea sa kb nb eb sb) (.int .i64 0) (.bool false) (.int .i64 0) (.string { data := #[] }) (.int .i64 0)
  have b3 : Below (n2W w ka na ea sa kb nb eb sb).heap.size (n2W w ka na ea sa kb nb eb sb) ((n2W w ka na ea sa kb nb eb sb).alloc (.cells #[.int .i64 0, .bool false, .int .i64 0, .string { data := #[] }, .int .i64 0] 29)) := (Below.refl _ _).alloc (Nat.le_refl _) _
  rw [hz0] at h3
  exact ⟨⟨hN0.next b3, h3⟩, hb0.trans (b3.mono hb0.size)⟩
set_option maxRecDepth 100000 in
set_option maxHeartbeats 1000000 in
theorem iGreater_any (f : Int) (ka : Int) (na : Bool) (ea : Int) (sa : ByteArray) (kb : Int) (nb : Bool) (eb : Int) (sb : ByteArray) (w : World) (hsa : sa.size ≤ 4611686018427387904) (hsb : sb.size ≤ 4611686018427387904) (hT : KTab w) :
    Calls Tryz.prog 30 #[.int .i64 f, numV ka na ea sa, numV kb nb eb sb] w fun x w' => x = .returned (rsD (gtI f ka na ea sa kb nb eb sb).1 (gtI f ka na ea sa kb nb eb sb).2) ∧ Below w.heap.size w w' := by
  have hmf : ∀ (fn : Fn) (first cap : Array Value) (w : World), (Instr.makeFunc fn first cap).run Tryz.prog w = .ok (.func fn first cap) w := fun _ _ _ _ => rfl
  have hb00 : ∀ w, (Instr.build 29 #[]).run Tryz.prog w = .ok (rsV 0 false 0 { data := #[] } 0) w := fun w => run_build w _ _ _ (by kernel_rfl)
  have HR : Hid (∀ X, Calls Tryz.prog 97 #[.int .i64 f, numV ka na ea sa, numV kb nb eb sb] X fun x w' => x = .returned (.bool (numB f ka na ea sa && numB f kb nb eb sb)) ∧ Below X.heap.size X w') := fun X => oRight_any f ka na ea sa kb nb eb sb X hsa hsb
  have HG : Hid (GB w.heap.size ka na ea sa kb nb eb sb (((w.alloc (.cells #[.int .i64 ka, .bool na, .int .i64 ea, .string sa] 25)).alloc (.cells #[.int .i64 kb, .bool nb, .int .i64 eb, .string sb] 25)).alloc (.cells #[.int .i64 0, .bool false, .int .i64 0, .string { data := #[] }, .int .i64 0] 29)) ∧ Below w.heap.size w (((w.alloc (.cells #[.int .i64 ka, .bool na, .int .i64 ea, .string sa] 25)).alloc (.cells #[.int .i64 kb, .bool nb, .int .i64 eb, .string sb] 25)).alloc (.cells #[.int .i64 0, .bool false, .int .i64 0, .string { data := #[] }, .int .i64 0] 29))) := gb_new w ka na ea sa kb nb eb sb
  have HT : Hid (KTab w) := hT
  clear hsa hsb hT
  obtain ⟨Q, hQ⟩ : ∃ Q, gtI f ka na ea sa kb nb eb sb = Q := ⟨_, rfl⟩
  have HQ : Hid ((if numB f ka na ea sa && numB f kb nb eb sb then (if ka == 3 then gtP f kb nb eb sb kb nb eb sb else if kb == 3 then gtP f ka na ea sa ka na ea sa else gtP f ka na ea sa kb nb eb sb) else (false, (0, 0, { data := #[] }, 0))) = Q) := hQ
  rw [hQ]
  clear hQ
  cases hr : (numB f ka na ea sa && numB f kb nb eb sb) with
  | false =>
    rw [hr] at HR HQ
    have E : Q = (false, (0, 0, { data := #[] }, 0)) := HQ.out.symm
    subst E
    clear hr HQ HT
    go_enter Tryz.func30, Tryz.ntmps30
    go_wp2_with fail
    refine (HR.out _).mono ?_
    rintro x w1 ⟨rfl, hb1⟩
    have HG1 : Hid (GB w.heap.size ka na ea sa kb nb eb sb w1 ∧ Below w.heap.size w w1) := ⟨HG.out.1.next hb1, HG.out.2.trans (hb1.mono HG.out.2.size)⟩
    clear hb1 HG HR
    go_wp2_with (refine wpList_store_row rfl 29 (.tmp 6) (.tmp 12) rfl (w.heap.size + 2) #[.int .i64 0, .bool false, .int .i64 0, .string { data := #[] }, .int .i64 0] rfl rfl _ _ HG1.out.1.2 (by kernel_rfl) rfl (one5 _ _ _ _ _) ?_)
    have hP := (HG1.out.1.2.row (.int .i64 0) (.bool false) (.int .i64 0) (.string { data := #[] }) (.int .i64 0)).cells
    refine bodyPost_ret (results_res rfl _ _ rfl hP.1 hP.2.1 hP.2.2.1 hP.2.2.2.1 hP.2.2.2.2.1) rfl ?_
    exact ⟨rfl, bel_row HG1.out.2 (by omega) _⟩
  | true =>
    obtain ⟨hA, hB⟩ := Bool.and_eq_true_iff.1 hr
    rw [hr] at HR HQ
    have HAB : Hid (numB f ka na ea sa = true ∧ numB f kb nb eb sb = true) := ⟨hA, hB⟩
    clear hr hA hB
    cases h3 : (ka == 3) with
    | true =>
      have E : gtP f kb nb eb sb kb nb eb sb = Q := by have := HQ.out; rw [h3] at this; exact this
      clear HQ
      have HO : Hid (∀ W, KTab W → At4q W w.heap.size (.int .i64 kb) (.bool nb) (.int .i64 eb) (.string sb) → At4q W (w.heap.size + 1) (.int .i64 kb) (.bool nb) (.int .i64 eb) (.string sb) → Calls Tryz.prog 46 #[.int .i64 f, .int .i64 1, .func (.func 100) #[] #[.pointer (some ⟨w.heap.size, 0, none⟩), .pointer (some ⟨w.heap.size + 1, 0, none⟩)], .slice (some ⟨W.heap.size, 0, none⟩) 2 2] (W.alloc (.cells #[.int .i64 kb, .bool nb, .int .i64 eb, .string sb, .int .i64 kb, .bool nb, .int .i64 eb, .string sb] 25)) fun x w' => x = .returned (rsD Q.1 Q.2) ∧ Below (W.alloc (.cells #[.int .i64 kb, .bool nb, .int .i64 eb, .string sb, .int .i64 kb, .bool nb, .int .i64 eb, .string sb] 25)).heap.size (W.alloc (.cells #[.int .i64 kb, .bool nb, .int .i64 eb, .string sb, .int .i64 kb, .bool nb, .int .i64 eb, .string sb] 25)) w') := fun W hT h1 h2 => E ▸ ofG_any f kb nb eb sb kb nb eb sb w.heap.size W HAB.out.2 HAB.out.2 hT h1 h2
      clear E HAB
      obtain ⟨R0, F1, F2, F3, F4⟩ := Q
      go_enter Tryz.func30, Tryz.ntmps30
      go_wp2_with fail
      refine (HR.out _).mono ?_
      rintro x w1 ⟨rfl, hb1⟩
      have HG1 : Hid (GB w.heap.size ka na ea sa kb nb eb sb w1 ∧ Below w.heap.size w w1) := ⟨HG.out.1.next hb1, HG.out.2.trans (hb1.mono HG.out.2.size)⟩
      clear hb1 HG HR
      obtain ⟨c0, c1, c2, c3, c4⟩ := HG1.out.1.1.1.cells
      obtain ⟨d0, d1, d2, d3, d4⟩ := HG1.out.1.1.2.cells
      go_wp2_with (refine wpList_store_row rfl 25 (.tmp 4) (.tmp 17) rfl w.heap.size #[.int .i64 kb, .bool nb, .int .i64 eb, .string sb] rfl rfl _ _ HG1.out.1.1.1 (by kernel_rfl) rfl (one4 _ _ _ _) (Hid.out ?_))
      have HG2 : Hid (GB w.heap.size kb nb eb sb kb nb eb sb (w1.setRow w.heap.size #[.int .i64 kb, .bool nb, .int .i64 eb, .string sb]) ∧ Below w.heap.size w (w1.setRow w.heap.size #[.int .i64 kb, .bool nb, .int .i64 eb, .string sb])) := ⟨⟨⟨HG1.out.1.1.1.rowq _ _ _ _, HG1.out.1.1.2.othq (by omega) _⟩, (setRow_other _ _ _ _ (by omega)).trans HG1.out.1.2⟩, bel_row HG1.out.2 (Nat.le_refl _) _⟩
      generalize w1.setRow w.heap.size #[.int .i64 kb, .bool nb, .int .i64 eb, .string sb] = w2 at *
      clear HG1 c0 c1 c2 c3 c4 d0 d1 d2 d3 d4
      obtain ⟨c0, c1, c2, c3, c4⟩ := HG2.out.1.1.1.cells
      obtain ⟨d0, d1, d2, d3, d4⟩ := HG2.out.1.1.2.cells
      unfold Hid
      go_wp2_with fail
      refine (HO.out w2 (HT.out.next HG2.out.2) HG2.out.1.1.1 HG2.out.1.1.2).mono ?_
      rintro x w3 ⟨rfl, hb3⟩
      have hba : Below w2.heap.size w2 (w2.alloc (.cells #[.int .i64 kb, .bool nb, .int .i64 eb, .string sb, .int .i64 kb, .bool nb, .int .i64 eb, .string sb] 25)) := (Below.refl _ _).alloc (Nat.le_refl _) _
      have HZ : Hid (At5 w3 (w.heap.size + 2) (.int .i64 0) (.bool false) (.int .i64 0) (.string { data := #[] }) (.int .i64 0) ∧ Below w.heap.size w w3) := ⟨((HG2.out.1.next hba).next hb3).2, (HG2.out.2.trans (hba.mono HG2.out.2.size)).trans (hb3.mono (HG2.out.2.trans (hba.mono HG2.out.2.size)).size)⟩
      clear hb3 hba HO HT HG2 c0 c1 c2 c3 c4 d0 d1 d2 d3 d4
      go_wp2_with (refine wpList_store_row rfl 29 (.tmp 6) (.tmp 28) rfl (w.heap.size + 2) #[.int .i64 F1, .bool R0, .int .i64 F2, .string F3, .int .i64 F4] rfl rfl _ _ HZ.out.1 (by kernel_rfl) rfl (one5 _ _ _ _ _) ?_)
      have hP := (HZ.out.1.row (.int .i64 F1) (.bool R0) (.int .i64 F2) (.string F3) (.int .i64 F4)).cells
      refine bodyPost_ret (results_res rfl _ _ rfl hP.1 hP.2.1 hP.2.2.1 hP.2.2.2.1 hP.2.2.2.2.1) rfl ?_
      exact ⟨rfl, bel_row HZ.out.2 (by omega) _⟩
    | false =>
      cases h4 : (kb == 3) with
      | true =>
        have E : gtP f ka na ea sa ka na ea sa = Q := by have := HQ.out; rw [h3, h4] at this; exact this
        clear HQ
        have HO : Hid (∀ W, KTab W → At4q W w.heap.size (.int .i64 ka) (.bool na) (.int .i64 ea) (.string sa) → At4q W (w.heap.size + 1) (.int .i64 ka) (.bool na) (.int .i64 ea) (.string sa) → Calls Tryz.prog 46 #[.int .i64 f, .int .i64 1, .func (.func 100) #[] #[.pointer (some ⟨w.heap.size, 0, none⟩), .pointer (some ⟨w.heap.size + 1, 0, none⟩)], .slice (some ⟨W.heap.size, 0, none⟩) 2 2] (W.alloc (.cells #[.int .i64 ka, .bool na, .int .i64 ea, .string sa, .int .i64 ka, .bool na, .int .i64 ea, .string sa] 25)) fun x w' => x = .returned (rsD Q.1 Q.2) ∧ Below (W.alloc (.cells #[.int .i64 ka, .bool na, .int .i64 ea, .string sa, .int .i64 ka, .bool na, .int .i64 ea, .string sa] 25)).heap.size (W.alloc (.cells #[.int .i64 ka, .bool na, .int .i64 ea, .string sa, .int .i64 ka, .bool na, .int .i64 ea, .string sa] 25)) w') := fun W hT h1 h2 => E ▸ ofG_any f ka na ea sa ka na ea sa w.heap.size W HAB.out.1 HAB.out.1 hT h1 h2
        clear E HAB
        obtain ⟨R0, F1, F2, F3, F4⟩ := Q
        go_enter Tryz.func30, Tryz.ntmps30
        go_wp2_with fail
        refine (HR.out _).mono ?_
        rintro x w1 ⟨rfl, hb1⟩
        have HG1 : Hid (GB w.heap.size ka na ea sa kb nb eb sb w1 ∧ Below w.heap.size w w1) := ⟨HG.out.1.next hb1, HG.out.2.trans (hb1.mono HG.out.2.size)⟩
        clear hb1 HG HR
        obtain ⟨c0, c1, c2, c3, c4⟩ := HG1.out.1.1.1.cells
        obtain ⟨d0, d1, d2, d3, d4⟩ := HG1.out.1.1.2.cells
        go_wp2_with (refine wpList_store_row rfl 25 (.tmp 5) (.tmp 22) rfl (w.heap.size + 1) #[.int .i64 ka, .bool na, .int .i64 ea, .string sa] rfl rfl _ _ HG1.out.1.1.2 (by kernel_rfl) rfl (one4 _ _ _ _) (Hid.out ?_))
        have HG2 : Hid (GB w.heap.size ka na ea sa ka na ea sa (w1.setRow (w.heap.size + 1) #[.int .i64 ka, .bool na, .int .i64 ea, .string sa]) ∧ Below w.heap.size w (w1.setRow (w.heap.size + 1) #[.int .i64 ka, .bool na, .int .i64 ea, .string sa])) := ⟨⟨⟨HG1.out.1.1.1.othq (by omega) _, HG1.out.1.1.2.rowq _ _ _ _⟩, (setRow_other _ _ _ _ (by omega)).trans HG1.out.1.2⟩, bel_row HG1.out.2 (by omega) _⟩
        generalize w1.setRow (w.heap.size + 1) #[.int .i64 ka, .bool na, .int .i64 ea, .string sa] = w2 at *
        clear HG1 c0 c1 c2 c3 c4 d0 d1 d2 d3 d4
        obtain ⟨c0, c1, c2, c3, c4⟩ := HG2.out.1.1.1.cells
        obtain ⟨d0, d1, d2, d3, d4⟩ := HG2.out.1.1.2.cells
        unfold Hid
        go_wp2_with fail
        refine (HO.out w2 (HT.out.next HG2.out.2) HG2.out.1.1.1 HG2.out.1.1.2).mono ?_
        rintro x w3 ⟨rfl, hb3⟩
        have hba : Below w2.heap.size w2 (w2.alloc (.cells #[.int .i64 ka, .bool na, .int .i64 ea, .string sa, .int .i64 ka, .bool na, .int .i64 ea, .string sa] 25)) := (Below.refl _ _).alloc (Nat.le_refl _) _
        have HZ : Hid (At5 w3 (w.heap.size + 2) (.int .i64 0) (.bool false) (.int .i64 0) (.string { data := #[] }) (.int .i64 0) ∧ Below w.heap.size w w3) := ⟨((HG2.out.1.next hba).next hb3).2, (HG2.out.2.trans (hba.mono HG2.out.2.size)).trans (hb3.mono (HG2.out.2.trans (hba.mono HG2.out.2.size)).size)⟩
        clear hb3 hba HO HT HG2 c0 c1 c2 c3 c4 d0 d1 d2 d3 d4
        go_wp2_with (refine wpList_store_row rfl 29 (.tmp 6) (.tmp 28) rfl (w.heap.size + 2) #[.int .i64 F1, .bool R0, .int .i64 F2, .string F3, .int .i64 F4] rfl rfl _ _ HZ.out.1 (by kernel_rfl) rfl (one5 _ _ _ _ _) ?_)
        have hP := (HZ.out.1.row (.int .i64 F1) (.bool R0) (.int .i64 F2) (.string F3) (.int .i64 F4)).cells
        refine bodyPost_ret (results_res rfl _ _ rfl hP.1 hP.2.1 hP.2.2.1 hP.2.2.2.1 hP.2.2.2.2.1) rfl ?_
        exact ⟨rfl, bel_row HZ.out.2 (by omega) _⟩
      | false =>
        have E : gtP f ka na ea sa kb nb eb sb = Q := by have := HQ.out; rw [h3, h4] at this; exact this
        clear HQ
        have HO : Hid (∀ W, KTab W → At4q W w.heap.size (.int .i64 ka) (.bool na) (.int .i64 ea) (.string sa) → At4q W (w.heap.size + 1) (.int .i64 kb) (.bool nb) (.int .i64 eb) (.string sb) → Calls Tryz.prog 46 #[.int .i64 f, .int .i64 1, .func (.func 100) #[] #[.pointer (some ⟨w.heap.size, 0, none⟩), .pointer (some ⟨w.heap.size + 1, 0, none⟩)], .slice (some ⟨W.heap.size, 0, none⟩) 2 2] (W.alloc (.cells #[.int .i64 ka, .bool na, .int .i64 ea, .string sa, .int .i64 kb, .bool nb, .int .i64 eb, .string sb] 25)) fun x w' => x = .returned (rsD Q.1 Q.2) ∧ Below (W.alloc (.cells #[.int .i64 ka, .bool na, .int .i64 ea, .string sa, .int .i64 kb, .bool nb, .int .i64 eb, .string sb] 25)).heap.size (W.alloc (.cells #[.int .i64 ka, .bool na, .int .i64 ea, .string sa, .int .i64 kb, .bool nb, .int .i64 eb, .string sb] 25)) w') := fun W hT h1 h2 => E ▸ ofG_any f ka na ea sa kb nb eb sb w.heap.size W HAB.out.1 HAB.out.2 hT h1 h2
        clear E HAB
        obtain ⟨R0, F1, F2, F3, F4⟩ := Q
        go_enter Tryz.func30, Tryz.ntmps30
        go_wp2_with fail
        refine (HR.out _).mono ?_
        rintro x w1 ⟨rfl, hb1⟩
        have HG1 : Hid (GB w.heap.size ka na ea sa kb nb eb sb w1 ∧ Below w.heap.size w w1) := ⟨HG.out.1.next hb1, HG.out.2.trans (hb1.mono HG.out.2.size)⟩
        clear hb1 HG HR
        obtain ⟨c0, c1, c2, c3, c4⟩ := HG1.out.1.1.1.cells
        obtain ⟨d0, d1, d2, d3, d4⟩ := HG1.out.1.1.2.cells
        go_wp2_with fail
        refine (HO.out w1 (HT.out.next HG1.out.2) HG1.out.1.1.1 HG1.out.1.1.2).mono ?_
        rintro x w3 ⟨rfl, hb3⟩
        have hba : Below w1.heap.size w1 (w1.alloc (.cells #[.int .i64 ka, .bool na, .int .i64 ea, .string sa, .int .i64 kb, .bool nb, .int .i64 eb, .string sb] 25)) := (Below.refl _ _).alloc (Nat.le_refl _) _
        have HZ : Hid (At5 w3 (w.heap.size + 2) (.int .i64 0) (.bool false) (.int .i64 0) (.string { data := #[] }) (.int .i64 0) ∧ Below w.heap.size w w3) := ⟨((HG1.out.1.next hba).next hb3).2, (HG1.out.2.trans (hba.mono HG1.out.2.size)).trans (hb3.mono (HG1.out.2.trans (hba.mono HG1.out.2.size)).size)⟩
        clear hb3 hba HO HT HG1 c0 c1 c2 c3 c4 d0 d1 d2 d3 d4
        go_wp2_with (refine wpList_store_row rfl 29 (.tmp 6) (.tmp 28) rfl (w.heap.size + 2) #[.int .i64 F1, .bool R0, .int .i64 F2, .string F3, .int .i64 F4] rfl rfl _ _ HZ.out.1 (by kernel_rfl) rfl (one5 _ _ _ _ _) ?_)
        have hP := (HZ.out.1.row (.int .i64 F1) (.bool R0) (.int .i64 F2) (.string F3) (.int .i64 F4)).cells
        refine bodyPost_ret (results_res rfl _ _ rfl hP.1 hP.2.1 hP.2.2.1 hP.2.2.2.1 hP.2.2.2.2.1) rfl ?_
        exact ⟨rfl, bel_row HZ.out.2 (by omega) _⟩
end Go.Proofs.YtnkoeidolmiheaaGreatDoor
namespace Go.Proofs.YtnkoeidolmiheaaGreatDoor
open Go.RowKit
set_option linter.unusedVariables false
set_option maxRecDepth 100000
theorem orI_zero (x y : Int) (h : orI x y = 0) : x = 0 ∧ y = 0 := by
  unfold orI at h
  by_cases hx : x = 0
  · rw [if_pos hx] at h; exact ⟨hx, h⟩
  · rw [if_neg hx] at h; exact absurd h hx
theorem cI_zero (x y : Int) (h : cI x y = 0) : x = y := by
  unfold cI at h
  by_cases c1 : x < y
  · rw [if_pos c1] at h; cases h
  · rw [if_neg c1] at h
    by_cases c2 : y < x
    · rw [if_pos c2] at h; cases h
    · omega
theorem cmpR_turn (x : Bool) (ka : Int) (na : Bool) (ea : Int) (sa : ByteArray) (kb : Int) (nb : Bool) (eb : Int) (sb : ByteArray) : cmpR x kb nb eb sb ka na ea sa = -cmpR x ka na ea sa kb nb eb sb := by
  unfold cmpR
  cases na <;> cases nb
  · exact cmpU_turn x ka ea sa kb eb sb
  · rfl
  · rfl
  · exact cmpU_turn x kb eb sb ka ea sa
/-- Sizes that are alike, with one exponent: one text. -/
theorem csz_same (f : Int) (na : Bool) (e : Int) (sa : ByteArray) (nb : Bool) (sb : ByteArray) (hA : numB f 1 na e sa = true) (hB : numB f 1 nb e sb = true) (h : cszI 1 e sa 1 e sb = 0) : sa = sb := by
  unfold cszI at h
  obtain ⟨h1, h2⟩ := orI_zero _ _ h
  have h1 := cI_zero _ _ h1
  obtain ⟨-, -, lA, eA, -, -⟩ := numB_bd f 1 na e sa hA
  obtain ⟨-, -, lB, eB, -, -⟩ := numB_bd f 1 nb e sb hB
  cases za : nouB 1 sa
  · cases zb : nouB 1 sb
    · rw [fpl_no _ _ _ za, fpl_no _ _ _ zb] at h1
      obtain ⟨da, ca, rfl⟩ := right_nat f na e sa hA
      obtain ⟨db, cb, rfl⟩ := right_nat f nb e sb hB
      rw [tx_size, tx_size] at h1
      rw [cmp_trS da db ca.1 cb.1 0 0 (by omega)] at h2
      have := cI_zero _ _ h2
      simp only [Int.pow_zero, Int.mul_one] at this
      rw [canon_unique da db ca cb this]
    · rw [fpl_no _ _ _ za, fpl_yes _ _ _ zb] at h1; omega
  · cases zb : nouB 1 sb
    · rw [fpl_yes _ _ _ za, fpl_no _ _ _ zb] at h1; omega
    · rw [(nou_spec _ _ za).2, (nou_spec _ _ zb).2]
theorem cmpU_same (f : Int) (ka : Int) (na : Bool) (ea : Int) (sa : ByteArray) (kb : Int) (nb : Bool) (eb : Int) (sb : ByteArray) (hA : numB f ka na ea sa = true) (hB : numB f kb nb eb sb = true) (h : cmpU true ka ea sa kb eb sb = 0) : ka = kb ∧ ea = eb ∧ sa = sb := by
  obtain ⟨-, kA, lA, eA, oA, -⟩ := numB_bd f ka na ea sa hA
  obtain ⟨-, kB, lB, eB, oB, -⟩ := numB_bd f kb nb eb sb hB
  unfold cmpU at h
  rw [if_pos rfl] at h
  obtain ⟨h1, h2⟩ := orI_zero _ _ h
  obtain ⟨h1, h3⟩ := orI_zero _ _ h1
  have hk := kpl_same ka kb kA kB h1
  have he := cI_zero _ _ h2
  subst hk he
  refine ⟨rfl, rfl, ?_⟩
  by_cases hk : ka = 1
  · subst hk
    exact csz_same f na ea sa nb sb hA hB h3
  · rw [size_0 sa (oA hk).2, size_0 sb (oB hk).2]
theorem cmpR_same (f : Int) (ka : Int) (na : Bool) (ea : Int) (sa : ByteArray) (kb : Int) (nb : Bool) (eb : Int) (sb : ByteArray) (hA : numB f ka na ea sa = true) (hB : numB f kb nb eb sb = true) (h : cmpR true ka na ea sa kb nb eb sb = 0) : ka = kb ∧ na = nb ∧ ea = eb ∧ sa = sb := by
  unfold cmpR at h
  cases na <;> cases nb
  · obtain ⟨a, b, c⟩ := cmpU_same f ka false ea sa kb false eb sb hA hB h
    exact ⟨a, rfl, b, c⟩
  · cases h
  · cases h
  · obtain ⟨a, b, c⟩ := cmpU_same f kb true eb sb ka true ea sa hB hA h
    exact ⟨a.symm, rfl, b.symm, c.symm⟩
/-- What is less by value is so in the order of all. -/
theorem mc_total (ka : Int) (na : Bool) (ea : Int) (sa : ByteArray) (kb : Int) (nb : Bool) (eb : Int) (sb : ByteArray) (h : mcV ka na ea sa kb nb eb sb ≠ 0) : cmpR true ka na ea sa kb nb eb sb = mcV ka na ea sa kb nb eb sb := by
  unfold mcV at *
  cases hz : (nouB ka sa && nouB kb sb)
  · rw [hz] at h
    rw [if_neg (by decide)] at h ⊢
    have key : ∀ (k1 e1 : Int) (s1 : ByteArray) (k2 e2 : Int) (s2 : ByteArray), cmpU false k1 e1 s1 k2 e2 s2 ≠ 0 → cmpU true k1 e1 s1 k2 e2 s2 = cmpU false k1 e1 s1 k2 e2 s2 := fun k1 e1 s1 k2 e2 s2 hn => by
      have q1 : cmpU false k1 e1 s1 k2 e2 s2 = orI (cI (kpl k1) (kpl k2)) (cszI k1 e1 s1 k2 e2 s2) := rfl
      have q2 : cmpU true k1 e1 s1 k2 e2 s2 = orI (orI (cI (kpl k1) (kpl k2)) (cszI k1 e1 s1 k2 e2 s2)) (cI e1 e2) := rfl
      rw [q1] at hn
      rw [q2, q1]
      generalize orI (cI (kpl k1) (kpl k2)) (cszI k1 e1 s1 k2 e2 s2) = u at *
      exact if_neg hn
    unfold cmpR at *
    cases na <;> cases nb
    · exact key _ _ _ _ _ _ h
    · rfl
    · rfl
    · exact key _ _ _ _ _ _ h
  · rw [hz] at h; exact absurd rfl h
/-- What Greater tells. -/
def gtR (f : Int) (ka : Int) (na : Bool) (ea : Int) (sa : ByteArray) (kb : Int) (nb : Bool) (eb : Int) (sb : ByteArray) : R5o :=
  if numB f ka na ea sa && numB f kb nb eb sb then (if (ka == 4) || (kb == 4) then (false, (3, 0, { data := #[] }, 1)) else if ka == 3 then (nb, (kb, eb, sb, 0)) else if kb == 3 then (na, (ka, ea, sa, 0)) else if cmpR true ka na ea sa kb nb eb sb < 0 then (nb, (kb, eb, sb, 0)) else (na, (ka, ea, sa, 0))) else (false, (0, 0, { data := #[] }, 0))
theorem lst_same (ka : Int) (na : Bool) (ea : Int) (sa : ByteArray)  : lstR ka na ea sa ka na ea sa = (na, (ka, ea, sa, 0)) := by unfold lstR; split <;> rfl
theorem gtP_right (f : Int) (ka : Int) (na : Bool) (ea : Int) (sa : ByteArray) (kb : Int) (nb : Bool) (eb : Int) (sb : ByteArray) (hA : numB f ka na ea sa = true) (hB : numB f kb nb eb sb = true) : gtP f ka na ea sa kb nb eb sb = if spB 2 (pr2 ka kb) then (false, (3, 0, { data := #[] }, spF 2 (pr2 ka kb))) else lstR ka na ea sa kb nb eb sb := by
  unfold gtP ofR
  have : rightB f 1 2 (pr2 ka kb) (pr2 na nb) (pr2 ea eb) (pr2 sa sb) = true := by
    unfold rightB
    simp only [Bool.and_eq_true, decide_eq_true_eq]
    refine ⟨by omega, fun i hi => ?_⟩
    match i, hi with
    | 0, _ => exact hA
    | 1, _ => exact hB
  rw [this]; rfl
theorem sp2_no (ka kb : Int) (h1 : ka ≠ 3) (h2 : ka ≠ 4) (h3 : kb ≠ 3) (h4 : kb ≠ 4) : spB 2 (pr2 ka kb) = false := by
  unfold spB
  refine decide_eq_false ?_
  rintro ⟨i, hi, hk⟩
  match i, hi with
  | 0, _ => exact hk.elim h1 h2
  | 1, _ => exact hk.elim h3 h4
theorem sp2_4 (ka kb : Int) (h : ka = 4 ∨ kb = 4) : spB 2 (pr2 ka kb) = true ∧ spF 2 (pr2 ka kb) = 1 := by
  have : ∃ i, i < 2 ∧ pr2 ka kb i = 4 := by
    rcases h with h | h
    · exact ⟨0, by decide, h⟩
    · exact ⟨1, by decide, h⟩
  refine ⟨?_, ?_⟩
  · unfold spB
    obtain ⟨i, hi, hk⟩ := this
    exact decide_eq_true ⟨i, hi, .inr hk⟩
  · unfold spF; rw [if_pos this]
theorem sp2_3 : spB 2 (pr2 3 3) = true ∧ spF 2 (pr2 3 3) = 0 := by
  refine ⟨decide_eq_true ⟨0, by decide, .inl rfl⟩, ?_⟩
  unfold spF
  rw [if_neg]
  rintro ⟨i, hi, hk⟩
  match i, hi with
  | 0, _ => revert hk; decide
  | 1, _ => revert hk; decide
theorem gt_same (f : Int) (ka : Int) (na : Bool) (ea : Int) (sa : ByteArray) (kb : Int) (nb : Bool) (eb : Int) (sb : ByteArray) : gtI f ka na ea sa kb nb eb sb = gtR f ka na ea sa kb nb eb sb := by
  unfold gtI gtR
  cases hr : (numB f ka na ea sa && numB f kb nb eb sb) with
  | false => rfl
  | true =>
    rw [if_pos rfl, if_pos rfl]
    obtain ⟨hA, hB⟩ := Bool.and_eq_true_iff.1 hr
    obtain ⟨-, kA, lA, eA, oA, sA⟩ := numB_bd f ka na ea sa hA
    obtain ⟨-, kB, lB, eB, oB, sB⟩ := numB_bd f kb nb eb sb hB
    by_cases h3 : ka = 3
    · subst h3
      rw [show ((3 : Int) == 3) = true from rfl, if_pos rfl, gtP_right f _ _ _ _ _ _ _ _ hB hB, show ((3 : Int) == 4) = false from rfl, Bool.false_or, if_pos rfl]
      by_cases h4 : kb = 4
      · subst h4
        rw [(sp2_4 4 4 (.inl rfl)).1, (sp2_4 4 4 (.inl rfl)).2]; rfl
      · have h4' : (kb == 4) = false := beq_eq_false_iff_ne.2 h4
        rw [h4']
        by_cases h33 : kb = 3
        · subst h33
          obtain ⟨rfl, sz⟩ := oB (by decide)
          obtain rfl := size_0 sb sz
          rw [sB (.inl rfl), sp2_3.1, sp2_3.2]; rfl
        · rw [sp2_no kb kb h33 h4 h33 h4, lst_same]; rfl
    · have h3' : (ka == 3) = false := beq_eq_false_iff_ne.2 h3
      rw [h3', if_neg (by decide)]
      by_cases h33 : kb = 3
      · subst h33
        rw [show ((3 : Int) == 3) = true from rfl, if_pos rfl, gtP_right f _ _ _ _ _ _ _ _ hA hA, show ((3 : Int) == 4) = false from rfl, Bool.or_false]
        by_cases h4 : ka = 4
        · subst h4
          rw [(sp2_4 4 4 (.inl rfl)).1, (sp2_4 4 4 (.inl rfl)).2]; rfl
        · have h4' : (ka == 4) = false := beq_eq_false_iff_ne.2 h4
          rw [h4', sp2_no ka ka h3 h4 h3 h4, lst_same]; rfl
      · have h33' : (kb == 3) = false := beq_eq_false_iff_ne.2 h33
        rw [h33', if_neg (by decide), gtP_right f _ _ _ _ _ _ _ _ hA hB]
        by_cases h4 : ka = 4 ∨ kb = 4
        · rw [(sp2_4 ka kb h4).1, (sp2_4 ka kb h4).2]
          have : ((ka == 4) || (kb == 4)) = true := by simpa using h4
          rw [this]; rfl
        · have e : ((ka == 4) || (kb == 4)) = false := by
            rw [Bool.or_eq_false_iff, beq_eq_false_iff_ne, beq_eq_false_iff_ne]
            exact ⟨fun h => h4 (.inl h), fun h => h4 (.inr h)⟩
          rw [e, sp2_no ka kb h3 (fun h => h4 (.inl h)) h33 (fun h => h4 (.inr h))]
          rw [if_neg (by decide), if_neg (by decide), if_neg (by decide), if_neg (by decide)]
          unfold lstR
          rw [cmpR_turn true ka na ea sa kb nb eb sb]
          by_cases c : cmpR true ka na ea sa kb nb eb sb = 0
          · obtain ⟨rfl, rfl, rfl, rfl⟩ := cmpR_same f ka na ea sa kb nb eb sb hA hB c
            split <;> split <;> rfl
          · by_cases c2 : cmpR true ka na ea sa kb nb eb sb < 0
            · rw [if_neg (by omega), if_pos c2]
            · rw [if_pos (by omega), if_neg c2]
end Go.Proofs.YtnkoeidolmiheaaGreatDoor
