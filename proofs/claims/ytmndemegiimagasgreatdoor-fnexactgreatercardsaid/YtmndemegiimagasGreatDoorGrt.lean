/-
  The greater one of two, of the program, walked.
-/
import Derived.Test.YtmndemegiimagasGreatDoorSrt
import Derived.Test.YtmndemegiimagasGreatDoorOrd
import Derived.Test.YtmndemegiimagasGreatDoorOfn
import Derived.Test.YtmndemegiimagasGreatDoorBx4r
namespace Go.Proofs.YtmndemegiimagasGreatDoor
open Go.RowKit
set_option linter.unusedVariables false
set_option maxRecDepth 100000
theorem At4r.gset3 {w : World} {b : Nat} {x y z u : Value} (h : At4r w b x y z u) (u' : Value) : At4r (w.setCell ⟨b, 3, none⟩ u') b x y z u' := by
  unfold At4r at *
  simp [World.setCell, Array.getElem?_modify, h]
theorem At4r.gfar {w : World} {b c : Nat} {x y z u : Value} (h : At4r w b x y z u) (hc : c ≠ b) (i : Nat) (v : Value) : At4r (w.setCell ⟨c, i, none⟩ v) b x y z u := by
  unfold At4r at *
  simp [World.setCell, Array.getElem?_modify, h, hc]
theorem gCopied_any (k : Int) (b : Bool) (e : Int) (s : ByteArray) (w : World) (hs : s.size ≤ 600) : Calls Tryz.prog 31 #[numV k b e s] w fun x w' => x = .returned (numV k b e s) ∧ Below w.heap.size w w' := by
  have HCl : Hid (∀ X, Calls Tryz.prog 50 #[.string s] X fun e w' => e = .returned (.string s) ∧ Below X.heap.size X w') := fun X => iClone_any s X hs
  clear hs
  have h1 := at4r_new w (.int .i64 k) (.bool b) (.int .i64 e) (.string s)
  have z1 := new_size w (.cells #[.int .i64 k, .bool b, .int .i64 e, .string s] 25)
  have b1 : Below w.heap.size w (w.alloc (.cells #[.int .i64 k, .bool b, .int .i64 e, .string s] 25)) := (Below.refl _ _).alloc (Nat.le_refl _) _
  have h2 := at4r_new (w.alloc (.cells #[.int .i64 k, .bool b, .int .i64 e, .string s] 25)) (.int .i64 0) (.bool false) (.int .i64 0) (.string { data := #[] })
  have b2 : Below (w.alloc (.cells #[.int .i64 k, .bool b, .int .i64 e, .string s] 25)).heap.size (w.alloc (.cells #[.int .i64 k, .bool b, .int .i64 e, .string s] 25)) ((w.alloc (.cells #[.int .i64 k, .bool b, .int .i64 e, .string s] 25)).alloc (.cells #[.int .i64 0, .bool false, .int .i64 0, .string { data := #[] }] 25)) := (Below.refl _ _).alloc (Nat.le_refl _) _
  rw [z1] at h2
  have HN : Hid (At4r ((w.alloc (.cells #[.int .i64 k, .bool b, .int .i64 e, .string s] 25)).alloc (.cells #[.int .i64 0, .bool false, .int .i64 0, .string { data := #[] }] 25)) w.heap.size (.int .i64 k) (.bool b) (.int .i64 e) (.string s) ∧ At4r ((w.alloc (.cells #[.int .i64 k, .bool b, .int .i64 e, .string s] 25)).alloc (.cells #[.int .i64 0, .bool false, .int .i64 0, .string { data := #[] }] 25)) (w.heap.size + 1) (.int .i64 0) (.bool false) (.int .i64 0) (.string { data := #[] }) ∧ Below w.heap.size w ((w.alloc (.cells #[.int .i64 k, .bool b, .int .i64 e, .string s] 25)).alloc (.cells #[.int .i64 0, .bool false, .int .i64 0, .string { data := #[] }] 25))) := ⟨h1.next b2, h2, b1.trans (b2.mono b1.size)⟩
  clear h1 z1 b1 h2 b2
  go_enter Tryz.func31, Tryz.ntmps31
  go_wp2_with fail
  refine (HCl.out _).mono ?_
  rintro x w1 ⟨rfl, hb1⟩
  have HN1 : Hid (At4r w1 w.heap.size (.int .i64 k) (.bool b) (.int .i64 e) (.string s) ∧ At4r w1 (w.heap.size + 1) (.int .i64 0) (.bool false) (.int .i64 0) (.string { data := #[] }) ∧ Below w.heap.size w w1) := ⟨HN.out.1.next hb1, HN.out.2.1.next hb1, HN.out.2.2.trans (hb1.mono HN.out.2.2.size)⟩
  have HN2 : Hid (At4r (w1.setCell ⟨w.heap.size, 3, none⟩ (.string s)) w.heap.size (.int .i64 k) (.bool b) (.int .i64 e) (.string s) ∧ At4r (w1.setCell ⟨w.heap.size, 3, none⟩ (.string s)) (w.heap.size + 1) (.int .i64 0) (.bool false) (.int .i64 0) (.string { data := #[] }) ∧ Below w.heap.size w (w1.setCell ⟨w.heap.size, 3, none⟩ (.string s))) := ⟨HN1.out.1.gset3 _, HN1.out.2.1.gfar (by omega) _ _, HN1.out.2.2.setCell (Nat.le_refl _) _⟩
  obtain ⟨a0, a1, a2, a3, a4⟩ := HN1.out.1.cells
  obtain ⟨c0, c1, c2, c3, c4⟩ := HN2.out.1.cells
  clear hb1 HN HCl HN1
  go_wp2_with (refine wpList_store_row rfl 25 (.tmp 2) (.tmp 7) rfl (w.heap.size + 1) #[.int .i64 k, .bool b, .int .i64 e, .string s] rfl rfl _ _ HN2.out.2.1 (by kernel_rfl) rfl (one4 _ _ _ _) ?_)
  have hP := (HN2.out.2.1.row (.int .i64 k) (.bool b) (.int .i64 e) (.string s)).cells
  refine bodyPost_ret (results_num rfl _ _ rfl hP.1 hP.2.1 hP.2.2.1 hP.2.2.2.1) rfl ?_
  exact ⟨rfl, bel_row HN2.out.2.2 (by omega) _⟩
def pr2 {α : Type} (a b : α) (i : Nat) : α := if i = 0 then a else b
/-- The last one by the order of all. -/
def lstR (ka : Int) (na : Bool) (ea : Int) (sa : ByteArray) (kb : Int) (nb : Bool) (eb : Int) (sb : ByteArray) : R5o := if cmpR true kb nb eb sb ka na ea sa < 0 then (na, (ka, ea, sa, 0)) else (nb, (kb, eb, sb, 0))
abbrev rw2 (W : World) (ka : Int) (na : Bool) (ea : Int) (sa : ByteArray) (kb : Int) (nb : Bool) (eb : Int) (sb : ByteArray) : World := W.alloc (.cells #[.int .i64 ka, .bool na, .int .i64 ea, .string sa, .int .i64 kb, .bool nb, .int .i64 eb, .string sb] 25)
theorem rw2_new (W : World) (ka : Int) (na : Bool) (ea : Int) (sa : ByteArray) (kb : Int) (nb : Bool) (eb : Int) (sb : ByteArray) : Row2 (rw2 W ka na ea sa kb nb eb sb) W.heap.size ka na ea sa kb nb eb sb ∧ Below W.heap.size W (rw2 W ka na ea sa kb nb eb sb) := ⟨(MapKept.heap_alloc W _).1, (Below.refl _ _).alloc (Nat.le_refl _) _⟩
set_option maxRecDepth 100000 in
set_option maxHeartbeats 1000000 in
theorem lastOf_any (f : Int) (ka : Int) (na : Bool) (ea : Int) (sa : ByteArray) (kb : Int) (nb : Bool) (eb : Int) (sb : ByteArray) (w : World) (hA : numB f ka na ea sa = true) (hB : numB f kb nb eb sb = true) (hT : KTab w) :
    Calls Tryz.prog 36 #[numV ka na ea sa, numV kb nb eb sb] w fun x w' => x = .returned (numV (lstR ka na ea sa kb nb eb sb).2.1 (lstR ka na ea sa kb nb eb sb).1 (lstR ka na ea sa kb nb eb sb).2.2.1 (lstR ka na ea sa kb nb eb sb).2.2.2.1) ∧ Below w.heap.size w w' := by
  have hmf : ∀ (fn : Fn) (first cap : Array Value) (w : World), (Instr.makeFunc fn first cap).run Tryz.prog w = .ok (.func fn first cap) w := fun _ _ _ _ => rfl
  have hbo := build_ord true
  obtain ⟨W, hW⟩ : ∃ W, (n2W w ka na ea sa kb nb eb sb).alloc (.cells #[.int .i64 0, .bool false, .int .i64 0, .string { data := #[] }] 25) = W := ⟨_, rfl⟩
  obtain ⟨hN0, hb0, hz0⟩ := n2_new w ka na ea sa kb nb eb sb
  have h3 := at4r_new (n2W w ka na ea sa kb nb eb sb) (.int .i64 0) (.bool false) (.int .i64 0) (.string { data := #[] })
  have b3 : Below (n2W w ka na ea sa kb nb eb sb).heap.size (n2W w ka na ea sa kb nb eb sb) ((n2W w ka na ea sa kb nb eb sb).alloc (.cells #[.int .i64 0, .bool false, .int .i64 0, .string { data := #[] }] 25)) := (Below.refl _ _).alloc (Nat.le_refl _) _
  have z3 : ((n2W w ka na ea sa kb nb eb sb).alloc (.cells #[.int .i64 0, .bool false, .int .i64 0, .string { data := #[] }] 25)).heap.size = w.heap.size + 3 := by rw [new_size, hz0]
  have hbW := hb0.trans (b3.mono hb0.size)
  rw [hz0] at h3
  rw [hW] at h3 hbW z3
  obtain ⟨hR, hRb⟩ := rw2_new W ka na ea sa kb nb eb sb
  have HC : Hid (∀ X, Below (rw2 W ka na ea sa kb nb eb sb).heap.size (rw2 W ka na ea sa kb nb eb sb) X → Calls Tryz.prog 58 #[.agg #[.bool true], numV kb nb eb sb, numV ka na ea sa] X fun r w' => r = .returned (.int .i64 (cmpR true kb nb eb sb ka na ea sa)) ∧ Below X.heap.size X w') := fun X hX => oCompare_right true f kb nb eb sb ka na ea sa X hB hA (((hT.next hbW).next hRb).next hX)
  have HS : Hid (Calls Tryz.prog 57 #[.slice (some ⟨W.heap.size, 0, none⟩) 2 2, .func (.func 58) #[.agg #[.bool true]] #[]] (rw2 W ka na ea sa kb nb eb sb) fun e w' => e = .returned (.tuple #[]) ∧ srt (cmpR true kb nb eb sb ka na ea sa) w' W.heap.size ka na ea sa kb nb eb sb ∧ Below W.heap.size W w') := sort2_any W.heap.size W.heap.size W ka na ea sa kb nb eb sb _ _ hR hRb (Nat.le_refl _) HC
  have HZ : Hid (At4r W (w.heap.size + 2) (.int .i64 0) (.bool false) (.int .i64 0) (.string { data := #[] }) ∧ Below w.heap.size w W ∧ W.heap.size = w.heap.size + 3) := ⟨h3, hbW, z3⟩
  have HL : Hid (lstR ka na ea sa kb nb eb sb = if cmpR true kb nb eb sb ka na ea sa < 0 then (na, (ka, ea, sa, 0)) else (nb, (kb, eb, sb, 0))) := rfl
  rw [z3] at HS
  rw [HL.out]
  clear hN0 hb0 hz0 h3 b3 z3 hbW hR hRb HC hA hB hT HL
  generalize cmpR true kb nb eb sb ka na ea sa = C at *
  rw [← hW] at HS
  have HW : Hid (((w.alloc (.cells #[.int .i64 ka, .bool na, .int .i64 ea, .string sa] 25)).alloc (.cells #[.int .i64 kb, .bool nb, .int .i64 eb, .string sb] 25)).alloc (.cells #[.int .i64 0, .bool false, .int .i64 0, .string { data := #[] }] 25) = W) := hW
  clear hW
  by_cases hc : C < 0
  · rw [if_pos hc]
    have HcC : Hid (C < 0) := hc
    clear hc
    go_enter Tryz.func36, Tryz.ntmps36
    go_wp2_with fail
    refine HS.out.mono ?_
    rintro e w1 ⟨rfl, h1, h2⟩
    have h2' : Below (w.heap.size + 3) W w1 := by rw [← HW.out]; exact h2
    rw [← HZ.out.2.2] at h2'
    have HZ1 : Hid (At4r w1 (w.heap.size + 2) (.int .i64 0) (.bool false) (.int .i64 0) (.string { data := #[] }) ∧ Below w.heap.size w w1) := ⟨HZ.out.1.next h2', HZ.out.2.1.trans (h2'.mono HZ.out.2.1.size)⟩
    have hr : Row2 w1 (w.heap.size + 3) kb nb eb sb ka na ea sa := by unfold srt at h1; rw [if_pos HcC.out] at h1; exact h1
    obtain ⟨q0, q1, q2, q3, q4, q5, q6, q7, q8⟩ := hr.cells
    clear h2 h2' HS HW HZ h1 hr HcC
    go_wp2_with (refine wpList_store_row rfl 25 (.tmp 4) (.tmp 15) rfl (w.heap.size + 2) #[.int .i64 ka, .bool na, .int .i64 ea, .string sa] rfl rfl _ _ HZ1.out.1 (by kernel_rfl) rfl (one4 _ _ _ _) ?_)
    have hP := (HZ1.out.1.row (.int .i64 ka) (.bool na) (.int .i64 ea) (.string sa)).cells
    refine bodyPost_ret (results_num rfl _ _ rfl hP.1 hP.2.1 hP.2.2.1 hP.2.2.2.1) rfl ?_
    exact ⟨rfl, bel_row HZ1.out.2 (by omega) _⟩
  · rw [if_neg hc]
    have HcC : Hid (¬ C < 0) := hc
    clear hc
    go_enter Tryz.func36, Tryz.ntmps36
    go_wp2_with fail
    refine HS.out.mono ?_
    rintro e w1 ⟨rfl, h1, h2⟩
    have h2' : Below (w.heap.size + 3) W w1 := by rw [← HW.out]; exact h2
    rw [← HZ.out.2.2] at h2'
    have HZ1 : Hid (At4r w1 (w.heap.size + 2) (.int .i64 0) (.bool false) (.int .i64 0) (.string { data := #[] }) ∧ Below w.heap.size w w1) := ⟨HZ.out.1.next h2', HZ.out.2.1.trans (h2'.mono HZ.out.2.1.size)⟩
    have hr : Row2 w1 (w.heap.size + 3) ka na ea sa kb nb eb sb := by unfold srt at h1; rw [if_neg (by have := HcC.out; omega)] at h1; exact h1
    obtain ⟨q0, q1, q2, q3, q4, q5, q6, q7, q8⟩ := hr.cells
    clear h2 h2' HS HW HZ h1 hr HcC
    go_wp2_with (refine wpList_store_row rfl 25 (.tmp 4) (.tmp 15) rfl (w.heap.size + 2) #[.int .i64 kb, .bool nb, .int .i64 eb, .string sb] rfl rfl _ _ HZ1.out.1 (by kernel_rfl) rfl (one4 _ _ _ _) ?_)
    have hP := (HZ1.out.1.row (.int .i64 kb) (.bool nb) (.int .i64 eb) (.string sb)).cells
    refine bodyPost_ret (results_num rfl _ _ rfl hP.1 hP.2.1 hP.2.2.1 hP.2.2.2.1) rfl ?_
    exact ⟨rfl, bel_row HZ1.out.2 (by omega) _⟩
set_option maxRecDepth 100000 in
set_option maxHeartbeats 1000000 in
theorem greater1_any (p : Nat) (f : Int) (ka : Int) (na : Bool) (ea : Int) (sa : ByteArray) (kb : Int) (nb : Bool) (eb : Int) (sb : ByteArray) (w : World) (hA : numB f ka na ea sa = true) (hB : numB f kb nb eb sb = true) (hT : KTab w) (h1 : At4q w p (.int .i64 ka) (.bool na) (.int .i64 ea) (.string sa)) (h2 : At4q w (p + 1) (.int .i64 kb) (.bool nb) (.int .i64 eb) (.string sb)) :
    Calls Tryz.prog 35 #[.pointer (some ⟨p, 0, none⟩), .pointer (some ⟨p + 1, 0, none⟩)] w fun x w' => x = .returned (rsD (lstR ka na ea sa kb nb eb sb).1 (lstR ka na ea sa kb nb eb sb).2) ∧ Below w.heap.size w w' := by
  have hZ := at5_new w (.int .i64 0) (.bool false) (.int .i64 0) (.string { data := #[] }) (.int .i64 0)
  have hb : Below w.heap.size w (w.alloc (.cells #[.int .i64 0, .bool false, .int .i64 0, .string { data := #[] }, .int .i64 0] 27)) := (Below.refl _ _).alloc (Nat.le_refl _) _
  have HL : Hid (∀ X, Below w.heap.size w X → Calls Tryz.prog 36 #[numV ka na ea sa, numV kb nb eb sb] X fun x w' => x = .returned (numV (lstR ka na ea sa kb nb eb sb).2.1 (lstR ka na ea sa kb nb eb sb).1 (lstR ka na ea sa kb nb eb sb).2.2.1 (lstR ka na ea sa kb nb eb sb).2.2.2.1) ∧ Below X.heap.size X w') := fun X hX => lastOf_any f ka na ea sa kb nb eb sb X hA hB (hT.next hX)
  obtain ⟨-, -, lA, -⟩ := numB_bd f ka na ea sa hA
  obtain ⟨-, -, lB, -⟩ := numB_bd f kb nb eb sb hB
  have hsz : (lstR ka na ea sa kb nb eb sb).2.2.2.1.size ≤ 600 ∧ (lstR ka na ea sa kb nb eb sb).2.2.2.2 = 0 := by
    unfold lstR
    split
    · exact ⟨by show sa.size ≤ 600; omega, rfl⟩
    · exact ⟨by show sb.size ≤ 600; omega, rfl⟩
  obtain ⟨q0, q1, q2, q3, -⟩ := (h1.next hb).cells
  obtain ⟨d0, d1, d2, d3, -⟩ := (h2.next hb).cells
  generalize lstR ka na ea sa kb nb eb sb = R at *
  obtain ⟨R0, F1, F2, F3, F4⟩ := R
  obtain ⟨hs, h4⟩ := hsz
  dsimp only at hs h4 HL
  subst h4
  have HCp : Hid (∀ X, Calls Tryz.prog 31 #[numV F1 R0 F2 F3] X fun x w' => x = .returned (numV F1 R0 F2 F3) ∧ Below X.heap.size X w') := fun X => gCopied_any F1 R0 F2 F3 X hs
  have HZ : Hid (At5 (w.alloc (.cells #[.int .i64 0, .bool false, .int .i64 0, .string { data := #[] }, .int .i64 0] 27)) w.heap.size (.int .i64 0) (.bool false) (.int .i64 0) (.string { data := #[] }) (.int .i64 0) ∧ Below w.heap.size w (w.alloc (.cells #[.int .i64 0, .bool false, .int .i64 0, .string { data := #[] }, .int .i64 0] 27))) := ⟨hZ, hb⟩
  have hbr := build_res0 F1 R0 F2 F3
  clear hZ hb hA hB hT h1 h2 lA lB hs
  go_enter Tryz.func35, Tryz.ntmps35
  go_wp2_with fail
  refine (HL.out _ HZ.out.2).mono ?_
  rintro x w1 ⟨rfl, hb1⟩
  have HZ1 : Hid (At5 w1 w.heap.size (.int .i64 0) (.bool false) (.int .i64 0) (.string { data := #[] }) (.int .i64 0) ∧ Below w.heap.size w w1) := ⟨HZ.out.1.below hb1 HZ.out.1.lt, HZ.out.2.trans (hb1.mono HZ.out.2.size)⟩
  clear hb1 HZ HL q0 q1 q2 q3 d0 d1 d2 d3
  go_wp2_with fail
  refine (HCp.out _).mono ?_
  rintro x w2 ⟨rfl, hb2⟩
  have HZ2 : Hid (At5 w2 w.heap.size (.int .i64 0) (.bool false) (.int .i64 0) (.string { data := #[] }) (.int .i64 0) ∧ Below w.heap.size w w2) := ⟨HZ1.out.1.below hb2 HZ1.out.1.lt, HZ1.out.2.trans (hb2.mono HZ1.out.2.size)⟩
  clear hb2 HZ1 HCp
  go_wp2_with (refine wpList_store_row rfl 27 (.tmp 2) (.tmp 7) rfl w.heap.size #[.int .i64 F1, .bool R0, .int .i64 F2, .string F3, .int .i64 0] rfl rfl _ _ HZ2.out.1 (by kernel_rfl) rfl (one5 _ _ _ _ _) ?_)
  have hP := (HZ2.out.1.row (.int .i64 F1) (.bool R0) (.int .i64 F2) (.string F3) (.int .i64 0)).cells
  refine bodyPost_ret (results_res rfl _ _ rfl hP.1 hP.2.1 hP.2.2.1 hP.2.2.2.1 hP.2.2.2.2.1) rfl ?_
  exact ⟨rfl, bel_row HZ2.out.2 (Nat.le_refl _) _⟩
end Go.Proofs.YtmndemegiimagasGreatDoor
