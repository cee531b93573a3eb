/-
  Greater of the program, walked.
-/
import Derived.Test.YtmndemegiimagasGreatDoorGrt
namespace Go.Proofs.YtmndemegiimagasGreatDoor
open Go.RowKit
set_option linter.unusedVariables false
set_option maxRecDepth 100000
/-- What is told of the two that are held against each other. -/
def gtP (f : Int) (ka : Int) (na : Bool) (ea : Int) (sa : ByteArray) (kb : Int) (nb : Bool) (eb : Int) (sb : ByteArray) : R5o := ofR f 1 2 (pr2 ka kb) (pr2 na nb) (pr2 ea eb) (pr2 sa sb) (lstR ka na ea sa kb nb eb sb)
def gtI (f : Int) (ka : Int) (na : Bool) (ea : Int) (sa : ByteArray) (kb : Int) (nb : Bool) (eb : Int) (sb : ByteArray) : R5o :=
  if numB f ka na ea sa && numB f kb nb eb sb then (if ka == 3 then gtP f kb nb eb sb kb nb eb sb else if kb == 3 then gtP f ka na ea sa ka na ea sa else gtP f ka na ea sa kb nb eb sb) else (false, (0, 0, { data := #[] }, 0))
theorem rw2_nrw (W : World) (ka : Int) (na : Bool) (ea : Int) (sa : ByteArray) (kb : Int) (nb : Bool) (eb : Int) (sb : ByteArray) : NRw (rw2 W ka na ea sa kb nb eb sb) W.heap.size 2 (pr2 ka kb) (pr2 na nb) (pr2 ea eb) (pr2 sa sb) := by
  obtain ⟨q0, q1, q2, q3, q4, q5, q6, q7, -⟩ := (rw2_new W ka na ea sa kb nb eb sb).1.cells
  intro i hi
  match i, hi with
  | 0, _ => exact ⟨q0, q1, q2, q3⟩
  | 1, _ => exact ⟨q4, q5, q6, q7⟩
theorem ofG_any (f : Int) (ka : Int) (na : Bool) (ea : Int) (sa : ByteArray) (kb : Int) (nb : Bool) (eb : Int) (sb : ByteArray) (p : Nat) (W : World) (hA : numB f ka na ea sa = true) (hB : numB f kb nb eb sb = true) (hT : KTab W) (h1 : At4q W p (.int .i64 ka) (.bool na) (.int .i64 ea) (.string sa)) (h2 : At4q W (p + 1) (.int .i64 kb) (.bool nb) (.int .i64 eb) (.string sb)) :
    Calls Tryz.prog 23 #[.int .i64 f, .int .i64 1, .func (.func 35) #[] #[.pointer (some ⟨p, 0, none⟩), .pointer (some ⟨p + 1, 0, none⟩)], .slice (some ⟨W.heap.size, 0, none⟩) 2 2] (rw2 W ka na ea sa kb nb eb sb) fun x w' => x = .returned (rsD (gtP f ka na ea sa kb nb eb sb).1 (gtP f ka na ea sa kb nb eb sb).2) ∧ Below (rw2 W ka na ea sa kb nb eb sb).heap.size (rw2 W ka na ea sa kb nb eb sb) w' := by
  obtain ⟨hR, hRb⟩ := rw2_new W ka na ea sa kb nb eb sb
  obtain ⟨-, -, lA, -⟩ := numB_bd f ka na ea sa hA
  obtain ⟨-, -, lB, -⟩ := numB_bd f kb nb eb sb hB
  have HE : ∀ args w, (callFunc 35 args).run Tryz.prog w = .ok (.enter 35 args) w := enters_of Tryz.func35 (by kernel_rfl) rfl
  exact ofNumbers_any f 1 35 _ HE 2 W.heap.size (pr2 ka kb) (pr2 na nb) (pr2 ea eb) (pr2 sa sb) (lstR ka na ea sa kb nb eb sb) _ (by decide) (by decide) hR.lt (rw2_nrw W ka na ea sa kb nb eb sb) (fun i hi => by match i, hi with
    | 0, _ => show sa.size ≤ _; omega
    | 1, _ => show sb.size ≤ _; omega) (fun _ _ Y hY => (greater1_any p f ka na ea sa kb nb eb sb Y hA hB ((hT.next hRb).next hY) ((h1.next hRb).next hY) ((h2.next hRb).next hY)).mono fun _ _ h => ⟨.inl h.1, h.2⟩)
/-- The boxes of Greater: the two numbers, its result. -/
def GB (p : Nat) (ka : Int) (na : Bool) (ea : Int) (sa : ByteArray) (kb : Int) (nb : Bool) (eb : Int) (sb : ByteArray) (W : World) : Prop := N2 p ka na ea sa kb nb eb sb W ∧ At5 W (p + 2) (.int .i64 0) (.bool false) (.int .i64 0) (.string { data := #[] }) (.int .i64 0)
theorem GB.next {p : Nat} {W W' : World} {ka : Int} {na : Bool} {ea : Int} {sa : ByteArray} {kb : Int} {nb : Bool} {eb : Int} {sb : ByteArray} (h : GB p ka na ea sa kb nb eb sb W) (hb : Below W.heap.size W W') : GB p ka na ea sa kb nb eb sb W' := ⟨h.1.next hb, h.2.below hb h.2.lt⟩
theorem At4q.rowq {w : World} {b : Nat} {x y z u : Value} (h : At4q w b x y z u) (x' y' z' u' : Value) : At4q (w.setRow b #[x', y', z', u']) b x' y' z' u' := setRow_heap w b _ _ _ _ h
theorem At4q.othq {w : World} {b c : Nat} {x y z u : Value} (h : At4q w b x y z u) (hc : b ≠ c) (cs : Array Value) : At4q (w.setRow c cs) b x y z u := (setRow_other w c b cs hc).trans h
theorem gb_new (w : World) (ka : Int) (na : Bool) (ea : Int) (sa : ByteArray) (kb : Int) (nb : Bool) (eb : Int) (sb : ByteArray) : GB w.heap.size ka na ea sa kb nb eb sb ((n2W w ka na ea sa kb nb eb sb).alloc (.cells #[.int .i64 0, .bool false, .int .i64 0, .string { data := #[] }, .int .i64 0] 27)) ∧ Below w.heap.size w ((n2W w ka na ea sa kb nb eb sb).alloc (.cells #[.int .i64 0, .bool false, .int .i64 0, .string { data := #[] }, .int .i64 0] 27)) := by
  obtain ⟨hN0, hb0, hz0⟩ := n2_new w ka na ea sa kb nb eb sb
  have h3 := at5_new (n2W w ka na ea sa kb nb eb sb) (.int .i64 0) (.bool false) (.int .i64 0) (.string { data := #[] }) (.int .i64 0)
  have b3 : Below (n2W w ka na ea sa kb nb eb sb).heap.size (n2W w ka na ea sa kb nb eb sb) ((n2W w ka na ea sa kb nb eb sb).alloc (.cells #[.int .i64 0, .bool false, .int .i64 0, .string { data := #[] }, .int .i64 0] 27)) := (Below.refl _ _).alloc (Nat.le_refl _) _
  rw [hz0] at h3
  exact ⟨⟨hN0.next b3, h3⟩, hb0.trans (b3.mono hb0.size)⟩
set_option maxRecDepth 100000 in
set_option maxHeartbeats 1000000 in
theorem iGreater_any (f : Int) (ka : Int) (na : Bool) (ea : Int) (sa : ByteArray) (kb : Int) (nb : Bool) (eb : Int) (sb : ByteArray) (w : World) (hsa : sa.size ≤ 4611686018427387904) (hsb : sb.size ≤ 4611686018427387904) (hT : KTab w) :
    Calls Tryz.prog 14 #[.int .i64 f, numV ka na ea sa, numV kb nb eb sb] w fun x w' => x = .returned (rsD (gtI f ka na ea sa kb nb eb sb).1 (gtI f ka na ea sa kb nb eb sb).2) ∧ Below w.heap.size w w' := by
  have hmf : ∀ (fn : Fn) (first cap : Array Value) (w : World), (Instr.makeFunc fn first cap).run Tryz.prog w = .ok (.func fn first cap) w := fun _ _ _ _ => rfl
  have hb00 : ∀ w, (Instr.build 27 #[]).run Tryz.prog w = .ok (rsV 0 false 0 { data := #[] } 0) w := fun w => run_build w _ _ _ (by kernel_rfl)
  have HR : Hid (∀ X, Calls Tryz.prog 34 #[.int .i64 f, numV ka na ea sa, numV kb nb eb sb] X fun x w' => x = .returned (.bool (numB f ka na ea sa && numB f kb nb eb sb)) ∧ Below X.heap.size X w') := fun X => oRight_any f ka na ea sa kb nb eb sb X hsa hsb
  have HG : Hid (GB w.heap.size ka na ea sa kb nb eb sb (((w.alloc (.cells #[.int .i64 ka, .bool na, .int .i64 ea, .string sa] 25)).alloc (.cells #[.int .i64 kb, .bool nb, .int .i64 eb, .string sb] 25)).alloc (.cells #[.int .i64 0, .bool false, .int .i64 0, .string { data := #[] }, .int .i64 0] 27)) ∧ Below w.heap.size w (((w.alloc (.cells #[.int .i64 ka, .bool na, .int .i64 ea, .string sa] 25)).alloc (.cells #[.int .i64 kb, .bool nb, .int .i64 eb, .string sb] 25)).alloc (.cells #[.int .i64 0, .bool false, .int .i64 0, .string { data := #[] }, .int .i64 0] 27))) := gb_new w ka na ea sa kb nb eb sb
  have HT : Hid (KTab w) := hT
  clear hsa hsb hT
  obtain ⟨Q, hQ⟩ : ∃ Q, gtI f ka na ea sa kb nb eb sb = Q := ⟨_, rfl⟩
  have HQ : Hid ((if numB f ka na ea sa && numB f kb nb eb sb then (if ka == 3 then gtP f kb nb eb sb kb nb eb sb else if kb == 3 then gtP f ka na ea sa ka na ea sa else gtP f ka na ea sa kb nb eb sb) else (false, (0, 0, { data := #[] }, 0))) = Q) := hQ
  rw [hQ]
  clear hQ
  cases hr : (numB f ka na ea sa && numB f kb nb eb sb) with
  | false =>
    rw [hr] at HR HQ
    have E : Q = (false, (0, 0, { data := #[] }, 0)) := HQ.out.symm
    subst E
    clear hr HQ HT
    go_enter Tryz.func14, Tryz.ntmps14
    go_wp2_with fail
    refine (HR.out _).mono ?_
    rintro x w1 ⟨rfl, hb1⟩
    have HG1 : Hid (GB w.heap.size ka na ea sa kb nb eb sb w1 ∧ Below w.heap.size w w1) := ⟨HG.out.1.next hb1, HG.out.2.trans (hb1.mono HG.out.2.size)⟩
    clear hb1 HG HR
    go_wp2_with (refine wpList_store_row rfl 27 (.tmp 6) (.tmp 12) rfl (w.heap.size + 2) #[.int .i64 0, .bool false, .int .i64 0, .string { data := #[] }, .int .i64 0] rfl rfl _ _ HG1.out.1.2 (by kernel_rfl) rfl (one5 _ _ _ _ _) ?_)
    have hP := (HG1.out.1.2.row (.int .i64 0) (.bool false) (.int .i64 0) (.string { data := #[] }) (.int .i64 0)).cells
    refine bodyPost_ret (results_res rfl _ _ rfl hP.1 hP.2.1 hP.2.2.1 hP.2.2.2.1 hP.2.2.2.2.1) rfl ?_
    exact ⟨rfl, bel_row HG1.out.2 (by omega) _⟩
  | true =>
    obtain ⟨hA, hB⟩ := Bool.and_eq_true_iff.1 hr
    rw [hr] at HR HQ
    have HAB : Hid (numB f ka na ea sa = true ∧ numB f kb nb eb sb = true) := ⟨hA, hB⟩
    clear hr hA hB
    cases h3 : (ka == 3) with
    | true =>
      have E : gtP f kb nb eb sb kb nb eb sb = Q := by have := HQ.out; rw [h3] at this; exact this
      clear HQ
      have HO : Hid (∀ W, KTab W → At4q W w.heap.size (.int .i64 kb) (.bool nb) (.int .i64 eb) (.string sb) → At4q W (w.heap.size + 1) (.int .i64 kb) (.bool nb) (.int .i64 eb) (.string sb) → Calls Tryz.prog 23 #[.int .i64 f, .int .i64 1, .func (.func 35) #[] #[.pointer (some ⟨w.heap.size, 0, none⟩), .pointer (some ⟨w.heap.size + 1, 0, none⟩)], .slice (some ⟨W.heap.size, 0, none⟩) 2 2] (W.alloc (.cells #[.int .i64 kb, .bool nb, .int .i64 eb, .string sb, .int .i64 kb, .bool nb, .int .i64 eb, .string sb] 25)) fun x w' => x = .returned (rsD Q.1 Q.2) ∧ Below (W.alloc (.cells #[.int .i64 kb, .bool nb, .int .i64 eb, .string sb, .int .i64 kb, .bool nb, .int .i64 eb, .string sb] 25)).heap.size (W.alloc (.cells #[.int .i64 kb, .bool nb, .int .i64 eb, .string sb, .int .i64 kb, .bool nb, .int .i64 eb, .string sb] 25)) w') := fun W hT h1 h2 => E ▸ ofG_any f kb nb eb sb kb nb eb sb w.heap.size W HAB.out.2 HAB.out.2 hT h1 h2
      clear E HAB
      obtain ⟨R0, F1, F2, F3, F4⟩ := Q
      go_enter Tryz.func14, Tryz.ntmps14
      go_wp2_with fail
      refine (HR.out _).mono ?_
      rintro x w1 ⟨rfl, hb1⟩
      have HG1 : Hid (GB w.heap.size ka na ea sa kb nb eb sb w1 ∧ Below w.heap.size w w1) := ⟨HG.out.1.next hb1, HG.out.2.trans (hb1.mono HG.out.2.size)⟩
      clear hb1 HG HR
      obtain ⟨c0, c1, c2, c3, c4⟩ := HG1.out.1.1.1.cells
      obtain ⟨d0, d1, d2, d3, d4⟩ := HG1.out.1.1.2.cells
      go_wp2_with (refine wpList_store_row rfl 25 (.tmp 4) (.tmp 17) rfl w.heap.size #[.int .i64 kb, .bool nb, .int .i64 eb, .string sb] rfl rfl _ _ HG1.out.1.1.1 (by kernel_rfl) rfl (one4 _ _ _ _) (Hid.out ?_))
      have HG2 : Hid (GB w.heap.size kb nb eb sb kb nb eb sb (w1.setRow w.heap.size #[.int .i64 kb, .bool nb, .int .i64 eb, .string sb]) ∧ Below w.heap.size w (w1.setRow w.heap.size #[.int .i64 kb, .bool nb, .int .i64 eb, .string sb])) := ⟨⟨⟨HG1.out.1.1.1.rowq _ _ _ _, HG1.out.1.1.2.othq (by omega) _⟩, (setRow_other _ _ _ _ (by omega)).trans HG1.out.1.2⟩, bel_row HG1.out.2 (Nat.le_refl _) _⟩
      generalize w1.setRow w.heap.size #[.int .i64 kb, .bool nb, .int .i64 eb, .string sb] = w2 at *
      clear HG1 c0 c1 c2 c3 c4 d0 d1 d2 d3 d4
      obtain ⟨c0, c1, c2, c3, c4⟩ := HG2.out.1.1.1.cells
      obtain ⟨d0, d1, d2, d3, d4⟩ := HG2.out.1.1.2.cells
      unfold Hid
      go_wp2_with fail
      refine (HO.out w2 (HT.out.next HG2.out.2) HG2.out.1.1.1 HG2.out.1.1.2).mono ?_
      rintro x w3 ⟨rfl, hb3⟩
      have hba : Below w2.heap.size w2 (w2.alloc (.cells #[.int .i64 kb, .bool nb, .int .i64 eb, .string sb, .int .i64 kb, .bool nb, .int .i64 eb, .string sb] 25)) := (Below.refl _ _).alloc (Nat.le_refl _) _
      have HZ : Hid (At5 w3 (w.heap.size + 2) (.int .i64 0) (.bool false) (.int .i64 0) (.string { data := #[] }) (.int .i64 0) ∧ Below w.heap.size w w3) := ⟨((HG2.out.1.next hba).next hb3).2, (HG2.out.2.trans (hba.mono HG2.out.2.size)).trans (hb3.mono (HG2.out.2.trans (hba.mono HG2.out.2.size)).size)⟩
      clear hb3 hba HO HT HG2 c0 c1 c2 c3 c4 d0 d1 d2 d3 d4
      go_wp2_with (refine wpList_store_row rfl 27 (.tmp 6) (.tmp 28) rfl (w.heap.size + 2) #[.int .i64 F1, .bool R0, .int .i64 F2, .string F3, .int .i64 F4] rfl rfl _ _ HZ.out.1 (by kernel_rfl) rfl (one5 _ _ _ _ _) ?_)
      have hP := (HZ.out.1.row (.int .i64 F1) (.bool R0) (.int .i64 F2) (.string F3) (.int .i64 F4)).cells
      refine bodyPost_ret (results_res rfl _ _ rfl hP.1 hP.2.1 hP.2.2.1 hP.2.2.2.1 hP.2.2.2.2.1) rfl ?_
      exact ⟨rfl, bel_row HZ.out.2 (by omega) _⟩
    | false =>
      cases h4 : (kb == 3) with
      | true =>
        have E : gtP f ka na ea sa ka na ea sa = Q := by have := HQ.out; rw [h3, h4] at this; exact this
        clear HQ
        have HO : Hid (∀ W, KTab W → At4q W w.heap.size (.int .i64 ka) (.bool na) (.int .i64 ea) (.string sa) → At4q W (w.heap.size + 1) (.int .i64 ka) (.bool na) (.int .i64 ea) (.string sa) → Calls Tryz.prog 23 #[.int .i64 f, .int .i64 1, .func (.func 35) #[] #[.pointer (some ⟨w.heap.size, 0, none⟩), .pointer (some ⟨w.heap.size + 1, 0, none⟩)], .slice (some ⟨W.heap.size, 0, none⟩) 2 2] (W.alloc (.cells #[.int .i64 ka, .bool na, .int .i64 ea, .string sa, .int .i64 ka, .bool na, .int .i64 ea, .string sa] 25)) fun x w' => x = .returned (rsD Q.1 Q.2) ∧ Below (W.alloc (.cells #[.int .i64 ka, .bool na, .int .i64 ea, .string sa, .int .i64 ka, .bool na, .int .i64 ea, .string sa] 25)).heap.size (W.alloc (.cells #[.int .i64 ka, .bool na, .int .i64 ea, .string sa, .int .i64 ka, .bool na, .int .i64 ea, .string sa] 25)) w') := fun W hT h1 h2 => E ▸ ofG_any f ka na ea sa ka na ea sa w.heap.size W HAB.out.1 HAB.out.1 hT h1 h2
        clear E HAB
        obtain ⟨R0, F1, F2, F3, F4⟩ := Q
        go_enter Tryz.func14, Tryz.ntmps14
        go_wp2_with fail
        refine (HR.out _).mono ?_
        rintro x w1 ⟨rfl, hb1⟩
        have HG1 : Hid (GB w.heap.size ka na ea sa kb nb eb sb w1 ∧ Below w.heap.size w w1) := ⟨HG.out.1.next hb1, HG.out.2.trans (hb1.mono HG.out.2.size)⟩
        clear hb1 HG HR
        obtain ⟨c0, c1, c2, c3, c4⟩ := HG1.out.1.1.1.cells
        obtain ⟨d0, d1, d2, d3, d4⟩ := HG1.out.1.1.2.cells
        go_wp2_with (refine wpList_store_row rfl 25 (.tmp 5) (.tmp 22) rfl (w.heap.size + 1) #[.int .i64 ka, .bool na, .int .i64 ea, .string sa] rfl rfl _ _ HG1.out.1.1.2 (by kernel_rfl) rfl (one4 _ _ _ _) (Hid.out ?_))
        have HG2 : Hid (GB w.heap.size ka na ea sa ka na ea sa (w1.setRow (w.heap.size + 1) #[.int .i64 ka, .bool na, .int .i64 ea, .string sa]) ∧ Below w.heap.size w (w1.setRow (w.heap.size + 1) #[.int .i64 ka, .bool na, .int .i64 ea, .string sa])) := ⟨⟨⟨HG1.out.1.1.1.othq (by omega) _, HG1.out.1.1.2.rowq _ _ _ _⟩, (setRow_other _ _ _ _ (by omega)).trans HG1.out.1.2⟩, bel_row HG1.out.2 (by omega) _⟩
        generalize w1.setRow (w.heap.size + 1) #[.int .i64 ka, .bool na, .int .i64 ea, .string sa] = w2 at *
        clear HG1 c0 c1 c2 c3 c4 d0 d1 d2 d3 d4
        obtain ⟨c0, c1, c2, c3, c4⟩ := HG2.out.1.1.1.cells
        obtain ⟨d0, d1, d2, d3, d4⟩ := HG2.out.1.1.2.cells
        unfold Hid
        go_wp2_with fail
        refine (HO.out w2 (HT.out.next HG2.out.2) HG2.out.1.1.1 HG2.out.1.1.2).mono ?_
        rintro x w3 ⟨rfl, hb3⟩
        have hba : Below w2.heap.size w2 (w2.alloc (.cells #[.int .i64 ka, .bool na, .int .i64 ea, .string sa, .int .i64 ka, .bool na, .int .i64 ea, .string sa] 25)) := (Below.refl _ _).alloc (Nat.le_refl _) _
        have HZ : Hid (At5 w3 (w.heap.size + 2) (.int .i64 0) (.bool false) (.int .i64 0) (.string { data := #[] }) (.int .i64 0) ∧ Below w.heap.size w w3) := ⟨((HG2.out.1.next hba).next hb3).2, (HG2.out.2.trans (hba.mono HG2.out.2.size)).trans (hb3.mono (HG2.out.2.trans (hba.mono HG2.out.2.size)).size)⟩
        clear hb3 hba HO HT HG2 c0 c1 c2 c3 c4 d0 d1 d2 d3 d4
        go_wp2_with (refine wpList_store_row rfl 27 (.tmp 6) (.tmp 28) rfl (w.heap.size + 2) #[.int .i64 F1, .bool R0, .int .i64 F2, .string F3, .int .i64 F4] rfl rfl _ _ HZ.out.1 (by kernel_rfl) rfl (one5 _ _ _ _ _) ?_)
        have hP := (HZ.out.1.row (.int .i64 F1) (.bool R0) (.int .i64 F2) (.string F3) (.int .i64 F4)).cells
        refine bodyPost_ret (results_res rfl _ _ rfl hP.1 hP.2.1 hP.2.2.1 hP.2.2.2.1 hP.2.2.2.2.1) rfl ?_
        exact ⟨rfl, bel_row HZ.out.2 (by omega) _⟩
      | false =>
        have E : gtP f ka na ea sa kb nb eb sb = Q := by have := HQ.out; rw [h3, h4] at this; exact this
        clear HQ
        have HO : Hid (∀ W, KTab W → At4q W w.heap.size (.int .i64 ka) (.bool na) (.int .i64 ea) (.string sa) → At4q W (w.heap.size + 1) (.int .i64 kb) (.bool nb) (.int .i64 eb) (.string sb) → Calls Tryz.prog 23 #[.int .i64 f, .int .i64 1, .func (.func 35) #[] #[.pointer (some ⟨w.heap.size, 0, none⟩), .pointer (some ⟨w.heap.size + 1, 0, none⟩)], .slice (some ⟨W.heap.size, 0, none⟩) 2 2] (W.alloc (.cells #[.int .i64 ka, .bool na, .int .i64 ea, .string sa, .int .i64 kb, .bool nb, .int .i64 eb, .string sb] 25)) fun x w' => x = .returned (rsD Q.1 Q.2) ∧ Below (W.alloc (.cells #[.int .i64 ka, .bool na, .int .i64 ea, .string sa, .int .i64 kb, .bool nb, .int .i64 eb, .string sb] 25)).heap.size (W.alloc (.cells #[.int .i64 ka, .bool na, .int .i64 ea, .string sa, .int .i64 kb, .bool nb, .int .i64 eb, .string sb] 25)) w') := fun W hT h1 h2 => E ▸ ofG_any f ka na ea sa kb nb eb sb w.heap.size W HAB.out.1 HAB.out.2 hT h1 h2
        clear E HAB
        obtain ⟨R0, F1, F2, F3, F4⟩ := Q
        go_enter Tryz.func14, Tryz.ntmps14
        go_wp2_with fail
        refine (HR.out _).mono ?_
        rintro x w1 ⟨rfl, hb1⟩
        have HG1 : Hid (GB w.heap.size ka na ea sa kb nb eb sb w1 ∧ Below w.heap.size w w1) := ⟨HG.out.1.next hb1, HG.out.2.trans (hb1.mono HG.out.2.size)⟩
        clear hb1 HG HR
        obtain ⟨c0, c1, c2, c3, c4⟩ := HG1.out.1.1.1.cells
        obtain ⟨d0, d1, d2, d3, d4⟩ := HG1.out.1.1.2.cells
        go_wp2_with fail
        refine (HO.out w1 (HT.out.next HG1.out.2) HG1.out.1.1.1 HG1.out.1.1.2).mono ?_
        rintro x w3 ⟨rfl, hb3⟩
        have hba : Below w1.heap.size w1 (w1.alloc (.cells #[.int .i64 ka, .bool na, .int .i64 ea, .string sa, .int .i64 kb, .bool nb, .int .i64 eb, .string sb] 25)) := (Below.refl _ _).alloc (Nat.le_refl _) _
        have HZ : Hid (At5 w3 (w.heap.size + 2) (.int .i64 0) (.bool false) (.int .i64 0) (.string { data := #[] }) (.int .i64 0) ∧ Below w.heap.size w w3) := ⟨((HG1.out.1.next hba).next hb3).2, (HG1.out.2.trans (hba.mono HG1.out.2.size)).trans (hb3.mono (HG1.out.2.trans (hba.mono HG1.out.2.size)).size)⟩
        clear hb3 hba HO HT HG1 c0 c1 c2 c3 c4 d0 d1 d2 d3 d4
        go_wp2_with (refine wpList_store_row rfl 27 (.tmp 6) (.tmp 28) rfl (w.heap.size + 2) #[.int .i64 F1, .bool R0, .int .i64 F2, .string F3, .int .i64 F4] rfl rfl _ _ HZ.out.1 (by kernel_rfl) rfl (one5 _ _ _ _ _) ?_)
        have hP := (HZ.out.1.row (.int .i64 F1) (.bool R0) (.int .i64 F2) (.string F3) (.int .i64 F4)).cells
        refine bodyPost_ret (results_res rfl _ _ rfl hP.1 hP.2.1 hP.2.2.1 hP.2.2.2.1 hP.2.2.2.2.1) rfl ?_
        exact ⟨rfl, bel_row HZ.out.2 (by omega) _⟩
end Go.Proofs.YtmndemegiimagasGreatDoor
