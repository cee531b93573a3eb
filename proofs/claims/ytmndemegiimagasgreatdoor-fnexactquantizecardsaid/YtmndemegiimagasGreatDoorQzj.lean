/-
  Quantize of the program in one word, walked.
-/
import Derived.Test.YtmndemegiimagasGreatDoorQzi
namespace Go.Proofs.YtmndemegiimagasGreatDoor
open Go.RowKit
set_option linter.unusedVariables false
set_option maxRecDepth 100000
set_option maxRecDepth 100000 in
set_option maxHeartbeats 1000000 in
theorem iQuantize_any (f mode : Int) (ka : Int) (na : Bool) (ea : Int) (sa : ByteArray) (kb : Int) (nb : Bool) (eb : Int) (sb : ByteArray) (w : World) (hsa : sa.size ≤ 4611686018427387904) (hsb : sb.size ≤ 4611686018427387904) :
    Calls Tryz.prog 9 #[.int .i64 f, .int .i64 mode, numV ka na ea sa, numV kb nb eb sb] w fun x w' => x = .returned (rsD (qzR f mode ka na ea sa kb nb eb sb).1 (qzR f mode ka na ea sa kb nb eb sb).2) ∧ Below w.heap.size w w' := by
  have hmf : ∀ (fn : Fn) (first cap : Array Value) (w : World), (Instr.makeFunc fn first cap).run Tryz.prog w = .ok (.func fn first cap) w := fun _ _ _ _ => rfl
  have HE : Hid (∀ args w, (callFunc 24 args).run Tryz.prog w = .ok (.enter 24 args) w) := enters_of Tryz.func24 (by kernel_rfl) rfl
  obtain ⟨W, hW⟩ : ∃ W, cp2W w f mode ka na ea sa kb nb eb sb = W := ⟨_, rfl⟩
  have hN := cp2_new w f mode ka na ea sa kb nb eb sb
  rw [hW] at hN
  have hb5 : Below W.heap.size W (W.alloc (.cells #[.int .i64 ka, .bool na, .int .i64 ea, .string sa, .int .i64 kb, .bool nb, .int .i64 eb, .string sb] 25)) := (Below.refl _ _).alloc (Nat.le_refl _) _
  obtain ⟨hrw, hlt⟩ := row2_new W ka na ea sa kb nb eb sb
  have HO : Hid (Calls Tryz.prog 23 #[.int .i64 f, .int .i64 mode, .func (.func 24) #[] #[.pointer (some ⟨w.heap.size + 2, 0, none⟩), .pointer (some ⟨w.heap.size + 3, 0, none⟩), .pointer (some ⟨w.heap.size, 0, none⟩), .pointer (some ⟨w.heap.size + 1, 0, none⟩)], .slice (some ⟨W.heap.size, 0, none⟩) 2 2] (W.alloc (.cells #[.int .i64 ka, .bool na, .int .i64 ea, .string sa, .int .i64 kb, .bool nb, .int .i64 eb, .string sb] 25)) fun x w' => x = .returned (rsD (qzR f mode ka na ea sa kb nb eb sb).1 (qzR f mode ka na ea sa kb nb eb sb).2) ∧ Below (W.alloc (.cells #[.int .i64 ka, .bool na, .int .i64 ea, .string sa, .int .i64 kb, .bool nb, .int .i64 eb, .string sb] 25)).heap.size (W.alloc (.cells #[.int .i64 ka, .bool na, .int .i64 ea, .string sa, .int .i64 kb, .bool nb, .int .i64 eb, .string sb] 25)) w') :=
    ofNumbers_any f mode 24 _ HE.out 2 W.heap.size (tw2 ka kb) (tw2 na nb) (tw2 ea eb) (tw2 sa sb) (qzX f mode ka na ea sa kb eb) _ (by decide) (by decide) hlt hrw (fun i hi => by match i, hi with
      | 0, _ => exact hsa
      | 1, _ => exact hsb) (fun h1 h2 Y hY => by
      obtain ⟨hm, hr, hrb⟩ := rgn_two h1 h2
      exact quantize1_any w.heap.size f mode ka na ea sa kb nb eb sb Y hm hr hrb ((hN.1.next hb5).next hY))
  have HZ : Hid (At5 (W.alloc (.cells #[.int .i64 ka, .bool na, .int .i64 ea, .string sa, .int .i64 kb, .bool nb, .int .i64 eb, .string sb] 25)) (w.heap.size + 4) (.int .i64 0) (.bool false) (.int .i64 0) (.string { data := #[] }) (.int .i64 0) ∧ Below w.heap.size w (W.alloc (.cells #[.int .i64 ka, .bool na, .int .i64 ea, .string sa, .int .i64 kb, .bool nb, .int .i64 eb, .string sb] 25))) := ⟨hN.2.1.below hb5 hN.2.1.lt, hN.2.2.1.trans (hb5.mono hN.2.2.1.size)⟩
  rw [hN.2.2.2] at HO
  obtain ⟨q0, q1, qa, qb⟩ := hN.1
  obtain ⟨a0, a1, a2, a3, -⟩ := qa.cells
  obtain ⟨c0, c1, c2, c3, -⟩ := qb.cells
  rw [← hW] at HO HZ q0 q1 a0 a1 a2 a3 c0 c1 c2 c3
  clear hW hN hb5 hrw hlt hsa hsb HE qa qb
  generalize qzR f mode ka na ea sa kb nb eb sb = R at *
  obtain ⟨R0, F1, F2, F3, F4⟩ := R
  go_enter Tryz.func9, Tryz.ntmps9
  go_wp2_with fail
  refine HO.out.mono ?_
  rintro x w1 ⟨rfl, hb1⟩
  have HZ1 : Hid (At5 w1 (w.heap.size + 4) (.int .i64 0) (.bool false) (.int .i64 0) (.string { data := #[] }) (.int .i64 0) ∧ Below w.heap.size w w1) := ⟨HZ.out.1.below hb1 HZ.out.1.lt, HZ.out.2.trans (hb1.mono HZ.out.2.size)⟩
  clear hb1 HZ HO q0 q1 a0 a1 a2 a3 c0 c1 c2 c3
  go_wp2_with (refine wpList_store_row rfl 27 (.tmp 8) (.tmp 15) rfl (w.heap.size + 4) #[.int .i64 F1, .bool R0, .int .i64 F2, .string F3, .int .i64 F4] rfl rfl _ _ HZ1.out.1 (by kernel_rfl) rfl (one5 _ _ _ _ _) ?_)
  have hP := (HZ1.out.1.row (.int .i64 F1) (.bool R0) (.int .i64 F2) (.string F3) (.int .i64 F4)).cells
  refine bodyPost_ret (results_res rfl _ _ rfl hP.1 hP.2.1 hP.2.2.1 hP.2.2.2.1 hP.2.2.2.2.1) rfl ?_
  exact ⟨rfl, bel_row HZ1.out.2 (by omega) _⟩
end Go.Proofs.YtmndemegiimagasGreatDoor
