/-
  The number that bits stand for, of the model, walked.
-/
import Derived.Test.YtmeicjbeibmmgadGreatDoorWrd4
import Derived.Test.YtmeicjbeibmmgadGreatDoorSpw
namespace Go.Proofs.YtmeicjbeibmmgadGreatDoor
open Go.RowKit
set_option linter.unusedVariables false
set_option maxRecDepth 100000
/-- Two boxes of Nums, one behind the other. -/
abbrev two4 (w : World) (S : Bool) : World := (w.alloc (.cells #[.int .i64 0, .bool false, .int .i64 0, .string { data := #[] }] 27)).alloc (.cells #[.int .i64 1, .bool S, .int .i64 0, .string { data := #[] }] 27)
theorem two4_lo (w : World) (S : Bool) : At4 (two4 w S) w.heap.size (.int .i64 0) (.bool false) (.int .i64 0) (.string { data := #[] }) := (at4_new w _ _ _ _).alloc (by simp) _
theorem two4_hi (w : World) (S : Bool) : At4 (two4 w S) (w.heap.size + 1) (.int .i64 1) (.bool S) (.int .i64 0) (.string { data := #[] }) := by
  have := at4_new (w.alloc (.cells #[.int .i64 0, .bool false, .int .i64 0, .string { data := #[] }] 27)) (.int .i64 1) (.bool S) (.int .i64 0) (.string { data := #[] })
  simpa using this
theorem two4_below (w : World) (S : Bool) : Below w.heap.size w (two4 w S) := ((Below.refl _ _).alloc (Nat.le_refl _) _).alloc (by simp) _
theorem tx_nil : tx [] = { data := #[] } := by apply ByteArray.ext; rw [tx_data]; rfl
/-- The bits of a word's head. -/
theorem head_bits (r g : Nat) (W : Int) (n : Nat) (hn : n = 6 + r + 10 * g) (hr : 1 ≤ r) : ∃ b0 b1 b2 b3 b4 b5 b6 : Int,
    (bl W n n).getD 0 0 = b0 ∧ (bl W n n).getD 1 0 = b1 ∧ (bl W n n).getD 2 0 = b2 ∧ (bl W n n).getD 3 0 = b3 ∧ (bl W n n).getD 4 0 = b4 ∧ (bl W n n).getD 5 0 = b5 ∧ (bl W n n).getD 6 0 = b6 ∧
    (0 ≤ b0 ∧ b0 ≤ 1) ∧ (0 ≤ b1 ∧ b1 ≤ 1) ∧ (0 ≤ b2 ∧ b2 ≤ 1) ∧ (0 ≤ b3 ∧ b3 ≤ 1) ∧ (0 ≤ b4 ∧ b4 ≤ 1) ∧ (0 ≤ b5 ∧ b5 ≤ 1) ∧ (0 ≤ b6 ∧ b6 ≤ 1) ∧
    uC r g W = b1 * 16 + b2 * 8 + b3 * 4 + b4 * 2 + b5 ∧ W / 2 ^ (r + 10 * g + 5) % 2 = b0 ∧ W / 2 ^ (r + 10 * g - 1) % 2 = b6 := by
  have B := bl_bit W n n
  refine ⟨_, _, _, _, _, _, _, rfl, rfl, rfl, rfl, rfl, rfl, rfl, B 0, B 1, B 2, B 3, B 4, B 5, B 6, ?_, ?_, ?_⟩
  · have h := hb_bl W n 1 5 (by omega)
    rw [show n - 1 - 5 = r + 10 * g by omega] at h
    unfold uC
    rw [show (32 : Int) = 2 ^ 5 by decide, ← h]
    simp only [hb, Nat.add_zero, Nat.reduceAdd]
    omega
  · rw [bl_at W n n 0 (by omega), show n - 1 - 0 = r + 10 * g + 5 by omega]
  · rw [bl_at W n n 6 (by omega), show n - 1 - 6 = r + 10 * g - 1 by omega]
set_option maxRecDepth 100000 in
set_option maxHeartbeats 4000000 in
theorem l10Read_spc (v : Value) (W : Int) (r g : Nat) (bias : Int) (n base : Nat) (w : World) (hn : n = 6 + r + 10 * g) (hr : 1 ≤ r) (hr2 : r ≤ 12) (hg : g ≤ 11) (h : HasN w base v (bl W n n)) (hc : uC r g W = 30 ∨ uC r g W = 31) :
    Calls Tryz.prog 22 #[v, .int .i64 r, .int .i64 g, .int .i64 bias] w fun x w' => x = .returned (numV (uK r g W) (uB r g W) (uX r g bias W) (tx (uL r g W))) ∧ Below w.heap.size w w' := by
  obtain ⟨b0, b1, b2, b3, b4, b5, b6, e0, e1, e2, e3, e4, e5, e6, r0, r1, r2, r3, r4, r5, r6, eC, eS, eN⟩ := head_bits r g W n hn hr
  obtain ⟨G, cap, rfl, -, hgl, hcell⟩ := h.form
  rw [bl_len] at hcell
  have q0 := hcell 0 (by omega)
  have q1 := hcell 1 (by omega)
  have q2 := hcell 2 (by omega)
  have q3 := hcell 3 (by omega)
  have q4 := hcell 4 (by omega)
  have q5 := hcell 5 (by omega)
  have q6 := hcell 6 (by omega)
  rw [e0] at q0; rw [e1] at q1; rw [e2] at q2; rw [e3] at q3; rw [e4] at q4; rw [e5] at q5; rw [e6] at q6
  rw [bl_len]
  have hn7 : (7 : Int) ≤ (n : Int) := by omega
  have p1 : b1 = 1 := by omega
  have p2 : b2 = 1 := by omega
  have p3 : b3 = 1 := by omega
  have p4 : b4 = 1 := by omega
  subst p1 p2 p3 p4
  obtain ⟨S, hS⟩ : ∃ S, (b0 == 1) = S := ⟨_, rfl⟩
  have hS2 : decide (b0 = 1) = S := by rw [← hS]; rfl
  have HT : Hid (Below w.heap.size w (two4 w S)) := two4_below w S
  have HL : Hid (At4 (two4 w S) w.heap.size (.int .i64 0) (.bool false) (.int .i64 0) (.string { data := #[] })) := two4_lo w S
  rcases hc with hc | hc
  · obtain ⟨u1, u2, u3, u4⟩ := u_inf r g bias W hc
    rw [u1, u2, u3, u4, eS, hS2, tx_nil]
    have p5 : b5 = 0 := by omega
    subst p5
    clear hcell h e0 e1 e2 e3 e4 e5 e6 eC eS eN u1 u2 u3 u4 hc hS2
    go_enter Tryz.func22, Tryz.ntmps22
    go_wp2
    go_quiet (fail)
    go_wp2
    have hP := fun k => ((HL.out.drewN k).far (b' := w.heap.size + 1) (by omega) 0 (.int .i64 2)).put (.int .i64 2) (.bool S) (.int .i64 0) (.string { data := #[] })
    refine bodyPost_ret (results_num rfl _ _ rfl (hP _).1 (hP _).2.1 (hP _).2.2.1 (hP _).2.2.2.1) rfl ?_
    exact ⟨rfl, bel_four ((below_drewN HT.out _).setCell (Nat.le_succ _) _) (Nat.le_refl _) _ _ _ _⟩
  · obtain ⟨u1, u2, u3, u4⟩ := u_nan r g bias W hc
    rw [u1, u2, u3, u4, eN, tx_nil]
    have p5 : b5 = 1 := by omega
    subst p5
    by_cases h6 : b6 = 1
    · subst h6
      rw [if_pos rfl]
      clear hcell h e0 e1 e2 e3 e4 e5 e6 eC eS eN u1 u2 u3 u4 hc hS2
      go_enter Tryz.func22, Tryz.ntmps22
      go_wp2
      go_quiet (fail)
      go_wp2
      have hP := fun k => ((((((HL.out.drewN k).far (b' := w.heap.size + 1) (by omega) 0 (.int .i64 3)).far (b' := w.heap.size + 1) (by omega) 1 (.bool false)).far (b' := w.heap.size + 1) (by omega) 2 (.int .i64 0)).far (b' := w.heap.size + 1) (by omega) 3 (.string { data := #[] })).far (b' := w.heap.size + 1) (by omega) 0 (.int .i64 4)).put (.int .i64 4) (.bool false) (.int .i64 0) (.string { data := #[] })
      refine bodyPost_ret (results_num rfl _ _ rfl (hP _).1 (hP _).2.1 (hP _).2.2.1 (hP _).2.2.2.1) rfl ?_
      exact ⟨rfl, bel_four ((bel_four (below_drewN HT.out _) (Nat.le_succ _) _ _ _ _).setCell (Nat.le_succ _) _) (Nat.le_refl _) _ _ _ _⟩
    · have h6' : (b6 == 1) = false := by simpa using h6
      rw [if_neg h6]
      clear hcell h e0 e1 e2 e3 e4 e5 e6 eC eS eN u1 u2 u3 u4 hc hS2
      go_enter Tryz.func22, Tryz.ntmps22
      go_wp2
      go_quiet (fail)
      go_wp2
      have hP := fun k => (((((HL.out.drewN k).far (b' := w.heap.size + 1) (by omega) 0 (.int .i64 3)).far (b' := w.heap.size + 1) (by omega) 1 (.bool false)).far (b' := w.heap.size + 1) (by omega) 2 (.int .i64 0)).far (b' := w.heap.size + 1) (by omega) 3 (.string { data := #[] })).put (.int .i64 3) (.bool false) (.int .i64 0) (.string { data := #[] })
      refine bodyPost_ret (results_num rfl _ _ rfl (hP _).1 (hP _).2.1 (hP _).2.2.1 (hP _).2.2.2.1) rfl ?_
      exact ⟨rfl, bel_four (bel_four (below_drewN HT.out _) (Nat.le_succ _) _ _ _ _) (Nat.le_refl _) _ _ _ _⟩
end Go.Proofs.YtmeicjbeibmmgadGreatDoor
