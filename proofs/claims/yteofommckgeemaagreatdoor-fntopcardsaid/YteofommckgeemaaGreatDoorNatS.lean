/-
  The model's arithmetic on naturals at any strings, by the numbers that they stand for, walked.
-/
import Derived.BigQuiet
import Derived.Deep.QuietTactic
import Derived.Test.YteofommckgeemaaGreatDoorFmt
import Derived.Test.YteofommckgeemaaGreatDoorCls
import Derived.WalkLawsBesides
import Derived.Test.YteofommckgeemaaGreatDoorRows
import Derived.WalkKit
import Derived.Test.YteofommckgeemaaGreatDoorSl
import Derived.Test.YteofommckgeemaaGreatDoorTxtM
import Derived.OpenShut
namespace Go.Proofs.YteofommckgeemaaGreatDoor
open Go.RowKit
set_option linter.unusedVariables false
set_option maxRecDepth 100000
set_option linter.unusedSimpArgs false
set_option maxHeartbeats 4000000 in
theorem isNatural_any (s : ByteArray) (n : Int) (w : World) (hs : s.size ≤ 4611686018427387904) :
    Calls Tryz.prog 219 #[.string s, .int .i64 n] w fun e w' => e = .returned (.bool (natB n s)) ∧ w' = w := by
  by_cases hA : s.size < 1
  · have E : Hid (natB n s = false) := natB_empty n s hA
    have h1 : (s.size : Int) = 0 := by omega
    clear hA
    go_enter Tryz.func219, Tryz.ntmps219
    go_wp2
    go_ret
    exact ⟨Ln.ret_bool E.out.symm, rfl⟩
  have h1 : ((s.size : Int) == 0) = false := beq_eq_false_iff_ne.2 (by omega)
  have h0 : 0 < s.size := by omega
  by_cases hB : n < (s.size : Int)
  · have E : Hid (natB n s = false) := natB_long n s hB
    go_enter Tryz.func219, Tryz.ntmps219
    go_wp2
    go_ret
    exact ⟨Ln.ret_bool E.out.symm, rfl⟩
  have h2' : decide (n < (s.size : Int)) = false := by simpa using hB
  have HG : Hid ((∀ k (hk : k < s.size), 48 ≤ (s[k]'hk).toNat ∧ (s[k]'hk).toNat ≤ 57) → (s.size ≤ 1 ∨ (s[0]'h0).toNat ≠ 48) → natB n s = true) := fun h hc => natB_good n s h0 (by omega) hc h
  have HZ : Hid (1 < s.size → (s[0]'h0).toNat = 48 → natB n s = false) := fun h hz => natB_zero n s h hz
  have HB : Hid (∀ k (hk : k < s.size), ((s[k]'hk).toNat < 48 ∨ 57 < (s[k]'hk).toNat) → natB n s = false) := fun k hk h => natB_bad n s k hk h
  clear hA hB
  generalize natB n s = r at *
  go_enter Tryz.func219, Tryz.ntmps219
  go_wp2
  go_loop [17] (fun i => ∃ k : Nat, k ≤ s.size ∧ i = .int .i64 k ∧ Hid (∀ q (hq : q < s.size), q < k → 48 ≤ (s[q]'hq).toNat ∧ (s[q]'hq).toNat ≤ 57)) (fun i => s.size - (intOf i).toNat)
  case atStart => exact ⟨0, Nat.zero_le _, rfl, fun q hq h => absurd h (Nat.not_lt_zero q)⟩
  case round =>
    obtain ⟨k, hk, rfl, hz⟩ := hrel
    by_cases hlt : k < s.size
    · have hlt' : (k : Int) < (s.size : Int) := by omega
      by_cases hlo : (s[k]'hlt).toNat < 48
      · have hl' : ((s[k]'hlt).toNat : Int) < 48 := by omega
        go_wp2
        go_ret
        exact ⟨Ln.ret_bool (HB.out k hlt (.inl hlo)).symm, rfl⟩
      · have hl' : ¬ ((s[k]'hlt).toNat : Int) < 48 := by omega
        have hl'' : decide (((s[k]'hlt).toNat : Int) < 48) = false := decide_eq_false hl'
        by_cases hhi : 57 < (s[k]'hlt).toNat
        · have hh' : (57 : Int) < ((s[k]'hlt).toNat : Int) := by omega
          go_wp2
          go_ret
          exact ⟨Ln.ret_bool (HB.out k hlt (.inr hhi)).symm, rfl⟩
        · have hh' : ¬ (57 : Int) < ((s[k]'hlt).toNat : Int) := by omega
          go_wp2
          go_round
          case rel => exact ⟨k + 1, by omega, by go_num, fun q hq h => by rcases Nat.lt_or_ge q k with c | c; exact hz.out q hq c; obtain rfl : q = k := (by omega); omega⟩
          case measure => simp [intOf]; omega
    · have hkk : ¬ (k : Int) < (s.size : Int) := by omega
      have HA : Hid (∀ q (hq : q < s.size), 48 ≤ (s[q]'hq).toNat ∧ (s[q]'hq).toNat ≤ 57) := fun q hq => hz.out q hq (by omega)
      clear hz
      by_cases h3 : s.size ≤ 1
      · have h3' : (s.size : Int) = 1 := by omega
        have E : Hid (r = true) := HG.out HA.out (.inl h3)
        clear h3
        go_wp2
        go_ret
        exact ⟨Ln.ret_bool E.out.symm, rfl⟩
      · have h3' : ((s.size : Int) == 1) = false := beq_eq_false_iff_ne.2 (by omega)
        by_cases h4 : (s[0]'h0).toNat = 48
        · have h4' : ((s[0]'h0).toNat : Int) = 48 := by omega
          have E : Hid (r = false) := HZ.out (by omega) h4
          clear h4
          go_wp2
          go_ret
          exact ⟨Ln.ret_bool E.out.symm, rfl⟩
        · have h4' : (((s[0]'h0).toNat : Int) == 48) = false := beq_eq_false_iff_ne.2 (by omega)
          have E : Hid (r = true) := HG.out HA.out (.inr h4)
          have h4'' : Hid ((((s[0]'h0).toNat : Int) != 48) = true) := by show _ = _; rw [bne, h4']; rfl
          go_wp2
          go_ret
          exact ⟨Ln.ret_bool (by rw [h4''.out, E.out]), rfl⟩
/-- A number's box. -/
abbrev nbq (w : World) (k : Int) (b : Bool) (e : Int) (s : ByteArray) : World := w.alloc (.cells #[.int .i64 k, .bool b, .int .i64 e, .string s] 78)
theorem nbq_cells {w W : World} {k : Int} {b : Bool} {e : Int} {s : ByteArray} (h : Below (w.heap.size + 1) (nbq w k b e s) W) : W.cell? ⟨w.heap.size, 0, none⟩ = some (.int .i64 k) ∧ W.cell? ⟨w.heap.size, 1, none⟩ = some (.bool b) ∧ W.cell? ⟨w.heap.size, 2, none⟩ = some (.int .i64 e) ∧ W.cell? ⟨w.heap.size, 3, none⟩ = some (.string s) := by
  refine ⟨?_, ?_, ?_, ?_⟩
  · rw [h.cell (p := ⟨w.heap.size, 0, none⟩) (by simp)]; simp
  · rw [h.cell (p := ⟨w.heap.size, 1, none⟩) (by simp)]; simp
  · rw [h.cell (p := ⟨w.heap.size, 2, none⟩) (by simp)]; simp
  · rw [h.cell (p := ⟨w.heap.size, 3, none⟩) (by simp)]; simp
theorem nbq_out {w W : World} {k : Int} {b : Bool} {e : Int} {s : ByteArray} (h : Below (w.heap.size + 1) (nbq w k b e s) W) : Below w.heap.size w W := ((Below.refl _ _).alloc (Nat.le_refl _) _).trans (h.mono (by omega))
theorem nbq_next {w W w1 : World} {k : Int} {b : Bool} {e : Int} {s : ByteArray} (h : Below (w.heap.size + 1) (nbq w k b e s) W) (hb : Below W.heap.size W w1) : Below (w.heap.size + 1) (nbq w k b e s) w1 := h.trans (hb.mono (by have := h.size; simp at this; omega))
end Go.Proofs.YteofommckgeemaaGreatDoor

namespace Go.Proofs.YteofommckgeemaaGreatDoor
open Go.RowKit
set_option linter.unusedVariables false
set_option maxRecDepth 100000
set_option linter.unusedSimpArgs false
set_option maxRecDepth 100000 in
set_option maxHeartbeats 4000000 in
theorem isRight_fin64 (b : Bool) (e : Int) (s : ByteArray) (w : World) (hs : s.size ≤ 4611686018427387904) :
    Calls Tryz.prog 211 #[.iface 208 (.agg #[]), numV 1 b e s] w fun r w' => r = .returned (.bool (natB 16 s && (decide (-398 ≤ e) && decide (e ≤ 369)))) ∧ Below w.heap.size w w' := by
  have HX0 : Hid (Below (w.heap.size + 1) (nbq w 1 b e s) (nbq w 1 b e s).drew) := (Below.refl _ _).drew
  have HNt : Hid (∀ X, Calls Tryz.prog 219 #[.string s, .int .i64 16] X fun e w' => e = .returned (.bool (natB 16 s)) ∧ w' = X) := fun X => isNatural_any s 16 X hs
  generalize natB 16 s = nb at *
  cases nb with
  | false =>
    go_enter Tryz.func211, Tryz.ntmps211
    go_upto_region 3 with fail
    refine wp_region_class (C := fun W => Below (w.heap.size + 1) (nbq w 1 b e s) W) (by kernel_rfl) (by kernel_rfl) HX0.out ?_
    repeat (refine wpQuiet_step (fun K hK => ?_); go_simp; first | (refine hK _ ?_; clear hK K) | (apply Exists.intro; refine ⟨fun wx hC => ?_, hK _ ?_⟩; (first | exact rfl | exact (HNt.out wx).mono (fun _ _ h => ⟨h.1, by rw [h.2]; exact hC⟩) | (simp only [md_digitCount_64, md_leastExp_64, md_greatestExp_64]; go_simp; first | exact Calls.class_of (digitCount_64 wx) (fun w' hb => nbq_next hC hb) | exact Calls.class_of (leastExp_64 wx) (fun w' hb => nbq_next hC hb) | exact Calls.class_of (greatestExp_64 wx) (fun w' hb => nbq_next hC hb)) | (obtain ⟨q0, q1, q2, q3⟩ := nbq_cells hC; go_simp; exact rfl)); clear hK K))
    refine wpQuiet_nil ?_
    intro w1 hb1
    go_wp2
    go_ret
    exact ⟨rfl, nbq_out hb1⟩
  | true =>
    by_cases h1 : -398 ≤ e
    · have E : Hid ((true && (decide ((-398 : Int) ≤ e) && decide (e ≤ 369))) = decide (e ≤ 369)) := by show _ = _; rw [decide_eq_true h1]; rfl
      rw [E.out]
      go_enter Tryz.func211, Tryz.ntmps211
      go_upto_region 3 with fail
      refine wp_region_class (C := fun W => Below (w.heap.size + 1) (nbq w 1 b e s) W) (by kernel_rfl) (by kernel_rfl) HX0.out ?_
      repeat (refine wpQuiet_step (fun K hK => ?_); go_simp; first | (refine hK _ ?_; clear hK K) | (apply Exists.intro; refine ⟨fun wx hC => ?_, hK _ ?_⟩; (first | exact rfl | exact (HNt.out wx).mono (fun _ _ h => ⟨h.1, by rw [h.2]; exact hC⟩) | (simp only [md_digitCount_64, md_leastExp_64, md_greatestExp_64]; go_simp; first | exact Calls.class_of (digitCount_64 wx) (fun w' hb => nbq_next hC hb) | exact Calls.class_of (leastExp_64 wx) (fun w' hb => nbq_next hC hb) | exact Calls.class_of (greatestExp_64 wx) (fun w' hb => nbq_next hC hb)) | (obtain ⟨q0, q1, q2, q3⟩ := nbq_cells hC; go_simp; exact rfl)); clear hK K))
      refine wpQuiet_nil ?_
      intro w1 hb1
      go_wp2
      go_ret
      exact ⟨rfl, nbq_out hb1⟩
    · have E : Hid ((true && (decide ((-398 : Int) ≤ e) && decide (e ≤ 369))) = false) := by show _ = _; rw [decide_eq_false h1]; rfl
      rw [E.out]
      go_enter Tryz.func211, Tryz.ntmps211
      go_upto_region 3 with fail
      refine wp_region_class (C := fun W => Below (w.heap.size + 1) (nbq w 1 b e s) W) (by kernel_rfl) (by kernel_rfl) HX0.out ?_
      repeat (refine wpQuiet_step (fun K hK => ?_); go_simp; first | (refine hK _ ?_; clear hK K) | (apply Exists.intro; refine ⟨fun wx hC => ?_, hK _ ?_⟩; (first | exact rfl | exact (HNt.out wx).mono (fun _ _ h => ⟨h.1, by rw [h.2]; exact hC⟩) | (simp only [md_digitCount_64, md_leastExp_64, md_greatestExp_64]; go_simp; first | exact Calls.class_of (digitCount_64 wx) (fun w' hb => nbq_next hC hb) | exact Calls.class_of (leastExp_64 wx) (fun w' hb => nbq_next hC hb) | exact Calls.class_of (greatestExp_64 wx) (fun w' hb => nbq_next hC hb)) | (obtain ⟨q0, q1, q2, q3⟩ := nbq_cells hC; go_simp; exact rfl)); clear hK K))
      refine wpQuiet_nil ?_
      intro w1 hb1
      go_wp2
      go_ret
      exact ⟨rfl, nbq_out hb1⟩
set_option maxRecDepth 100000 in
set_option maxHeartbeats 4000000 in
theorem isRight_fin128 (b : Bool) (e : Int) (s : ByteArray) (w : World) (hs : s.size ≤ 4611686018427387904) :
    Calls Tryz.prog 211 #[.iface 211 (.agg #[]), numV 1 b e s] w fun r w' => r = .returned (.bool (natB 34 s && (decide (-6176 ≤ e) && decide (e ≤ 6111)))) ∧ Below w.heap.size w w' := by
  have HX0 : Hid (Below (w.heap.size + 1) (nbq w 1 b e s) (nbq w 1 b e s).drew) := (Below.refl _ _).drew
  have HNt : Hid (∀ X, Calls Tryz.prog 219 #[.string s, .int .i64 34] X fun e w' => e = .returned (.bool (natB 34 s)) ∧ w' = X) := fun X => isNatural_any s 34 X hs
  generalize natB 34 s = nb at *
  cases nb with
  | false =>
    go_enter Tryz.func211, Tryz.ntmps211
    go_upto_region 3 with fail
    refine wp_region_class (C := fun W => Below (w.heap.size + 1) (nbq w 1 b e s) W) (by kernel_rfl) (by kernel_rfl) HX0.out ?_
    repeat (refine wpQuiet_step (fun K hK => ?_); go_simp; first | (refine hK _ ?_; clear hK K) | (apply Exists.intro; refine ⟨fun wx hC => ?_, hK _ ?_⟩; (first | exact rfl | exact (HNt.out wx).mono (fun _ _ h => ⟨h.1, by rw [h.2]; exact hC⟩) | (simp only [md_digitCount_128, md_leastExp_128, md_greatestExp_128]; go_simp; first | exact Calls.class_of (digitCount_128 wx) (fun w' hb => nbq_next hC hb) | exact Calls.class_of (leastExp_128 wx) (fun w' hb => nbq_next hC hb) | exact Calls.class_of (greatestExp_128 wx) (fun w' hb => nbq_next hC hb)) | (obtain ⟨q0, q1, q2, q3⟩ := nbq_cells hC; go_simp; exact rfl)); clear hK K))
    refine wpQuiet_nil ?_
    intro w1 hb1
    go_wp2
    go_ret
    exact ⟨rfl, nbq_out hb1⟩
  | true =>
    by_cases h1 : -6176 ≤ e
    · have E : Hid ((true && (decide ((-6176 : Int) ≤ e) && decide (e ≤ 6111))) = decide (e ≤ 6111)) := by show _ = _; rw [decide_eq_true h1]; rfl
      rw [E.out]
      go_enter Tryz.func211, Tryz.ntmps211
      go_upto_region 3 with fail
      refine wp_region_class (C := fun W => Below (w.heap.size + 1) (nbq w 1 b e s) W) (by kernel_rfl) (by kernel_rfl) HX0.out ?_
      repeat (refine wpQuiet_step (fun K hK => ?_); go_simp; first | (refine hK _ ?_; clear hK K) | (apply Exists.intro; refine ⟨fun wx hC => ?_, hK _ ?_⟩; (first | exact rfl | exact (HNt.out wx).mono (fun _ _ h => ⟨h.1, by rw [h.2]; exact hC⟩) | (simp only [md_digitCount_128, md_leastExp_128, md_greatestExp_128]; go_simp; first | exact Calls.class_of (digitCount_128 wx) (fun w' hb => nbq_next hC hb) | exact Calls.class_of (leastExp_128 wx) (fun w' hb => nbq_next hC hb) | exact Calls.class_of (greatestExp_128 wx) (fun w' hb => nbq_next hC hb)) | (obtain ⟨q0, q1, q2, q3⟩ := nbq_cells hC; go_simp; exact rfl)); clear hK K))
      refine wpQuiet_nil ?_
      intro w1 hb1
      go_wp2
      go_ret
      exact ⟨rfl, nbq_out hb1⟩
    · have E : Hid ((true && (decide ((-6176 : Int) ≤ e) && decide (e ≤ 6111))) = false) := by show _ = _; rw [decide_eq_false h1]; rfl
      rw [E.out]
      go_enter Tryz.func211, Tryz.ntmps211
      go_upto_region 3 with fail
      refine wp_region_class (C := fun W => Below (w.heap.size + 1) (nbq w 1 b e s) W) (by kernel_rfl) (by kernel_rfl) HX0.out ?_
      repeat (refine wpQuiet_step (fun K hK => ?_); go_simp; first | (refine hK _ ?_; clear hK K) | (apply Exists.intro; refine ⟨fun wx hC => ?_, hK _ ?_⟩; (first | exact rfl | exact (HNt.out wx).mono (fun _ _ h => ⟨h.1, by rw [h.2]; exact hC⟩) | (simp only [md_digitCount_128, md_leastExp_128, md_greatestExp_128]; go_simp; first | exact Calls.class_of (digitCount_128 wx) (fun w' hb => nbq_next hC hb) | exact Calls.class_of (leastExp_128 wx) (fun w' hb => nbq_next hC hb) | exact Calls.class_of (greatestExp_128 wx) (fun w' hb => nbq_next hC hb)) | (obtain ⟨q0, q1, q2, q3⟩ := nbq_cells hC; go_simp; exact rfl)); clear hK K))
      refine wpQuiet_nil ?_
      intro w1 hb1
      go_wp2
      go_ret
      exact ⟨rfl, nbq_out hb1⟩
theorem isRight_oth64 (k : Int) (b : Bool) (e : Int) (s : ByteArray) (w : World) (hs : s.size ≤ 4611686018427387904) (hk : k ≠ 1) :
    Calls Tryz.prog 211 #[.iface 208 (.agg #[]), numV k b e s] w fun r w' => r = .returned (.bool (numB 64 k b e s)) ∧ Below w.heap.size w w' := by
  have HB : Hid (Below w.heap.size w (nbq w k b e s)) := (Below.refl _ _).alloc (Nat.le_refl _) _
  have k1 : (k == 1) = false := beq_eq_false_iff_ne.2 hk
  have h0 : limP 64 ≠ 0 := by decide
  by_cases k2 : k = 2
  · subst k2
    clear hk
    by_cases he : e = 0
    · subst he
      have E : Hid (numB 64 2 b 0 s = s.toList.isEmpty) := by show _ = _; unfold numB; rw [if_neg h0, if_neg (by decide), if_pos rfl]; rfl
      clear h0
      go_enter Tryz.func211, Tryz.ntmps211
      go_wp2
      go_ret
      exact ⟨Ln.ret_bool E.out.symm, HB.out⟩
    · have he' : (e == 0) = false := by simpa using he
      have E : Hid (numB 64 2 b e s = false) := by show _ = _; unfold numB; rw [if_neg h0, if_neg (by decide), if_pos rfl, decide_eq_false he]; rfl
      clear h0
      go_enter Tryz.func211, Tryz.ntmps211
      go_wp2
      go_ret
      exact ⟨Ln.ret_bool E.out.symm, HB.out⟩
  have k2b : (k == 2) = false := beq_eq_false_iff_ne.2 k2
  by_cases k34 : k = 3 ∨ k = 4
  · have E0 : Hid (numB 64 k b e s = (decide (e = 0) && (s.toList.isEmpty && !b))) := by show _ = _; unfold numB; rw [if_neg h0, if_neg hk, if_neg k2, if_pos k34]
    generalize numB 64 k b e s = R at *
    clear h0 hk k2
    by_cases he : e = 0
    · subst he
      cases hb : s.toList.isEmpty with
      | false =>
        have E : Hid (R = false) := by show _ = _; rw [E0.out, hb]; rfl
        rcases k34 with rfl | rfl
        all_goals
          go_enter Tryz.func211, Tryz.ntmps211
          go_wp2
          go_ret
          exact ⟨Ln.ret_bool E.out.symm, HB.out⟩
      | true =>
        have E : Hid (R = !b) := by show _ = _; rw [E0.out, hb]; rfl
        rcases k34 with rfl | rfl
        all_goals
          go_enter Tryz.func211, Tryz.ntmps211
          go_wp2
          go_ret
          exact ⟨Ln.ret_bool E.out.symm, HB.out⟩
    · have he' : (e == 0) = false := by simpa using he
      have E : Hid (R = false) := by show _ = _; rw [E0.out, decide_eq_false he]; rfl
      clear he
      rcases k34 with rfl | rfl
      all_goals
        go_enter Tryz.func211, Tryz.ntmps211
        go_wp2
        go_ret
        exact ⟨Ln.ret_bool E.out.symm, HB.out⟩
  · have k3b : (k == 3) = false := beq_eq_false_iff_ne.2 (fun h => k34 (.inl h))
    have k4b : (k == 4) = false := beq_eq_false_iff_ne.2 (fun h => k34 (.inr h))
    have E : Hid (numB 64 k b e s = false) := by show _ = _; unfold numB; rw [if_neg h0, if_neg hk, if_neg k2, if_neg k34]
    clear h0 hk k2 k34
    go_enter Tryz.func211, Tryz.ntmps211
    go_wp2
    go_ret
    exact ⟨Ln.ret_bool E.out.symm, HB.out⟩
theorem isRight_64 (k : Int) (b : Bool) (e : Int) (s : ByteArray) (w : World) (hs : s.size ≤ 4611686018427387904) :
    Calls Tryz.prog 211 #[.iface 208 (.agg #[]), numV k b e s] w fun r w' => r = .returned (.bool (numB 64 k b e s)) ∧ Below w.heap.size w w' := by
  by_cases hk : k = 1
  · subst hk
    have E : numB 64 1 b e s = (natB 16 s && (decide (-398 ≤ e) && decide (e ≤ 369))) := by unfold numB; rw [if_neg (by decide), if_pos rfl]; rfl
    rw [E]
    exact isRight_fin64 b e s w hs
  · exact isRight_oth64 k b e s w hs hk
theorem iNumOk_64 (k : Int) (b : Bool) (e : Int) (s : ByteArray) (w : World) (hs : s.size ≤ 4611686018427387904) :
    Calls Tryz.prog 152 #[.int .i64 64, numV k b e s] w fun r w' => r = .returned (.bool (numB 64 k b e s)) ∧ Below w.heap.size w w' := by
  have HI : Hid (∀ X, Calls Tryz.prog 211 #[.iface 208 (.agg #[]), numV k b e s] X fun r w' => r = .returned (.bool (numB 64 k b e s)) ∧ Below X.heap.size X w') := fun X => isRight_64 k b e s X hs
  have HB : Hid (Below (w.heap.size + 1) (nbq w k b e s) (nbq w k b e s)) := Below.refl _ _
  generalize numB 64 k b e s = R at *
  go_enter Tryz.func152, Tryz.ntmps152
  go_wp2_with fail
  refine (fmtOf_64 _).mono ?_
  rintro r w1 ⟨rfl, hw⟩
  subst hw
  go_wp2_with fail
  refine (HI.out _).mono ?_
  rintro r w2 ⟨rfl, hb⟩
  have hB2 := nbq_next HB.out hb
  go_wp2
  go_ret
  exact ⟨rfl, nbq_out hB2⟩
theorem isRight_oth128 (k : Int) (b : Bool) (e : Int) (s : ByteArray) (w : World) (hs : s.size ≤ 4611686018427387904) (hk : k ≠ 1) :
    Calls Tryz.prog 211 #[.iface 211 (.agg #[]), numV k b e s] w fun r w' => r = .returned (.bool (numB 128 k b e s)) ∧ Below w.heap.size w w' := by
  have HB : Hid (Below w.heap.size w (nbq w k b e s)) := (Below.refl _ _).alloc (Nat.le_refl _) _
  have k1 : (k == 1) = false := beq_eq_false_iff_ne.2 hk
  have h0 : limP 128 ≠ 0 := by decide
  by_cases k2 : k = 2
  · subst k2
    clear hk
    by_cases he : e = 0
    · subst he
      have E : Hid (numB 128 2 b 0 s = s.toList.isEmpty) := by show _ = _; unfold numB; rw [if_neg h0, if_neg (by decide), if_pos rfl]; rfl
      clear h0
      go_enter Tryz.func211, Tryz.ntmps211
      go_wp2
      go_ret
      exact ⟨Ln.ret_bool E.out.symm, HB.out⟩
    · have he' : (e == 0) = false := by simpa using he
      have E : Hid (numB 128 2 b e s = false) := by show _ = _; unfold numB; rw [if_neg h0, if_neg (by decide), if_pos rfl, decide_eq_false he]; rfl
      clear h0
      go_enter Tryz.func211, Tryz.ntmps211
      go_wp2
      go_ret
      exact ⟨Ln.ret_bool E.out.symm, HB.out⟩
  have k2b : (k == 2) = false := beq_eq_false_iff_ne.2 k2
  by_cases k34 : k = 3 ∨ k = 4
  · have E0 : Hid (numB 128 k b e s = (decide (e = 0) && (s.toList.isEmpty && !b))) := by show _ = _; unfold numB; rw [if_neg h0, if_neg hk, if_neg k2, if_pos k34]
    generalize numB 128 k b e s = R at *
    clear h0 hk k2
    by_cases he : e = 0
    · subst he
      cases hb : s.toList.isEmpty with
      | false =>
        have E : Hid (R = false) := by show _ = _; rw [E0.out, hb]; rfl
        rcases k34 with rfl | rfl
        all_goals
          go_enter Tryz.func211, Tryz.ntmps211
          go_wp2
          go_ret
          exact ⟨Ln.ret_bool E.out.symm, HB.out⟩
      | true =>
        have E : Hid (R = !b) := by show _ = _; rw [E0.out, hb]; rfl
        rcases k34 with rfl | rfl
        all_goals
          go_enter Tryz.func211, Tryz.ntmps211
          go_wp2
          go_ret
          exact ⟨Ln.ret_bool E.out.symm, HB.out⟩
    · have he' : (e == 0) = false := by simpa using he
      have E : Hid (R = false) := by show _ = _; rw [E0.out, decide_eq_false he]; rfl
      clear he
      rcases k34 with rfl | rfl
      all_goals
        go_enter Tryz.func211, Tryz.ntmps211
        go_wp2
        go_ret
        exact ⟨Ln.ret_bool E.out.symm, HB.out⟩
  · have k3b : (k == 3) = false := beq_eq_false_iff_ne.2 (fun h => k34 (.inl h))
    have k4b : (k == 4) = false := beq_eq_false_iff_ne.2 (fun h => k34 (.inr h))
    have E : Hid (numB 128 k b e s = false) := by show _ = _; unfold numB; rw [if_neg h0, if_neg hk, if_neg k2, if_neg k34]
    clear h0 hk k2 k34
    go_enter Tryz.func211, Tryz.ntmps211
    go_wp2
    go_ret
    exact ⟨Ln.ret_bool E.out.symm, HB.out⟩
theorem isRight_128 (k : Int) (b : Bool) (e : Int) (s : ByteArray) (w : World) (hs : s.size ≤ 4611686018427387904) :
    Calls Tryz.prog 211 #[.iface 211 (.agg #[]), numV k b e s] w fun r w' => r = .returned (.bool (numB 128 k b e s)) ∧ Below w.heap.size w w' := by
  by_cases hk : k = 1
  · subst hk
    have E : numB 128 1 b e s = (natB 34 s && (decide (-6176 ≤ e) && decide (e ≤ 6111))) := by unfold numB; rw [if_neg (by decide), if_pos rfl]; rfl
    rw [E]
    exact isRight_fin128 b e s w hs
  · exact isRight_oth128 k b e s w hs hk
theorem iNumOk_128 (k : Int) (b : Bool) (e : Int) (s : ByteArray) (w : World) (hs : s.size ≤ 4611686018427387904) :
    Calls Tryz.prog 152 #[.int .i64 128, numV k b e s] w fun r w' => r = .returned (.bool (numB 128 k b e s)) ∧ Below w.heap.size w w' := by
  have HI : Hid (∀ X, Calls Tryz.prog 211 #[.iface 211 (.agg #[]), numV k b e s] X fun r w' => r = .returned (.bool (numB 128 k b e s)) ∧ Below X.heap.size X w') := fun X => isRight_128 k b e s X hs
  have HB : Hid (Below (w.heap.size + 1) (nbq w k b e s) (nbq w k b e s)) := Below.refl _ _
  generalize numB 128 k b e s = R at *
  go_enter Tryz.func152, Tryz.ntmps152
  go_wp2_with fail
  refine (fmtOf_128 _).mono ?_
  rintro r w1 ⟨rfl, hw⟩
  subst hw
  go_wp2_with fail
  refine (HI.out _).mono ?_
  rintro r w2 ⟨rfl, hb⟩
  have hB2 := nbq_next HB.out hb
  go_wp2
  go_ret
  exact ⟨rfl, nbq_out hB2⟩
theorem iNumOk_any (f k : Int) (b : Bool) (e : Int) (s : ByteArray) (w : World) (hs : s.size ≤ 4611686018427387904) :
    Calls Tryz.prog 152 #[.int .i64 f, numV k b e s] w fun r w' => r = .returned (.bool (numB f k b e s)) ∧ Below w.heap.size w w' := by
  by_cases h1 : f = 64
  · subst h1; exact iNumOk_64 k b e s w hs
  by_cases h2 : f = 128
  · subst h2; exact iNumOk_128 k b e s w hs
  have E : Hid (numB f k b e s = false) := by show _ = _; unfold numB limP; rw [if_neg h1, if_neg h2, if_pos rfl]
  have HB : Hid (Below (w.heap.size + 1) (nbq w k b e s) (nbq w k b e s)) := Below.refl _ _
  go_enter Tryz.func152, Tryz.ntmps152
  go_wp2_with fail
  refine (fmtOf_no f _ h1 h2).mono ?_
  rintro r w1 ⟨rfl, hw⟩
  subst hw
  go_wp2
  go_ret
  exact ⟨Ln.ret_bool E.out.symm, nbq_out HB.out⟩
end Go.Proofs.YteofommckgeemaaGreatDoor
namespace Go.Proofs.YteofommckgeemaaGreatDoor
open Go.RowKit
set_option linter.unusedVariables false
set_option maxRecDepth 100000
/-- A result that is thrown. -/
abbrev thrown (r : Value) : Ending := .panicked [{ v := .iface 125 r, recovered := false }]
theorem build_sp (k : Int) (b : Bool) (e : Int) (s : ByteArray) (f : Int) (w : World) : (Instr.build 125 #[(0, rsV k b e s f)]).run Tryz.prog w = .ok (rsV k b e s f) w := run_build w _ _ _ (by kernel_rfl)
theorem build_sp0 (w : World) : (Instr.build 125 #[]).run Tryz.prog w = .ok (rsV 0 false 0 { data := #[] } 0) w := run_build w _ _ _ (by kernel_rfl)
theorem results_sp {fn : Func} {p : Tmp} {b : Nat} {x y z u v : Value} (h : fn.results = #[.cell p 125]) (tmps : Array Value) (w : World) (hp : tmps[p]?.getD undef = .pointer (some ⟨b, 0, none⟩))
    (q0 : w.cell? ⟨b, 0, none⟩ = some x) (q1 : w.cell? ⟨b, 1, none⟩ = some y) (q2 : w.cell? ⟨b, 2, none⟩ = some z) (q3 : w.cell? ⟨b, 3, none⟩ = some u) (q4 : w.cell? ⟨b, 4, none⟩ = some v) : (results fn tmps).run Tryz.prog w = .ok (.agg #[x, y, z, u, v]) w := by
  simp [results, h, hp, go_sem, q0, q1, q2, q3, q4]
/-- Five cells in a new block. -/
theorem five_new (w : World) (x y z u v : Value) (T : TypeId) : (w.alloc (.cells #[x, y, z, u, v] T)).cell? ⟨w.heap.size, 0, none⟩ = some x ∧ (w.alloc (.cells #[x, y, z, u, v] T)).cell? ⟨w.heap.size, 1, none⟩ = some y ∧ (w.alloc (.cells #[x, y, z, u, v] T)).cell? ⟨w.heap.size, 2, none⟩ = some z ∧ (w.alloc (.cells #[x, y, z, u, v] T)).cell? ⟨w.heap.size, 3, none⟩ = some u ∧ (w.alloc (.cells #[x, y, z, u, v] T)).cell? ⟨w.heap.size, 4, none⟩ = some v := by
  have h := (MapKept.heap_alloc w (.cells #[x, y, z, u, v] T)).1
  unfold World.cell?
  simp only [h]
  exact ⟨rfl, rfl, rfl, rfl, rfl⟩
theorem iInvalid_any (w : World) : Calls Tryz.prog 94 #[] w fun x w' => x = .returned (rsV 3 false 0 { data := #[] } 1) ∧ Below w.heap.size w w' := by
  have hb1 := build_nan
  have hb2 := build_res 3 false 0 { data := #[] } 1
  have hb3 := build_sp 3 false 0 { data := #[] } 1
  go_enter Tryz.func94, Tryz.ntmps94
  go_wp2
  have hP := five_new w (.int .i64 3) (.bool false) (.int .i64 0) (.string { data := #[] }) (.int .i64 1) 125
  refine bodyPost_ret (results_sp rfl _ _ rfl hP.1 hP.2.1 hP.2.2.1 hP.2.2.2.1 hP.2.2.2.2) rfl ?_
  exact ⟨rfl, (Below.refl _ _).alloc (Nat.le_refl _) _⟩
set_option maxHeartbeats 1000000 in
theorem hasKind_any (kd : Int) (n g : Nat) (K : Nat → Int) (B : Nat → Bool) (E : Nat → Int) (S : Nat → ByteArray) (w : World) (hn : n ≤ 3) (hg : g < w.heap.size) (hr : NRw w g n K B E S) :
    Calls Tryz.prog 153 #[.slice (some ⟨g, 0, none⟩) n n, .int .i64 kd] w fun x w' => x = .returned (.bool (decide (∃ i, i < n ∧ K i = kd))) ∧ Below w.heap.size w w' := by
  have HR : Hid (NRw w g n K B E S ∧ g < w.heap.size) := ⟨hr, hg⟩
  clear hr hg
  obtain ⟨R, hR⟩ : ∃ R, decide (∃ i, i < n ∧ K i = kd) = R := ⟨_, rfl⟩
  have HRe : Hid (decide (∃ i, i < n ∧ K i = kd) = R) := hR
  rw [hR]
  clear hR
  go_enter Tryz.func153, Tryz.ntmps153
  go_wp2
  go_loopw [9] (fun s wr => ∃ j : Nat, j ≤ n ∧ s = .int .i64 j ∧ Hid (∀ i, i < j → K i ≠ kd) ∧ Hid (Below w.heap.size w wr)) (fun s _ => n - (intOf s).toNat)
  case atStart => exact ⟨0, Nat.zero_le _, rfl, fun i hi => by omega, Below.refl _ _⟩
  case round =>
    obtain ⟨j, hj, rfl, hA, hBw⟩ := hrel
    by_cases hlt : j < n
    · obtain ⟨q0, q1, q2, q3⟩ := (HR.out.1.below hBw.out HR.out.2) j hlt
      have hlt' : (j : Int) < (n : Int) := by omega
      obtain ⟨k0, hk0⟩ : ∃ k0, K j = k0 := ⟨_, rfl⟩
      have HK : Hid (K j = k0) := hk0
      rw [hk0] at q0
      clear hk0
      generalize B j = b0 at q1
      generalize E j = e0 at q2
      generalize S j = s0 at q3
      by_cases h4 : k0 = kd
      · subst h4
        have E0 : Hid (R = true) := by show _ = _; rw [← HRe.out]; exact decide_eq_true ⟨j, hlt, HK.out⟩
        clear hA
        go_wp2
        go_ret
        exact ⟨by rw [E0.out]; rfl, hBw.out.alloc hBw.out.size _⟩
      · have c4 : (k0 == kd) = false := beq_eq_false_iff_ne.2 h4
        have HA2 : Hid (∀ i, i < j + 1 → K i ≠ kd) := fun i hi => by
          by_cases c : i < j
          · exact hA.out i c
          · obtain rfl : i = j := by omega
            rw [HK.out]; exact h4
        clear h4 hA
        go_wp2
        go_roundw
        case rel => exact ⟨j + 1, by omega, by go_num, HA2, hBw.out.alloc hBw.out.size _⟩
        case measure => simp [intOf]; omega
    · obtain rfl : j = n := by omega
      have E0 : Hid (R = false) := by show _ = _; rw [← HRe.out]; exact decide_eq_false (by rintro ⟨i, hi, hk⟩; exact hA.out i hi hk)
      go_wp2
      go_ret
      exact ⟨by rw [E0.out]; rfl, hBw.out⟩
end Go.Proofs.YteofommckgeemaaGreatDoor
namespace Go.Proofs.YteofommckgeemaaGreatDoor
open Go.RowKit
set_option linter.unusedVariables false
set_option maxRecDepth 100000
theorem canon_le (R : List Int) (h : Canon R) (k : Nat) (hp : 0 < k) (hk : vl R < 10 ^ k) : R.length ≤ k := by
  rcases Nat.lt_or_ge k R.length with c | c
  · have l := canon_low R h (by omega)
    have m := pow_mono k (R.length - 1) (by omega)
    omega
  · exact c
end Go.Proofs.YteofommckgeemaaGreatDoor
namespace Go.Proofs.YteofommckgeemaaGreatDoor
open Go.RowKit
set_option linter.unusedVariables false
set_option maxRecDepth 100000
def ok2 (s t : ByteArray) : Bool := natB 200 s && natB 200 t
theorem ok2_yes {s t : ByteArray} (h : ok2 s t = true) : natB 200 s = true ∧ natB 200 t = true := by
  unfold ok2 at h
  rw [Bool.and_eq_true] at h
  exact h
theorem ok2_no {s t : ByteArray} (h : ok2 s t = false) : natB 200 s = false ∨ (natB 200 s = true ∧ natB 200 t = false) := by
  unfold ok2 at h
  cases a : natB 200 s with
  | false => exact .inl rfl
  | true => rw [a] at h; exact .inr ⟨rfl, by simpa using h⟩
def cmpS (s t : ByteArray) : Int := if ok2 s t then cmpI (nv s) (nv t) else 2
def addS (s t : ByteArray) : ByteArray := if ok2 s t then fitS (nt (nv s + nv t)) else { data := #[] }
def subS (s t : ByteArray) : ByteArray := if ok2 s t then (if nv s < nv t then { data := #[] } else tx (nt (nv s - nv t))) else { data := #[] }
def mulS (s t : ByteArray) : ByteArray := if ok2 s t then fitS (nt (nv s * nv t)) else { data := #[] }
end Go.Proofs.YteofommckgeemaaGreatDoor
