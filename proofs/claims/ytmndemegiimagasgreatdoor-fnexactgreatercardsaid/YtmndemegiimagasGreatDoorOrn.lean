/-
  Order of the program: what is right, NaNs, quanta; walked.
-/
import Derived.Test.YtmndemegiimagasGreatDoorOrz
import Derived.Test.YtmndemegiimagasGreatDoorIsR2
namespace Go.Proofs.YtmndemegiimagasGreatDoor
open Go.RowKit
set_option linter.unusedVariables false
set_option maxRecDepth 100000
theorem numB_bd (f k : Int) (b : Bool) (e : Int) (s : ByteArray) (h : numB f k b e s = true) : (f = 64 ∨ f = 128) ∧ (1 ≤ k ∧ k ≤ 4) ∧ s.size ≤ 34 ∧ (-6176 ≤ e ∧ e ≤ 6111) ∧ (k ≠ 1 → e = 0 ∧ s.size = 0) ∧ (k = 3 ∨ k = 4 → b = false) := by
  unfold numB at h
  by_cases hp : limP f = 0
  · rw [if_pos hp] at h; cases h
  rw [if_neg hp] at h
  have hf : f = 64 ∨ f = 128 := by
    unfold limP at hp
    by_cases h1 : f = 64
    · exact .inl h1
    · rw [if_neg h1] at hp
      by_cases h2 : f = 128
      · exact .inr h2
      · rw [if_neg h2] at hp; exact absurd rfl hp
  have hl : limP f ≤ 34 ∧ -6176 ≤ limL f ∧ limH f ≤ 6111 := by rcases hf with rfl | rfl <;> decide
  have hem : s.toList.isEmpty = true → s.size = 0 := fun hE => by
    have e : s.toList.length = s.size := by rw [ByteArray.toList_eq, Array.length_toList]; rfl
    rw [List.isEmpty_iff.1 hE] at e
    exact e.symm
  by_cases h1 : k = 1
  · rw [if_pos h1] at h
    unfold natB at h
    simp only [Bool.and_eq_true, decide_eq_true_eq] at h
    have h2 := h.1.1.1.2
    exact ⟨hf, by omega, by omega, by omega, fun q => absurd h1 q, fun q => by omega⟩
  · rw [if_neg h1] at h
    by_cases h2 : k = 2
    · rw [if_pos h2] at h
      simp only [Bool.and_eq_true, decide_eq_true_eq] at h
      have h3 := hem h.2
      exact ⟨hf, by omega, by omega, by omega, fun _ => ⟨h.1, h3⟩, fun q => by omega⟩
    · rw [if_neg h2] at h
      by_cases h3 : k = 3 ∨ k = 4
      · rw [if_pos h3] at h
        simp only [Bool.and_eq_true, decide_eq_true_eq, Bool.not_eq_true'] at h
        have h4 := hem h.2.1
        exact ⟨hf, by omega, by omega, by omega, fun _ => ⟨h.1, h4⟩, fun _ => h.2.2⟩
      · rw [if_neg h3] at h; cases h
theorem oRight_any (f : Int) (ka : Int) (na : Bool) (ea : Int) (sa : ByteArray) (kb : Int) (nb : Bool) (eb : Int) (sb : ByteArray) (w : World) (hsa : sa.size ≤ 4611686018427387904) (hsb : sb.size ≤ 4611686018427387904) :
    Calls Tryz.prog 34 #[.int .i64 f, numV ka na ea sa, numV kb nb eb sb] w fun x w' => x = .returned (.bool (numB f ka na ea sa && numB f kb nb eb sb)) ∧ Below w.heap.size w w' := by
  have HA : Hid (∀ X, Calls Tryz.prog 56 #[.int .i64 f, numV ka na ea sa] X fun x w' => x = .returned (.bool (numB f ka na ea sa)) ∧ Below X.heap.size X w') := fun X => iNumOk_any f ka na ea sa X hsa
  have HB : Hid (∀ X, Calls Tryz.prog 56 #[.int .i64 f, numV kb nb eb sb] X fun x w' => x = .returned (.bool (numB f kb nb eb sb)) ∧ Below X.heap.size X w') := fun X => iNumOk_any f kb nb eb sb X hsb
  obtain ⟨hN0, hb0, -⟩ := n2_new w ka na ea sa kb nb eb sb
  have HN : Hid (N2 w.heap.size ka na ea sa kb nb eb sb ((w.alloc (.cells #[.int .i64 ka, .bool na, .int .i64 ea, .string sa] 25)).alloc (.cells #[.int .i64 kb, .bool nb, .int .i64 eb, .string sb] 25)) ∧ Below w.heap.size w ((w.alloc (.cells #[.int .i64 ka, .bool na, .int .i64 ea, .string sa] 25)).alloc (.cells #[.int .i64 kb, .bool nb, .int .i64 eb, .string sb] 25))) := ⟨hN0, hb0⟩
  clear hN0 hb0 hsa hsb
  generalize numB f ka na ea sa = RA at *
  generalize numB f kb nb eb sb = RB at *
  cases RA with
  | false =>
    go_enter Tryz.func34, Tryz.ntmps34
    go_wp2_with fail
    refine (HA.out _).mono ?_
    rintro x w1 ⟨rfl, hb1⟩
    have HB1 := HN.out.2.trans (hb1.mono HN.out.2.size)
    clear hb1 HN HA HB
    go_wp2
    go_ret
    exact ⟨rfl, HB1⟩
  | true =>
    go_enter Tryz.func34, Tryz.ntmps34
    go_wp2_with fail
    refine (HA.out _).mono ?_
    rintro x w1 ⟨rfl, hb1⟩
    have HN1 : Hid (N2 w.heap.size ka na ea sa kb nb eb sb w1 ∧ Below w.heap.size w w1) := ⟨HN.out.1.next hb1, HN.out.2.trans (hb1.mono HN.out.2.size)⟩
    clear hb1 HN HA
    obtain ⟨d0, d1, d2, d3, d4⟩ := HN1.out.1.2.cells
    go_wp2_with fail
    refine (HB.out _).mono ?_
    rintro x w2 ⟨rfl, hb2⟩
    have HB2 := HN1.out.2.trans (hb2.mono HN1.out.2.size)
    clear hb2 HN1 HB d0 d1 d2 d3 d4
    go_wp2
    go_ret
    exact ⟨rfl, HB2⟩
/-- Have both one quantum? -/
def sqR (f : Int) (ka : Int) (na : Bool) (ea : Int) (sa : ByteArray) (kb : Int) (nb : Bool) (eb : Int) (sb : ByteArray) : Bool :=
  (numB f ka na ea sa && numB f kb nb eb sb) && ((ea == eb) && ((ka == kb) || (((ka == 3) || (ka == 4)) && ((kb == 3) || (kb == 4)))))
end Go.Proofs.YtmndemegiimagasGreatDoor
