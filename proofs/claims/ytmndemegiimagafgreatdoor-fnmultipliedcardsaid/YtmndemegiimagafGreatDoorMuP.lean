/-
  Plain facts on what Mul tells: it goes both ways, by one a number is itself, its results are right.
-/
import Derived.Test.YtmndemegiimagafGreatDoorRgt
import Derived.Test.YtmndemegiimagafGreatDoorMuPs
import Derived.Test.YtmndemegiimagafGreatDoorSmn
namespace Go.Proofs.YtmndemegiimagafGreatDoor
set_option linter.unusedVariables false
set_option maxRecDepth 100000
theorem spB_comm (a b : Int) : spB 2 (tw2 a b) = spB 2 (tw2 b a) := by
  have h : ∀ x y : Int, (∃ i, i < 2 ∧ (tw2 x y i = 3 ∨ tw2 x y i = 4)) → ∃ i, i < 2 ∧ (tw2 y x i = 3 ∨ tw2 y x i = 4) := by
    rintro x y ⟨i, hi, q⟩
    match i, hi with
    | 0, _ => exact ⟨1, by decide, q⟩
    | 1, _ => exact ⟨0, by decide, q⟩
  unfold spB
  exact decide_eq_decide.2 ⟨h a b, h b a⟩
theorem spF_comm (a b : Int) : spF 2 (tw2 a b) = spF 2 (tw2 b a) := by
  have h : ∀ x y : Int, (∃ i, i < 2 ∧ tw2 x y i = 4) → ∃ i, i < 2 ∧ tw2 y x i = 4 := by
    rintro x y ⟨i, hi, q⟩
    match i, hi with
    | 0, _ => exact ⟨1, by decide, q⟩
    | 1, _ => exact ⟨0, by decide, q⟩
  unfold spF
  by_cases q : ∃ i, i < 2 ∧ tw2 a b i = 4
  · rw [if_pos q, if_pos (h a b q)]
  · rw [if_neg q, if_neg (fun c => q (h b a c))]
theorem addO_comm (f mode : Int) (ka : Int) (na : Bool) (ea : Int) (sa : ByteArray) (kb : Int) (nb : Bool) (eb : Int) (sb : ByteArray) : addO f mode ka na ea sa kb nb eb sb = addO f mode kb nb eb sb ka na ea sa := by
  unfold addO
  rw [Bool.and_comm (numB f ka na ea sa)]
theorem beq_turn (a b : Bool) : (a == b) = (b == a) := by cases a <;> cases b <;> rfl
theorem mulX_comm (f mode : Int) (ka : Int) (na : Bool) (ea : Int) (sa : ByteArray) (kb : Int) (nb : Bool) (eb : Int) (sb : ByteArray) : mulX f mode ka na ea sa kb nb eb sb = mulX f mode kb nb eb sb ka na ea sa := by
  unfold mulX
  rw [beq_turn na nb, Int.mul_comm (vl (dl sa)), Int.add_comm ea, Bool.or_comm (z0B ka sa)]
  by_cases h : ka = 1 ∧ kb = 1
  · rw [if_pos h, if_pos ⟨h.2, h.1⟩]
  · rw [if_neg h, if_neg (show ¬ (kb = 1 ∧ ka = 1) from fun c => h ⟨c.2, c.1⟩)]
/-- Products go both ways. -/
theorem mulR_comm (f mode : Int) (ka : Int) (na : Bool) (ea : Int) (sa : ByteArray) (kb : Int) (nb : Bool) (eb : Int) (sb : ByteArray) : mulR f mode ka na ea sa kb nb eb sb = mulR f mode kb nb eb sb ka na ea sa := by
  unfold mulR
  rw [addO_comm, spB_comm, spF_comm, mulX_comm]
/-- What Mul tells of right numbers is right. -/
theorem mulR_right (f mode : Int) (ka : Int) (na : Bool) (ea : Int) (sa : ByteArray) (kb : Int) (nb : Bool) (eb : Int) (sb : ByteArray) (hO : addO f mode ka na ea sa kb nb eb sb = true) :
    numB f (mulR f mode ka na ea sa kb nb eb sb).2.1 (mulR f mode ka na ea sa kb nb eb sb).1 (mulR f mode ka na ea sa kb nb eb sb).2.2.1 (mulR f mode ka na ea sa kb nb eb sb).2.2.2.1 = true := by
  have hO2 := hO
  unfold addO at hO2
  simp only [Bool.and_eq_true, decide_eq_true_eq] at hO2
  obtain ⟨hmo, hA, hBn⟩ := hO2
  have hp0 : limP f ≠ 0 := fun h => by unfold numB at hA; rw [if_pos h] at hA; cases hA
  have hN : ∀ fl : Int, numB f 3 false 0 { data := #[] } = true := fun _ => by
    unfold numB
    rw [if_neg hp0, if_neg (by decide), if_neg (by decide), if_pos (.inl rfl), ByteArray.toList_eq]
    rfl
  have hI : ∀ b : Bool, numB f 2 b 0 { data := #[] } = true := fun b => by
    unfold numB
    rw [if_neg hp0, if_neg (by decide), if_pos rfl, ByteArray.toList_eq]
    rfl
  obtain ⟨R, hR⟩ : ∃ R, mulR f mode ka na ea sa kb nb eb sb = R := ⟨_, rfl⟩
  rw [hR]
  unfold mulR at hR
  rw [hO, if_pos rfl] at hR
  cases hS : spB 2 (tw2 ka kb) with
  | true =>
    rw [hS, if_pos rfl] at hR
    rw [← hR]
    exact hN 0
  | false =>
    rw [hS, if_neg (by decide)] at hR
    have hnan := of_decide_eq_false hS
    have n0 : ka ≠ 3 ∧ ka ≠ 4 := ⟨fun h => hnan ⟨0, by decide, .inl h⟩, fun h => hnan ⟨0, by decide, .inr h⟩⟩
    have n1 : kb ≠ 3 ∧ kb ≠ 4 := ⟨fun h => hnan ⟨1, by decide, .inl h⟩, fun h => hnan ⟨1, by decide, .inr h⟩⟩
    obtain ⟨hf, ea1, ka1, ca⟩ := right_two f ka na ea sa hA n0.1 n0.2
    obtain ⟨-, eb1, kb1, cb⟩ := right_two f kb nb eb sb hBn n1.1 n1.2
    have hL := lims f hf
    unfold mulX at hR
    by_cases hkk : ka = 1 ∧ kb = 1
    · rw [if_pos hkk] at hR
      rw [← hR]
      obtain ⟨q1, l1, x1, y1⟩ := ca hkk.1
      obtain ⟨q2, l2, x2, y2⟩ := cb hkk.2
      obtain ⟨nk, -⟩ := mul_bd (dl sa) (dl sb) q1 q2 (by omega) (by omega)
      have := finD_right f hf mode (!(na == nb)) (nt (vl (dl sa) * vl (dl sb))) (ea + eb) (ea + eb) (nok_spec nk).1 (nok_len nk)
      dsimp only
      exact this
    · rw [if_neg hkk] at hR
      cases hz : (z0B ka sa || z0B kb sb) with
      | true =>
        rw [hz, if_pos rfl] at hR
        rw [← hR]
        exact hN 0
      | false =>
        rw [hz, if_neg (by decide)] at hR
        rw [← hR]
        exact hI _
/-- By one a number is itself. -/
theorem mulR_one (f mode : Int) (hmo : 1 ≤ mode ∧ mode ≤ 5) (na : Bool) (ea : Int) (sa : ByteArray) (hA : numB f 1 na ea sa = true) : mulR f mode 1 na ea sa 1 false 0 { data := #[49] } = (na, (1, ea, sa, 0)) := by
  obtain ⟨hf, ea1, -, ca⟩ := right_two f 1 na ea sa hA (by decide) (by decide)
  obtain ⟨q1, l1, x1, y1⟩ := ca rfl
  have hL := lims f hf
  have hp : limP f ≠ 0 ∧ 1 ≤ limP f ∧ limL f ≤ 0 ∧ 0 ≤ limH f := by rcases hf with rfl | rfl <;> decide
  have c1 : Canon [1] := ⟨fun d hd => by simp at hd; omega, by simp, .inl rfl⟩
  have et : tx [1] = { data := #[49] } := by apply ByteArray.ext; rw [tx_data]; rfl
  have hB : numB f 1 false 0 { data := #[49] } = true := by
    have := natB_tx (limP f) [1] c1 (by simp; omega)
    rw [et] at this
    unfold numB
    rw [if_neg hp.1, if_pos rfl, this]
    simp [hp.2.2.1, hp.2.2.2]
  have hO : addO f mode 1 na ea sa 1 false 0 { data := #[49] } = true := by
    unfold addO
    rw [hA, hB, decide_eq_true hmo]
    rfl
  have hS : spB 2 (tw2 1 1) = false := by
    refine decide_eq_false ?_
    rintro ⟨i, hi, q⟩
    match i, hi with
    | 0, _ => exact absurd q (by simp [tw2])
    | 1, _ => exact absurd q (by simp [tw2])
  have d1 : dl { data := #[49] } = [1] := by rfl
  have v1 : vl [1] = 1 := by rfl
  unfold mulR
  rw [hO, if_pos rfl, hS, if_neg (by decide)]
  unfold mulX
  rw [if_pos ⟨rfl, rfl⟩, d1, v1, Int.mul_one, Int.add_zero, nt_vl _ q1 (by omega), finD_self f hf mode _ (dl sa) ea q1 l1 x1 y1, ← ea1]
  cases na <;> rfl
end Go.Proofs.YtmndemegiimagafGreatDoor
