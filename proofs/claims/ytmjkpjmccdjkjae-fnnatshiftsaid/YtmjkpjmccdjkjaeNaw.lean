/-
  Naturals of the program: quotients; walked.
-/
import Derived.Test.YtmjkpjmccdjkjaeNav
import Derived.Deep.LoopGhost
namespace Go.Proofs.Ytmjkpjmccdjkjae
open Go.RowKit
set_option linter.unusedVariables false
theorem NFit.le {a b : Int} {k : Nat} (h : NFit b k) (hl : a ≤ b) : NFit a k := by unfold NFit at *; omega
theorem NFit.mono {a : Int} {k m : Nat} (h : NFit a k) (hl : k ≤ m) : NFit a m := by unfold NFit at *; have := pow_mono k m hl; omega
theorem NFit.ten {a b : Int} {k : Nat} (h : NFit b k) (hl : a < 10 * b) : NFit a (k + 1) := by unfold NFit at *; rw [Int.pow_succ]; omega
theorem nis_none (w : World) : NIsF (w.alloc (.cells #[] 5)) w.heap.size (.slice (some ⟨w.heap.size, 0, none⟩) 0 0) 0 :=
  ⟨⟨[], ⟨w.heap.size, 0, rfl, Nat.le_refl _, by simp, fun i hi => by cases hi⟩, ⟨(fun d hd => by cases hd), .inl rfl⟩, rfl⟩, _, _, _, rfl, Nat.le_refl _⟩
theorem NIs.nn {w : World} {v : Value} {n : Int} (h : NIs w v n) : 0 ≤ n := by
  obtain ⟨L, -, hc, rfl⟩ := h
  exact (lv_bd L hc.1).1
/-- What holds ahead of a place: p digits are still to come, R is left. -/
def NvO (w wr : World) (N : Nat) (X : List Int) (b : Int) (p : Nat) (R : Int) : Prop :=
  ∃ Q, NRow wr w.heap.size w.heap.size N Q ∧ Dec Q ∧ (∀ t, t < p → Q.getD t 0 = 0) ∧ b * lv Q + 10 ^ p * R + lv (X.take p) = lv X
/-- What holds at a place. -/
def NvN (w wr : World) (N : Nat) (X : List Int) (b : Int) (p : Nat) (S R : Int) : Prop :=
  ∃ Q, NRow wr w.heap.size w.heap.size N Q ∧ Dec Q ∧ (∀ t, t < p → Q.getD t 0 = 0) ∧ b * lv Q + 10 ^ p * R + lv (X.take p) = lv X ∧ Q.getD p 0 * b + R = S
theorem NvO.below {w wr w' : World} {N : Nat} {X : List Int} {b : Int} {p : Nat} {R : Int} (h : NvO w wr N X b p R) (hb : Below wr.heap.size wr w') : NvO w w' N X b p R := by
  obtain ⟨Q, hR, r⟩ := h
  exact ⟨Q, hR.below hb (Nat.le_refl _), r⟩
theorem NvN.below {w wr w' : World} {N : Nat} {X : List Int} {b : Int} {p : Nat} {S R : Int} (h : NvN w wr N X b p S R) (hb : Below wr.heap.size wr w') : NvN w w' N X b p S R := by
  obtain ⟨Q, hR, r⟩ := h
  exact ⟨Q, hR.below hb (Nat.le_refl _), r⟩
theorem NvO.start {w wr : World} {N : Nat} {X : List Int} {b : Int} (h : NRow wr w.heap.size w.heap.size N (List.replicate N 0)) (hX : X.length = N) : NvO w wr N X b N 0 :=
  ⟨_, h, dec_noughts N, fun t _ => replicate_at N t, by rw [lv_noughts, List.take_of_length_le (by omega)]; simp⟩
theorem NvO.into {w wr : World} {N : Nat} {X : List Int} {b : Int} {p : Nat} {R : Int} (h : NvO w wr N X b (p + 1) R) (hp : p < X.length) : NvN w wr N X b p (10 * R + X.getD p 0) (10 * R + X.getD p 0) := by
  obtain ⟨Q, hR, hD, hz, hv⟩ := h
  refine ⟨Q, hR, hD, fun t ht => hz t (by omega), ?_, by rw [hz p (by omega)]; omega⟩
  rw [lv_take1 X p hp, Int.pow_succ] at hv
  rw [← hv]
  generalize (10 : Int) ^ p = e
  grind
theorem NvN.out {w wr : World} {N : Nat} {X : List Int} {b : Int} {p : Nat} {S R : Int} (h : NvN w wr N X b p S R) : NvO w wr N X b p R := by
  obtain ⟨Q, hR, hD, hz, hv, -⟩ := h
  exact ⟨Q, hR, hD, hz, hv⟩
theorem NvN.low {b S R q : Int} (hS : S < 10 * b) (hb : 0 < b) (hge : b ≤ R) (h : q * b + R = S) : q ≤ 8 := by
  rcases Int.lt_or_le 8 q with c | c
  · exfalso
    have : 9 * b ≤ q * b := Int.mul_le_mul_of_nonneg_right (by omega) (by omega)
    omega
  · exact c
theorem NvN.step {w wr : World} {N : Nat} {X : List Int} {b : Int} {p : Nat} {S R : Int} (h : NvN w wr N X b p S R) (hp : p < N) (hS : S < 10 * b) (hb : 0 < b) (hge : b ≤ R) :
    ∃ q, wr.cell? ⟨w.heap.size, p, none⟩ = some (.int .u8 q) ∧ 0 ≤ q ∧ q ≤ 8 ∧ wr.frozen? ⟨w.heap.size, p, none⟩ = false ∧ NvN w (wr.setCell ⟨w.heap.size, p, none⟩ (.int .u8 (q + 1))) N X b p S (R - b) := by
  obtain ⟨Q, hR, hD, hz, hv, hs⟩ := h
  have hlen := hR.len
  have h8 := NvN.low hS hb hge hs
  have hd := dec_at Q hD p
  refine ⟨Q.getD p 0, hR.cell p hp, hd.1, h8, hR.frozen p, Q.set p (Q.getD p 0 + 1), hR.set p _, nd_set Q p _ hD (by omega) (by omega), fun t ht => ?_, ?_, ?_⟩
  · rw [getD_set_ne _ _ _ _ (by omega)]; exact hz t ht
  · rw [nl_set Q p _ (by omega), ← hv]
    generalize (10 : Int) ^ p = e
    grind
  · have e : (Q.set p (Q.getD p 0 + 1)).getD p 0 = Q.getD p 0 + 1 := by
      simp [List.getD, show p < Q.length by omega]
    rw [e, ← hs]
    grind
theorem NvO.fin {w wr : World} {N : Nat} {X : List Int} {b : Int} {R : Int} (h : NvO w wr N X b 0 R) (hb : 0 < b) (r0 : 0 ≤ R) (r1 : R < b) : ∃ Q, NRow wr w.heap.size w.heap.size N Q ∧ Dec Q ∧ lv Q = lv X / b ∧ R = lv X % b := by
  obtain ⟨Q, hR, hD, -, hv⟩ := h
  rw [Int.pow_zero, List.take_zero, Int.one_mul, show lv [] = 0 from rfl, Int.add_zero] at hv
  refine ⟨Q, hR, hD, ?_, ?_⟩
  · rw [← hv, Int.mul_add_ediv_left _ _ (by omega), Int.ediv_eq_zero_of_lt r0 r1]; omega
  · rw [← hv, Int.mul_add_emod_self_left, Int.emod_eq_of_lt r0 r1]
end Go.Proofs.Ytmjkpjmccdjkjae
