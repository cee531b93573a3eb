/-
  What reading a number's text tells: plain facts.
-/
import Derived.Test.YtdkpiofeidcffaaGreatDoorRsf
import Derived.Test.YtdkpiofeidcffaaGreatDoorKnd
import Derived.Test.YtdkpiofeidcffaaGreatDoorIsR2
namespace Go.Proofs.YtdkpiofeidcffaaGreatDoor
open Go.RowKit
set_option linter.unusedVariables false
set_option maxRecDepth 100000
/-- A text behind its sign; whether that is a -. -/
def unS : List UInt8 → List UInt8
  | [] => []
  | b :: t => if b = 43 ∨ b = 45 then t else b :: t
def sgn : List UInt8 → Bool
  | [] => false
  | b :: _ => decide (b = 45)
def rdP (f m : Int) (neg : Bool) : Prt → Value
  | none => .tuple #[rsV 0 false 0 { data := #[] } 0, .bool false]
  | some (D, n, ng, P) => .tuple #[rsD neg (finD f m neg (strip (D.map (· - 48))) (scE n ng P) false (scE n ng P)), .bool true]
/-- Behind the sign. -/
def rdSt (f m : Int) (neg : Bool) (l : List UInt8) : Value :=
  if knK (l.map lowB) ≠ 0 then .tuple #[rsV (knK (l.map lowB)) (neg && decide (knK (l.map lowB) = 2)) 0 { data := #[] } 0, .bool true] else rdP f m neg (pWhl (bz l) [])
/-- What ReadNum tells. -/
def rdR (f m : Int) (l : List UInt8) : Value :=
  if (f = 64 ∨ f = 128) ∧ (1 ≤ m ∧ m ≤ 5) ∧ l.length ≤ 200 then rdSt f m (sgn l) (unS l) else rdP f m false none
theorem unS_cons (b : UInt8) (t : List UInt8) : unS (b :: t) = if b = 43 ∨ b = 45 then t else b :: t := rfl
theorem sgn_cons (b : UInt8) (t : List UInt8) : sgn (b :: t) = decide (b = 45) := rfl
theorem sgO_cons (x : Int) (t : List Int) : sgO (x :: t) 0 = if x = 43 ∨ x = 45 then 1 else 0 := by
  unfold sgO
  simp only [List.length_cons, Nat.zero_lt_succ, List.getD_cons_zero, true_and, Nat.zero_add]
theorem sgB_cons (x : Int) (t : List Int) : sgB (x :: t) 0 = decide (x = 45) := by
  unfold sgB
  simp only [List.length_cons, Nat.zero_lt_succ, List.getD_cons_zero, true_and]
theorem rn_sign (l : List UInt8) : sgB (rn l) 0 = sgn l ∧ (rn l).drop (sgO (rn l) 0) = rn (unS l) := by
  cases l with
  | nil => exact ⟨rfl, rfl⟩
  | cons b t =>
    rw [unS_cons, sgn_cons]
    by_cases h : b.toNat < 128
    · rw [rn_ascii b t h, sgO_cons, sgB_cons]
      have e43 : ((b.toNat : Int) = 43) ↔ b = 43 := by
        constructor
        · intro q; apply UInt8.toNat_inj.1; show b.toNat = 43; omega
        · rintro rfl; rfl
      have e45 : ((b.toNat : Int) = 45) ↔ b = 45 := by
        constructor
        · intro q; apply UInt8.toNat_inj.1; show b.toNat = 45; omega
        · rintro rfl; rfl
      simp only [e43, e45]
      refine ⟨trivial, ?_⟩
      split
      · rfl
      · rw [List.drop_zero, rn_ascii b t h]
    · obtain ⟨r, u, hr, h1, h2⟩ := rn_high b t (by omega)
      have n43 : ¬ b = 43 := fun q => by subst q; exact h (by decide)
      have n45 : ¬ b = 45 := fun q => by subst q; exact h (by decide)
      rw [if_neg (fun q => Or.elim q n43 n45), hr, sgO_cons, sgB_cons, if_neg (show ¬ (r = 43 ∨ r = 45) by omega), List.drop_zero]
      exact ⟨by rw [decide_eq_false (show ¬ r = 45 by omega), decide_eq_false n45], rfl⟩
theorem knK_rn (l : List UInt8) : knK (Lib.mapD sml (runesBytes (rn l)).data.toList) = knK (l.map lowB) := by
  have a1 := name_same l nmInfinity (by decide)
  have a2 := name_same l nmInf (by decide)
  have a3 := name_same l nmNan (by decide)
  have a4 := name_same l nmSnan (by decide)
  unfold knK
  simp only [a1, a2, a3, a4]
theorem knK_bd (T : List UInt8) : knK T = 0 ∨ knK T = 2 ∨ knK T = 3 ∨ knK T = 4 := by
  unfold knK
  split
  · exact .inr (.inl rfl)
  · split
    · exact .inr (.inr (.inl rfl))
    · split
      · exact .inr (.inr (.inr rfl))
      · exact .inl rfl
theorem unS_len (l : List UInt8) : (unS l).length ≤ l.length := by
  cases l with
  | nil => exact Nat.le_refl _
  | cons b t =>
    rw [unS_cons]
    split
    · rw [List.length_cons]; omega
    · exact Nat.le_refl _
/-- What was parsed can be finished. -/
theorem prt_fin {L : List Int} {D P : List Int} {n : Nat} {neg : Bool} (h : pWhl L [] = some (D, n, neg, P)) (hL : L.length ≤ 200) :
    Canon (strip (D.map (· - 48))) ∧ (strip (D.map (· - 48))).length ≤ 200 ∧ (-200000 ≤ scE n neg P ∧ scE n neg P ≤ 200000) := by
  obtain ⟨h1, h2, h3, h4, h5, h6⟩ := pWhl_ok L.length L [] (fun y hy => by cases hy) (by simp) D n neg P h
  have hd : Dec (D.map (· - 48)) := fun x hx => by
    obtain ⟨y, hy, rfl⟩ := List.mem_map.1 hx
    have := h1 y hy
    omega
  have hl := strip_len (D.map (· - 48))
  rw [List.length_map] at hl
  have hpe := pe_bd P h2
  have hpl : (10 : Int) ^ P.length ≤ 10 ^ 5 := by
    have := Nat.pow_le_pow_right (show 0 < 10 by decide) h6
    exact_mod_cast this
  refine ⟨strip_canon _ hd (by rw [List.length_map]; exact h3), by omega, ?_⟩
  unfold scE
  split <;> omega
end Go.Proofs.YtdkpiofeidcffaaGreatDoor
