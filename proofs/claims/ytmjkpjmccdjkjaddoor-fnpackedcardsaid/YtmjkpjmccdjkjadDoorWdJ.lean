/-
  Plain facts: fields joined are the bits of a number.
-/
import Derived.Test.YtmjkpjmccdjkjadDoorJoi
import Derived.Test.YtmjkpjmccdjkjadDoorFwd
namespace Go.Proofs.YtmjkpjmccdjkjadDoor
set_option linter.unusedVariables false
set_option maxRecDepth 100000
/-- Declets joined behind a head. -/
theorem jn_dcs (Z : Int) (S : List Int) (hS : Dec S) (g : Nat) (D : List Int) (hD : ∀ k, k < g → D.getD k 0 = dcl (tri S k)) (k : Nat) (hk : k ≤ g) : jn Z D k = Z * 2 ^ (10 * k) + dcs S k := by
  induction k with
  | zero => simp [jn, dcs]
  | succ k ih =>
    unfold jn
    rw [ih (by omega), hD k (by omega), show 10 * (k + 1) = 10 * k + 10 by omega, Int.pow_add, show (2 : Int) ^ 10 = 1024 by decide]
    simp only [dcs]
    rw [Int.add_mul, Int.mul_assoc, Int.add_assoc]
theorem ds3_tri (S : List Int) (g k : Nat) (h : k < g) : (ds3 (S.drop 1) g).getD k 0 = dcl (tri S k) := by
  rw [ds3_at _ g k h, drop_at, drop_at, drop_at]
  unfold tri
  rw [show 1 + (3 * k + 1) = 1 + 3 * k + 1 by omega, show 1 + (3 * k + 2) = 1 + 3 * k + 2 by omega]
theorem ds3_bd (S : List Int) (hS : Dec S) (g i : Nat) : 0 ≤ (ds3 (S.drop 1) g).getD i 0 ∧ (ds3 (S.drop 1) g).getD i 0 < 1024 := by
  by_cases h : i < g
  · rw [ds3_tri S g i h]
    have := dcl_tri S hS i
    omega
  · rw [List.getD, List.getElem?_eq_none (by rw [ds3_len]; omega)]
    simp
/-- A finite number's fields joined. -/
theorem jn_fin (b : Bool) (V : Int) (S : List Int) (hS : Dec S) (r g : Nat) : jn ((sgb b * 32 + fv (V / 2 ^ r) (S.getD 0 0)) * 2 ^ r + V % 2 ^ r) (ds3 (S.drop 1) g) g = finW b V S r g := by
  rw [jn_dcs _ S hS g _ (fun k hk => ds3_tri S g k hk) g (Nat.le_refl _)]
  rfl
theorem jn_zero (Z : Int) (D : List Int) (hD : ∀ k, D.getD k 0 = 0) (k : Nat) : jn Z D k = Z * 2 ^ (10 * k) := by
  induction k with
  | zero => simp [jn]
  | succ k ih =>
    unfold jn
    rw [ih, hD k, show 10 * (k + 1) = 10 * k + 10 by omega, Int.pow_add, Int.add_zero, Int.mul_assoc]
/-- .. of one that is not finite. -/
theorem jn_spc (k : Int) (b : Bool) (r g : Nat) (hr : 0 < r) (hk : k = 2 ∨ k = 3 ∨ k = 4) (D : List Int) (hD : ∀ k, D.getD k 0 = 0) :
    jn ((sgb b * 32 + (if k = 2 then 30 else 31)) * 2 ^ r + (if k = 4 then 2 ^ (r - 1) else 0)) D g = spcW k b r g := by
  rw [jn_zero _ D hD]
  unfold spcW
  obtain ⟨m, rfl⟩ : ∃ m, r = m + 1 := ⟨r - 1, by omega⟩
  rw [show m + 1 - 1 = m by omega, show m + 1 + 10 * g - 1 = m + 10 * g by omega, Int.pow_add 2 m (10 * g), Int.pow_succ]
  generalize (2 : Int) ^ m = p
  generalize (2 : Int) ^ (10 * g) = q
  have key : (sgb b * 32 + (if k = 2 then 30 else 31)) * (p * 2) + (if k = 4 then p else 0) = (sgb b * 64 + (if k = 2 then 60 else if k = 3 then 62 else 63)) * p := by
    have e : ∀ x : Int, x * (p * 2) = x * 2 * p := fun x => by rw [Int.mul_comm p 2, Int.mul_assoc]
    rw [e]
    rcases hk with rfl | rfl | rfl
    · rw [if_pos rfl, if_neg (by decide), if_pos rfl, Int.add_zero]; congr 1; omega
    · rw [if_neg (by decide), if_neg (by decide), if_neg (by decide), if_pos rfl, Int.add_zero]; congr 1; omega
    · rw [if_neg (by decide), if_pos rfl, if_neg (by decide), if_neg (by decide)]
      rw [show sgb b * 64 + 63 = (sgb b * 32 + 31) * 2 + 1 by omega, Int.add_mul _ 1 p, Int.one_mul]
  rw [key, Int.mul_assoc]
end Go.Proofs.YtmjkpjmccdjkjadDoor
