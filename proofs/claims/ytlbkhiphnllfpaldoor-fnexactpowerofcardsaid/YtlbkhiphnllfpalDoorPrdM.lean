/-
  Plain facts on the product of two rows of sixteen digits: what the model's schoolbook way makes stands for the product.
-/
import Derived.Test.YtlbkhiphnllfpalDoorMulM
namespace Go.Proofs.YtlbkhiphnllfpalDoor
open Ln
set_option linter.unusedVariables false
/-- One place written anew. -/
def upd (g : Nat → Int) (p : Nat) (v : Int) : Nat → Int := fun q => if q = p then v else g q
theorem upd_at (g : Nat → Int) (p : Nat) (v : Int) : upd g p v p = v := by simp [upd]
theorem upd_off (g : Nat → Int) (p q : Nat) (v : Int) (h : q ≠ p) : upd g p v q = g q := by simp [upd, h]
theorem pv_upd (g : Nat → Int) (p : Nat) (v : Int) (n : Nat) : pv (upd g p v) n = pv g n + (if p < n then (v - g p) * 10 ^ p else 0) := by
  induction n with
  | zero => simp [pv]
  | succ n ih =>
    simp only [pv]
    rw [ih]
    by_cases h : n = p
    · subst h
      rw [upd_at, if_neg (Nat.lt_irrefl n), if_pos (Nat.lt_succ_self n), Int.sub_mul]
      omega
    · rw [upd_off _ _ _ _ h]
      by_cases h2 : p < n
      · rw [if_pos h2, if_pos (by omega)]; omega
      · rw [if_neg h2, if_neg (by omega)]; omega
/-- A row of the schoolbook way: d times fb, added from place r on, when c digits of fb have come; and the carry. -/
def inS (d : Int) (fb : Nat → Int) (r : Nat) (g : Nat → Int) : Nat → (Nat → Int) × Int
  | 0 => (g, 0)
  | c + 1 => (upd (inS d fb r g c).1 (r + c) (((inS d fb r g c).1 (r + c) + d * fb c + (inS d fb r g c).2) % 10), ((inS d fb r g c).1 (r + c) + d * fb c + (inS d fb r g c).2) / 10)
/-- A whole row, its carry laid ahead of it. -/
def rowS (d : Int) (fb : Nat → Int) (r : Nat) (g : Nat → Int) : Nat → Int := upd (inS d fb r g 16).1 (r + 16) ((inS d fb r g 16).1 (r + 16) + (inS d fb r g 16).2)
/-- The first r rows. -/
def prS (fa fb : Nat → Int) : Nat → Nat → Int
  | 0 => fun _ => 0
  | r + 1 => rowS (fa r) fb r (prS fa fb r)
/-- Digits below place m, noughts from there on. -/
def Dg (m : Nat) (g : Nat → Int) : Prop := ∀ p, (0 ≤ g p ∧ g p ≤ 9) ∧ (m ≤ p → g p = 0)
theorem mul99 (a b : Int) (a0 : 0 ≤ a) (a9 : a ≤ 9) (b0 : 0 ≤ b) (b9 : b ≤ 9) : 0 ≤ a * b ∧ a * b ≤ 81 := by
  have h := Int.mul_nonneg a0 b0
  have g := Int.mul_le_mul a9 b9 b0 (by decide)
  omega
theorem inS_bd (d : Int) (fb : Nat → Int) (r : Nat) (g : Nat → Int) (d0 : 0 ≤ d) (d9 : d ≤ 9) (hb : Nine fb) (hg : Dg (r + 16) g) (c : Nat) (hc : c ≤ 16) :
    Dg (r + 16) (inS d fb r g c).1 ∧ (0 ≤ (inS d fb r g c).2 ∧ (inS d fb r g c).2 ≤ 9) := by
  induction c with
  | zero => exact ⟨hg, Int.le_refl _, by show (0 : Int) ≤ 9; decide⟩
  | succ c ih =>
    obtain ⟨a, y⟩ := ih (by omega)
    have b := hb c (by omega)
    have m := mul99 d (fb c) d0 d9 b.1 b.2
    have q := (a (r + c)).1
    simp only [inS]
    refine ⟨fun p => ?_, by omega, by omega⟩
    by_cases h : p = r + c
    · subst h; rw [upd_at]; exact ⟨⟨by omega, by omega⟩, fun hp => by omega⟩
    · rw [upd_off _ _ _ _ h]; exact a p
theorem inS_pv (d : Int) (fb : Nat → Int) (r : Nat) (g : Nat → Int) (c N : Nat) (hN : r + c ≤ N) :
    pv (inS d fb r g c).1 N + 10 ^ (r + c) * (inS d fb r g c).2 = pv g N + d * 10 ^ r * pv fb c := by
  induction c with
  | zero => simp [inS, pv]
  | succ c ih =>
    have h := ih (by omega)
    simp only [inS, pv]
    rw [pv_upd, if_pos (by omega)]
    generalize (inS d fb r g c).1 = G at *
    generalize (inS d fb r g c).2 = y at *
    have e : ∀ n : Int, n % 10 + 10 * (n / 10) = n := fun n => by omega
    have e' := e (G (r + c) + d * fb c + y)
    generalize (G (r + c) + d * fb c + y) % 10 = u at *
    generalize (G (r + c) + d * fb c + y) / 10 = v at *
    rw [← Nat.add_assoc, Int.pow_succ, Int.mul_add, ← Int.add_assoc, ← h]
    have p2 : (10 : Int) ^ (r + c) = 10 ^ r * 10 ^ c := Int.pow_add ..
    have k1 : d * 10 ^ r * (fb c * 10 ^ c) = d * fb c * 10 ^ (r + c) := by
      rw [p2]; simp only [Int.mul_assoc, Int.mul_left_comm]
    rw [k1]
    generalize (10 : Int) ^ (r + c) = P at *
    have k2 : (u - G (r + c)) * P + P * 10 * v = (u + 10 * v - G (r + c)) * P := by
      rw [Int.sub_mul, Int.sub_mul, Int.add_mul, Int.mul_assoc P, Int.mul_comm P]; omega
    rw [e'] at k2
    have k3 : (G (r + c) + d * fb c + y - G (r + c)) * P = d * fb c * P + P * y := by
      rw [show G (r + c) + d * fb c + y - G (r + c) = d * fb c + y by omega, Int.add_mul, Int.mul_comm y]
    omega
theorem row_bd (d : Int) (fb : Nat → Int) (r : Nat) (g : Nat → Int) (d0 : 0 ≤ d) (d9 : d ≤ 9) (hb : Nine fb) (hg : Dg (r + 16) g) : Dg (r + 1 + 16) (rowS d fb r g) := by
  obtain ⟨a, y⟩ := inS_bd d fb r g d0 d9 hb hg 16 (Nat.le_refl _)
  intro p
  unfold rowS
  by_cases h : p = r + 16
  · subst h
    rw [upd_at, (a (r + 16)).2 (Nat.le_refl _)]
    exact ⟨⟨by omega, by omega⟩, fun hp => by omega⟩
  · rw [upd_off _ _ _ _ h]
    exact ⟨(a p).1, fun hp => (a p).2 (by omega)⟩
theorem row_pv (d : Int) (fb : Nat → Int) (r : Nat) (g : Nat → Int) (N : Nat) (hN : r + 16 < N) : pv (rowS d fb r g) N = pv g N + d * 10 ^ r * pv fb 16 := by
  have h := inS_pv d fb r g 16 N (by omega)
  unfold rowS
  rw [pv_upd, if_pos hN, ← h]
  generalize (inS d fb r g 16).1 = G at *
  generalize (inS d fb r g 16).2 = y at *
  rw [show G (r + 16) + y - G (r + 16) = y by omega, Int.mul_comm y]
theorem prS_bd (fa fb : Nat → Int) (ha : Nine fa) (hb : Nine fb) (r : Nat) (hr : r ≤ 16) : Dg (r + 16) (prS fa fb r) := by
  induction r with
  | zero => exact fun p => ⟨⟨Int.le_refl _, by show (0 : Int) ≤ 9; decide⟩, fun _ => rfl⟩
  | succ r ih => exact row_bd _ _ _ _ (ha r (by omega)).1 (ha r (by omega)).2 hb (ih (by omega))
theorem prS_pv (fa fb : Nat → Int) (r : Nat) (hr : r ≤ 16) : pv (prS fa fb r) 32 = pv fa r * pv fb 16 := by
  induction r with
  | zero =>
    rw [show pv fa 0 = 0 from rfl, Int.zero_mul]
    exact pv_past (fun _ => 0) 0 32 (by decide) (fun _ _ => rfl)
  | succ r ih =>
    show pv (rowS (fa r) fb r (prS fa fb r)) 32 = pv fa (r + 1) * pv fb 16
    rw [row_pv _ _ _ _ 32 (by omega), ih (by omega)]
    simp only [pv]
    rw [Int.add_mul]
theorem pv_split (f : Nat → Int) (m n : Nat) : pv f (m + n) = pv f m + 10 ^ m * pv (fun i => f (m + i)) n := by
  induction n with
  | zero => simp [pv]
  | succ n ih =>
    rw [← Nat.add_assoc]
    simp only [pv]
    rw [ih, Int.mul_add, Int.pow_add, Int.mul_left_comm (10 ^ m)]
    omega
/-- Two rows of sixteen digits that stand together for a number are told by it. -/
theorem two_same (f g f' g' : Nat → Int) (hf : Nine f) (hg : Nine g) (hf' : Nine f') (hg' : Nine g') (h : pv f 16 + 10 ^ 16 * pv g 16 = pv f' 16 + 10 ^ 16 * pv g' 16) : Sm f 16 = Sm f' 16 ∧ Sm g 16 = Sm g' 16 := by
  have a := pv_room f hf
  have b := pv_room f' hf'
  have e : (10 : Int) ^ 16 = 10000000000000000 := by decide
  rw [e] at h
  exact ⟨pv_same _ _ hf hf' (by omega), pv_same _ _ hg hg' (by omega)⟩
end Go.Proofs.YtlbkhiphnllfpalDoor
