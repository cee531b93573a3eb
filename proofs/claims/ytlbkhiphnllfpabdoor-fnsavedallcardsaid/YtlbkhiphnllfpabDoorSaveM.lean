/-
  Plain facts on sums without carries: a word in fives doubled, and three words in fours made two, keep what they stand for.
-/
import Derived.Test.YtlbkhiphnllfpabDoorRecM
import Derived.Test.YtlbkhiphnllfpabDoorTwM
import Derived.Test.YtlbkhiphnllfpabDoorSave
namespace Go.Proofs.YtlbkhiphnllfpabDoor
open Ln
set_option linter.unusedVariables false
set_option maxRecDepth 100000
theorem W_rec (m n : Nat) (x : Int) (hn : n < 3) (k : okB m x = true) : W n (recV m n x) = W m x := by
  obtain ⟨a, b, _⟩ := rec_ok m n x hn k
  rw [← W_vl n _ a, b, W_vl m x k]
/-- The lanes of bits joined word by word. -/
theorem ln_xor (A B i : Nat) : ln ((A ^^^ B : Nat) : Int) i = (((A / 16 ^ i % 16) ^^^ (B / 16 ^ i % 16) : Nat) : Int) := by
  rw [ln_nat]
  have e : (16 : Nat) ^ i = 2 ^ (4 * i) := by rw [Nat.pow_mul]
  rw [e, ← Nat.shiftRight_eq_div_pow, ← Nat.shiftRight_eq_div_pow, ← Nat.shiftRight_eq_div_pow, Nat.shiftRight_xor_distrib]
  rw [show (16 : Nat) = 2 ^ 4 from rfl, Nat.xor_mod_two_pow]
theorem ln_and (A B i : Nat) : ln ((A &&& B : Nat) : Int) i = (((A / 16 ^ i % 16) &&& (B / 16 ^ i % 16) : Nat) : Int) := by
  rw [ln_nat]
  have e : (16 : Nat) ^ i = 2 ^ (4 * i) := by rw [Nat.pow_mul]
  rw [e, ← Nat.shiftRight_eq_div_pow, ← Nat.shiftRight_eq_div_pow, ← Nat.shiftRight_eq_div_pow, Nat.shiftRight_and_distrib]
  rw [show (16 : Nat) = 2 ^ 4 from rfl, Nat.and_mod_two_pow]
theorem ln_or (A B i : Nat) : ln ((A ||| B : Nat) : Int) i = (((A / 16 ^ i % 16) ||| (B / 16 ^ i % 16) : Nat) : Int) := by
  rw [ln_nat]
  have e : (16 : Nat) ^ i = 2 ^ (4 * i) := by rw [Nat.pow_mul]
  rw [e, ← Nat.shiftRight_eq_div_pow, ← Nat.shiftRight_eq_div_pow, ← Nat.shiftRight_eq_div_pow, Nat.shiftRight_or_distrib]
  rw [show (16 : Nat) = 2 ^ 4 from rfl, Nat.or_mod_two_pow]
/-- Where two or three of the bits are 1. -/
def maj (A B C : Nat) : Nat := A &&& B ||| A &&& C ||| B &&& C
def odd3 (A B C : Nat) : Nat := A ^^^ B ^^^ C
theorem save_all : ∀ a b c : Fin 16, dig 1 (a.val : Int) + dig 1 (b.val : Int) + dig 1 (c.val : Int) = dig 1 (odd3 a.val b.val c.val : Int) + 2 * dig 1 (maj a.val b.val c.val : Int) := by decide +kernel
theorem save_lane (A B C i : Nat) : dig 1 (ln (A : Int) i) + dig 1 (ln (B : Int) i) + dig 1 (ln (C : Int) i) = dig 1 (ln (odd3 A B C : Int) i) + 2 * dig 1 (ln (maj A B C : Int) i) := by
  have h := save_all ⟨A / 16 ^ i % 16, Nat.mod_lt _ (by decide)⟩ ⟨B / 16 ^ i % 16, Nat.mod_lt _ (by decide)⟩ ⟨C / 16 ^ i % 16, Nat.mod_lt _ (by decide)⟩
  have n : ∀ X, ln ((X : Nat) : Int) i = ((X / 16 ^ i % 16 : Nat) : Int) := fun X => ln_nat X i
  have x2 : odd3 A B C / 16 ^ i % 16 = odd3 (A / 16 ^ i % 16) (B / 16 ^ i % 16) (C / 16 ^ i % 16) := by
    have u := ln_xor (A ^^^ B) C i
    have v := ln_xor A B i
    rw [n] at u v
    unfold odd3
    have u' := Int.ofNat_inj.1 u
    have v' := Int.ofNat_inj.1 v
    rw [u', v']
  have m2 : maj A B C / 16 ^ i % 16 = maj (A / 16 ^ i % 16) (B / 16 ^ i % 16) (C / 16 ^ i % 16) := by
    have p := ln_or (A &&& B ||| A &&& C) (B &&& C) i
    have q := ln_or (A &&& B) (A &&& C) i
    have r := ln_and A B i
    have s := ln_and A C i
    have t := ln_and B C i
    rw [n] at p q r s t
    unfold maj
    rw [Int.ofNat_inj.1 p, Int.ofNat_inj.1 q, Int.ofNat_inj.1 r, Int.ofNat_inj.1 s, Int.ofNat_inj.1 t]
  rw [n, n, n, n, n, x2, m2]
  exact h
theorem save_pv (A B C k : Nat) : pv (fun i => dig 1 (ln (A : Int) i)) k + pv (fun i => dig 1 (ln (B : Int) i)) k + pv (fun i => dig 1 (ln (C : Int) i)) k = pv (fun i => dig 1 (ln (odd3 A B C : Int) i)) k + 2 * pv (fun i => dig 1 (ln (maj A B C : Int) i)) k := by
  induction k with
  | zero => rfl
  | succ k ih =>
    have t := save_lane A B C k
    simp only [pv]
    have key : ∀ p a b c d e : Int, a + b + c = d + 2 * e → a * p + b * p + c * p = d * p + 2 * (e * p) := fun p a b c d e h => by
      rw [← Int.add_mul, ← Int.add_mul, h, Int.add_mul, Int.mul_assoc]
    have := key (10 ^ k) _ _ _ _ _ t
    omega
/-- Three words in fours are together their sum, the carry, and 10 to the 16 times what left. -/
theorem save_W (A B C : Nat) (hM : (maj A B C : Int) ≤ 18446744073709551615) :
    W 1 (A : Int) + W 1 (B : Int) + W 1 (C : Int) = W 1 (odd3 A B C : Int) + W 1 (tw (recV 1 2 (maj A B C : Int))) + twOut (recV 1 2 (maj A B C : Int)) * 10 ^ 16 := by
  have s : W 1 (A : Int) + W 1 (B : Int) + W 1 (C : Int) = W 1 (odd3 A B C : Int) + 2 * W 1 (maj A B C : Int) := save_pv A B C 16
  have k := ok_four (maj A B C : Int)
  obtain ⟨_, _, r⟩ := rec_ok 1 2 (maj A B C : Int) (by decide) k
  have t := twice_W (recV 1 2 (maj A B C : Int)) r.1 r.2
  rw [W_rec 1 2 _ (by decide) k] at t
  omega
/-- Bits joined, of words that are no less than nought. -/
theorem bits_xor (A B : Nat) (hA : A < 18446744073709551616) (hB : B < 18446744073709551616) : bits .xor .u64 (A : Int) (B : Int) = ((A ^^^ B : Nat) : Int) := by
  have e : bits .xor .u64 (A : Int) (B : Int) = IntKind.u64.wrap ((BitVec.ofInt 64 (A : Int) ^^^ BitVec.ofInt 64 (B : Int)).toNat : Int) := rfl
  have l : A ^^^ B < 2 ^ 64 := Nat.xor_lt_two_pow (by omega) (by omega)
  rw [e, IntKind.wrap_u64, BitVec.toNat_xor, BitVec.ofInt_natCast, BitVec.ofInt_natCast, BitVec.toNat_ofNat, BitVec.toNat_ofNat, Nat.mod_eq_of_lt (by omega), Nat.mod_eq_of_lt (by omega)]
  omega
theorem bits_and (A B : Nat) (hA : A < 18446744073709551616) (hB : B < 18446744073709551616) : bits .and .u64 (A : Int) (B : Int) = ((A &&& B : Nat) : Int) := by
  have e : bits .and .u64 (A : Int) (B : Int) = IntKind.u64.wrap ((BitVec.ofInt 64 (A : Int) &&& BitVec.ofInt 64 (B : Int)).toNat : Int) := rfl
  have l : A &&& B < 2 ^ 64 := Nat.and_lt_two_pow _ (by omega)
  rw [e, IntKind.wrap_u64, BitVec.toNat_and, BitVec.ofInt_natCast, BitVec.ofInt_natCast, BitVec.toNat_ofNat, BitVec.toNat_ofNat, Nat.mod_eq_of_lt (by omega), Nat.mod_eq_of_lt (by omega)]
  omega
theorem bits_or (A B : Nat) (hA : A < 18446744073709551616) (hB : B < 18446744073709551616) : bits .or .u64 (A : Int) (B : Int) = ((A ||| B : Nat) : Int) := by
  have e : bits .or .u64 (A : Int) (B : Int) = IntKind.u64.wrap ((BitVec.ofInt 64 (A : Int) ||| BitVec.ofInt 64 (B : Int)).toNat : Int) := rfl
  have l : A ||| B < 2 ^ 64 := Nat.or_lt_two_pow (by omega) (by omega)
  rw [e, IntKind.wrap_u64, BitVec.toNat_or, BitVec.ofInt_natCast, BitVec.ofInt_natCast, BitVec.toNat_ofNat, BitVec.toNat_ofNat, Nat.mod_eq_of_lt (by omega), Nat.mod_eq_of_lt (by omega)]
  omega
theorem x_lt (A B : Nat) (hA : A < 18446744073709551616) (hB : B < 18446744073709551616) : A ^^^ B < 18446744073709551616 := Nat.xor_lt_two_pow (n := 64) (by omega) (by omega)
theorem a_lt (A B : Nat) (hB : B < 18446744073709551616) : A &&& B < 18446744073709551616 := Nat.and_lt_two_pow (n := 64) _ (by omega)
theorem o_lt (A B : Nat) (hA : A < 18446744073709551616) (hB : B < 18446744073709551616) : A ||| B < 18446744073709551616 := Nat.or_lt_two_pow (n := 64) (by omega) (by omega)
theorem xOf_nat (A B C : Nat) (hA : A < 18446744073709551616) (hB : B < 18446744073709551616) (hC : C < 18446744073709551616) : xOf A B C = (odd3 A B C : Int) := by
  unfold xOf odd3; rw [bits_xor A B hA hB, bits_xor _ C (x_lt A B hA hB) hC]
theorem hOf_nat (A B C : Nat) (hA : A < 18446744073709551616) (hB : B < 18446744073709551616) (hC : C < 18446744073709551616) : hOf A B C = (maj A B C : Int) := by
  unfold hOf maj
  rw [bits_and A B hA hB, bits_and A C hA hC, bits_and B C hB hC, bits_or _ _ (a_lt A B hB) (a_lt A C hC), bits_or _ _ (o_lt _ _ (a_lt A B hB) (a_lt A C hC)) (a_lt B C hC)]
/-- Three words in fours are together what Save makes of them. -/
theorem save_Int (a b c : Int) (ha : 0 ≤ a ∧ a ≤ 18446744073709551615) (hb : 0 ≤ b ∧ b ≤ 18446744073709551615) (hc : 0 ≤ c ∧ c ≤ 18446744073709551615) :
    W 1 a + W 1 b + W 1 c = W 1 (xOf a b c) + W 1 (tw (fOf a b c)) + twOut (fOf a b c) * 10 ^ 16 := by
  obtain ⟨A, rfl⟩ := Int.eq_ofNat_of_zero_le ha.1
  obtain ⟨B, rfl⟩ := Int.eq_ofNat_of_zero_le hb.1
  obtain ⟨C, rfl⟩ := Int.eq_ofNat_of_zero_le hc.1
  have h := hOf_bd A B C
  unfold fOf
  rw [xOf_nat A B C (by omega) (by omega) (by omega)]
  rw [hOf_nat A B C (by omega) (by omega) (by omega)] at h ⊢
  exact save_W A B C h.2
end Go.Proofs.YtlbkhiphnllfpabDoor
