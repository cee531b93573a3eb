/-
  The number that bits stand for, of the model, walked.
-/
import Derived.Test.YtmjkpjmccdjkjadDoorWrd4
import Derived.Test.YtmjkpjmccdjkjadDoorSpw
namespace Go.Proofs.YtmjkpjmccdjkjadDoor
open Go.RowKit
set_option linter.unusedVariables false
set_option maxRecDepth 100000
/-- Two boxes of Nums, one behind the other. -/
abbrev two4 (w : World) (S : Bool) : World := (w.alloc (.cells #[.int .i64 0, .bool false, .int .i64 0, .string { data := #[] }] 25)).alloc (.cells #[.int .i64 1, .bool S, .int .i64 0, .string { data := #[] }] 25)
theorem two4_lo (w : World) (S : Bool) : At4 (two4 w S) w.heap.size (.int .i64 0) (.bool false) (.int .i64 0) (.string { data := #[] }) := (at4_new w _ _ _ _).alloc (by simp) _
theorem two4_hi (w : World) (S : Bool) : At4 (two4 w S) (w.heap.size + 1) (.int .i64 1) (.bool S) (.int .i64 0) (.string { data := #[] }) := by
  have := at4_new (w.alloc (.cells #[.int .i64 0, .bool false, .int .i64 0, .string { data := #[] }] 25)) (.int .i64 1) (.bool S) (.int .i64 0) (.string { data := #[] })
  simpa using this
theorem two4_below (w : World) (S : Bool) : Below w.heap.size w (two4 w S) := ((Below.refl _ _).alloc (Nat.le_refl _) _).alloc (by simp) _
theorem tx_nil : tx [] = { data := #[] } := by apply ByteArray.ext; rw [tx_data]; rfl
/-- The bits of a word's head. -/
theorem head_bits (r g : Nat) (W : Int) (n : Nat) (hn : n = 6 + r + 10 * g) (hr : 1 ≤ r) : ∃ b0 b1 b2 b3 b4 b5 b6 : Int,
    (bl W n n).getD 0 0 = b0 ∧ (bl W n n).getD 1 0 = b1 ∧ (bl W n n).getD 2 0 = b2 ∧ (bl W n n).getD 3 0 = b3 ∧ (bl W n n).getD 4 0 = b4 ∧ (bl W n n).getD 5 0 = b5 ∧ (bl W n n).getD 6 0 = b6 ∧
    (0 ≤ b0 ∧ b0 ≤ 1) ∧ (0 ≤ b1 ∧ b1 ≤ 1) ∧ (0 ≤ b2 ∧ b2 ≤ 1) ∧ (0 ≤ b3 ∧ b3 ≤ 1) ∧ (0 ≤ b4 ∧ b4 ≤ 1) ∧ (0 ≤ b5 ∧ b5 ≤ 1) ∧ (0 ≤ b6 ∧ b6 ≤ 1) ∧
    uC r g W = b1 * 16 + b2 * 8 + b3 * 4 + b4 * 2 + b5 ∧ W / 2 ^ (r + 10 * g + 5) % 2 = b0 ∧ W / 2 ^ (r + 10 * g - 1) % 2 = b6 := by
  have B := bl_bit W n n
  refine ⟨_, _, _, _, _, _, _, rfl, rfl, rfl, rfl, rfl, rfl, rfl, B 0, B 1, B 2, B 3, B 4, B 5, B 6, ?_, ?_, ?_⟩
  · have h := hb_bl W n 1 5 (by omega)
    rw [show n - 1 - 5 = r + 10 * g by omega] at h
    unfold uC
    rw [show (32 : Int) = 2 ^ 5 by decide, ← h]
    simp only [hb, Nat.add_zero, Nat.reduceAdd]
    omega
  · rw [bl_at W n n 0 (by omega), show n - 1 - 0 = r + 10 * g + 5 by omega]
  · rw [bl_at W n n 6 (by omega), show n - 1 - 6 = r + 10 * g - 1 by omega]
end Go.Proofs.YtmjkpjmccdjkjadDoor
