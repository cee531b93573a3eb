/-
  The finite number that bits stand for, of the model, walked; its unpacked words.
-/
import Derived.Test.YtmjkpjmccdjkjadDoorWrd5
namespace Go.Proofs.YtmjkpjmccdjkjadDoor
open Go.RowKit
set_option linter.unusedVariables false
set_option maxRecDepth 100000
theorem bconv1 (d : Int) (W : World) : (convert 22 9 (.slice (some ⟨W.heap.size, 0, none⟩) 1 1)).run Tryd.prog (W.alloc (.cells #[.int .u8 (48 + d)] 5)) = .ok (.string (tx [d])) (W.alloc (.cells #[.int .u8 (48 + d)] 5)) :=
  run_convert_bytes_arg (P := Tryd.prog) _ 22 5 Tryd.underlying22 Tryd.underlying5 W.heap.size 0 1 1 [48 + d] rfl (fun i hi => by
    match i, hi with
    | 0, _ => simp) 9 Tryd.underlying9
theorem bconv3 (a b c : Int) (W : World) : (convert 22 9 (.slice (some ⟨W.heap.size, 0, none⟩) 3 3)).run Tryd.prog (W.alloc (.cells #[.int .u8 (48 + a), .int .u8 (48 + b), .int .u8 (48 + c)] 5)) = .ok (.string (tx [a, b, c])) (W.alloc (.cells #[.int .u8 (48 + a), .int .u8 (48 + b), .int .u8 (48 + c)] 5)) :=
  run_convert_bytes_arg (P := Tryd.prog) _ 22 5 Tryd.underlying22 Tryd.underlying5 W.heap.size 0 3 3 [48 + a, 48 + b, 48 + c] rfl (fun i hi => by
    match i, hi with
    | 0, _ => simp
    | 1, _ => simp
    | 2, _ => simp) 9 Tryd.underlying9
theorem uHF_bits (c b1 b2 b3 b4 b5 : Int) (hc : c = b1 * 16 + b2 * 8 + b3 * 4 + b4 * 2 + b5) (h : c < 30) (r1 : 0 ≤ b1 ∧ b1 ≤ 1) (r2 : 0 ≤ b2 ∧ b2 ≤ 1) (r3 : 0 ≤ b3 ∧ b3 ≤ 1) (r4 : 0 ≤ b4 ∧ b4 ≤ 1) (r5 : 0 ≤ b5 ∧ b5 ≤ 1) :
    (b1 * 2 + b2 = 3 → uH c = b3 * 2 + b4 ∧ uF c = 8 + b5) ∧ (b1 * 2 + b2 ≠ 3 → uH c = b1 * 2 + b2 ∧ uF c = b3 * 4 + b4 * 2 + b5) ∧ 0 ≤ uH c ∧ uH c ≤ 2 ∧ 0 ≤ uF c ∧ uF c ≤ 9 ∧ b1 + b2 + b3 + b4 ≠ 4 := by
  unfold uH uF
  by_cases e : c / 8 = 3
  · rw [if_pos e, if_pos e]; omega
  · rw [if_neg e, if_neg e]; omega
theorem hb_six (W : Int) (r g n : Nat) (hn : n = 6 + r + 10 * g) : hb (bl W n n) 6 r = W / 2 ^ (10 * g) % 2 ^ r := by
  rw [hb_bl W n 6 r (by omega), show n - 6 - r = 10 * g by omega]
theorem hb_ten (W : Int) (r g n q : Nat) (hn : n = 6 + r + 10 * g) (hq : q < g) : hb (bl W n n) (6 + r + 10 * q) 10 = W / 2 ^ (10 * (g - 1 - q)) % 1024 := by
  rw [hb_bl W n (6 + r + 10 * q) 10 (by omega), show n - (6 + r + 10 * q) - 10 = 10 * (g - 1 - q) by omega]; rfl
end Go.Proofs.YtmjkpjmccdjkjadDoor
