/-
  FnWords: any drawn word stands for a right number; made canonical it stands for the same; walked.
-/
import Derived.Test.YtmjkpjmccdjkjadDoorUpn
import Derived.Test.YtmjkpjmccdjkjadDoorDrawWd
import Derived.Laws.StructEq
namespace Go.Proofs.YtmjkpjmccdjkjadDoor
open Go.RowKit
set_option linter.unusedVariables false
set_option maxRecDepth 100000
set_option linter.unusedSimpArgs false
theorem bytes_lower {w w1 : World} {a : Option Addr} {len : Nat} (h : Bytes w.heap.size w a len) (hb : Below w.heap.size w w1) : Bytes w1.heap.size w1 a len := by
  rcases h with h | ⟨b, off, rfl, hlt, hz⟩
  · exact .inl h
  · refine .inr ⟨b, off, rfl, Nat.lt_of_lt_of_le hlt hb.size, fun j hj => ?_⟩
    obtain ⟨z, h1, h2⟩ := hz j hj
    exact ⟨z, (hb.cell (p := ⟨b, off + j, none⟩) hlt).trans h1, h2⟩
theorem eql_num (k : Int) (b : Bool) (e : Int) (s : ByteArray) (w : World) : (binOp .eql 25 (.agg #[.int .i64 k, .bool b, .int .i64 e, .string s]) (.agg #[.int .i64 k, .bool b, .int .i64 e, .string s])).run Tryd.prog w = .ok (.bool true) w := by
  have hS : Tryd.prog.underlying 25 = some (.struct (Tryd.prog.fieldsOf 25)) := by kernel_rfl
  have hp : Tryd.prog.stoodInHeld 25 = false := by kernel_rfl
  rw [run_eql_struct, show (10000 : Nat) = 9999 + 1 from rfl, run_equalIn_agg w 9999 25 _ _ hS hp]
  simp only [Program.fieldsOf, Tryd.underlying25]
  go_simp
theorem neq_num (k : Int) (b : Bool) (e : Int) (s : ByteArray) (w : World) : (binOp .neq 25 (.agg #[.int .i64 k, .bool b, .int .i64 e, .string s]) (.agg #[.int .i64 k, .bool b, .int .i64 e, .string s])).run Tryd.prog w = .ok (.bool false) w := by
  have hS : Tryd.prog.underlying 25 = some (.struct (Tryd.prog.fieldsOf 25)) := by kernel_rfl
  have hp : Tryd.prog.stoodInHeld 25 = false := by kernel_rfl
  rw [run_neq_struct, show (10000 : Nat) = 9999 + 1 from rfl, run_equalIn_agg w 9999 25 _ _ hS hp]
  simp only [Program.fieldsOf, Tryd.underlying25]
  go_simp
theorem uL_len (r g : Nat) (W : Int) : (uL r g W).length ≤ 3 * g + 1 := by
  rcases up_right r g 0 W with ⟨_, _, hl, _⟩ | ⟨_, _, h⟩ | ⟨_, _, h, _⟩
  · exact hl
  · rw [h]; simp
  · rw [h]; simp
/-- Canonical bits stand for the same number, and are their own. -/
theorem can_back (W : Int) : uK 8 5 (canW W) = uK 8 5 W ∧ uB 8 5 (canW W) = uB 8 5 W ∧ uX 8 5 398 (canW W) = uX 8 5 398 W ∧ uL 8 5 (canW W) = uL 8 5 W := pk_back 8 5 398 _ _ _ _ (by decide) (up_right 8 5 398 W)
theorem can_can (W : Int) : canW (canW W) = canW W := by
  obtain ⟨e1, e2, e3, e4⟩ := can_back W
  show pkW 8 5 398 (uK 8 5 (canW W)) (uB 8 5 (canW W)) (uX 8 5 398 (canW W)) (uL 8 5 (canW W)) = _
  rw [e1, e2, e3, e4]
  rfl
theorem canW_bd (W : Int) : 0 ≤ canW W ∧ canW W < 18446744073709551616 := by
  have := pkW_bd 8 5 398 _ _ _ _ (by decide) (up_right 8 5 398 W)
  rw [show (2 : Int) ^ (6 + 8 + 10 * 5) = 18446744073709551616 by decide] at this
  exact this
end Go.Proofs.YtmjkpjmccdjkjadDoor
