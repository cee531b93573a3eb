/-
  Numbers as the laws hand them on: their size, their copy, the formats' limits, which of them are right, walked.
-/
import Derived.Test.YtjgnhlldehgieaeDoorIn
import Derived.Test.YtjgnhlldehgieaeDoorNatB
import Derived.Handy
namespace Go.Proofs.YtjgnhlldehgieaeDoor
open Go.RowKit
set_option linter.unusedVariables false
set_option maxRecDepth 100000
/-- A number's value. -/
abbrev numV (k : Int) (b : Bool) (e : Int) (s : ByteArray) : Value := .agg #[.int .i64 k, .bool b, .int .i64 e, .string s]
/-- The formats' digits and bounds. -/
def limP (f : Int) : Int := if f = 64 then 16 else if f = 128 then 34 else 0
def limL (f : Int) : Int := if f = 64 then -398 else if f = 128 then -6176 else 0
def limH (f : Int) : Int := if f = 64 then 369 else if f = 128 then 6111 else 0
/-- Whether a number is right in a format. -/
def numB (f k : Int) (b : Bool) (e : Int) (s : ByteArray) : Bool :=
  if limP f = 0 then false
  else if k = 1 then natB (limP f) s && (decide (limL f ≤ e) && decide (e ≤ limH f))
  else if k = 2 then decide (e = 0) && s.toList.isEmpty
  else if k = 3 ∨ k = 4 then decide (e = 0) && (s.toList.isEmpty && !b)
  else false
theorem lim_cases (f : Int) : (limP f = 0) ∨ ((limP f == 0) = false ∧ limP f ≠ 0) := by
  by_cases h : limP f = 0
  · exact .inl h
  · exact .inr ⟨by simpa using h, h⟩
end Go.Proofs.YtjgnhlldehgieaeDoor
