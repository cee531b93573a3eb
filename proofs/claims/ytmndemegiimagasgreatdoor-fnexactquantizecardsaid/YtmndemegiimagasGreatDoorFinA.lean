/-
  The model's finishing of digits, nought or not, told by one word.
-/
import Derived.Test.YtmndemegiimagasGreatDoorBx5
import Derived.Test.YtmndemegiimagasGreatDoorRnd2
import Derived.Test.YtmndemegiimagasGreatDoorNatS
namespace Go.Proofs.YtmndemegiimagasGreatDoor
open Go.RowKit
set_option linter.unusedVariables false
set_option maxRecDepth 100000
/-- Arguments that Finish takes. -/
def finO (f mode : Int) (s : ByteArray) (e : Int) (rest : Bool) (want : Int) : Bool :=
  (decide (f = 64 ∨ f = 128) && decide (1 ≤ mode ∧ mode ≤ 5)) && (natB 200 s && (!(s.toList == [48] && rest) && (decide (-200000 ≤ e ∧ e ≤ 200000) && decide (-200000 ≤ want ∧ want ≤ 200000))))
/-- What Finish tells: kind, exponent, digits, flags (the sign beside it). -/
def finS (f mode : Int) (neg : Bool) (s : ByteArray) (e : Int) (rest : Bool) (want : Int) : Int × Int × ByteArray × Int :=
  if finO f mode s e rest want then
    (if nv s = 0 then (1, min (limH f) (max (limL f) want), { data := #[48] }, 0) else finN (limP f).toNat (limL f) (limH f) mode neg (dl s) e rest want)
  else (0, 0, { data := #[] }, 0)
def finSB (f mode : Int) (neg : Bool) (s : ByteArray) (e : Int) (rest : Bool) (want : Int) : Bool := if finO f mode s e rest want then neg else false
end Go.Proofs.YtmndemegiimagasGreatDoor
namespace Go.Proofs.YtmndemegiimagasGreatDoor
open Go.RowKit
set_option linter.unusedVariables false
set_option maxRecDepth 100000
/-- What l12Finish tells: kind, exponent, digits, flags (the sign beside it). -/
def finD (f mode : Int) (neg : Bool) (ds : List Int) (e : Int) (rest : Bool) (want : Int) : Int × Int × ByteArray × Int :=
  if ds = [0] then (1, min (limH f) (max (limL f) want), { data := #[48] }, 0) else finN (limP f).toNat (limL f) (limH f) mode neg ds e rest want
/-- A Result of such a word. -/
abbrev rsD (neg : Bool) (F : Int × Int × ByteArray × Int) : Value := rsV F.1 neg F.2.1 F.2.2.1 F.2.2.2
end Go.Proofs.YtmndemegiimagasGreatDoor
