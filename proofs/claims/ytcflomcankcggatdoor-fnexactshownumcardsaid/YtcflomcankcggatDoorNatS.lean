/-
  The model's arithmetic on naturals at any strings, by the numbers that they stand for, walked.
-/
import Derived.Test.YtcflomcankcggatDoorNtM
import Derived.Test.YtcflomcankcggatDoorTxt8
import Derived.Test.YtcflomcankcggatDoorTxt4
import Derived.Test.YtcflomcankcggatDoorTxtZ
namespace Go.Proofs.YtcflomcankcggatDoor
open Go.RowKit
set_option linter.unusedVariables false
set_option maxRecDepth 100000
def ok2 (s t : ByteArray) : Bool := natB 200 s && natB 200 t
theorem ok2_yes {s t : ByteArray} (h : ok2 s t = true) : natB 200 s = true ∧ natB 200 t = true := by
  unfold ok2 at h
  rw [Bool.and_eq_true] at h
  exact h
theorem ok2_no {s t : ByteArray} (h : ok2 s t = false) : natB 200 s = false ∨ (natB 200 s = true ∧ natB 200 t = false) := by
  unfold ok2 at h
  cases a : natB 200 s with
  | false => exact .inl rfl
  | true => rw [a] at h; exact .inr ⟨rfl, by simpa using h⟩
def cmpS (s t : ByteArray) : Int := if ok2 s t then cmpI (nv s) (nv t) else 2
def addS (s t : ByteArray) : ByteArray := if ok2 s t then fitS (nt (nv s + nv t)) else { data := #[] }
def subS (s t : ByteArray) : ByteArray := if ok2 s t then (if nv s < nv t then { data := #[] } else tx (nt (nv s - nv t))) else { data := #[] }
def mulS (s t : ByteArray) : ByteArray := if ok2 s t then fitS (nt (nv s * nv t)) else { data := #[] }
end Go.Proofs.YtcflomcankcggatDoor
