/-
  The model's quotients, roots and shifts of naturals at any strings, walked.
-/
import Derived.Test.YtjgnhlldehgieaeDoorNatS
import Derived.Test.YtjgnhlldehgieaeDoorTxt6
namespace Go.Proofs.YtjgnhlldehgieaeDoor
open Go.RowKit
set_option linter.unusedVariables false
set_option maxRecDepth 100000
def divQ (s t : ByteArray) : ByteArray := if ok2 s t then (if nv t = 0 then { data := #[] } else tx (nt (nv s / nv t))) else { data := #[] }
def divR (s t : ByteArray) : ByteArray := if ok2 s t then (if nv t = 0 then { data := #[] } else tx (nt (nv s % nv t))) else { data := #[] }
theorem canon_nought (a : List Int) (h : Canon a) (hv : vl a = 0) : a = [0] := canon_unique a [0] h canon_zero (by rw [hv]; rfl)
theorem is0 (t : ByteArray) (h : natB 200 t = true) : (t.toList == [48]) = decide (nv t = 0) := by
  obtain ⟨hc, -, e⟩ := natB_dl 200 t h
  by_cases hz : nv t = 0
  · rw [decide_eq_true hz, e, canon_nought (dl t) hc hz, tx_zero]; rfl
  · rw [decide_eq_false hz, e]
    exact tx_is0 (dl t) hc.1 (fun c => hz (by unfold nv; rw [c]; rfl))
def shiftS (s : ByteArray) (n : Int) : ByteArray := if natB 200 s && (decide (0 ≤ n) && decide (n ≤ 200)) then fitS (nt (nv s * 10 ^ n.toNat)) else { data := #[] }
end Go.Proofs.YtjgnhlldehgieaeDoor
