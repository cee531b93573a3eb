/-
  The laws' equality of slices of turns, their marks on such, and what is held of them, walked.
-/
import Derived.Test.YtlbkhiphnllfpacTrn
import Derived.Test.YtlbkhiphnllfpacMark
import Derived.Test.YtlbkhiphnllfpacCls
namespace Go.Proofs.Ytlbkhiphnllfpac
open Go.RowKit
set_option linter.unusedVariables false
set_option maxRecDepth 100000
/-- The numbers of turns in a row. -/
def flt : List (Int × Int) → List Int
  | [] => []
  | p :: r => p.1 :: p.2 :: flt r
theorem flt_tq (l : List (Int × Int)) : tq l = (flt l).map (Value.int .i64) := by
  induction l with
  | nil => rfl
  | cons p r ih => simp [tq, flt, ih]
theorem flt_len (l : List (Int × Int)) : (flt l).length = l.length * 2 := by
  induction l with
  | nil => rfl
  | cons p r ih => simp [flt, ih]; omega
/-- The slice v holds n turns, whose numbers in a row are zs. -/
def HasF (w : World) (base : Nat) (v : Value) (n : Nat) (zs : List Int) : Prop := w.ownsRow base 39 2 v n (zs.map (Value.int .i64))
theorem HasT.flat {w : World} {base : Nat} {v : Value} {l : List (Int × Int)} (h : HasT w base v l) : HasF w base v l.length (flt l) := by
  unfold HasF; rw [← flt_tq]; exact h
theorem HasF.below {w w' : World} {base B : Nat} {v : Value} {n : Nat} {zs : List Int} (h : HasF w base v n zs) (hb : Below B w w') (hB : w.heap.size ≤ B) : HasF w' base v n zs := own_below h hb hB
theorem HasF.form {w : World} {base : Nat} {v : Value} {n : Nat} {zs : List Int} (h : HasF w base v n zs) (hz : zs.length = n * 2) : ∃ a cap, v = .slice a n cap ∧ (0 < n → ∃ g, a = some ⟨g, 0, none⟩ ∧ base ≤ g ∧ g < w.heap.size) := by
  obtain ⟨hl, h⟩ := h
  rcases h with ⟨rfl, h⟩ | ⟨g, cap, cur, rfl, hg, hc, hn, hm, hs, ht⟩
  · exact ⟨_, _, by rw [h], fun hp => by omega⟩
  · exact ⟨_, cap, rfl, fun hp => ⟨g, rfl, hg, (Array.getElem?_eq_some_iff.1 hc).1⟩⟩
/-- What was marked is held. -/
theorem marked_get (k : Int) (zs : List Int) (j i : Nat) (hi : i < j) (hj : j ≤ zs.length) : (marked k zs j)[i]? = some (k + (i : Int)) := by
  induction j with
  | zero => omega
  | succ j ih =>
    unfold marked
    have hl := marked_length k zs j
    rcases (show i < j ∨ i = j by omega) with h | rfl
    · rw [List.getElem?_set_ne (by omega)]; exact ih h (by omega)
    · rw [List.getElem?_set_self (by omega)]
end Go.Proofs.Ytlbkhiphnllfpac
