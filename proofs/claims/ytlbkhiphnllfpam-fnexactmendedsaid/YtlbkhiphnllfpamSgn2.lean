/-
  Signed digits made of plain ones, by the model and by the program, walked.
-/
import Derived.Test.YtlbkhiphnllfpamSgn
namespace Go.Proofs.Ytlbkhiphnllfpam
open Go.RowKit
set_option linter.unusedVariables false
/-- What Signed takes. -/
def sok (ds : List Int) : Bool := decide (1 ≤ ds.length) && decide (ds.length ≤ 40) && rng 0 9 ds
theorem sok_few (ds : List Int) (h : ds.length < 1) : sok ds = false := by
  unfold sok; rw [decide_eq_false (by omega)]; rfl
theorem sok_many (ds : List Int) (h : 40 < ds.length) : sok ds = false := by
  unfold sok; rw [decide_eq_false (p := ds.length ≤ 40) (by omega)]; simp
theorem sok_rng (ds : List Int) (h1 : 1 ≤ ds.length) (h : ds.length ≤ 40) : sok ds = rng 0 9 ds := by
  unfold sok; rw [decide_eq_true h1, decide_eq_true h]; rfl
/-- What Signed gives. -/
def sgo (ds : List Int) : List Int := if sok ds then sgnd ds else []
theorem sgo_length (ds : List Int) : (sgo ds).length ≤ 41 := by
  unfold sgo; split
  · rename_i h; rw [sgnd_length]
    rcases Nat.lt_or_ge 40 ds.length with h' | h'
    · rw [sok_many ds h'] at h; cases h
    · omega
  · simp
/-- A row of noughts, filled from behind by the first k of f. -/
def fil (f : Nat → Int) (n k : Nat) : List Int := List.replicate (n - k) 0 ++ fl f k
theorem fil_length (f : Nat → Int) (n k : Nat) (h : k ≤ n) : (fil f n k).length = n := by simp [fil, fl_length]; omega
theorem fil_set (f : Nat → Int) (n k : Nat) (h : k < n) : (fil f n k).set (n - 1 - k) (f k) = fil f n (k + 1) := by
  unfold fil
  obtain ⟨m, hm⟩ : ∃ m, n - k = m + 1 := ⟨n - k - 1, by omega⟩
  rw [hm, show n - 1 - k = m by omega, show n - (k + 1) = m by omega, set_low]
  rfl
theorem fil_none (f : Nat → Int) (n : Nat) : fil f n 0 = List.replicate n 0 := by simp [fil, fl]
theorem fil_last (f : Nat → Int) (n : Nat) (x : Int) : (fil f (n + 1) n).set 0 x = x :: fl f n := by
  unfold fil
  rw [show n + 1 - n = 1 by omega]
  rfl
/-- A row that was made lies there as noughts. -/
theorem made_own (n : Nat) (w w1 : World) (v : Value) (h : w1.ownsRow w.heap.size 2 1 v n (madeCells (Value.int .i64 0).cells n).toList) : Has w1 w.heap.size v (List.replicate n 0) := by
  rw [show (Value.int .i64 0).cells = #[Value.int .i64 0] from rfl, toList_madeCells_one] at h
  simpa [Has] using h
end Go.Proofs.Ytlbkhiphnllfpam
