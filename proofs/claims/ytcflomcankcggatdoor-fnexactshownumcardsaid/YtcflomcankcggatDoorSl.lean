/-
  Slices of int64 in memory of the call's own: what a slice holds, what keeps it, and what the laws' helpers on such slices answer (equal, marked, held), walked.
-/
import Derived.Test.YtcflomcankcggatDoorRows
import Derived.WalkKit
import Derived.Deep.QuietTactic
import Derived.BigQuiet
import Derived.WalkSmall
import Derived.Test.YtcflomcankcggatDoorLn
namespace Go.Proofs.YtcflomcankcggatDoor
open Go.RowKit
set_option linter.unusedVariables false
set_option maxRecDepth 100000

/-- The slice value v holds the numbers zs in a row of its own, in a block from base on. -/
def Has (w : World) (base : Nat) (v : Value) (zs : List Int) : Prop := w.ownsRow base 2 1 v zs.length (zs.map (Value.int .i64))
theorem own_below {w w' : World} {base B : Nat} {e : TypeId} {s : Nat} {v : Value} {n : Nat} {xs : List Value} (h : w.ownsRow base e s v n xs) (hb : Below B w w') (hB : w.heap.size ≤ B) : w'.ownsRow base e s v n xs := by
  obtain ⟨hl, h⟩ := h
  refine ⟨hl, ?_⟩
  rcases h with h | ⟨g, cap, cur, e, hg, hc, r⟩
  · exact .inl h
  · have := (Array.getElem?_eq_some_iff.1 hc).1
    exact .inr ⟨g, cap, cur, e, hg, by rw [hb.block g (by omega)]; exact hc, r⟩
theorem Has.kept {w w' : World} {base : Nat} {v : Value} {zs : List Int} (h : Has w base v zs) (hb : ∀ k, k < w.heap.size → w'.heap[k]? = w.heap[k]?) : Has w' base v zs := by
  obtain ⟨hl, h⟩ := h
  refine ⟨hl, ?_⟩
  rcases h with h | ⟨g, cap, cur, e, hg, hc, r⟩
  · exact .inl h
  · exact .inr ⟨g, cap, cur, e, hg, by rw [hb g (Array.getElem?_eq_some_iff.1 hc).1]; exact hc, r⟩
theorem Has.below {w w' : World} {base B : Nat} {v : Value} {zs : List Int} (h : Has w base v zs) (hb : Below B w w') (hB : w.heap.size ≤ B) : Has w' base v zs :=
  h.kept fun k hk => hb.block k (by omega)
theorem Has.form {w : World} {base : Nat} {v : Value} {zs : List Int} (h : Has w base v zs) :
    (v = .slice none 0 0 ∧ zs = []) ∨ ∃ g cap, v = .slice (some ⟨g, 0, none⟩) zs.length cap ∧ base ≤ g ∧ g < w.heap.size ∧ zs.length ≤ 9223372036854775807 ∧ (∀ i, i < zs.length → w.cell? ⟨g, i, none⟩ = some (.int .i64 (zs.getD i 0))) ∧ (∀ i, w.frozen? ⟨g, i, none⟩ = false) := by
  have h0 := h
  obtain ⟨hl, h⟩ := h
  rcases h with ⟨rfl, h⟩ | ⟨g, cap, cur, rfl, hg, hc, hn, hm, hs, ht⟩
  · exact .inl ⟨rfl, List.length_eq_zero_iff.1 h⟩
  · refine .inr ⟨g, cap, rfl, hg, (Array.getElem?_eq_some_iff.1 hc).1, by unfold maxLen at hm; omega, fun i hi => ?_, fun i => World.ownsRow.frozenAt h0 i⟩
    rw [World.ownsRow.cellAt h0 i (by omega)]
    simp [hi]
theorem Has.len {w : World} {base : Nat} {v : Value} {zs : List Int} (h : Has w base v zs) : ∃ a cap, v = .slice a zs.length cap ∧ zs.length ≤ 9223372036854775807 := by
  rcases h.form with ⟨rfl, rfl⟩ | ⟨g, cap, rfl, _, _, hm, _⟩
  · exact ⟨_, _, rfl, by simp⟩
  · exact ⟨_, _, rfl, hm⟩
theorem info64 : (Tryd.prog.info? 2).map (fun i => (i.zero, i.size, i.bytes)) = some (some (.int .i64 0), 1, 8) := by kernel_rfl
theorem none_own (w : World) : Has (w.alloc (.cells #[] 2)) w.heap.size (.slice (some ⟨w.heap.size, 0, none⟩) 0 0) [] :=
  World.ownsRow_made (e := 2) (size := 1) (base := w.heap.size) w #[] 0 (Nat.le_refl _) (Nat.zero_le _) rfl
/-- The numbers from k on in the first j places. -/
def marked (k : Int) (zs : List Int) : Nat → List Int
  | 0 => zs
  | j + 1 => (marked k zs j).set j (k + j)
theorem marked_length (k : Int) (zs : List Int) (j : Nat) : (marked k zs j).length = zs.length := by
  induction j with
  | zero => rfl
  | succ j ih => simp [marked, ih]
theorem marked_at (k : Int) (zs : List Int) (j i : Nat) (hi : i < j) (hz : i < zs.length) : (marked k zs j).getD i 0 = k + i := by
  induction j with
  | zero => omega
  | succ j ih =>
    unfold marked
    by_cases h : i = j
    · subst h
      simp [List.getD, marked_length, hz]
    · have := ih (by omega)
      simp only [List.getD, List.getElem?_set] at this ⊢
      rw [if_neg (by omega)]
      exact this
end Go.Proofs.YtcflomcankcggatDoor
