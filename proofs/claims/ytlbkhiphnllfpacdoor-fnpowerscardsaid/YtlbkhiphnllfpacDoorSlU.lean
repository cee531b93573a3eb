/-
  Slices of uint64 in memory of the call's own: what a slice holds, what keeps it, and what the laws' helpers on such slices answer (equal, copied), walked.
-/
import Derived.Test.YtlbkhiphnllfpacDoorSl
import Derived.Test.YtlbkhiphnllfpacDoorRow
import Derived.OpenShut
namespace Go.Proofs.YtlbkhiphnllfpacDoor
open Go.RowKit
set_option linter.unusedVariables false
theorem infoU64 : (Tryd.prog.info? 24).map (fun i => (i.zero, i.size, i.bytes)) = some (some (.int .u64 0), 1, 8) := by kernel_rfl
/-- The slice value v holds the numbers zs in a row of its own, in a block from base on. -/
def HasU (w : World) (base : Nat) (v : Value) (zs : List Int) : Prop := w.ownsRow base 24 1 v zs.length (zs.map (Value.int .u64))
theorem HasU.kept {w w' : World} {base : Nat} {v : Value} {zs : List Int} (h : HasU w base v zs) (hb : ∀ k, k < w.heap.size → w'.heap[k]? = w.heap[k]?) : HasU w' base v zs := by
  obtain ⟨hl, h⟩ := h
  refine ⟨hl, ?_⟩
  rcases h with h | ⟨g, cap, cur, e, hg, hc, r⟩
  · exact .inl h
  · exact .inr ⟨g, cap, cur, e, hg, by rw [hb g (Array.getElem?_eq_some_iff.1 hc).1]; exact hc, r⟩
theorem HasU.below {w w' : World} {base B : Nat} {v : Value} {zs : List Int} (h : HasU w base v zs) (hb : Below B w w') (hB : w.heap.size ≤ B) : HasU w' base v zs :=
  h.kept fun k hk => hb.block k (by omega)
theorem HasU.form {w : World} {base : Nat} {v : Value} {zs : List Int} (h : HasU w base v zs) :
    (v = .slice none 0 0 ∧ zs = []) ∨ ∃ g cap, v = .slice (some ⟨g, 0, none⟩) zs.length cap ∧ base ≤ g ∧ g < w.heap.size ∧ zs.length ≤ 9223372036854775807 ∧ (∀ i, i < zs.length → w.cell? ⟨g, i, none⟩ = some (.int .u64 (zs.getD i 0))) ∧ (∀ i, w.frozen? ⟨g, i, none⟩ = false) := by
  have h0 := h
  obtain ⟨hl, h⟩ := h
  rcases h with ⟨rfl, h⟩ | ⟨g, cap, cur, rfl, hg, hc, hn, hm, hs, ht⟩
  · exact .inl ⟨rfl, List.length_eq_zero_iff.1 h⟩
  · refine .inr ⟨g, cap, rfl, hg, (Array.getElem?_eq_some_iff.1 hc).1, by unfold maxLen at hm; omega, fun i hi => ?_, fun i => World.ownsRow.frozenAt h0 i⟩
    rw [World.ownsRow.cellAt h0 i (by omega)]
    simp [hi]
theorem HasU.len {w : World} {base : Nat} {v : Value} {zs : List Int} (h : HasU w base v zs) : ∃ a cap, v = .slice a zs.length cap ∧ zs.length ≤ 9223372036854775807 := by
  rcases h.form with ⟨rfl, rfl⟩ | ⟨g, cap, rfl, _, _, hm, _⟩
  · exact ⟨_, _, rfl, by simp⟩
  · exact ⟨_, _, rfl, hm⟩

end Go.Proofs.YtlbkhiphnllfpacDoor
