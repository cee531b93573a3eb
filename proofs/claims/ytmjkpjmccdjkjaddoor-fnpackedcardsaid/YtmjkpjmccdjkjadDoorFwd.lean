/-
  What a finite number's fields want: rows of digits and of declets behind the boxes.
-/
import Derived.Test.YtmjkpjmccdjkjadDoorSpw
import Derived.Test.YtmjkpjmccdjkjadDoorDcU
namespace Go.Proofs.YtmjkpjmccdjkjadDoor
open Go.RowKit
set_option linter.unusedVariables false
set_option maxRecDepth 100000
set_option linter.unusedSimpArgs false
theorem hasN_full {w : World} {base : Nat} {v : Value} {zs : List Int} (h : HasN w base v zs) : ∃ g cap, v = .slice (some ⟨g, 0, none⟩) zs.length cap ∧ base ≤ g ∧ g < w.heap.size ∧ zs.length ≤ cap ∧ cap ≤ 9223372036854775807 ∧ ∀ i, i < zs.length → w.cell? ⟨g, i, none⟩ = some (.int .i64 (zs.getD i 0)) := by
  obtain ⟨g, cap, e, hb, hl, hc⟩ := h.form
  obtain ⟨hll, h'⟩ := h.1
  rcases h' with ⟨e', -⟩ | ⟨g', cap', cur, e', -, -, hn, hm, -, -⟩
  · exact absurd e' h.2
  · rw [e] at e'
    cases e'
    unfold maxLen at hm
    exact ⟨g, cap, e, hb, hl, hn, by omega, hc⟩
/-- The fields of a finite number under way: its digits in gq, its declets in gb. -/
def FW (w : World) (b : Bool) (E : Int) (s : ByteArray) (g : Nat) (F : Int) (D : List Int) (wx : World) (gq gb : Nat) : Prop :=
  Below (w.heap.size + 2) (gbx w 1 b E s) wx ∧ wx.cell? ⟨gq, 0, none⟩ = some (.int .i64 F) ∧ w.heap.size + 2 ≤ gb ∧ gb < wx.heap.size ∧ ∀ i, i < g → wx.cell? ⟨gb, i, none⟩ = some (.int .i64 (D.getD i 0))
theorem FW.next {w wx w1 : World} {b : Bool} {E : Int} {s : ByteArray} {g : Nat} {F : Int} {D : List Int} {gq gb : Nat} (h : FW w b E s g F D wx gq gb) (hb : Below wx.heap.size wx w1) : FW w b E s g F D w1 gq gb :=
  ⟨gbx_next h.1 hb, cell_of hb h.2.1, h.2.2.1, Nat.lt_of_lt_of_le h.2.2.2.1 hb.size, fun i hi => cell_of hb (h.2.2.2.2 i hi)⟩
theorem FW.drew {w wx : World} {b : Bool} {E : Int} {s : ByteArray} {g : Nat} {F : Int} {D : List Int} {gq gb : Nat} (h : FW w b E s g F D wx gq gb) : FW w b E s g F D wx.drew gq gb := h.next (Below.refl _ _).drew
theorem FW.fin {w wx : World} {b : Bool} {E : Int} {s : ByteArray} {g : Nat} {F : Int} {D : List Int} {gq gb : Nat} (h : FW w b E s g F D wx gq gb) (x y z u : Value) : At4 (res4 wx (w.heap.size + 1) x y z u) (w.heap.size + 1) x y z u ∧ gb < (res4 wx (w.heap.size + 1) x y z u).heap.size ∧ (∀ i, i < g → (res4 wx (w.heap.size + 1) x y z u).cell? ⟨gb, i, none⟩ = some (.int .i64 (D.getD i 0))) ∧ Below w.heap.size w (res4 wx (w.heap.size + 1) x y z u) := by
  obtain ⟨h1, h2, h3, h4, h5⟩ := h
  have hn : gb ≠ w.heap.size + 1 := by omega
  exact ⟨(gbx_at h1).put x y z u, by simpa [res4] using h4, fun i hi => far_cell hn (far_cell hn (far_cell hn (far_cell hn (h5 i hi)))), bel_four (gbx_out h1) (by omega) x y z u⟩
theorem dso_drop (S : List Int) (m : Nat) (h : Dec S) (hl : S.length = 3 * m + 1) (hm : m ≤ 11) : dso (S.drop 1) = true ∧ (S.drop 1).length = 3 * m := by
  have hl2 : (S.drop 1).length = 3 * m := by rw [List.length_drop]; omega
  refine ⟨?_, hl2⟩
  unfold dso
  rw [decide_eq_true (by rw [hl2]; omega), Bool.true_and]
  refine rng_yes _ _ _ fun i hi => ?_
  have : (S.drop 1).getD i 0 ∈ S := by
    rw [List.getD, List.getElem?_eq_getElem hi]
    exact List.mem_of_mem_drop (List.getElem_mem hi)
  exact h _ this
theorem drop_at (S : List Int) (i : Nat) : (S.drop 1).getD i 0 = S.getD (1 + i) 0 := by rw [Nat.add_comm 1 i]; simp [List.getD, List.getElem?_drop]
end Go.Proofs.YtmjkpjmccdjkjadDoor
