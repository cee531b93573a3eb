/-
  Slices of turns: what they hold; the laws' equality of such, walked.
-/
import Derived.Test.YtlbkhiphnllfpamSl
namespace Go.Proofs.Ytlbkhiphnllfpam
open Go.RowKit
set_option linter.unusedVariables false
def tq : List (Int × Int) → List Value
  | [] => []
  | p :: r => .int .i64 p.1 :: .int .i64 p.2 :: tq r
theorem tq_append (a b : List (Int × Int)) : tq (a ++ b) = tq a ++ tq b := by
  induction a with
  | nil => rfl
  | cons p r ih => simp [tq, ih]
theorem tq_length (a : List (Int × Int)) : (tq a).length = a.length * 2 := by
  induction a with
  | nil => rfl
  | cons p r ih => simp [tq, ih]; omega
theorem tq_at (a : List (Int × Int)) (i : Nat) (p : Int × Int) (h : a[i]? = some p) : (tq a)[i * 2]? = some (.int .i64 p.1) ∧ (tq a)[i * 2 + 1]? = some (.int .i64 p.2) := by
  induction a generalizing i with
  | nil => simp at h
  | cons q r ih =>
    cases i with
    | zero => simp at h; subst h; simp [tq]
    | succ i =>
      have h' := ih i (by simpa using h)
      have e : (i + 1) * 2 = i * 2 + 2 := by omega
      rw [e]
      simp only [tq, List.getElem?_cons_succ]
      exact h'
def HasT (w : World) (base : Nat) (v : Value) (l : List (Int × Int)) : Prop := w.ownsRow base 50 2 v l.length (tq l)
theorem hasT_more {w : World} {base : Nat} {v : Value} {P : List (Int × Int)} {n : Nat} {x y : Int} (h : w.ownsRow base 50 2 v n (tq P ++ [.int .i64 x, .int .i64 y])) (hn : n = P.length + 1) : HasT w base v (P ++ [(x, y)]) := by
  unfold HasT
  rw [tq_append, List.length_append]
  subst hn
  exact h
theorem HasT.below {w w' : World} {base B : Nat} {v : Value} {l : List (Int × Int)} (h : HasT w base v l) (hb : Below B w w') (hB : w.heap.size ≤ B) : HasT w' base v l := own_below h hb hB
theorem HasT.form {w : World} {base : Nat} {v : Value} {l : List (Int × Int)} (h : HasT w base v l) :
    ∃ a cap, v = .slice a l.length cap ∧ (0 < l.length → ∃ g, a = some ⟨g, 0, none⟩ ∧ g < w.heap.size ∧ (∀ i p, l[i]? = some p → w.cell? ⟨g, i * 2, none⟩ = some (.int .i64 p.1) ∧ w.cell? ⟨g, i * 2 + 1, none⟩ = some (.int .i64 p.2))) := by
  have h0 := h
  obtain ⟨hl, h⟩ := h
  rcases h with ⟨rfl, h⟩ | ⟨g, cap, cur, rfl, hg, hc, hn, hm, hs, ht⟩
  · exact ⟨_, _, by rw [h], fun hp => by omega⟩
  · refine ⟨_, cap, rfl, fun hp => ⟨g, rfl, (Array.getElem?_eq_some_iff.1 hc).1, fun i p hi => ?_⟩⟩
    have hlt : i < l.length := (List.getElem?_eq_some_iff.1 hi).1
    have hat := tq_at l i p hi
    exact ⟨by rw [World.ownsRow.cellAt h0 (i * 2) (by omega)]; exact hat.1, by rw [World.ownsRow.cellAt h0 (i * 2 + 1) (by omega)]; exact hat.2⟩
theorem infoTurn : (Try.prog.info? 50).map (fun i => (i.zero, i.size, i.bytes)) = some (some (.agg #[.int .i64 0, .int .i64 0]), 2, 16) := by kernel_rfl
end Go.Proofs.Ytlbkhiphnllfpam
