/-
  A row of int64 that grows beside the cursor of a draw.
-/
import Derived.Test.YtlbkhiphnllfpabDraw2
import Derived.Test.YtlbkhiphnllfpabApp
import Derived.Test.YtlbkhiphnllfpabMark
import Derived.Deep.DeepCutAuto
namespace Go.Proofs.Ytlbkhiphnllfpab
open Go.RowKit
set_option linter.unusedVariables false
theorem curUpto {B cb : Nat} {w w' : World} (h : Cur B w cb) (bel : Below (cb + 1) w w') : Cur B w' cb := by
  obtain ⟨a, len, cap, i, h, hB, hcb, hlen, hi, hby, c0, c1, c2, f1, f2⟩ := h
  refine ⟨a, len, cap, i, h, hB, Nat.lt_of_lt_of_le hcb bel.size, hlen, hi, ?_, ?_, ?_, ?_, ?_, ?_⟩
  · rcases hby with h0 | ⟨b, off, rfl, hb, hz⟩
    · exact .inl h0
    · refine .inr ⟨b, off, rfl, hb, fun j hj => ?_⟩
      obtain ⟨z, hc, r⟩ := hz j hj
      exact ⟨z, (bel.cell (p := ⟨b, off + j, none⟩) (show b < cb + 1 by omega)).trans hc, r⟩
  · exact (bel.cell (p := ⟨cb, 0, none⟩) (Nat.lt_succ_self _)).trans c0
  · exact (bel.cell (p := ⟨cb, 1, none⟩) (Nat.lt_succ_self _)).trans c1
  · exact (bel.cell (p := ⟨cb, 2, none⟩) (Nat.lt_succ_self _)).trans c2
  · exact (bel.frozen (p := ⟨cb, 1, none⟩) (Nat.lt_succ_self _)).trans f1
  · exact (bel.frozen (p := ⟨cb, 2, none⟩) (Nat.lt_succ_self _)).trans f2
/-- A slice value's number of elements. -/
def slen : Value → Nat
  | .slice _ n _ => n
  | _ => 0
/-- A row that lies from base on while the cursor stands in the block cb, below it. -/
def GrowN (B cb : Nat) (w0 w : World) (base : Nat) (v : Value) (zs : List Int) : Prop := HasN w base v zs ∧ Cur B w cb ∧ w0.grownBy w (some cb) ∧ base ≤ w.heap.size ∧ w0.heap.size ≤ base
theorem GrowN.draw {B cb base : Nat} {w0 w w' : World} {v : Value} {zs : List Int} (h : GrowN B cb w0 w base v zs) (hcb : cb < base) (hc : Cur B w' cb) (hg : w.grownBy w' (some cb)) : GrowN B cb w0 w' base v zs :=
  ⟨⟨h.1.1.grown hg (fun k hk => by cases hk; exact hcb), h.1.2⟩, hc, grown_trans h.2.2.1 hg, Nat.le_trans h.2.2.2.1 hg.size, h.2.2.2.2⟩
theorem GrowN.alloc {B cb base : Nat} {w0 w : World} {v : Value} {zs : List Int} (h : GrowN B cb w0 w base v zs) (o : Obj) : GrowN B cb w0 (w.alloc o) base v zs :=
  ⟨h.1.alloc o, cur_alloc h.2.1 o, grown_trans h.2.2.1 (World.grownBy_alloc _ _ _), by have := h.2.2.2.1; simp; omega, h.2.2.2.2⟩
theorem grown_of_below {w0 w w' : World} {cb base : Nat} (h : w0.grownBy w (some cb)) (hb : Below base w w') (hB : w0.heap.size ≤ base) : w0.grownBy w' (some cb) :=
  ⟨hb.os.trans h.os, hb.tape.trans h.tape, hb.output.trans h.output, Nat.le_trans h.size hb.size, fun k hk hn => (hb.block k (by omega)).trans (h.block k hk hn)⟩
theorem GrowN.app {B cb base : Nat} {w0 w w' : World} {v v' : Value} {zs zs' : List Int} (h : GrowN B cb w0 w base v zs) (hcb : cb < base) (hn : HasN w' base v' zs') (hb : ∀ b w1, Below b w1 w → b ≤ base → Below b w1 w') : GrowN B cb w0 w' base v' zs' :=
  ⟨hn, curUpto h.2.1 (hb _ _ (Below.refl _ _) (by omega)), grown_of_below h.2.2.1 (hb base w (Below.refl _ _) (Nat.le_refl _)) h.2.2.2.2, Nat.le_trans h.2.2.2.1 (hb base w (Below.refl _ _) (Nat.le_refl _)).size, h.2.2.2.2⟩
theorem GrowN.len {B cb base : Nat} {w0 w : World} {v : Value} {zs : List Int} (h : GrowN B cb w0 w base v zs) : ∃ g cap, v = .slice (some ⟨g, 0, none⟩) zs.length cap := by
  obtain ⟨g, cap, e, -⟩ := h.1.form
  exact ⟨g, cap, e⟩
/-- A store into the row. -/
theorem GrowN.set {B cb base : Nat} {w0 w : World} {g cap : Nat} {zs : List Int} (h : GrowN B cb w0 w base (.slice (some ⟨g, 0, none⟩) zs.length cap) zs) (hcb : cb < base) (i : Nat) (hi : i < zs.length) (x : Int) :
    w.frozen? ⟨g, i, none⟩ = false ∧ w.cell? ⟨g, i, none⟩ = some (.int .i64 (zs.getD i 0)) ∧ GrowN B cb w0 (w.setCell ⟨g, i, none⟩ (.int .i64 x)) base (.slice (some ⟨g, 0, none⟩) zs.length cap) (zs.set i x) := by
  obtain ⟨g', cap', e, hb, hl, hc⟩ := h.1.form
  cases e
  have hst : w.ownsRow base 2 1 (.slice (some ⟨g, 0, none⟩) zs.length cap) zs.length (zs.map (Value.int .i64)) := h.1.1
  have hbel : Below base w (w.setCell ⟨g, i, none⟩ (.int .i64 x)) := (Below.refl base w).setCell hb _
  refine ⟨World.ownsRow.frozenAt hst i, hc i hi, ⟨?_, by simp⟩, curUpto h.2.1 (hbel.mono (by omega)), grown_of_below h.2.2.1 hbel h.2.2.2.2, Nat.le_trans h.2.2.2.1 hbel.size, h.2.2.2.2⟩
  have := (World.ownsRow.stored hst i (.int .i64 x)).1
  unfold Has
  rw [List.length_set]
  simpa using this
end Go.Proofs.Ytlbkhiphnllfpab
