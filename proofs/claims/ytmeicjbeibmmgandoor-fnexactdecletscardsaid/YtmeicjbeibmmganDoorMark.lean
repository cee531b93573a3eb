/-
  The laws' marks on a slice of int64: every place written over, and no block but the slice's own turned, walked.
-/
import Derived.Test.YtmeicjbeibmmganDoorSl
namespace Go.Proofs.YtmeicjbeibmmganDoor
open Go.RowKit
set_option linter.unusedVariables false
theorem grown_tr {w w1 w2 : World} {r : Option Nat} (h : w.grownBy w1 r) (k : w1.grownBy w2 r) : w.grownBy w2 r :=
  ⟨k.os.trans h.os, k.tape.trans h.tape, k.output.trans h.output, Nat.le_trans h.size k.size, fun i hi hn => (k.block i (Nat.lt_of_lt_of_le hi h.size) hn).trans (h.block i hi hn)⟩
/-- A slice stays where only a block below its own turns. -/
theorem Has.grown {w w' : World} {base : Nat} {v : Value} {zs : List Int} {r : Option Nat} (h : Has w base v zs) (hg : w.grownBy w' r) (hr : ∀ k, r = some k → k < base) : Has w' base v zs := by
  obtain ⟨hl, h⟩ := h
  refine ⟨hl, ?_⟩
  rcases h with h | ⟨g, cap, cur, e, hgb, hc, q⟩
  · exact .inl h
  · have hlt := (Array.getElem?_eq_some_iff.1 hc).1
    exact .inr ⟨g, cap, cur, e, hgb, by rw [hg.block g hlt (fun e => by have := hr g e.symm; omega)]; exact hc, q⟩
/-- A slice stays where only a block that is not its own turns. -/
theorem Has.apart {w w' : World} {base : Nat} {v : Value} {zs : List Int} {r : Option Nat} (h : Has w base v zs) (hg : w.grownBy w' r) (hr : ∀ k, v.ownBlock = some k → r ≠ some k) : Has w' base v zs := by
  obtain ⟨hl, h⟩ := h
  refine ⟨hl, ?_⟩
  rcases h with h | ⟨g, cap, cur, e, hgb, hc, q⟩
  · exact .inl h
  · have hlt := (Array.getElem?_eq_some_iff.1 hc).1
    exact .inr ⟨g, cap, cur, e, hgb, by rw [hg.block g hlt (fun e' => hr g (by rw [e]; rfl) e'.symm)]; exact hc, q⟩
/-- A slice's own block lies from its base on and is there. -/
theorem Has.own {w : World} {base : Nat} {v : Value} {zs : List Int} (h : Has w base v zs) : ∀ k, v.ownBlock = some k → base ≤ k ∧ k < w.heap.size := fun k hk => by
  rcases h.form with ⟨rfl, -⟩ | ⟨g, cap, rfl, hb, hl, -⟩
  · cases hk
  · cases hk; exact ⟨hb, hl⟩
/-- Every place is written over with the numbers from k on; no other block turns. -/
theorem mark_own (v : Value) (zs : List Int) (k : Int) (base : Nat) (w : World) (h : Has w base v zs) (hk0 : 0 ≤ k) (hk1 : k + zs.length ≤ 9223372036854775807) :
    Calls Tryd.prog 14 #[v, .int .i64 k] w fun e w' => e = .returned (.int .i64 (k + zs.length)) ∧ Has w' base v (marked k zs zs.length) ∧ w.grownBy w' v.ownBlock := by
  rcases h.form with ⟨rfl, rfl⟩ | ⟨g, ca, rfl, hgb, hgl, hm, hca, hfz⟩
  · go_enter Tryd.func14, Tryd.ntmps14
    go_wp2
    go_loop [1, 5] (fun m i => i = .int .i64 0 ∧ m = .int .i64 k) (fun _ _ => 0)
    case atStart => exact ⟨rfl, rfl⟩
    case round =>
      obtain ⟨rfl, rfl⟩ := hrel
      go_wp2
      go_ret
      exact ⟨Ln.ret_int (by simp), h, World.grownBy.refl _ _⟩
  · have HH : Hid (Has w base (.slice (some ⟨g, 0, none⟩) zs.length ca) zs) := h
    clear h hca hfz
    go_enter Tryd.func14, Tryd.ntmps14
    go_wp2
    go_loopw [1, 5] (fun m i w1 => ∃ j : Nat, j ≤ zs.length ∧ i = .int .i64 j ∧ m = .int .i64 (k + j) ∧ Hid (Has w1 base (.slice (some ⟨g, 0, none⟩) zs.length ca) (marked k zs j)) ∧ w.grownBy w1 (some g)) (fun _ i _ => zs.length - (intOf i).toNat)
    case atStart => exact ⟨0, Nat.zero_le _, rfl, Ln.val_int (by simp), HH, World.grownBy.refl _ _⟩
    case round =>
      obtain ⟨j, hj, rfl, rfl, hh, hbel⟩ := hrel
      by_cases hlt : j < zs.length
      · have hh' : wr.ownsRow base 2 1 (.slice (some ⟨g, 0, none⟩) zs.length ca) zs.length ((marked k zs j).map (Value.int .i64)) := by
          have := hh.out; unfold Has at this; rw [marked_length] at this; exact this
        have hf := World.ownsRow.frozenAt hh' j
        have hc : wr.cell? ⟨g, j, none⟩ = some (.int .i64 ((marked k zs j).getD j 0)) := by
          rw [World.ownsRow.cellAt hh' j (by omega)]
          simp [marked_length, hlt]
        have Hst : Hid (_ ∧ _) := World.ownsRow.stored hh' j (.int .i64 (k + j))
        clear hh'
        go_wp2
        go_roundw
        case rel =>
          refine ⟨j + 1, by omega, by go_num, Ln.val_int (by omega), ?_, grown_tr hbel Hst.out.2⟩
          show World.ownsRow _ _ _ _ _ _ _
          rw [marked_length]
          have := Hst.out.1
          simpa [marked] using this
        case measure => simp [intOf]; omega
      · go_wp2
        go_ret
        exact ⟨Ln.ret_int (by rw [show j = zs.length by omega]), by have := hh.out; rw [show j = zs.length by omega] at this; exact this, hbel⟩
end Go.Proofs.YtmeicjbeibmmganDoor
