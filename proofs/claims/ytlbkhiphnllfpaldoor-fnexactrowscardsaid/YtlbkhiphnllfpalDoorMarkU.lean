/-
  The laws' marks on a slice of uint64, walked.
-/
import Derived.Test.YtlbkhiphnllfpalDoorSlU
namespace Go.Proofs.YtlbkhiphnllfpalDoor
open Go.RowKit
set_option linter.unusedVariables false
/-- Every place is written over with the numbers from k on. -/
theorem markU_any (v : Value) (zs : List Int) (k : Int) (base : Nat) (w : World) (h : HasU w base v zs) (hk0 : 0 ≤ k) (hk1 : k + zs.length ≤ 9223372036854775807) :
    Calls Tryd.prog 10 #[v, .int .i64 k] w fun e w' => e = .returned (.int .i64 (k + zs.length)) ∧ HasU w' base v (marked k zs zs.length) ∧ Below base w w' := by
  rcases h.form with ⟨rfl, rfl⟩ | ⟨g, ca, rfl, hgb, hgl, hm, hca, hfz⟩
  · go_enter Tryd.func10, Tryd.ntmps10
    go_wp2
    go_loop [1, 5] (fun m i => i = .int .i64 0 ∧ m = .int .i64 k) (fun _ _ => 0)
    case atStart => exact ⟨rfl, rfl⟩
    case round =>
      obtain ⟨rfl, rfl⟩ := hrel
      go_wp2
      go_ret
      exact ⟨Ln.ret_int (by simp), h, Below.refl _ _⟩
  · have HH : Hid (HasU w base (.slice (some ⟨g, 0, none⟩) zs.length ca) zs) := h
    clear h hca hfz
    go_enter Tryd.func10, Tryd.ntmps10
    go_wp2
    go_loopw [1, 5] (fun m i w1 => ∃ j : Nat, j ≤ zs.length ∧ i = .int .i64 j ∧ m = .int .i64 (k + j) ∧ Hid (HasU w1 base (.slice (some ⟨g, 0, none⟩) zs.length ca) (marked k zs j)) ∧ Below base w w1) (fun _ i _ => zs.length - (intOf i).toNat)
    case atStart => exact ⟨0, Nat.zero_le _, rfl, Ln.val_int (by simp), HH, Below.refl _ _⟩
    case round =>
      obtain ⟨j, hj, rfl, rfl, hh, hbel⟩ := hrel
      by_cases hlt : j < zs.length
      · have hh' : wr.ownsRow base 22 1 (.slice (some ⟨g, 0, none⟩) zs.length ca) zs.length ((marked k zs j).map (Value.int .u64)) := by
          have := hh.out; unfold HasU at this; rw [marked_length] at this; exact this
        have hf := World.ownsRow.frozenAt hh' j
        have hc : wr.cell? ⟨g, j, none⟩ = some (.int .u64 ((marked k zs j).getD j 0)) := by
          rw [World.ownsRow.cellAt hh' j (by omega)]
          simp [marked_length, hlt]
        have Hst : Hid (_ ∧ _) := World.ownsRow.stored hh' j (.int .u64 (k + j))
        clear hh'
        go_wp2
        go_roundw
        case rel =>
          refine ⟨j + 1, by omega, by go_num, Ln.val_int (by omega), ?_, hbel.setCell hgb _⟩
          show World.ownsRow _ _ _ _ _ _ _
          rw [marked_length]
          have := Hst.out.1
          simpa [marked] using this
        case measure => simp [intOf]; omega
      · go_wp2
        go_ret
        exact ⟨Ln.ret_int (by rw [show j = zs.length by omega]), by have := hh.out; rw [show j = zs.length by omega] at this; exact this, hbel⟩
/-- What was marked from k on is held. -/
theorem heldU_any (v : Value) (zs : List Int) (k : Int) (base : Nat) (w : World) (h : HasU w base v zs) (hk0 : 0 ≤ k) (hk1 : k + zs.length ≤ 9223372036854775807) (hz : ∀ i, i < zs.length → zs.getD i 0 = k + i) :
    Calls Tryd.prog 11 #[v, .int .i64 k] w fun e w' => e = .returned (.int .i64 (k + zs.length)) ∧ w' = w := by
  have Hz : Hid (∀ i, i < zs.length → zs.getD i 0 = k + i) := hz
  clear hz
  rcases h.form with ⟨rfl, rfl⟩ | ⟨g, ca, rfl, hgb, hgl, hm, hca, hfz⟩
  · clear h
    go_enter Tryd.func11, Tryd.ntmps11
    go_wp2
    go_loop [1, 5] (fun m i => i = .int .i64 0 ∧ m = .int .i64 k) (fun _ _ => 0)
    case atStart => exact ⟨rfl, rfl⟩
    case round =>
      obtain ⟨rfl, rfl⟩ := hrel
      go_wp2
      go_ret
      exact ⟨Ln.ret_int (by simp), rfl⟩
  · have Hc : Hid (∀ i, i < zs.length → w.cell? ⟨g, i, none⟩ = some (.int .u64 (zs.getD i 0))) := hca
    clear h hca hfz
    go_enter Tryd.func11, Tryd.ntmps11
    go_wp2
    go_loop [1, 5] (fun m i => ∃ j : Nat, j ≤ zs.length ∧ i = .int .i64 j ∧ m = .int .i64 (k + j)) (fun _ i => zs.length - (intOf i).toNat)
    case atStart => exact ⟨0, Nat.zero_le _, rfl, Ln.val_int (by simp)⟩
    case round =>
      obtain ⟨j, hj, rfl, rfl⟩ := hrel
      by_cases hlt : j < zs.length
      · have hc : w.cell? ⟨g, j, none⟩ = some (.int .u64 (k + j)) := by rw [Hc.out j hlt, Hz.out j hlt]
        go_wp2
        go_round
        case rel => exact ⟨j + 1, by omega, by go_num, Ln.val_int (by omega)⟩
        case measure => simp [intOf]; omega
      · go_wp2
        go_ret
        exact ⟨Ln.ret_int (by rw [show j = zs.length by omega]), rfl⟩
end Go.Proofs.YtlbkhiphnllfpalDoor
