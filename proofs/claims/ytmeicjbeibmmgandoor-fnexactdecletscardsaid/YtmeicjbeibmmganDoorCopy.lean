/-
  The laws' copy of a slice of int64 that came in: a slice of the call's own that holds the same, walked.
-/
import Derived.Test.YtmeicjbeibmmganDoorSl
import Derived.Test.YtmeicjbeibmmganDoorRow
import Derived.OpenShut
namespace Go.Proofs.YtmeicjbeibmmganDoor
open Go.RowKit
set_option linter.unusedVariables false

/-- The first k numbers of ds, noughts behind. -/
def cp (ds : List Int) : Nat → List Int
  | 0 => List.replicate ds.length 0
  | k + 1 => (cp ds k).set k (ds.getD k 0)
theorem cp_length (ds : List Int) (k : Nat) : (cp ds k).length = ds.length := by
  induction k with
  | zero => simp [cp]
  | succ k ih => simp [cp, ih]
theorem cp_at (ds : List Int) (k j : Nat) (hj : j < k) (hl : j < ds.length) : (cp ds k)[j]? = ds[j]? := by
  induction k with
  | zero => omega
  | succ k ih =>
    unfold cp
    rw [List.getElem?_set]
    by_cases h : k = j
    · subst h; simp [cp_length, hl]
    · rw [if_neg h]; exact ih (by omega)
theorem cp_all (ds : List Int) : cp ds ds.length = ds := by
  apply List.ext_getElem?
  intro j
  by_cases hj : j < ds.length
  · exact cp_at ds ds.length j hj hj
  · rw [List.getElem?_eq_none (by rw [cp_length]; omega), List.getElem?_eq_none (by omega)]
theorem toInt64S_any (a : Option Addr) (len cap : Nat) (zs : List Int) (w : World) (h : IsRow .i64 w a len cap zs) (hl : len ≤ 1048576) :
    Calls Tryd.prog 11 #[.slice a len cap] w fun e w' => ∃ v, e = .returned v ∧ Has w' w.heap.size v (zs.take len) ∧ Below w.heap.size w w' := by
  obtain ⟨i0, hi, hz0, hz1, hz2⟩ := info_parts info64
  rcases h with ⟨rfl, rfl, rfl, rfl⟩ | ⟨x, rfl, hlc, hm, hz, hcell, hwz⟩
  · obtain ⟨w1, hrun, hown, hgrow⟩ := run_make_full (P := Tryd.prog) w w.heap.size 24 2 i0 (.int .i64 0) 1 Tryd.underlying24 hi hz0 hz1 .i64 .i64 0 (by rw [hz2]; decide) (by decide) (Nat.le_refl _)
    have hb1 : Below w.heap.size w w1 := Below.grown (Below.refl _ _) hgrow (Nat.le_refl _) (fun k hk => by cases hk)
    have Ho : Hid (Has w1 w.heap.size (.slice (some ⟨w.heap.size, 0, none⟩) 0 0) []) := by
      have := hown
      rw [show (Value.int .i64 0).cells = #[Value.int .i64 0] from rfl, toList_madeCells_one] at this
      exact this
    have hrun' : (Instr.makeSlice 24 (.int .i64 0) (.int .i64 0)).run Tryd.prog w = .ok (.slice (some ⟨w.heap.size, 0, none⟩) 0 0) w1 := hrun
    clear hown hgrow hrun
    go_enter Tryd.func11, Tryd.ntmps11
    go_wp2
    go_loop [4] (fun i => i = .int .i64 0) (fun _ => 0)
    case atStart => rfl
    case round =>
      subst hrel
      go_wp2
      go_ret
      exact ⟨_, rfl, Ho.out, hb1⟩
  · obtain ⟨w1, hrun, hown, hgrow⟩ := run_make_full (P := Tryd.prog) w w.heap.size 24 2 i0 (.int .i64 0) 1 Tryd.underlying24 hi hz0 hz1 .i64 .i64 len (by rw [hz2]; omega) (by unfold maxLen; omega) (Nat.le_refl _)
    have hb1 : Below w.heap.size w w1 := Below.grown (Below.refl _ _) hgrow (Nat.le_refl _) (fun k hk => by cases hk)
    have htl : (zs.take len).length = len := by rw [List.length_take]; omega
    have Ho : Hid (w1.ownsRow w.heap.size 2 1 (.slice (some ⟨w.heap.size, 0, none⟩) len len) len ((cp (zs.take len) 0).map (Value.int .i64))) := by
      have := hown
      rw [show (Value.int .i64 0).cells = #[Value.int .i64 0] from rfl, toList_madeCells_one, Nat.mul_one] at this
      simpa [cp, htl, Hid] using this
    rcases Nat.eq_zero_or_pos len with h0 | hpos
    · subst h0
      have Ho' : Hid (Has w1 w.heap.size (.slice (some ⟨w.heap.size, 0, none⟩) 0 0) (zs.take 0)) := by
        have := Ho.out; simpa [Has, cp, Hid] using this
      have hrun' : (Instr.makeSlice 24 (.int .i64 0) (.int .i64 0)).run Tryd.prog w = .ok (.slice (some ⟨w.heap.size, 0, none⟩) 0 0) w1 := hrun
      clear hown hgrow hcell hwz Ho hrun
      go_enter Tryd.func11, Tryd.ntmps11
      go_wp2
      go_loop [4] (fun i => i = .int .i64 0) (fun _ => 0)
      case atStart => rfl
      case round =>
        subst hrel
        go_wp2
        go_ret
        exact ⟨_, rfl, Ho'.out, hb1⟩
    · obtain ⟨b, off, rfl, hca⟩ := ints_at hcell (by omega)
      have hbl : b < w.heap.size := World.block_lt_of_cell? _ _ (hca 0 (by omega))
      have Hc : Hid (∀ i, i < len → w.cell? ⟨b, off + i, none⟩ = some (.int .i64 ((zs.take len).getD i 0))) := fun i hi => by
        have e : (zs.take len).getD i 0 = zs.getD i 0 := by simp [List.getD, List.getElem?_take_of_lt hi]
        rw [e]
        exact hca i (by omega)
      generalize hds : zs.take len = ds at *
      have Hds : Hid (zs.take len = ds) := hds
      have Htl : Hid (ds.length = len) := htl
      clear hds hown hgrow hcell hwz htl hz hca
      go_enter Tryd.func11, Tryd.ntmps11
      go_wp2
      go_loopw [4] (fun i wr => ∃ k : Nat, k ≤ len ∧ i = .int .i64 k ∧ Hid (wr.ownsRow w.heap.size 2 1 (.slice (some ⟨w.heap.size, 0, none⟩) len len) len ((cp ds k).map (Value.int .i64))) ∧ Below w.heap.size w wr) (fun i _ => len - (intOf i).toNat)
      case atStart => exact ⟨0, Nat.zero_le _, rfl, Ho, hb1⟩
      case round =>
        obtain ⟨k, hk, rfl, hown, hbel⟩ := hrel
        by_cases hlt : k < len
        · have hf := World.ownsRow.frozenAt hown.out k
          have hlt' : (k : Int) < (len : Int) := by omega
          have hc : wr.cell? ⟨w.heap.size, k, none⟩ = some (.int .i64 ((cp ds k).getD k 0)) := by
            rw [World.ownsRow.cellAt hown.out k (by omega)]
            simp only [List.getElem?_map, List.getD]
            rw [List.getElem?_eq_getElem (by rw [cp_length, Htl.out]; omega)]
            rfl
          have hs := (hbel.cell (p := ⟨b, off + k, none⟩) hbl).trans (Hc.out k hlt)
          have Hst : Hid (_ ∧ _) := World.ownsRow.stored hown.out k (.int .i64 (ds.getD k 0))
          go_wp2
          go_roundw
          case rel =>
            refine ⟨k + 1, by omega, by go_num, ?_, hbel.setCell (Nat.le_refl _) _⟩
            have := Hst.out.1
            simpa [cp, Hid] using this
          case measure => simp [intOf]; omega
        · go_wp2
          go_ret
          refine ⟨_, rfl, ?_, hbel⟩
          have e : k = len := by omega
          subst e
          have := hown.out
          unfold Has
          rw [Htl.out]
          rw [← Htl.out, cp_all] at this
          rw [Htl.out] at this
          exact this
end Go.Proofs.YtmeicjbeibmmganDoor
