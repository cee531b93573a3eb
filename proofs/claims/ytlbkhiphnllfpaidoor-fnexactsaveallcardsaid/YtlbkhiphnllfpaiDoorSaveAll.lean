/-
  What SaveAll answers, for the program and for its model alike, walked.
-/
import Derived.Test.YtlbkhiphnllfpaiDoorSave
import Derived.Test.YtlbkhiphnllfpaiDoorSlU
namespace Go.Proofs.YtlbkhiphnllfpaiDoor
open Go.RowKit
set_option linter.unusedVariables false
/-- A sum, a carry and a count with one word more. -/
def stp (t : Int × Int × Int) (z : Int) : Int × Int × Int := (xOf t.1 t.2.1 z, tw (fOf t.1 t.2.1 z), t.2.2 + twOut (fOf t.1 t.2.1 z))
/-- The sum, the carry and the count of the first i words. -/
def acc (zs : List Int) : Nat → Int × Int × Int
  | 0 => (0, 0, 0)
  | i + 1 => stp (acc zs i) (zs.getD i 0)
theorem acc_n (zs : List Int) (i : Nat) : 0 ≤ (acc zs i).2.2 ∧ (acc zs i).2.2 ≤ i := by
  induction i with
  | zero => exact ⟨Int.le_refl _, Int.le_refl _⟩
  | succ i ih =>
    have h := recV_bd 1 2 (hOf (acc zs i).1 (acc zs i).2.1 (zs.getD i 0))
    have b := twOut_bd _ h.1 h.2
    show 0 ≤ (acc zs i).2.2 + twOut (recV 1 2 _) ∧ (acc zs i).2.2 + twOut (recV 1 2 _) ≤ ((i + 1 : Nat) : Int)
    omega
theorem acc_bd (zs : List Int) (i : Nat) : (0 ≤ (acc zs i).1 ∧ (acc zs i).1 ≤ 18446744073709551615) ∧ (0 ≤ (acc zs i).2.1 ∧ (acc zs i).2.1 ≤ 18446744073709551615) := by
  cases i with
  | zero =>
    show (0 ≤ (0 : Int) ∧ (0 : Int) ≤ 18446744073709551615) ∧ (0 ≤ (0 : Int) ∧ (0 : Int) ≤ 18446744073709551615)
    decide
  | succ i => exact ⟨xOf_bd _ _ _, tw_bd _⟩
theorem acc_1 (zs : List Int) (i : Nat) : xOf (acc zs i).1 (acc zs i).2.1 (zs.getD i 0) = (acc zs (i + 1)).1 := rfl
theorem acc_2 (zs : List Int) (i : Nat) : tw (fOf (acc zs i).1 (acc zs i).2.1 (zs.getD i 0)) = (acc zs (i + 1)).2.1 := rfl
theorem acc_3 (zs : List Int) (i : Nat) : (acc zs i).2.2 + twOut (fOf (acc zs i).1 (acc zs i).2.1 (zs.getD i 0)) = (acc zs (i + 1)).2.2 := rfl
set_option maxHeartbeats 800000 in
/-- The program's SaveAll. -/
theorem iall_any (v : Value) (zs : List Int) (base : Nat) (w : World) (hv : HasU w base v zs) (ht : Tab w) (hz : 0 < w.heap.size) (hl : zs.length ≤ 64) :
    Calls Tryd.prog 12 #[v] w fun e w' => e = .returned (.tuple #[.int .u64 (acc zs zs.length).1, .int .u64 (acc zs zs.length).2.1, .int .i64 (acc zs zs.length).2.2]) ∧ Below w.heap.size w w' := by
  rcases Nat.eq_zero_or_pos zs.length with h0 | hp
  · obtain ⟨a, cap, rfl, -⟩ := hv.len
    rw [h0]
    clear hv
    go_enter Tryd.func12, Tryd.ntmps12
    go_wp2
    go_loop [5, 6, 7, 16] (fun s k n i => s = .int .u64 0 ∧ k = .int .u64 0 ∧ n = .int .i64 0 ∧ i = .int .i64 0) (fun _ _ _ _ => 0)
    case atStart => exact ⟨rfl, rfl, rfl, rfl⟩
    case round =>
      obtain ⟨rfl, rfl, rfl, rfl⟩ := hrel
      go_wp2
      go_ret3
      exact ⟨rfl, Below.refl _ _⟩
  · rcases hv.form with ⟨-, rfl⟩ | ⟨g, cap, rfl, -, hgl, -, hca, -⟩
    · simp at hp
    have Hc : Hid (∀ i, i < zs.length → w.cell? ⟨g, i, none⟩ = some (.int .u64 (zs.getD i 0))) := hca
    generalize hn : zs.length = n at *
    clear hv hca
    have hle : decide ((64 : Int) < (n : Int)) = false := by simp; omega
    go_enter Tryd.func12, Tryd.ntmps12
    go_wp2
    go_loopw [5, 6, 7, 16] (fun s k c i wr => ∃ j : Nat, j ≤ n ∧ i = .int .i64 j ∧ s = .int .u64 (acc zs j).1 ∧ k = .int .u64 (acc zs j).2.1 ∧ c = .int .i64 (acc zs j).2.2 ∧ Below w.heap.size w wr) (fun _ _ _ i _ => n - (intOf i).toNat)
    case atStart => exact ⟨0, Nat.zero_le _, rfl, rfl, rfl, rfl, Below.refl _ _⟩
    case round =>
      obtain ⟨j, hj, rfl, rfl, rfl, rfl, hbel⟩ := hrel
      have hsz := hbel.size
      by_cases hlt : j < n
      · have hc := (hbel.cell (p := ⟨g, j, none⟩) hgl).trans (Hc.out j hlt)
        have hlt' : (j : Int) < (n : Int) := by omega
        have hcn := acc_n zs j
        have A1 : Hid (xOf (acc zs j).1 (acc zs j).2.1 (zs.getD j 0) = (acc zs (j + 1)).1) := acc_1 zs j
        have A2 : Hid (tw (fOf (acc zs j).1 (acc zs j).2.1 (zs.getD j 0)) = (acc zs (j + 1)).2.1) := acc_2 zs j
        have A3 : Hid ((acc zs j).2.2 + twOut (fOf (acc zs j).1 (acc zs j).2.1 (zs.getD j 0)) = (acc zs (j + 1)).2.2) := acc_3 zs j
        generalize (acc zs j).1 = S at *
        generalize (acc zs j).2.1 = K at *
        generalize (acc zs j).2.2 = C at *
        generalize zs.getD j 0 = z at *
        have hR := recV_bd 1 2 (hOf S K z)
        have hto : 0 ≤ twOut (fOf S K z) ∧ twOut (fOf S K z) ≤ 1 := twOut_bd _ hR.1 hR.2
        clear hR
        go_wp2_with fail
        refine (isave_any _ _ _ _ (ht.below hbel hz) (by omega)).mono ?_
        rintro e w1 ⟨rfl, hb1⟩
        have hb2 : Below w.heap.size w w1 := hbel.trans (hb1.mono hsz)
        clear hc hb1 hbel
        go_wp2
        go_roundw
        case rel => exact ⟨j + 1, by omega, by go_num, Ln.val_int A1.out, Ln.val_int A2.out, Ln.val_int A3.out, hb2⟩
        case measure => simp [intOf]; omega
      · have hd : decide ((j : Int) < (n : Int)) = false := by simp; omega
        obtain rfl : j = n := by omega
        go_wp2
        go_ret3
        exact ⟨rfl, hbel⟩
theorem iall_big (v : Value) (zs : List Int) (base : Nat) (w : World) (hv : HasU w base v zs) (hl : 64 < zs.length) :
    Calls Tryd.prog 12 #[v] w fun e w' => e = .returned (.tuple #[.int .u64 0, .int .u64 0, .int .i64 0]) ∧ w' = w := by
  obtain ⟨a, cap, rfl, hm⟩ := hv.len
  generalize zs.length = n at *
  have hl' : (64 : Int) < (n : Int) := by omega
  clear hv
  go_enter Tryd.func12, Tryd.ntmps12
  go_wp2
  go_ret3
  exact ⟨rfl, rfl⟩
set_option maxHeartbeats 800000 in
/-- The model's SaveAll. -/
theorem sall_any (v : Value) (zs : List Int) (base : Nat) (w : World) (hv : HasU w base v zs) (hl : zs.length ≤ 64) :
    Calls Tryd.prog 10 #[v] w fun e w' => e = .returned (.tuple #[.int .u64 (acc zs zs.length).1, .int .u64 (acc zs zs.length).2.1, .int .i64 (acc zs zs.length).2.2]) ∧ Below w.heap.size w w' := by
  rcases Nat.eq_zero_or_pos zs.length with h0 | hp
  · obtain ⟨a, cap, rfl, -⟩ := hv.len
    rw [h0]
    clear hv
    go_enter Tryd.func10, Tryd.ntmps10
    go_wp2
    go_loop [5, 6, 7, 8] (fun s k n i => s = .int .u64 0 ∧ k = .int .u64 0 ∧ n = .int .i64 0 ∧ i = .int .i64 0) (fun _ _ _ _ => 0)
    case atStart => exact ⟨rfl, rfl, rfl, rfl⟩
    case round =>
      obtain ⟨rfl, rfl, rfl, rfl⟩ := hrel
      go_wp2
      go_ret3
      exact ⟨rfl, Below.refl _ _⟩
  · rcases hv.form with ⟨-, rfl⟩ | ⟨g, cap, rfl, -, hgl, -, hca, -⟩
    · simp at hp
    have Hc : Hid (∀ i, i < zs.length → w.cell? ⟨g, i, none⟩ = some (.int .u64 (zs.getD i 0))) := hca
    generalize hn : zs.length = n at *
    clear hv hca
    have hle : (n : Int) ≤ 64 := by omega
    go_enter Tryd.func10, Tryd.ntmps10
    go_wp2
    go_loopw [5, 6, 7, 8] (fun s k c i wr => ∃ j : Nat, j ≤ n ∧ i = .int .i64 j ∧ s = .int .u64 (acc zs j).1 ∧ k = .int .u64 (acc zs j).2.1 ∧ c = .int .i64 (acc zs j).2.2 ∧ Below w.heap.size w wr) (fun _ _ _ i _ => n - (intOf i).toNat)
    case atStart => exact ⟨0, Nat.zero_le _, rfl, rfl, rfl, rfl, Below.refl _ _⟩
    case round =>
      obtain ⟨j, hj, rfl, rfl, rfl, rfl, hbel⟩ := hrel
      have hsz := hbel.size
      by_cases hlt : j < n
      · have hc := (hbel.cell (p := ⟨g, j, none⟩) hgl).trans (Hc.out j hlt)
        have hlt' : (j : Int) < (n : Int) := by omega
        have hcn := acc_n zs j
        have A1 : Hid (xOf (acc zs j).1 (acc zs j).2.1 (zs.getD j 0) = (acc zs (j + 1)).1) := acc_1 zs j
        have A2 : Hid (tw (fOf (acc zs j).1 (acc zs j).2.1 (zs.getD j 0)) = (acc zs (j + 1)).2.1) := acc_2 zs j
        have A3 : Hid ((acc zs j).2.2 + twOut (fOf (acc zs j).1 (acc zs j).2.1 (zs.getD j 0)) = (acc zs (j + 1)).2.2) := acc_3 zs j
        generalize (acc zs j).1 = S at *
        generalize (acc zs j).2.1 = K at *
        generalize (acc zs j).2.2 = C at *
        generalize zs.getD j 0 = z at *
        have hR := recV_bd 1 2 (hOf S K z)
        have hto : 0 ≤ twOut (fOf S K z) ∧ twOut (fOf S K z) ≤ 1 := twOut_bd _ hR.1 hR.2
        clear hR
        go_wp2_with fail
        refine (ssave_any _ _ _ _).mono ?_
        rintro e w1 ⟨rfl, hb1⟩
        have hb2 : Below w.heap.size w w1 := hbel.trans (hb1.mono hsz)
        clear hc hb1 hbel
        go_wp2
        go_roundw
        case rel => exact ⟨j + 1, by omega, by go_num, Ln.val_int A1.out, Ln.val_int A2.out, Ln.val_int A3.out, hb2⟩
        case measure => simp [intOf]; omega
      · have hd : decide ((j : Int) < (n : Int)) = false := by simp; omega
        obtain rfl : j = n := by omega
        go_wp2
        go_ret3
        exact ⟨rfl, hbel⟩
theorem sall_big (v : Value) (zs : List Int) (base : Nat) (w : World) (hv : HasU w base v zs) (hl : 64 < zs.length) :
    Calls Tryd.prog 10 #[v] w fun e w' => e = .returned (.tuple #[.int .u64 0, .int .u64 0, .int .i64 0]) ∧ w' = w := by
  obtain ⟨a, cap, rfl, hm⟩ := hv.len
  generalize zs.length = n at *
  have hl' : decide ((n : Int) ≤ 64) = false := by simp; omega
  have hp : (0 : Int) < (n : Int) := by omega
  clear hv
  go_enter Tryd.func10, Tryd.ntmps10
  go_wp2
  go_loop [5, 6, 7, 8] (fun s k n i => s = .int .u64 0 ∧ k = .int .u64 0 ∧ n = .int .i64 0 ∧ i = .int .i64 0) (fun _ _ _ _ => 0)
  case atStart => exact ⟨rfl, rfl, rfl, rfl⟩
  case round =>
    obtain ⟨rfl, rfl, rfl, rfl⟩ := hrel
    go_wp2
    go_ret3
    exact ⟨rfl, rfl⟩
end Go.Proofs.YtlbkhiphnllfpaiDoor
