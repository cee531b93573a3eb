/-
  The model's bits joined to a word, and a word taken apart, walked.
-/
import Derived.Test.YtmeicjbeibmmgadGreatDoorSl
import Derived.Test.YtmeicjbeibmmgadGreatDoorDcU
import Derived.Test.YtmeicjbeibmmgadGreatDoorWrdR
namespace Go.Proofs.YtmeicjbeibmmgadGreatDoor
open Go.RowKit
set_option linter.unusedVariables false
set_option maxRecDepth 100000
theorem pow_le64 (n : Nat) (h : n ≤ 64) : (2 : Int) ^ n ≤ 18446744073709551616 := by
  obtain ⟨d, hd⟩ : ∃ d, 64 = n + d := ⟨64 - n, by omega⟩
  have e : (18446744073709551616 : Int) = 2 ^ n * 2 ^ d := by rw [← Int.pow_add, ← hd]; decide
  rw [e]
  have a := pow2_pos n
  have b := pow2_pos d
  have := Int.mul_le_mul_of_nonneg_left (show (1 : Int) ≤ 2 ^ d by omega) (Int.le_of_lt a)
  omega
theorem hb_64 (b : List Int) (h : Bit b) (i k : Nat) (hk : k ≤ 64) : 0 ≤ hb b i k ∧ hb b i k < 18446744073709551616 := by
  have := hb_bd b h i k
  have := pow_le64 k hk
  omega
theorem l10Join_at (g o n cap q : Nat) (b : List Int) (w : World) (hn : n ≤ 64) (hB : Bit b) (hc : ∀ i, i < n → w.cell? ⟨g, o + i, none⟩ = some (.int .i64 (b.getD (q + i) 0))) :
    Calls Tryz.prog 28 #[.slice (some ⟨g, o, none⟩) n cap] w fun e w' => e = .returned (.int .u64 (hb b q n)) ∧ w' = w := by
  have Hc : Hid (∀ i, i < n → w.cell? ⟨g, o + i, none⟩ = some (.int .i64 (b.getD (q + i) 0))) := hc
  have HB : Hid (Bit b) := hB
  clear hc hB
  go_enter Tryz.func28, Tryz.ntmps28
  go_wp2
  go_loop [3, 4] (fun v i => ∃ j : Nat, j ≤ n ∧ i = .int .i64 j ∧ v = .int .u64 (hb b q j)) (fun _ i => n - (intOf i).toNat)
  case atStart => exact ⟨0, Nat.zero_le _, rfl, rfl⟩
  case round =>
    obtain ⟨j, hj, rfl, rfl⟩ := hrel
    by_cases hlt : j < n
    · have hlt' : (j : Int) < (n : Int) := by omega
      have c := Hc.out j hlt
      have d := HB.out (q + j)
      have x := hb_64 b HB.out q j (by omega)
      have y := hb_64 b HB.out q (j + 1) (by omega)
      have HE : Hid (hb b q (j + 1) = hb b q j * 2 + b.getD (q + j) 0) := rfl
      rw [HE.out] at y
      generalize hb b q j = X at *
      generalize b.getD (q + j) 0 = D at *
      have w1 : IntKind.u64.wrap (X * 2) = X * 2 := by rw [IntKind.wrap_u64]; omega
      have w2 : IntKind.u64.wrap D = D := by rw [IntKind.wrap_u64]; omega
      have w3 : IntKind.u64.wrap (X * 2 + D) = X * 2 + D := by rw [IntKind.wrap_u64]; omega
      clear x y d
      go_wp2
      go_round
      case rel => exact ⟨j + 1, by omega, by go_num, Ln.val_int HE.out.symm⟩
      case measure => simp [intOf]; omega
    · obtain rfl : j = n := by omega
      go_wp2
      go_ret
      exact ⟨rfl, rfl⟩
/-- The bits of a word as far as they are written, the last j. -/
def spS (W : Int) : Nat → List Int
  | 0 => List.replicate 64 0
  | j + 1 => (spS W j).set (63 - j) (W / 2 ^ j % 2)
theorem spS_len (W : Int) (j : Nat) : (spS W j).length = 64 := by
  induction j with
  | zero => rfl
  | succ j ih => simp [spS, ih]
theorem spS_at (W : Int) (j i : Nat) (hj : j ≤ 64) (h : 64 ≤ i + j) (hi : i < 64) : (spS W j).getD i 0 = W / 2 ^ (63 - i) % 2 := by
  induction j with
  | zero => omega
  | succ j ih =>
    simp only [spS, List.getD, List.getElem?_set, spS_len]
    by_cases c : 63 - j = i
    · rw [if_pos c, if_pos (by omega), show 63 - i = j by omega]; rfl
    · rw [if_neg c]; exact ih (by omega) (by omega)
theorem spS_all (W : Int) : spS W 64 = bl W 64 64 := by
  apply List.ext_getElem
  · rw [spS_len, bl_len]
  · intro i h2 h3
    have g : ∀ (L : List Int) (h : i < L.length), L[i] = L.getD i 0 := fun L h => by rw [List.getD, List.getElem?_eq_getElem h]; rfl
    rw [bl_len] at h3
    rw [g, g, spS_at W 64 i (Nat.le_refl _) (by omega) h3, bl_at _ _ _ _ h3]
theorem l10Split_any (W : Int) (w : World) (h0 : 0 ≤ W) (h1 : W < 18446744073709551616) :
    Calls Tryz.prog 23 #[.int .u64 W] w fun e w' => ∃ v, e = .returned v ∧ HasN w' w.heap.size v (bl W 64 64) ∧ Below w.heap.size w w' := by
  obtain ⟨i0, hi, hz0, hz1, hz2⟩ := info_parts info64
  obtain ⟨w1, hrun, hown, hgrow⟩ := run_make_full (P := Tryz.prog) w w.heap.size 48 2 i0 (.int .i64 0) 1 Tryz.underlying48 hi hz0 hz1 .i64 .i64 64 (by rw [hz2]; decide) (by decide) (Nat.le_refl _)
  have HN : Hid (Has w1 w.heap.size (.slice (some ⟨w.heap.size, 0, none⟩) 64 64) (spS W 0) ∧ Below w.heap.size w w1) := by
    refine ⟨?_, Below.grown (Below.refl _ _) hgrow (Nat.le_refl _) (fun k hk => by cases hk)⟩
    have := hown
    rw [show (Value.int .i64 0).cells = #[Value.int .i64 0] from rfl, toList_madeCells_one] at this
    exact this
  have hrun' : (Instr.makeSlice 48 (.int .i64 64) (.int .i64 64)).run Tryz.prog w = .ok (.slice (some ⟨w.heap.size, 0, none⟩) 64 64) w1 := hrun
  clear hown hgrow hrun hi hz0 hz1 hz2
  have HD : Hid (∀ j, 0 ≤ W / 2 ^ j ∧ W / 2 ^ j < 18446744073709551616) := fun j => by
    have a := Int.ediv_nonneg h0 (Int.le_of_lt (pow2_pos j))
    have b := Int.ediv_le_self (2 ^ j) h0
    omega
  go_enter Tryz.func23, Tryz.ntmps23
  go_wp2
  go_loopw [0, 4] (fun x i wr => ∃ j : Nat, j ≤ 64 ∧ i = .int .i64 (63 - j) ∧ x = .int .u64 (W / 2 ^ j) ∧ Hid (Has wr w.heap.size (.slice (some ⟨w.heap.size, 0, none⟩) 64 64) (spS W j)) ∧ Hid (Below w.heap.size w wr)) (fun _ i _ => (intOf i + 1).toNat)
  case atStart => exact ⟨0, Nat.zero_le _, rfl, Ln.val_int (by simp), HN.out.1, HN.out.2⟩
  case round =>
    obtain ⟨j, hj, rfl, rfl, hh, hbel⟩ := hrel
    by_cases hlt : j < 64
    · have hg : (0 : Int) ≤ 63 - j := by omega
      have hg2 : (63 : Int) - j < 64 := by omega
      have ht : ((63 : Int) - j).toNat = 63 - j := by omega
      have hh' : wr.ownsRow w.heap.size 2 1 (.slice (some ⟨w.heap.size, 0, none⟩) 64 64) 64 ((spS W j).map (Value.int .i64)) := by
        have := hh.out; unfold Has at this; rw [spS_len] at this; exact this
      have hf := World.ownsRow.frozenAt hh' (63 - j)
      have hc : wr.cell? ⟨w.heap.size, 63 - j, none⟩ = some (.int .i64 ((spS W j).getD (63 - j) 0)) := by
        have hl : 63 - j < (spS W j).length := by rw [spS_len]; omega
        rw [World.ownsRow.cellAt hh' (63 - j) (by omega)]
        simp [hl]
      have Hst : Hid (_ ∧ _) := World.ownsRow.stored hh' (63 - j) (.int .i64 (W / 2 ^ j % 2))
      have hd := HD.out j
      have HE : Hid (W / 2 ^ j / 2 = W / 2 ^ (j + 1)) := (div_pow_succ W j).symm
      have HS : Hid (spS W (j + 1) = (spS W j).set (63 - j) (W / 2 ^ j % 2)) := rfl
      clear hh'
      generalize W / 2 ^ j = X at *
      have m1 : Int.tmod X 2 = X % 2 := Int.tmod_eq_emod_of_nonneg hd.1
      have m2 : Int.tdiv X 2 = X / 2 := Int.tdiv_eq_ediv_of_nonneg hd.1
      have w1 : IntKind.u64.wrap (X % 2) = X % 2 := by rw [IntKind.wrap_u64]; omega
      have w2 : IntKind.i64.wrap (X % 2) = X % 2 := by rw [IntKind.wrap_i64]; omega
      have w3 : IntKind.u64.wrap (X / 2) = X / 2 := by rw [IntKind.wrap_u64]; omega
      have w4 : IntKind.i64.wrap (63 - (j : Int) - 1) = 63 - ((j + 1 : Nat) : Int) := by rw [IntKind.wrap_i64]; omega
      clear hd
      go_wp2
      go_roundw
      case rel =>
        refine ⟨j + 1, by omega, by first | rfl | exact Ln.val_int (by omega), Ln.val_int HE.out, ?_, hbel.out.setCell (Nat.le_refl _) _⟩
        show World.ownsRow _ _ _ _ _ _ _
        rw [spS_len, HS.out]
        have := Hst.out.1
        simpa using this
      case measure => simp [intOf]; omega
    · obtain rfl : j = 64 := by omega
      have hh' := hh.out
      rw [spS_all] at hh'
      have HH : Hid (HasN wr w.heap.size (.slice (some ⟨w.heap.size, 0, none⟩) 64 64) (bl W 64 64)) := ⟨hh', by simp⟩
      clear hh' hh
      go_wp2
      go_ret
      exact ⟨_, rfl, HH.out, hbel.out⟩
end Go.Proofs.YtmeicjbeibmmgadGreatDoor
