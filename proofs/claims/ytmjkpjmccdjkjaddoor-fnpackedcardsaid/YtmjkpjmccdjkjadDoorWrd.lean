/-
  The model's bits joined to a word, and a word taken apart, walked.
-/
import Derived.Test.YtmjkpjmccdjkjadDoorSl
import Derived.Test.YtmjkpjmccdjkjadDoorDcU
import Derived.Test.YtmjkpjmccdjkjadDoorWrdR
namespace Go.Proofs.YtmjkpjmccdjkjadDoor
open Go.RowKit
set_option linter.unusedVariables false
set_option maxRecDepth 100000
theorem pow_le64 (n : Nat) (h : n ≤ 64) : (2 : Int) ^ n ≤ 18446744073709551616 := by
  obtain ⟨d, hd⟩ : ∃ d, 64 = n + d := ⟨64 - n, by omega⟩
  have e : (18446744073709551616 : Int) = 2 ^ n * 2 ^ d := by rw [← Int.pow_add, ← hd]; decide
  rw [e]
  have a := pow2_pos n
  have b := pow2_pos d
  have := Int.mul_le_mul_of_nonneg_left (show (1 : Int) ≤ 2 ^ d by omega) (Int.le_of_lt a)
  omega
theorem hb_64 (b : List Int) (h : Bit b) (i k : Nat) (hk : k ≤ 64) : 0 ≤ hb b i k ∧ hb b i k < 18446744073709551616 := by
  have := hb_bd b h i k
  have := pow_le64 k hk
  omega
theorem l10Join_at (g o n cap q : Nat) (b : List Int) (w : World) (hn : n ≤ 64) (hB : Bit b) (hc : ∀ i, i < n → w.cell? ⟨g, o + i, none⟩ = some (.int .i64 (b.getD (q + i) 0))) :
    Calls Tryd.prog 18 #[.slice (some ⟨g, o, none⟩) n cap] w fun e w' => e = .returned (.int .u64 (hb b q n)) ∧ w' = w := by
  have Hc : Hid (∀ i, i < n → w.cell? ⟨g, o + i, none⟩ = some (.int .i64 (b.getD (q + i) 0))) := hc
  have HB : Hid (Bit b) := hB
  clear hc hB
  go_enter Tryd.func18, Tryd.ntmps18
  go_wp2
  go_loop [3, 4] (fun v i => ∃ j : Nat, j ≤ n ∧ i = .int .i64 j ∧ v = .int .u64 (hb b q j)) (fun _ i => n - (intOf i).toNat)
  case atStart => exact ⟨0, Nat.zero_le _, rfl, rfl⟩
  case round =>
    obtain ⟨j, hj, rfl, rfl⟩ := hrel
    by_cases hlt : j < n
    · have hlt' : (j : Int) < (n : Int) := by omega
      have c := Hc.out j hlt
      have d := HB.out (q + j)
      have x := hb_64 b HB.out q j (by omega)
      have y := hb_64 b HB.out q (j + 1) (by omega)
      have HE : Hid (hb b q (j + 1) = hb b q j * 2 + b.getD (q + j) 0) := rfl
      rw [HE.out] at y
      generalize hb b q j = X at *
      generalize b.getD (q + j) 0 = D at *
      have w1 : IntKind.u64.wrap (X * 2) = X * 2 := by rw [IntKind.wrap_u64]; omega
      have w2 : IntKind.u64.wrap D = D := by rw [IntKind.wrap_u64]; omega
      have w3 : IntKind.u64.wrap (X * 2 + D) = X * 2 + D := by rw [IntKind.wrap_u64]; omega
      clear x y d
      go_wp2
      go_round
      case rel => exact ⟨j + 1, by omega, by go_num, Ln.val_int HE.out.symm⟩
      case measure => simp [intOf]; omega
    · obtain rfl : j = n := by omega
      go_wp2
      go_ret
      exact ⟨rfl, rfl⟩
/-- The bits of a word as far as they are written, the last j. -/
def spS (W : Int) : Nat → List Int
  | 0 => List.replicate 64 0
  | j + 1 => (spS W j).set (63 - j) (W / 2 ^ j % 2)
theorem spS_len (W : Int) (j : Nat) : (spS W j).length = 64 := by
  induction j with
  | zero => rfl
  | succ j ih => simp [spS, ih]
theorem spS_at (W : Int) (j i : Nat) (hj : j ≤ 64) (h : 64 ≤ i + j) (hi : i < 64) : (spS W j).getD i 0 = W / 2 ^ (63 - i) % 2 := by
  induction j with
  | zero => omega
  | succ j ih =>
    simp only [spS, List.getD, List.getElem?_set, spS_len]
    by_cases c : 63 - j = i
    · rw [if_pos c, if_pos (by omega), show 63 - i = j by omega]; rfl
    · rw [if_neg c]; exact ih (by omega) (by omega)
theorem spS_all (W : Int) : spS W 64 = bl W 64 64 := by
  apply List.ext_getElem
  · rw [spS_len, bl_len]
  · intro i h2 h3
    have g : ∀ (L : List Int) (h : i < L.length), L[i] = L.getD i 0 := fun L h => by rw [List.getD, List.getElem?_eq_getElem h]; rfl
    rw [bl_len] at h3
    rw [g, g, spS_at W 64 i (Nat.le_refl _) (by omega) h3, bl_at _ _ _ _ h3]
end Go.Proofs.YtmjkpjmccdjkjadDoor
