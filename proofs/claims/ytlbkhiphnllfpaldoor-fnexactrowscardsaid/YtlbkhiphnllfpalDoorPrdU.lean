/-
  What Rows of the model answers, and the draws of products, walked.
-/
import Derived.Test.YtlbkhiphnllfpalDoorPrdT
namespace Go.Proofs.YtlbkhiphnllfpalDoor
open Go.RowKit
set_option linter.unusedVariables false
/-- The first j rows. -/
def rowsL (a b : Int) : Nat → List Int
  | 0 => []
  | j + 1 => rowsL a b j ++ [mulV a (Ln.ln b j)]
theorem rowsL_length (a b : Int) (j : Nat) : (rowsL a b j).length = j := by
  induction j with
  | zero => rfl
  | succ j ih => simp [rowsL, ih]
theorem rowsL_at (a b : Int) (j i : Nat) (h : i < j) : (rowsL a b j).getD i 0 = mulV a (Ln.ln b i) := by
  induction j with
  | zero => omega
  | succ j ih =>
    unfold rowsL
    rcases Nat.lt_or_ge i j with h1 | h1
    · rw [List.getD, List.getElem?_append_left (by rw [rowsL_length]; exact h1)]; exact ih h1
    · have e : i = j := by omega
      subst e
      rw [List.getD, List.getElem?_append_right (by rw [rowsL_length]; exact Nat.le_refl _), rowsL_length]
      simp
theorem srows_no (a b : Int) (w : World) (a0 : 0 ≤ a) (a1 : a ≤ 18446744073709551615) (b0 : 0 ≤ b) (b1 : b ≤ 18446744073709551615) (k : Ln.okB 0 a = false ∨ Ln.okB 0 b = false) :
    Calls Tryd.prog 7 #[.int .u64 a, .int .u64 b] w fun e w' => ∃ v, e = .returned (.tuple #[v, .bool false]) ∧ HasU w' w.heap.size v [] ∧ Below w.heap.size w w' := by
  have hO : ∀ w : World, HasU (w.alloc (.cells #[] 22)) w.heap.size (.slice (some ⟨w.heap.size, 0, none⟩) 0 0) [] := fun w => World.ownsRow_made w #[] 0 (Nat.le_refl _) (Nat.zero_le _) rfl
  have hB0 : Below w.heap.size w (w.alloc (.cells #[] 22)) := (Below.refl _ _).alloc (Nat.le_refl _) _
  have HO : Hid (HasU (w.alloc (.cells #[] 22)) w.heap.size (.slice (some ⟨w.heap.size, 0, none⟩) 0 0) []) := hO w
  have hs0 := hB0.size
  clear hO
  cases ka : Ln.okB 0 a with
  | false =>
    have Ka : Hid (Ln.okB 0 a = false) := ka
    clear ka k
    go_enter Tryd.func7, Tryd.ntmps7
    go_wp2_with fail
    refine (l1PlainOk_any a _ a0 a1).mono ?_
    rintro e w1 ⟨rfl, hb1⟩
    rw [Ka.out]
    go_wp2
    go_ret2
    exact ⟨_, rfl, HasU.below HO.out hb1 (Nat.le_refl _), hB0.trans (hb1.mono hs0)⟩
  | true =>
    have kb : Ln.okB 0 b = false := by rcases k with h | h; rw [ka] at h; cases h; exact h
    have Ka : Hid (Ln.okB 0 a = true) := ka
    have Kb : Hid (Ln.okB 0 b = false) := kb
    clear ka k kb
    go_enter Tryd.func7, Tryd.ntmps7
    go_wp2_with fail
    refine (l1PlainOk_any a _ a0 a1).mono ?_
    rintro e w1 ⟨rfl, hb1⟩
    have hs1 := hb1.size
    rw [Ka.out]
    go_wp2_with fail
    refine (l1PlainOk_any b _ b0 b1).mono ?_
    rintro e w2 ⟨rfl, hb2⟩
    rw [Kb.out]
    have hbf := hb1.trans (hb2.mono hs1)
    go_wp2
    go_ret2
    exact ⟨_, rfl, HasU.below HO.out hbf (Nat.le_refl _), hB0.trans (hbf.mono hs0)⟩
set_option maxHeartbeats 800000 in
theorem srows_yes (a b : Int) (w : World) (a0 : 0 ≤ a) (a1 : a ≤ 18446744073709551615) (b0 : 0 ≤ b) (b1 : b ≤ 18446744073709551615) (ka : Ln.okB 0 a = true) (kb : Ln.okB 0 b = true) :
    Calls Tryd.prog 7 #[.int .u64 a, .int .u64 b] w fun e w' => ∃ v, e = .returned (.tuple #[v, .bool true]) ∧ HasU w' w.heap.size v (rowsL a b 16) ∧ Below w.heap.size w w' := by
  obtain ⟨i0, hi, hz0, hz1, hz2⟩ := info_parts infoU64
  have nb : Hid (Nine (Ln.ln b)) := ok_nine b kb
  have Ka : Hid (Ln.okB 0 a = true) := ka
  have Kb : Hid (Ln.okB 0 b = true) := kb
  have hB0 : Below w.heap.size w (w.alloc (.cells #[] 22)) := (Below.refl _ _).alloc (Nat.le_refl _) _
  have HO : Hid ((w.alloc (.cells #[] 22)).ownsRow w.heap.size 22 1 (.slice (some ⟨w.heap.size, 0, none⟩) 0 0) 0 []) := World.ownsRow_made w #[] 0 (Nat.le_refl _) (Nat.zero_le _) rfl
  have hs0 := hB0.size
  clear ka kb
  go_enter Tryd.func7, Tryd.ntmps7
  go_wp2_with fail
  refine (l1PlainOk_any a _ a0 a1).mono ?_
  rintro e w1 ⟨rfl, hb1⟩
  have hs1 := hb1.size
  rw [Ka.out]
  go_wp2_with fail
  refine (l1PlainOk_any b _ b0 b1).mono ?_
  rintro e w2 ⟨rfl, hb2⟩
  rw [Kb.out]
  have hbf := hb1.trans (hb2.mono hs1)
  have HO2 : Hid (w2.ownsRow w.heap.size 22 1 (.slice (some ⟨w.heap.size, 0, none⟩) 0 0) 0 []) := own_below HO.out hbf (Nat.le_refl _)
  have hb02 := hB0.trans (hbf.mono hs0)
  clear HO hb1 hb2 hbf hs1 hB0 hs0
  go_wp2
  go_loopw [6, 7] (fun v i wr => ∃ j : Nat, j ≤ 16 ∧ i = .int .i64 j ∧ Hid (wr.ownsRow w.heap.size 22 1 v j ((rowsL a b j).map (Value.int .u64))) ∧ Below w.heap.size w wr) (fun _ i _ => 16 - (intOf i).toNat)
  case atStart => exact ⟨0, Nat.zero_le _, rfl, HO2, hb02⟩
  case round =>
    clear HO2 hb02
    obtain ⟨j, hj, rfl, hown, hbel⟩ := hrel
    have hsz := hbel.size
    by_cases hlt : j < 16
    · have hB := nb.out j hlt
      go_wp2_with fail
      refine (l1Lane_any b _ j _ rfl (by omega) b0 b1).mono ?_
      rintro e w' ⟨rfl, hw⟩
      obtain rfl := hw.symm
      go_wp2_with fail
      refine (smul_yes a (Ln.ln b j) _ a0 a1 Ka.out hB.1 (by omega)).mono ?_
      rintro e w3 ⟨rfl, hb3⟩
      have hs3 := hb3.size
      have hown3 := own_below hown.out hb3 (Nat.le_refl _)
      have Hr : Hid (rowsL a b (j + 1) = rowsL a b j ++ [mulV a (Ln.ln b j)]) := rfl
      have hb03 := hbel.trans (hb3.mono hsz)
      clear hown hb3 hbel
      generalize mulV a (Ln.ln b j) = m at *
      generalize mulC a (Ln.ln b j) = o at *
      go_wp2_with (first | (at_builtin; refine wpList_append_own _ rfl _ _ 23 rfl w.heap.size 22 i0 (.int .u64 0) 1 8 Tryd.underlying23 hi hz0 hz1 hz2 rfl (by decide) _ _ _ rfl (hown3.alloc _) ⟨w3.heap.size, 0, none⟩ 1 1 [.int .u64 m] rfl rfl ?c1 ?c2 ?c3 ?c4 ?c5 ?_) | go_in)
      case c1 =>
        intro i u hu
        match i, hu with
        | 0, hu => simp at hu; subst hu; simp [Addr.add]
      case c2 => intro u hu; simp at hu; subst hu; rfl
      case c3 => unfold maxLen; omega
      case c4 => omega
      case c5 => simp; omega
      · intro v' w4 hown4 hgrow _
        have hb4 : Below w.heap.size w w4 := Below.grown (hb03.alloc (by omega) _) hgrow (by simp; omega) (fun k hk => (hown3.lt k hk).1)
        have H4 : Hid (w4.ownsRow w.heap.size 22 1 v' (j + 1) ((rowsL a b (j + 1)).map (Value.int .u64))) := by
          rw [Hr.out]
          simpa [Hid] using hown4
        clear hown4 hgrow hown3
        go_wp2
        go_roundw
        case rel => exact ⟨j + 1, by omega, by go_num, H4, hb4⟩
        case measure => simp [intOf]; omega
    · go_wp2
      go_ret2
      have e : j = 16 := by omega
      subst e
      refine ⟨_, rfl, ?_, hbel⟩
      unfold HasU
      rw [rowsL_length]
      exact hown.out
end Go.Proofs.YtlbkhiphnllfpalDoor
