/-
  Plain facts on many words summed without carries: the settled word and count are told by what the words stand for together.
-/
import Derived.Test.YtlbkhiphnllfpabDoorSaveM
import Derived.Test.YtlbkhiphnllfpabDoorSaveAll
import Derived.Test.YtlbkhiphnllfpabDoorSettle
import Derived.Test.YtlbkhiphnllfpabDoorSumsM
import Derived.Test.YtlbkhiphnllfpabDoorDrawA
namespace Go.Proofs.YtlbkhiphnllfpabDoor
open Ln
set_option linter.unusedVariables false
set_option maxRecDepth 100000
/-- What words in fours stand for together. -/
def totL : List Int → Int
  | [] => 0
  | z :: r => W 1 z + totL r
theorem totL_append (a b : List Int) : totL (a ++ b) = totL a + totL b := by
  induction a with
  | nil => simp [totL]
  | cons z r ih => simp only [List.cons_append, totL, ih]; omega
theorem totL_reverse (a : List Int) : totL a.reverse = totL a := by
  induction a with
  | nil => rfl
  | cons z r ih => rw [List.reverse_cons, totL_append, ih]; simp only [totL]; omega
theorem take_next (zs : List Int) (i : Nat) (hi : i < zs.length) : zs.take (i + 1) = zs.take i ++ [zs.getD i 0] := by
  rw [List.take_succ_eq_append_getElem hi]; simp [List.getD, hi]
theorem totL_next (zs : List Int) (i : Nat) (hi : i < zs.length) : totL (zs.take (i + 1)) = totL (zs.take i) + W 1 (zs.getD i 0) := by
  rw [take_next zs i hi, totL_append]; simp [totL]
theorem U64s.at {zs : List Int} (h : U64s zs) (i : Nat) : 0 ≤ zs.getD i 0 ∧ zs.getD i 0 ≤ 18446744073709551615 := by
  by_cases hi : i < zs.length
  · simp only [List.getD, List.getElem?_eq_getElem hi, Option.getD_some]
    exact h _ (List.getElem_mem hi)
  · have e : zs[i]? = none := List.getElem?_eq_none (by omega)
    simp only [List.getD, e, Option.getD_none]
    decide
theorem W_zero : W 1 0 = 0 := by decide +kernel
theorem acc_W (zs : List Int) (hU : U64s zs) (i : Nat) (hi : i ≤ zs.length) : W 1 (acc zs i).1 + W 1 (acc zs i).2.1 + (acc zs i).2.2 * 10 ^ 16 = totL (zs.take i) := by
  induction i with
  | zero =>
    show W 1 0 + W 1 0 + 0 * 10 ^ 16 = 0
    rw [W_zero]; simp
  | succ i ih =>
    have h := ih (by omega)
    rw [totL_next zs i (by omega), ← h]
    have s := save_Int (acc zs i).1 (acc zs i).2.1 (zs.getD i 0) (acc_bd zs i).1 (acc_bd zs i).2 (hU.at i)
    rw [← acc_1, ← acc_2, ← acc_3]
    rw [Int.add_mul]
    omega
theorem pl_W (x : Int) : vl (digits 0 (pl x)) = W 1 x := by
  have h := (rec_ok 1 0 x (by decide) (ok_four x)).2.1
  rw [show pl x = recV 1 0 x from rfl, h, W_vl 1 x (ok_four x)]
theorem settle_W (s k : Int) : vl (digits 0 (stV s k)) + stC s k * 10 ^ 16 = W 1 s + W 1 k := by
  have h := add_value (pl s) (pl k) false (pl_ok s) (pl_ok k)
  rw [pl_W, pl_W] at h
  have e : inI (addC (pl s) (pl k) false) = stC s k := by
    rcases stC_bool s k with ⟨a, b⟩ | ⟨a, b⟩
    · rw [a, b]; rfl
    · rw [a, b]; rfl
  rw [e] at h
  have z : inI false = 0 := rfl
  rw [z, Int.add_zero] at h
  exact h.symm
theorem dec_highsF (f : Nat → Int) (hf : Nine f) : Dec (highsF f 16) := fun d hd => by
  obtain ⟨i, hi, rfl⟩ := highsF_mem f 16 (Nat.le_refl _) d hd
  exact hf i hi
theorem Sm_unique (f g : Nat → Int) (hf : Nine f) (hg : Nine g) (h : vl (highsF f 16) = vl (highsF g 16)) : Sm f 16 = Sm g 16 := by
  have e : (highsF f 16).reverse = (highsF g 16).reverse := lv_unique _ _ (dec_rev _ (dec_highsF f hf)) (dec_rev _ (dec_highsF g hg)) (by rw [List.length_reverse, List.length_reverse, highsF_length, highsF_length]) h
  have e2 : highsF f 16 = highsF g 16 := by rw [← List.reverse_reverse (highsF f 16), e, List.reverse_reverse]
  rw [← pack_highsF f hf, ← pack_highsF g hg, e2]
theorem st_bd (s k : Int) : 0 ≤ stV s k ∧ stV s k ≤ 18446744073709551615 := Sm_u64 _ (sdF_nine _ _ _)
theorem st_ok (s k : Int) : okB 0 (stV s k) = true := ok_Sm _ (sdF_nine _ _ _)
theorem st_digits (s k : Int) : digits 0 (stV s k) = highsF (sdF (ln (pl s)) (ln (pl k)) 0) 16 := digits_Sm _ (sdF_nine _ _ _)
theorem st_vl (s k : Int) : 0 ≤ vl (digits 0 (stV s k)) ∧ vl (digits 0 (stV s k)) < 10 ^ 16 := by
  rw [st_digits]
  have := vl_bd _ (dec_highsF _ (sdF_nine (ln (pl s)) (ln (pl k)) 0))
  rw [highsF_length] at this
  exact this
/-- Two pairs with their counts that stand for the same settle to the same. -/
theorem settled_same (s k n s' k' n' : Int) (h : W 1 s + W 1 k + n * 10 ^ 16 = W 1 s' + W 1 k' + n' * 10 ^ 16) : stV s k = stV s' k' ∧ n + stC s k = n' + stC s' k' := by
  have a := settle_W s k
  have b := settle_W s' k'
  have p := st_vl s k
  have q := st_vl s' k'
  have e : (10 : Int) ^ 16 = 10000000000000000 := by decide
  rw [e] at h a b p q
  have hc : n + stC s k = n' + stC s' k' := by omega
  have hv : vl (digits 0 (stV s k)) = vl (digits 0 (stV s' k')) := by omega
  refine ⟨?_, hc⟩
  rw [st_digits, st_digits] at hv
  exact Sm_unique _ _ (sdF_nine _ _ _) (sdF_nine _ _ _) hv
/-- The settled word and count stand for all the words. -/
theorem settled_all (s k n t : Int) (h : W 1 s + W 1 k + n * 10 ^ 16 = t) : vl (digits 0 (stV s k)) + (n + stC s k) * 10 ^ 16 = t := by
  have a := settle_W s k
  rw [Int.add_mul]
  omega
open Go.RowKit in
/-- What the program and its model answer on drawn words, and on the same words from behind. -/
theorem saved_facts (zs : List Int) (hU : U64s zs) (hl : zs.length ≤ 64) : ∃ S K N S' K' N' V O : Int,
    (∀ W v base, HasU W base v zs → Tab W → 0 < W.heap.size → Calls Tryd.prog 9 #[v] W fun e w' => e = .returned (.tuple #[.int .u64 S, .int .u64 K, .int .i64 N]) ∧ Below W.heap.size W w') ∧
    (∀ W v base, HasU W base v zs → Calls Tryd.prog 10 #[v] W fun e w' => e = .returned (.tuple #[.int .u64 S, .int .u64 K, .int .i64 N]) ∧ Below W.heap.size W w') ∧
    (∀ W, Tab W → 0 < W.heap.size → Calls Tryd.prog 11 #[.int .u64 S, .int .u64 K, .int .i64 N] W fun e w' => e = .returned (.tuple #[.int .u64 V, .int .i64 O]) ∧ Below W.heap.size W w') ∧
    (∀ W v base, HasU W base v zs.reverse → Tab W → 0 < W.heap.size → Calls Tryd.prog 9 #[v] W fun e w' => e = .returned (.tuple #[.int .u64 S', .int .u64 K', .int .i64 N']) ∧ Below W.heap.size W w') ∧
    (∀ W, Tab W → 0 < W.heap.size → Calls Tryd.prog 11 #[.int .u64 S', .int .u64 K', .int .i64 N'] W fun e w' => e = .returned (.tuple #[.int .u64 V, .int .i64 O]) ∧ Below W.heap.size W w') ∧
    (∀ W, Tab W → 0 < W.heap.size → Calls Tryd.prog 15 #[.int .u64 S, .int .u64 K] W fun e w' => e = .returned (.bool (V == 0)) ∧ Below W.heap.size W w') ∧
    vl (digits 0 V) + O * 10 ^ 16 = totL zs ∧ okB 0 V = true ∧ (0 ≤ V ∧ V ≤ 18446744073709551615) ∧ (0 ≤ O ∧ O ≤ 65) := by
  have hUr : U64s zs.reverse := fun z hz => hU z (by simpa using hz)
  have hlr : zs.reverse.length ≤ 64 := by simpa using hl
  have b := acc_bd zs zs.length
  have n := acc_n zs zs.length
  have b' := acc_bd zs.reverse zs.reverse.length
  have n' := acc_n zs.reverse zs.reverse.length
  have t := acc_W zs hU zs.length (Nat.le_refl _)
  have t' := acc_W zs.reverse hUr zs.reverse.length (Nat.le_refl _)
  rw [List.take_length] at t t'
  rw [totL_reverse] at t'
  have e := settled_same _ _ _ _ _ _ (t'.trans t.symm)
  have c := stC_bd (acc zs zs.length).1 (acc zs zs.length).2.1
  refine ⟨(acc zs zs.length).1, (acc zs zs.length).2.1, (acc zs zs.length).2.2, (acc zs.reverse zs.reverse.length).1, (acc zs.reverse zs.reverse.length).2.1, (acc zs.reverse zs.reverse.length).2.2, stV (acc zs zs.length).1 (acc zs zs.length).2.1, (acc zs zs.length).2.2 + stC (acc zs zs.length).1 (acc zs zs.length).2.1, ?_, ?_, ?_, ?_, ?_, ?_, ?_, st_ok _ _, st_bd _ _, by omega, by omega⟩
  · exact fun W v base h ht hz => iall_any v zs base W h ht hz hl
  · exact fun W v base h => sall_any v zs base W h hl
  · exact fun W ht hz => isettle_in _ _ _ W ht hz b.1.1 b.1.2 b.2.1 b.2.2 n.1 (by omega)
  · exact fun W v base h ht hz => iall_any v zs.reverse base W h ht hz hlr
  · rw [← e.1, ← e.2]
    exact fun W ht hz => isettle_in _ _ _ W ht hz b'.1.1 b'.1.2 b'.2.1 b'.2.2 n'.1 (by omega)
  · exact fun W ht hz => izero_any _ _ W ht hz b.1.1 b.1.2 b.2.1 b.2.2
  · exact settled_all _ _ _ _ t
end Go.Proofs.YtlbkhiphnllfpabDoor
