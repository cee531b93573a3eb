/-
  The rows of a product, gone through by a range over a function: the iterator's contract, walked.
-/
import Derived.RangeFuncNested
import Derived.RangeFuncBound
import Derived.RangeFuncCalls
import Derived.RangeFuncLeaves
import Derived.Shelf.Abstract
import Derived.Shelf.RegionOpen
import Derived.WalkKit
import Derived.OwnWalkIn
import Derived.TacticsInMore
import Derived.LoopNIn
import Derived.LoopIn
import Derived.Test.YtlbkhiphnllfpalDoorPrdI
namespace Go.Proofs.YtlbkhiphnllfpalDoor
open Go.RowKit Go.Shelf
set_option linter.unusedVariables false
attribute [local go_sem] Oper.semAt_some
/-- A digit; what a row of it is. -/
abbrev Dgt := { d : Int // 0 ≤ d ∧ d ≤ 9 }
def encR (a : Int) (d : Dgt) : Array Value := #[.int .u64 (mulV a d.1), .int .i64 (mulC a d.1)]
/-- What a round keeps: what lay below n₀, and the two boxes of the iterator. -/
def KpR (n₀ B : Nat) (W W' : World) : Prop := Below n₀ W W' ∧ ∀ k, B ≤ k → k < B + 2 → k < W.heap.size → W'.heap[k]? = W.heap[k]?
theorem KpR.trans {n₀ B : Nat} {A C D : World} (h : KpR n₀ B A C) (k : KpR n₀ B C D) : KpR n₀ B A D :=
  ⟨h.1.trans k.1, fun i h1 h2 h3 => (k.2 i h1 h2 (Nat.lt_of_lt_of_le h3 h.1.size)).trans (h.2 i h1 h2 h3)⟩
theorem KpR.of_below {n₀ B : Nat} {A C : World} (h : Below A.heap.size A C) (hn : n₀ ≤ A.heap.size) : KpR n₀ B A C := ⟨h.mono hn, fun k _ _ h3 => h.block k h3⟩
theorem KpR.boxed {n₀ B : Nat} {A C : World} (h : KpR n₀ B A C) {k : Nat} {t : TypeId} {v : Value} (hb : Boxed A k t v) (h1 : B ≤ k) (h2 : k < B + 2) : Boxed C k t v := (h.2 k h1 h2 hb.lt).trans hb
theorem Boxed.below {B n : Nat} {A C : World} {t : TypeId} {v : Value} (hb : Boxed A B t v) (h : Below n A C) (hl : B < n) : Boxed C B t v := (h.block B hl).trans hb
theorem grown_of_below {A C : World} (h : Below A.heap.size A C) : A.grownBy C none := ⟨h.os, h.tape, h.output, h.size, fun k hk _ => h.block k hk⟩
def dgt (b : Int) (kb : Ln.okB 0 b = true) (i : Nat) : Dgt := if h : i < 16 then ⟨Ln.ln b i, ok_nine b kb i h⟩ else ⟨0, by decide⟩
def upto (b : Int) (kb : Ln.okB 0 b = true) (k : Nat) : List Dgt := (List.range k).map (dgt b kb)
theorem upto_succ (b : Int) (kb : Ln.okB 0 b = true) (k : Nat) : upto b kb (k + 1) = upto b kb k ++ [dgt b kb k] := by simp [upto, List.range_succ]
theorem upto_length (b : Int) (kb : Ln.okB 0 b = true) (k : Nat) : (upto b kb k).length = k := by simp [upto]
theorem dgt_val (b : Int) (kb : Ln.okB 0 b = true) (i : Nat) (h : i < 16) : (dgt b kb i).1 = Ln.ln b i := by simp [dgt, h]
theorem upto_vals (b : Int) (kb : Ln.okB 0 b = true) : (upto b kb 16).map (·.1) = (List.range 16).map (Ln.ln b) := by
  unfold upto
  rw [List.map_map]
  exact List.map_congr_left (fun i hi => dgt_val b kb i (List.mem_range.1 hi))
theorem wrap_dig (d : Int) (d0 : 0 ≤ d) (d9 : d ≤ 9) : IntKind.i64.wrap d = d := by
  rw [IntKind.wrap_i64]; omega
theorem rowsOf_any (a b : Int) (w : World) :
    Calls Tryd.prog 22 #[.int .u64 a, .int .u64 b] w fun e w' => e = .returned (.func (.func 32) #[] #[.pointer (some ⟨w.heap.size, 0, none⟩), .pointer (some ⟨w.heap.size + 1, 0, none⟩)]) ∧
      w' = (w.alloc (.cells #[.int .u64 a] 22)).alloc (.cells #[.int .u64 b] 22) := by
  go_enter Tryd.func22, Tryd.ntmps22
  go_wp2
  go_ret
  exact ⟨by simp, rfl⟩
set_option maxRecDepth 100000 in
set_option maxHeartbeats 2000000 in
theorem rows1_in (n : Nat) (hn : 2 ≤ n) (l B n₀ : Nat) (a b : Int) (a0 : 0 ≤ a) (a1 : a ≤ 18446744073709551615) (b0 : 0 ≤ b) (b1 : b ≤ 18446744073709551615) (ka : Ln.okB 0 a = true) (kb : Ln.okB 0 b = true)
    (J Jx : List Dgt → World → Prop)
    (hY : ∀ pre x W, J pre W → pre.length < 16 → YieldAt Fence.wide (n - 1) Tryd.prog l (encR a x) W fun e W' =>
      (e = .returned (.bool true) ∧ J (pre ++ [x]) W' ∧ KpR n₀ B W W') ∨ (e = .returned (.bool false) ∧ Jx (pre ++ [x]) W'))
    (hJ : ∀ s A C, J s A → A.grownBy C none → J s C)
    (W : World) (hA : Boxed W B 22 (.int .u64 a)) (hB : Boxed W (B + 1) 22 (.int .u64 b)) (hT : Tab W) (hz : 0 < n₀) (hn₀ : n₀ ≤ W.heap.size) (h0 : J [] W) :
    CallsIn Fence.wide n Tryd.prog 32 #[.func (.yield l) #[] #[], .pointer (some ⟨B, 0, none⟩), .pointer (some ⟨B + 1, 0, none⟩)] W fun e W' => (∃ v, e = .returned v) ∧
      ((∃ ys : List Dgt, ys.map (·.1) = (List.range 16).map (Ln.ln b) ∧ J ys W') ∨ (∃ pre, True ∧ Jx pre W')) := by
  have nb : Hid (Nine (Ln.ln b)) := ok_nine b kb
  have HT : Hid (Tab W) := hT
  have Ka : Hid (Ln.okB 0 a = true) := ka
  have HY : Hid (∀ pre x W, J pre W → pre.length < 16 → YieldAt Fence.wide (n - 1) Tryd.prog l (encR a x) W fun e W' =>
      (e = .returned (.bool true) ∧ J (pre ++ [x]) W' ∧ KpR n₀ B W W') ∨ (e = .returned (.bool false) ∧ Jx (pre ++ [x]) W')) := hY
  have HJ : Hid (∀ s A C, J s A → A.grownBy C none → J s C) := hJ
  clear hT ka hY hJ
  refine callsIn_of_wp Tryd.func32 rfl trivial ?_ rfl
  simp only [Tryd.ntmps32, List.size_toArray, List.length_cons, List.length_nil, Nat.reduceAdd, Nat.reduceSub, Array.replicate_succ, Array.replicate_zero, List.push_toArray, List.append_toArray, List.nil_append, List.cons_append]
  gi_wp2
  gi_loopw [8] (fun i wr => ∃ k : Nat, k ≤ 16 ∧ i = .int .i64 k ∧ Boxed wr B 22 (.int .u64 a) ∧ Boxed wr (B + 1) 22 (.int .u64 b) ∧ Hid (Tab wr) ∧ n₀ ≤ wr.heap.size ∧ J (upto b kb k) wr) (fun i _ => 16 - (intOf i).toNat)
  case atStart => exact ⟨0, Nat.zero_le _, rfl, hA, hB, HT, hn₀, h0⟩
  case round =>
    clear HT hA hB h0 hn₀
    obtain ⟨k, hk, rfl, hA, hB, HT, hn₀, hj⟩ := hrel
    by_cases hlt : k < 16
    · have hcA := hA.cell
      have hcB := hB.cell
      have hd := nb.out k hlt
      have hmx : Tryd.prog.follows .mixedOrders = true := by kernel_rfl
      have hL : Hid (∀ X, Calls Tryd.prog 24 #[.int .u64 b, .int .i64 (k : Int)] X fun e w' => e = .returned (.int .u64 (Ln.ln b k)) ∧ w' = X) := fun X => laneAt_any b _ k X rfl (by omega) b0 b1
      have hM : Hid (∀ X, Below wr.heap.size wr X → Calls Tryd.prog 33 #[.int .u64 a, .int .i64 (IntKind.i64.wrap (Ln.ln b k))] X fun e w' => e = .returned (.tuple #[.int .u64 (mulV a (Ln.ln b k)), .int .i64 (mulC a (Ln.ln b k)), .bool true]) ∧ Below wr.heap.size wr w') := fun X hX => by
        rw [wrap_dig _ hd.1 hd.2]
        exact (imul_yes a (Ln.ln b k) X (Tab.below HT.out hX (by omega)) (by have := hX.size; omega) a0 a1 Ka.out hd.1 (by omega)).mono (fun e w' h => ⟨h.1, hX.trans (h.2.mono hX.size)⟩)
      have Hdk : Hid (∀ X, J (upto b kb k) X → YieldAt Fence.wide (n - 1) Tryd.prog l #[.int .u64 (mulV a (Ln.ln b k)), .int .i64 (mulC a (Ln.ln b k))] X fun e W' =>
          (e = .returned (.bool true) ∧ J (upto b kb (k + 1)) W' ∧ KpR n₀ B X W') ∨ (e = .returned (.bool false) ∧ ∃ pre, Jx pre W')) := fun X hX => by
        have h := HY.out (upto b kb k) (dgt b kb k) X hX (by rw [upto_length]; exact hlt)
        unfold encR at h
        rw [dgt_val b kb k hlt, ← upto_succ] at h
        exact h.mono (fun e W' h => by rcases h with h | h; exact .inl h; exact .inr ⟨h.1, _, h.2⟩)
      generalize mulV a (Ln.ln b k) = V at *
      generalize mulC a (Ln.ln b k) = C at *
      generalize Ln.ln b k = d at *
      gi_wp2
      gi_region_with_o ((with_reducible refine And.intro ?_ (And.intro ?_ ?_)); exact trivial; (intro _; omega); (first | (gi_at_call 24; refine (callsIn_wide.2 (hL.out _)).mono ?_; clear hL; rintro e w' ⟨rfl, rfl⟩) | (gi_at_call 33; refine (callsIn_wide.2 (hM.out _ ?_)).mono ?_; (first | exact (Below.refl _ _).drew | exact Below.refl _ _ | assumption); rintro e w2 ⟨rfl, hb2⟩)))
      all_goals
        have hj2 := HJ.out _ _ _ hj (grown_of_below hb2)
        have hs2 := hb2.size
        obtain ⟨fn, tmps, assign, body, hy, hR⟩ := Hdk.out _ hj2
        have hA2 := Boxed.below hA hb2 hA.lt
        have hB2 := Boxed.below hB hb2 hB.lt
        have HT2 : Hid (Tab w2) := Tab.below HT.out hb2 (by omega)
        clear hM Hdk hj hj2 hA hB HT
        gi_wp2
        refine ⟨fun _ => by omega, hR.mono ?_⟩
        rintro e W3 (⟨rfl, hJ3, hk3⟩ | ⟨rfl, pre, hx3⟩)
        · gi_wp2
          go_roundw
          case rel => exact ⟨k + 1, by omega, by go_num, hk3.boxed hA2 (Nat.le_refl _) (by omega), hk3.boxed hB2 (by omega) (by omega), Tab.below HT2.out hk3.1 hz, Nat.le_trans hn₀ (Nat.le_trans hs2 hk3.1.size), hJ3⟩
          case measure => simp [intOf]; omega
        · gi_wp2
          refine bodyPost_ret (results_none rfl _ _ _) rfl ?_
          exact ⟨⟨_, rfl⟩, .inr ⟨pre, trivial, hx3⟩⟩
    · gi_wp2
      go_end0
      have e : k = 16 := by omega
      subst e
      exact ⟨⟨_, rfl⟩, .inl ⟨_, upto_vals b kb, hj⟩⟩
/-- **The rows of a and b, as the range over the function is given them.** -/
theorem rows_stops (n : Nat) (hn : 2 ≤ n) (B n₀ : Nat) (a b : Int) (a0 : 0 ≤ a) (a1 : a ≤ 18446744073709551615) (b0 : 0 ≤ b) (b1 : b ≤ 18446744073709551615) (ka : Ln.okB 0 a = true) (kb : Ln.okB 0 b = true)
    (w : World) (hA : Boxed w B 22 (.int .u64 a)) (hB : Boxed w (B + 1) 22 (.int .u64 b)) (hT : Tab w) (hz : 0 < n₀) (hn₀ : n₀ ≤ w.heap.size) :
    SeqStopsK Fence.wide n Tryd.prog 32 #[.pointer (some ⟨B, 0, none⟩), .pointer (some ⟨B + 1, 0, none⟩)] (encR a) (KpR n₀ B) (fun ys => ys.map (·.1) = (List.range 16).map (Ln.ln b)) (fun _ => True) 16 w := fun l J Jx W hW hJ hJx hY h0 =>
  rows1_in n hn l B n₀ a b a0 a1 b0 b1 ka kb J Jx hY (fun s A C h g => hJ s A C none h g (fun r e => by cases e)) W (Boxed.below hA hW hA.lt) (Boxed.below hB hW hB.lt) (Tab.below hT hW (by omega)) hz (Nat.le_trans hn₀ hW.size) h0
theorem KpR.putObj {n₀ B m : Nat} (hm : n₀ ≤ m) (hB : B + 2 ≤ m) (W : World) (l : Nat) (o o' : Obj) (hl : m ≤ l) (h : W.heap[l]? = some o) (h1 : o.isCells = false) (h2 : o.isWalk = false) : KpR n₀ B W (W.putObj l o') :=
  ⟨(Below.refl n₀ W).grown (grownBy_putObj' W l o') (by have := (Array.getElem?_eq_some_iff.1 h).1; omega) (fun k e => by cases e; omega), fun k _ hk _ => World.putObj_heap_other (by omega)⟩
theorem boxed_kept {W W' : World} {row : Option Nat} {B : Nat} {t : TypeId} {v : Value} (h : Boxed W B t v) (hg : W.grownBy W' row) (hr : ∀ r, row = some r → ∃ o : Obj, W.heap[r]? = some o ∧ o.isCells = false) : Boxed W' B t v :=
  boxed_own B t (fun _ : Unit => v) () W W' row h hg hr
end Go.Proofs.YtlbkhiphnllfpalDoor
