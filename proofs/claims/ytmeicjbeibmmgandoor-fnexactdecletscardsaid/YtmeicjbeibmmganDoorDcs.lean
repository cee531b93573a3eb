/-
  What the model's Declets answers, walked.
-/
import Derived.Test.YtmeicjbeibmmganDoorDcl
import Derived.Test.YtmeicjbeibmmganDoorSl
import Derived.Test.YtmeicjbeibmmganDoorApp
import Derived.Test.YtmeicjbeibmmganDoorRng
import Derived.Deep.RegionHeld3
import Derived.Deep.AppendLies
namespace Go.Proofs.YtmeicjbeibmmganDoor
open Go.RowKit
set_option linter.unusedVariables false
set_option linter.unusedSimpArgs false
/-- The ten bits of the first k threes. -/
def ds3 (ds : List Int) : Nat → List Int
  | 0 => []
  | k + 1 => ds3 ds k ++ [dcl (ds.getD (3 * k) 0 * 100 + ds.getD (3 * k + 1) 0 * 10 + ds.getD (3 * k + 2) 0)]
theorem ds3_len (ds : List Int) (k : Nat) : (ds3 ds k).length = k := by
  induction k with
  | zero => rfl
  | succ k ih => simp [ds3, ih]
theorem ds3_at (ds : List Int) (n k : Nat) (h : k < n) : (ds3 ds n).getD k 0 = dcl (ds.getD (3 * k) 0 * 100 + ds.getD (3 * k + 1) 0 * 10 + ds.getD (3 * k + 2) 0) := by
  induction n with
  | zero => omega
  | succ n ih =>
    simp only [ds3]
    by_cases hk : k < n
    · rw [← ih hk, List.getD, List.getElem?_append_left (by rw [ds3_len]; exact hk)]
      rfl
    · obtain rfl : k = n := by omega
      rw [List.getD, List.getElem?_append_right (by rw [ds3_len]; omega), ds3_len, Nat.sub_self]
      rfl
/-- Digits that are told. -/
def dso (ds : List Int) : Bool := decide (ds.length ≤ 33 ∧ ds.length % 3 = 0) && rng 0 9 ds
def dsL (ds : List Int) : List Int := if dso ds then ds3 ds (ds.length / 3) else []
set_option maxRecDepth 100000 in
set_option maxHeartbeats 4000000 in
theorem sDeclets_no (v : Value) (ds : List Int) (base : Nat) (w : World) (h : Has w base v ds) (hk : dso ds = false) :
    Calls Tryd.prog 10 #[v] w fun e w' => ∃ u, e = .returned (.tuple #[u, .bool false]) ∧ Has w' w.heap.size u [] ∧ Below w.heap.size w w' := by
  have HV : Hid (Has w base v ds) := h
  obtain ⟨a, ca, rfl, hmx⟩ := h.len
  have HN : Hid (Has (w.alloc (.cells #[] 2)) w.heap.size (.slice (some ⟨w.heap.size, 0, none⟩) 0 0) [] ∧ Below w.heap.size w (w.alloc (.cells #[] 2))) := ⟨none_own w, (Below.refl _ _).alloc (Nat.le_refl _) _⟩
  have HW : Hid (∀ o, Has (w.alloc o) base (.slice a ds.length ca) ds) := fun o => World.ownsRow.alloc HV.out o
  clear h HV
  by_cases h1 : 33 < ds.length
  · have h1' : (33 : Int) < (ds.length : Int) := by omega
    clear hk HW
    generalize ds.length = n at *
    go_enter Tryd.func10, Tryd.ntmps10
    go_wp2
    go_ret2
    exact ⟨_, rfl, HN.out⟩
  have h1' : ¬ (33 : Int) < (ds.length : Int) := by omega
  have hmd : Int.tmod (ds.length : Int) 3 = ((ds.length % 3 : Nat) : Int) := by rw [Int.tmod_eq_emod_of_nonneg (by omega)]; rfl
  by_cases h2 : ds.length % 3 = 0
  · have h3 : rng 0 9 ds = false := by
      unfold dso at hk
      rw [decide_eq_true ⟨by omega, h2⟩] at hk
      simpa using hk
    rw [h2] at hmd
    have HR : Hid (rng 0 9 ds = false) := h3
    clear hk h3 h2
    go_enter Tryd.func10, Tryd.ntmps10
    go_wp2_with fail
    refine (l1Digits_rng _ ds base _ (HW.out _)).mono ?_
    rintro e w1 ⟨rfl, rfl⟩
    rw [HR.out]
    clear HW
    go_wp2
    go_ret2
    exact ⟨_, rfl, HN.out⟩
  · have h2' : (((ds.length % 3 : Nat) : Int) == 0) = false := beq_eq_false_iff_ne.mpr (by omega)
    have h3 : 0 ≤ ((ds.length % 3 : Nat) : Int) ∧ ((ds.length % 3 : Nat) : Int) ≤ 2 := by omega
    have h4 : ¬ ((ds.length % 3 : Nat) : Int) = 0 := by omega
    clear hk HW h2
    generalize ((ds.length % 3 : Nat) : Int) = m at *
    generalize ds.length = n at *
    go_enter Tryd.func10, Tryd.ntmps10
    go_wp2
    go_ret2
    exact ⟨_, rfl, HN.out⟩
set_option maxRecDepth 100000 in
set_option maxHeartbeats 4000000 in
theorem sDeclets_yes (v : Value) (ds : List Int) (base : Nat) (w : World) (h : Has w base v ds) (hk : dso ds = true) :
    Calls Tryd.prog 10 #[v] w fun e w' => ∃ u, e = .returned (.tuple #[u, .bool true]) ∧ Has w' w.heap.size u (ds3 ds (ds.length / 3)) ∧ Below w.heap.size w w' := by
  obtain ⟨i0, hi, hz0, hz1, hz2⟩ := info_parts info64
  have hk' := hk
  unfold dso at hk'
  rw [Bool.and_eq_true] at hk'
  obtain ⟨h12, h3⟩ := hk'
  obtain ⟨h1, h2⟩ := of_decide_eq_true h12
  obtain ⟨M, hM⟩ : ∃ M, ds.length = 3 * M := ⟨ds.length / 3, by omega⟩
  rw [show ds.length / 3 = M by omega]
  have HV : Hid (Has w base v ds) := h
  have HR : Hid (rng 0 9 ds = true) := h3
  have HD : Hid (∀ i, 0 ≤ ds.getD i 0 ∧ ds.getD i 0 ≤ 9) := fun i => by
    by_cases hi : i < ds.length
    · have := List.all_eq_true.1 h3 (ds[i]) (List.getElem_mem hi)
      rw [List.getD, List.getElem?_eq_getElem hi]
      simpa using this
    · rw [List.getD, List.getElem?_eq_none (by omega)]; simp
  have HG : Hid (0 < M → ∃ g cap, v = .slice (some ⟨g, 0, none⟩) ds.length cap ∧ g < w.heap.size ∧ ∀ i, i < ds.length → w.cell? ⟨g, i, none⟩ = some (.int .i64 (ds.getD i 0))) := fun hp => by
    rcases h.form with ⟨-, e⟩ | ⟨g, cap, e, -, hgl, -, hc, -⟩
    · rw [e] at hM; simp at hM; omega
    · exact ⟨g, cap, e, hgl, hc⟩
  obtain ⟨a, ca, rfl, hmx⟩ := h.len
  have HN : Hid (HasN (w.alloc (.cells #[] 2)) w.heap.size (.slice (some ⟨w.heap.size, 0, none⟩) 0 0) [] ∧ Below w.heap.size w (w.alloc (.cells #[] 2))) := ⟨none_ownN w, (Below.refl _ _).alloc (Nat.le_refl _) _⟩
  have HW : Hid (∀ o, Has (w.alloc o) base (.slice a ds.length ca) ds) := fun o => World.ownsRow.alloc HV.out o
  have HS : Hid (∀ (k : Int) X, Calls Tryd.prog 6 #[.int .i64 k] X fun e w' => e = .returned (.int .i64 (dcl k)) ∧ w' = X) := fun k X => sDeclet_any k X
  have HL : Hid (∀ k, (ds3 ds k).length = k) := ds3_len ds
  have h1' : ¬ (33 : Int) < (ds.length : Int) := by omega
  have hmd : Int.tmod (ds.length : Int) 3 = 0 := by rw [Int.tmod_eq_emod_of_nonneg (by omega)]; omega
  have hm1 : ds.length ≤ 3 * M := by omega
  have hm2 : 3 * M ≤ ds.length := by omega
  have HZ : Hid (∀ o, Calls Tryd.prog 19 #[.slice a ds.length ca] (w.alloc o) fun e w' => e = .returned (.bool true) ∧ w' = w.alloc o) := fun o => by
    have := l1Digits_rng _ ds base _ (HW.out o)
    rw [HR.out] at this
    exact this
  clear h HV hk h12 h2 h3 hM HW HR
  generalize ds.length = n at *
  go_enter Tryd.func10, Tryd.ntmps10
  go_wp2_with fail
  refine (HZ.out _).mono ?_
  rintro e w1 ⟨rfl, rfl⟩
  clear HZ
  go_wp2
  go_loopw [4, 5] (fun o i wr => ∃ j : Nat, j ≤ M ∧ i = .int .i64 ((3 * j : Nat) : Int) ∧ Hid (HasN wr w.heap.size o (ds3 ds j)) ∧ Hid (Below w.heap.size w wr)) (fun _ i _ => n - (intOf i).toNat)
  case atStart => exact ⟨0, Nat.zero_le _, rfl, HN.out.1, HN.out.2⟩
  case round =>
    obtain ⟨j, hj, rfl, hown, hbel⟩ := hrel
    by_cases hlt : j < M
    · obtain ⟨g, cap, e, hgl, hc⟩ := HG.out (by omega)
      cases e
      obtain ⟨K, hK⟩ : ∃ K, 3 * j = K := ⟨_, rfl⟩
      have q0 := (hbel.out.cell (p := ⟨g, K, none⟩) hgl).trans (hc K (by omega))
      have q1 := (hbel.out.cell (p := ⟨g, K + 1, none⟩) hgl).trans (hc (K + 1) (by omega))
      have q2 := (hbel.out.cell (p := ⟨g, K + 2, none⟩) hgl).trans (hc (K + 2) (by omega))
      have d0 := HD.out K
      have d1 := HD.out (K + 1)
      have d2 := HD.out (K + 2)
      have HE : Hid (ds3 ds (j + 1) = ds3 ds j ++ [dcl (ds.getD K 0 * 100 + ds.getD (K + 1) 0 * 10 + ds.getD (K + 2) 0)]) := by rw [← hK]; rfl
      have hln := HL.out j
      generalize ds.getD K 0 = x0 at *
      generalize ds.getD (K + 1) 0 = x1 at *
      generalize ds.getD (K + 2) 0 = x2 at *
      generalize ds3 ds j = P0 at *
      have hsz := hbel.out.size
      have ag : u4.ownBlock ≠ some g := fun e => by have := hown.out.own g e; omega
      have hK1 : (K : Int) < (n : Int) := by omega
      have hK2 : (K : Int) + 1 < (n : Int) := by omega
      have hK3 : (K : Int) + 2 < (n : Int) := by omega
      have hw1 : IntKind.i64.wrap ((K : Int) + 1) = (K : Int) + 1 := by rw [IntKind.wrap_i64]; omega
      have hw2 : IntKind.i64.wrap ((K : Int) + 2) = (K : Int) + 2 := by rw [IntKind.wrap_i64]; omega
      have hw3 : IntKind.i64.wrap (x0 * 100) = x0 * 100 := by rw [IntKind.wrap_i64]; omega
      have hw4 : IntKind.i64.wrap (x1 * 10) = x1 * 10 := by rw [IntKind.wrap_i64]; omega
      have hw5 : IntKind.i64.wrap (x0 * 100 + x1 * 10) = x0 * 100 + x1 * 10 := by rw [IntKind.wrap_i64]; omega
      have hw6 : IntKind.i64.wrap (x0 * 100 + x1 * 10 + x2) = x0 * 100 + x1 * 10 + x2 := by rw [IntKind.wrap_i64]; omega
      have hp0 : (0 : Int) ≤ (K : Int) := by omega
      have hp1 : (0 : Int) ≤ (K : Int) + 1 := by omega
      have hp2 : (0 : Int) ≤ (K : Int) + 2 := by omega
      have ht1 : ((K : Int) + 1).toNat = K + 1 := by omega
      have ht2 : ((K : Int) + 2).toNat = K + 2 := by omega
      rw [hK]
      have HK : Hid (3 * j = K) := hK
      clear hK hc
      have HX : Hid (∀ X, Calls Tryd.prog 6 #[.int .i64 (x0 * 100 + x1 * 10 + x2)] X fun e w' => e = .returned (.int .i64 (dcl (x0 * 100 + x1 * 10 + x2))) ∧ w' = X) := fun X => HS.out _ X
      generalize dcl (x0 * 100 + x1 * 10 + x2) = D at *
      go_upto_region 7 with fail
      go_region_held3 (fun W => W.cell? ⟨g, K, none⟩ = some (.int .i64 x0) ∧ W.cell? ⟨g, K + 1, none⟩ = some (.int .i64 x1) ∧ W.cell? ⟨g, K + 2, none⟩ = some (.int .i64 x2))
        (first | go_keep | (go_split_ands; refine ⟨?_, ?_, ?_⟩ <;> (rw [hgrow.cell_far _ (by simp; omega) (Ne.symm ag)]; assumption)))
        (first
          | (go_at_call 6; refine (HX.out _).mono ?_; rintro e w' ⟨rfl, rfl⟩)
          | (refine step_append_lies _ (by rfl) _ _ _ (by rfl) w.heap.size 2 i0 _ 1 8 Tryd.underlying24 hi hz0 hz1 hz2 rfl (by omega) u4 P0.length (P0.map (Value.int .i64)) (by rfl) ((World.ownsRow.alloc hown.out.1 _).drew)
              ⟨wr.heap.size, 0, none⟩ 1 1 [.int .i64 D] (by rfl) (by rfl) (World.news_of_block (cs := #[.int .i64 D]) (t := 2) (fr := (0, 0)) (heap_alloc_new wr _)) (by simp [Value.oneCell'])
              (by omega) (by unfold maxLen; omega) (by omega) (by simp; omega) (wr.heap.size + 1) (by simp) ?_; intro gg cap' w1 hown1 hgrow hat hgl1))
      have HO : Hid (HasN w1 w.heap.size (.slice (some ⟨gg, 0, none⟩) (P0.length + 1) cap') (ds3 ds (j + 1))) := by
        refine ⟨?_, by simp⟩
        unfold Has
        rw [HE.out]
        simpa using hown1
      have HB : Hid (Below w.heap.size w w1) := Below.grown ((hbel.out.alloc hsz _).drew) hgrow (by simp; omega) (fun k hk => hown.out.own k hk)
      clear hown1 hgrow hat hgl1 q0 q1 q2
      go_wp2
      go_roundw
      case rel => exact ⟨j + 1, by omega, Ln.val_int (by have := HK.out; omega), by have := HO; rw [hln] at this; exact this, HB⟩
      case measure => simp [intOf]; omega
    · obtain rfl : j = M := by omega
      have hnl : ¬ (((3 * j : Nat) : Int) < (n : Int)) := by omega
      go_wp2
      go_ret2
      exact ⟨_, rfl, hown.out.1, hbel.out⟩
theorem sDeclets_any (v : Value) (ds : List Int) (base : Nat) (w : World) (h : Has w base v ds) :
    Calls Tryd.prog 10 #[v] w fun e w' => ∃ u, e = .returned (.tuple #[u, .bool (dso ds)]) ∧ Has w' w.heap.size u (dsL ds) ∧ Below w.heap.size w w' := by
  cases hk : dso ds with
  | false =>
    rw [show dsL ds = [] by unfold dsL; rw [hk]; rfl]
    exact sDeclets_no v ds base w h hk
  | true =>
    rw [show dsL ds = ds3 ds (ds.length / 3) by unfold dsL; rw [hk]; rfl]
    exact sDeclets_yes v ds base w h hk
end Go.Proofs.YtmeicjbeibmmganDoor
