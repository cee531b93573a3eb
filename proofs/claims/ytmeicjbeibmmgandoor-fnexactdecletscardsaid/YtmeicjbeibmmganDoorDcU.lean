/-
  The program's Declets, walked.
-/
import Derived.Test.YtmeicjbeibmmganDoorDcV
import Derived.Test.YtmeicjbeibmmganDoorApp
namespace Go.Proofs.YtmeicjbeibmmganDoor
open Go.RowKit
set_option linter.unusedVariables false
theorem dso_parts (ds : List Int) (hk : dso ds = true) : ds.length ≤ 33 ∧ ds.length % 3 = 0 ∧ rng 0 9 ds = true := by
  unfold dso at hk
  rw [Bool.and_eq_true] at hk
  have h := of_decide_eq_true hk.1
  exact ⟨h.1, h.2, hk.2⟩
theorem rng_dig (ds : List Int) (h3 : rng 0 9 ds = true) (i : Nat) : 0 ≤ ds.getD i 0 ∧ ds.getD i 0 ≤ 9 := by
  by_cases hi : i < ds.length
  · exact rng_at _ _ ds h3 i hi
  · rw [List.getD, List.getElem?_eq_none (by omega)]; simp
set_option maxRecDepth 100000 in
set_option maxHeartbeats 4000000 in
theorem iDeclets_yes (g o ca : Nat) (ds : List Int) (w : World) (ht : Tabs w) (h : Lies w g o ds) (hg : g < w.heap.size) (hca : ds.length ≤ ca) (hcm : ca ≤ 9223372036854775807) (hk : dso ds = true) :
    Calls Tryd.prog 12 #[.slice (some ⟨g, o, none⟩) ds.length ca] w fun e w' => ∃ u, e = .returned (.tuple #[u, .bool true]) ∧ HasN w' w.heap.size u (ds3 ds (ds.length / 3)) ∧ Below w.heap.size w w' := by
  obtain ⟨i0, hi, hz0, hz1, hz2⟩ := info_parts info64
  obtain ⟨h1, h2, h3⟩ := dso_parts ds hk
  obtain ⟨M, hM⟩ : ∃ M, ds.length = 3 * M := ⟨ds.length / 3, by omega⟩
  rw [show ds.length / 3 = M by omega]
  have HD : Hid (∀ i, 0 ≤ ds.getD i 0 ∧ ds.getD i 0 ≤ 9) := rng_dig ds h3
  have HG : Hid (∀ i, i < ds.length → w.cell? ⟨g, o + i, none⟩ = some (.int .i64 (ds.getD i 0))) := h
  have HL : Hid (∀ k, (ds3 ds k).length = k) := ds3_len ds
  have HT : Hid (Tabs w) := ht
  have HA : Hid (Calls Tryd.prog 20 #[.slice (some ⟨g, o, none⟩) ds.length ca, .int .i64 0, .int .i64 9] w fun e w' => e = .returned (.bool true) ∧ w' = w) := by
    have := allWithin_at g o ca ds 0 9 w h (by omega)
    rw [h3] at this
    exact this
  obtain ⟨w1, hrun, hown, hgrow⟩ := run_make_own (P := Tryd.prog) w w.heap.size 24 2 i0 (.int .i64 0) 1 Tryd.underlying24 hi hz0 hz1 .i64 .i64 M (by rw [hz2]; omega) (by unfold maxLen; omega) (Nat.le_refl _)
  have HN : Hid (HasN w1 w.heap.size (.slice (some ⟨w.heap.size, 0, none⟩) 0 M) [] ∧ Below w.heap.size w w1) := ⟨⟨hown, by simp⟩, Below.grown (Below.refl _ _) hgrow (Nat.le_refl _) (fun k hk => by cases hk)⟩
  have h1' : ¬ (33 : Int) < (ds.length : Int) := by omega
  have hmd : Int.tmod (ds.length : Int) 3 = 0 := by rw [Int.tmod_eq_emod_of_nonneg (by omega)]; omega
  have hdv : Int.tdiv (ds.length : Int) 3 = (M : Int) := by rw [Int.tdiv_eq_ediv_of_nonneg (by omega)]; omega
  have hm1 : ds.length ≤ 3 * M := by omega
  have hm2 : 3 * M ≤ ds.length := by omega
  clear h hk h2 h3 hM ht hown hgrow
  generalize ds.length = n at *
  go_enter Tryd.func12, Tryd.ntmps12
  go_wp2_with fail
  refine HA.out.mono ?_
  rintro e w2 ⟨rfl, hw⟩
  subst hw
  go_wp2
  clear HA hrun hmd hdv
  go_loopw [4, 5] (fun u i wr => ∃ j : Nat, j ≤ M ∧ i = .int .i64 ((3 * j : Nat) : Int) ∧ Hid (HasN wr w2.heap.size u (ds3 ds j)) ∧ Hid (Below w2.heap.size w2 wr)) (fun _ i _ => n - (intOf i).toNat)
  case atStart => exact ⟨0, Nat.zero_le _, rfl, HN.out.1, HN.out.2⟩
  case round =>
    obtain ⟨j, hj, rfl, hown, hbel⟩ := hrel
    by_cases hlt : j < M
    · obtain ⟨K, hK⟩ : ∃ K, 3 * j = K := ⟨_, rfl⟩
      have q0 := (hbel.out.cell (p := ⟨g, o + K, none⟩) hg).trans (HG.out K (by omega))
      have q1 := (hbel.out.cell (p := ⟨g, o + (K + 1), none⟩) hg).trans (HG.out (K + 1) (by omega))
      have q2 := (hbel.out.cell (p := ⟨g, o + (K + 2), none⟩) hg).trans (HG.out (K + 2) (by omega))
      have d0 := HD.out K
      have d1 := HD.out (K + 1)
      have d2 := HD.out (K + 2)
      have HE : Hid (ds3 ds (j + 1) = ds3 ds j ++ [dcl (ds.getD K 0 * 100 + ds.getD (K + 1) 0 * 10 + ds.getD (K + 2) 0)]) := by rw [← hK]; rfl
      have hln := HL.out j
      generalize ds.getD K 0 = x0 at *
      generalize ds.getD (K + 1) 0 = x1 at *
      generalize ds.getD (K + 2) 0 = x2 at *
      generalize ds3 ds j = P0 at *
      have hsz := hbel.out.size
      have hK1 : (K : Int) < (n : Int) := by omega
      have hK2 : (K : Int) + 3 ≤ (n : Int) := by omega
      have hK3 : ¬ (ca : Int) < (K : Int) + 3 := by omega
      have hK4 : ¬ ca = K := by omega
      have hK5 : ¬ (ca : Int) = (K : Int) := by omega
      have HW : Hid (∀ c, Calls Tryd.prog 21 #[.slice (some ⟨g, o + K, none⟩) 3 c] wr fun e w' => e = .returned (.tuple #[.int .i64 (x0 * 100 + x1 * 10 + x2), .bool true]) ∧ w' = wr) := fun c => weight3 g (o + K) c x0 x1 x2 wr d0 d1 d2 q0 q1 q2
      have HDc : Hid (Calls Tryd.prog 7 #[.int .i64 (x0 * 100 + x1 * 10 + x2)] wr fun e w' => e = .returned (.int .i64 (dcl (x0 * 100 + x1 * 10 + x2))) ∧ Below wr.heap.size wr w') := (HT.out.below hbel.out (Nat.le_refl _)).declet _
      rw [hK]
      have HK : Hid (3 * j = K) := hK
      clear hK q0 q1 q2
      generalize dcl (x0 * 100 + x1 * 10 + x2) = D at *
      go_wp2_with fail
      refine (HW.out _).mono ?_
      rintro e w3 ⟨rfl, hw⟩
      subst hw
      go_wp2_with fail
      refine HDc.out.mono ?_
      rintro e w4 ⟨rfl, hb4⟩
      have hown4 := hown.out.below hb4 (Nat.le_refl _)
      have hbel4 : Hid (Below w2.heap.size w2 w4) := hbel.out.trans (hb4.mono hsz)
      have hsz4 := hbel4.out.size
      clear hown hbel hb4 HW HDc
      go_wp2_with (first | (at_builtin; refine wpList_app rfl _ _ rfl _ _ rfl rfl w2.heap.size w4.heap.size P0 [D] (hown4.alloc _) (one_ownN w4 D) (by simp; omega) (by simp <;> omega) ?_) | go_in)
      intro v6 w6 h6 hb6
      have H6 : Hid (HasN w6 w2.heap.size v6 (ds3 ds (j + 1))) := by rw [HE.out]; exact h6
      have HB6 : Hid (Below w2.heap.size w2 w6) := hb6.out _ _ (hbel4.out.alloc hsz4 _) (Nat.le_refl _)
      clear h6 hb6 HE hown4 hbel4
      go_wp2
      go_roundw
      case rel => exact ⟨j + 1, by omega, Ln.val_int (by have := HK.out; omega), H6, HB6⟩
      case measure => simp [intOf]; omega
    · obtain rfl : j = M := by omega
      have hnl : ¬ (((3 * j : Nat) : Int) < (n : Int)) := by omega
      go_wp2
      go_ret2
      exact ⟨_, rfl, hown.out, hbel.out⟩
set_option maxRecDepth 100000 in
set_option maxHeartbeats 4000000 in
theorem iDeclets_no (g o ca : Nat) (ds : List Int) (w : World) (h : Lies w g o ds) (hl : ds.length ≤ 9223372036854775807) (hk : dso ds = false) :
    Calls Tryd.prog 12 #[.slice (some ⟨g, o, none⟩) ds.length ca] w fun e w' => ∃ u, e = .returned (.tuple #[u, .bool false]) ∧ Has w' w.heap.size u [] ∧ Below w.heap.size w w' := by
  have HO : Hid (Has (w.alloc (.cells #[] 2)) w.heap.size (.slice (some ⟨w.heap.size, 0, none⟩) 0 0) [] ∧ Below w.heap.size w (w.alloc (.cells #[] 2))) := ⟨none_own w, (Below.refl _ _).alloc (Nat.le_refl _) _⟩
  by_cases h33 : 33 < ds.length
  · have h33' : (33 : Int) < (ds.length : Int) := by omega
    clear h hk
    go_enter Tryd.func12, Tryd.ntmps12
    go_wp2
    go_ret2
    exact ⟨_, rfl, HO.out.1, HO.out.2⟩
  have h33' : ¬ (33 : Int) < (ds.length : Int) := by omega
  have hme : Int.tmod (ds.length : Int) 3 = (ds.length : Int) % 3 := Int.tmod_eq_emod_of_nonneg (by omega)
  by_cases hm : ds.length % 3 = 0
  · have hm' : (ds.length : Int) % 3 = 0 := by omega
    have hr : rng 0 9 ds = false := by
      unfold dso at hk
      rw [decide_eq_true ⟨by omega, hm⟩] at hk
      simpa using hk
    have HA : Hid (Calls Tryd.prog 20 #[.slice (some ⟨g, o, none⟩) ds.length ca, .int .i64 0, .int .i64 9] w fun e w' => e = .returned (.bool false) ∧ w' = w) := by
      have := allWithin_at g o ca ds 0 9 w h (by omega)
      rw [hr] at this
      exact this
    rw [hm'] at hme
    clear h hk hm hr hm'
    generalize ds.length = n at *
    go_enter Tryd.func12, Tryd.ntmps12
    go_wp2_with fail
    refine HA.out.mono ?_
    rintro e w2 ⟨rfl, hw⟩
    subst hw
    go_wp2
    go_ret2
    exact ⟨_, rfl, HO.out.1, HO.out.2⟩
  · have hm' : ((ds.length : Int) % 3 == 0) = false := beq_eq_false_iff_ne.2 (by omega)
    have h3 : 0 ≤ (ds.length : Int) % 3 ∧ (ds.length : Int) % 3 ≤ 2 := by omega
    have h4 : ¬ (ds.length : Int) % 3 = 0 := by omega
    clear h hk hm
    generalize (ds.length : Int) % 3 = q at *
    generalize ds.length = n at *
    go_enter Tryd.func12, Tryd.ntmps12
    go_wp2
    go_ret2
    exact ⟨_, rfl, HO.out.1, HO.out.2⟩
theorem iDeclets_nil (w : World) (ht : Tabs w) :
    Calls Tryd.prog 12 #[.slice none 0 0] w fun e w' => ∃ u, e = .returned (.tuple #[u, .bool true]) ∧ HasN w' w.heap.size u [] ∧ Below w.heap.size w w' := by
  obtain ⟨i0, hi, hz0, hz1, hz2⟩ := info_parts info64
  obtain ⟨w1, hrun, hown, hgrow⟩ := run_make_own (P := Tryd.prog) w w.heap.size 24 2 i0 (.int .i64 0) 1 Tryd.underlying24 hi hz0 hz1 .i64 .i64 0 (by rw [hz2]; decide) (by unfold maxLen; decide) (Nat.le_refl _)
  have HN : Hid (HasN w1 w.heap.size (.slice (some ⟨w.heap.size, 0, none⟩) 0 0) [] ∧ Below w.heap.size w w1) := ⟨⟨hown, by simp⟩, Below.grown (Below.refl _ _) hgrow (Nat.le_refl _) (fun k hk => by cases hk)⟩
  have hrun' : (Instr.makeSlice 24 (.int .i64 0) (.int .i64 0)).run Tryd.prog w = .ok (.slice (some ⟨w.heap.size, 0, none⟩) 0 0) w1 := hrun
  have HA : Hid (Calls Tryd.prog 20 #[.slice none 0 0, .int .i64 0, .int .i64 9] w fun e w' => e = .returned (.bool true) ∧ w' = w) := allWithin_any _ [] 0 9 w.heap.size w ⟨rfl, .inl ⟨rfl, rfl⟩⟩
  clear ht hown hgrow hrun
  go_enter Tryd.func12, Tryd.ntmps12
  go_wp2_with fail
  refine HA.out.mono ?_
  rintro e w2 ⟨rfl, hw⟩
  subst hw
  go_wp2
  go_loopw [4, 5] (fun u i wr => i = .int .i64 0 ∧ wr = w1 ∧ u = .slice (some ⟨w2.heap.size, 0, none⟩) 0 0) (fun _ _ _ => 0)
  case atStart => exact ⟨rfl, rfl, rfl⟩
  case round =>
    obtain ⟨rfl, rfl, rfl⟩ := hrel
    go_wp2
    go_ret2
    exact ⟨_, rfl, HN.out.1, HN.out.2⟩
theorem iDeclets_any (v : Value) (ds : List Int) (base : Nat) (w : World) (ht : Tabs w) (h : Has w base v ds) :
    Calls Tryd.prog 12 #[v] w fun e w' => ∃ u, e = .returned (.tuple #[u, .bool (dso ds)]) ∧ Has w' w.heap.size u (dsL ds) ∧ Below w.heap.size w w' := by
  have h' := h
  obtain ⟨hl, h'⟩ := h'
  rcases h' with ⟨e, he⟩ | ⟨g, cap, cur, e, hg, hc, hn, hm, hs, _⟩
  · obtain rfl : ds = [] := List.length_eq_zero_iff.1 (by simpa using he)
    subst e
    exact (iDeclets_nil w ht).mono fun e w' ⟨u, e1, hu, hb⟩ => ⟨u, e1, hu.1, hb⟩
  · rcases h.form with ⟨e', he'⟩ | ⟨g2, cap2, e', _, hgl, hmx, hca, _⟩
    · rw [e] at e'; cases e'
    · rw [e] at e'
      cases e'
      have hL : Lies w g 0 ds := fun i hi => by rw [Nat.zero_add]; exact hca i hi
      unfold maxLen at hm
      subst e
      cases hk : dso ds with
      | false =>
        rw [show dsL ds = [] by unfold dsL; rw [hk]; rfl]
        exact iDeclets_no g 0 cap ds w hL hmx hk
      | true =>
        rw [show dsL ds = ds3 ds (ds.length / 3) by unfold dsL; rw [hk]; rfl]
        exact (iDeclets_yes g 0 cap ds w ht hL hgl hn (by omega) hk).mono fun e w' ⟨u, e1, hu, hb⟩ => ⟨u, e1, hu.1, hb⟩
theorem dsL_length (ds : List Int) : (dsL ds).length ≤ 41 := by
  cases hk : dso ds with
  | false => unfold dsL; rw [hk]; simp
  | true =>
    obtain ⟨h1, h2, h3⟩ := dso_parts ds hk
    unfold dsL; rw [hk, if_pos rfl, ds3_len]; omega
end Go.Proofs.YtmeicjbeibmmganDoor
