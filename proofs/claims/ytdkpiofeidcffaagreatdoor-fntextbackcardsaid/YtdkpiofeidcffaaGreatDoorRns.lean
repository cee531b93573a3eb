/-
  ReadNum of the model, walked.
-/
import Derived.Test.YtdkpiofeidcffaaGreatDoorRnh
import Derived.Test.YtdkpiofeidcffaaGreatDoorFinB
import Derived.Test.YtdkpiofeidcffaaGreatDoorFinP
import Derived.Test.YtdkpiofeidcffaaGreatDoorRnd2
import Derived.Test.YtdkpiofeidcffaaGreatDoorSmA
import Derived.Test.YtdkpiofeidcffaaGreatDoorTxt
namespace Go.Proofs.YtdkpiofeidcffaaGreatDoor
open Go.RowKit
set_option linter.unusedVariables false
set_option maxRecDepth 100000
set_option linter.unusedSimpArgs false
theorem build_num1 (k : Int) (w : World) : (Instr.build 25 #[(0, .int .i64 k)]).run Tryz.prog w = .ok (numV k false 0 { data := #[] }) w := run_build w _ _ _ (by kernel_rfl)
theorem ne_empty (s : ByteArray) (h : 0 < s.size) : s.toList.isEmpty = false := by
  cases hc : s.toList.isEmpty with
  | false => rfl
  | true =>
    rw [ByteArray.toList_eq, List.isEmpty_iff] at hc
    have : s.data.toList.length = s.size := Array.length_toList
    rw [hc] at this
    simp at this
    omega
theorem is45 (b : UInt8) : ((b.toNat : Int) == 45) = decide (b = 45) := by
  by_cases h : b = 45
  · subst h; rfl
  · rw [decide_eq_false h]
    exact beq_eq_false_iff_ne.2 (fun q => h (UInt8.toNat_inj.1 (by show b.toNat = 45; omega)))
theorem limP_no (f : Int) (h : ¬ (f = 64 ∨ f = 128)) : limP f = 0 := by unfold limP; rw [if_neg (fun q => h (.inl q)), if_neg (fun q => h (.inr q))]
theorem limP_yes (f : Int) (h : f = 64 ∨ f = 128) : limP f = 16 ∨ limP f = 34 := by
  rcases h with rfl | rfl
  · exact .inl rfl
  · exact .inr rfl
set_option maxRecDepth 100000 in
set_option maxHeartbeats 4000000 in
theorem sReadNum_no (f m : Int) (s : ByteArray) (w : World) (hs : s.size ≤ 4611686018427387904) (h : ¬ ((f = 64 ∨ f = 128) ∧ (1 ≤ m ∧ m ≤ 5) ∧ s.size ≤ 200)) :
    Calls Tryz.prog 13 #[.int .i64 f, .int .i64 m, .string s] w fun e w' => e = .returned (.tuple #[rsV 0 false 0 { data := #[] } 0, .bool false]) ∧ Below w.heap.size w w' := by
  by_cases hf : f = 64 ∨ f = 128
  · obtain ⟨p, hp, hp0⟩ : ∃ p, limP f = p ∧ p ≠ 0 := ⟨_, rfl, by rcases limP_yes f hf with q | q <;> rw [q] <;> decide⟩
    have HL : Hid (∀ X, Calls Tryz.prog 22 #[.int .i64 f] X fun r w' => r = .returned (.tuple #[.int .i64 p, .int .i64 (limL f), .int .i64 (limH f)]) ∧ w' = X) := fun X => by rw [← hp]; exact Limits_any f X
    by_cases hm : 1 ≤ m ∧ m ≤ 5
    · have HMo : Hid (∀ X, Calls Tryz.prog 34 #[.int .i64 m] X fun x w' => x = .returned (.bool true) ∧ w' = X) := fun X => by have := l12Mode_any m X; rwa [decide_eq_true hm] at this
      have hz : (200 : Int) < (s.size : Int) := by
        rcases Nat.lt_or_ge 200 s.size with q | q
        · omega
        · exact absurd ⟨hf, hm, q⟩ h
      clear hm hf h hp
      have HY : Hid (At5 (w.alloc (.cells #[.int .i64 0, .bool false, .int .i64 0, .string { data := #[] }, .int .i64 0] 30)) w.heap.size (.int .i64 0) (.bool false) (.int .i64 0) (.string { data := #[] }) (.int .i64 0) ∧ Below w.heap.size w (w.alloc (.cells #[.int .i64 0, .bool false, .int .i64 0, .string { data := #[] }, .int .i64 0] 30))) := ⟨at5_new w (.int .i64 0) (.bool false) (.int .i64 0) (.string { data := #[] }) (.int .i64 0), (Below.refl _ _).alloc (Nat.le_refl _) _⟩
      have hB := build_resZ
      go_enter Tryz.func13, Tryz.ntmps13
      go_wp2_with fail
      refine (HL.out _).mono ?_
      rintro e w1 ⟨rfl, hw⟩
      subst hw
      go_wp2_with fail
      refine (HMo.out _).mono ?_
      rintro e w1 ⟨rfl, hw⟩
      subst hw
      go_upto_region 3 with fail
      generalize w.alloc (.cells #[.int .i64 0, .bool false, .int .i64 0, .string { data := #[] }, .int .i64 0] 30) = w2 at *
      go_wp2_with (refine wpList_store_row rfl 30 (.tmp 6) (.tmp 37) rfl w.heap.size #[.int .i64 0, .bool false, .int .i64 0, .string { data := #[] }, .int .i64 0] rfl rfl _ _ HY.out.1 (by kernel_rfl) rfl (one5 _ _ _ _ _) ?_)
      have hP := (HY.out.1.row (.int .i64 0) (.bool false) (.int .i64 0) (.string { data := #[] }) (.int .i64 0)).cells
      (try simp only [Exit.inBlock, Exit.then])
      refine bodyPost_ret (results_rsb rfl _ _ rfl hP.1 hP.2.1 hP.2.2.1 hP.2.2.2.1 hP.2.2.2.2.1) rfl ?_
      exact ⟨rfl, bel_row HY.out.2 (Nat.le_refl _) _⟩
    · have HMo : Hid (∀ X, Calls Tryz.prog 34 #[.int .i64 m] X fun x w' => x = .returned (.bool false) ∧ w' = X) := fun X => by have := l12Mode_any m X; rwa [decide_eq_false hm] at this
      clear hm hf h hp
      have HY : Hid (At5 (w.alloc (.cells #[.int .i64 0, .bool false, .int .i64 0, .string { data := #[] }, .int .i64 0] 30)) w.heap.size (.int .i64 0) (.bool false) (.int .i64 0) (.string { data := #[] }) (.int .i64 0) ∧ Below w.heap.size w (w.alloc (.cells #[.int .i64 0, .bool false, .int .i64 0, .string { data := #[] }, .int .i64 0] 30))) := ⟨at5_new w (.int .i64 0) (.bool false) (.int .i64 0) (.string { data := #[] }) (.int .i64 0), (Below.refl _ _).alloc (Nat.le_refl _) _⟩
      have hB := build_resZ
      go_enter Tryz.func13, Tryz.ntmps13
      go_wp2_with fail
      refine (HL.out _).mono ?_
      rintro e w1 ⟨rfl, hw⟩
      subst hw
      go_wp2_with fail
      refine (HMo.out _).mono ?_
      rintro e w1 ⟨rfl, hw⟩
      subst hw
      go_upto_region 3 with fail
      generalize w.alloc (.cells #[.int .i64 0, .bool false, .int .i64 0, .string { data := #[] }, .int .i64 0] 30) = w2 at *
      go_wp2_with (refine wpList_store_row rfl 30 (.tmp 6) (.tmp 37) rfl w.heap.size #[.int .i64 0, .bool false, .int .i64 0, .string { data := #[] }, .int .i64 0] rfl rfl _ _ HY.out.1 (by kernel_rfl) rfl (one5 _ _ _ _ _) ?_)
      have hP := (HY.out.1.row (.int .i64 0) (.bool false) (.int .i64 0) (.string { data := #[] }) (.int .i64 0)).cells
      (try simp only [Exit.inBlock, Exit.then])
      refine bodyPost_ret (results_rsb rfl _ _ rfl hP.1 hP.2.1 hP.2.2.1 hP.2.2.2.1 hP.2.2.2.2.1) rfl ?_
      exact ⟨rfl, bel_row HY.out.2 (Nat.le_refl _) _⟩
  · have HL : Hid (∀ X, Calls Tryz.prog 22 #[.int .i64 f] X fun r w' => r = .returned (.tuple #[.int .i64 0, .int .i64 (limL f), .int .i64 (limH f)]) ∧ w' = X) := fun X => by have := Limits_any f X; rwa [limP_no f hf] at this
    clear hf h
    have HY : Hid (At5 (w.alloc (.cells #[.int .i64 0, .bool false, .int .i64 0, .string { data := #[] }, .int .i64 0] 30)) w.heap.size (.int .i64 0) (.bool false) (.int .i64 0) (.string { data := #[] }) (.int .i64 0) ∧ Below w.heap.size w (w.alloc (.cells #[.int .i64 0, .bool false, .int .i64 0, .string { data := #[] }, .int .i64 0] 30))) := ⟨at5_new w (.int .i64 0) (.bool false) (.int .i64 0) (.string { data := #[] }) (.int .i64 0), (Below.refl _ _).alloc (Nat.le_refl _) _⟩
    have hB := build_resZ
    go_enter Tryz.func13, Tryz.ntmps13
    go_wp2_with fail
    refine (HL.out _).mono ?_
    rintro e w1 ⟨rfl, hw⟩
    subst hw
    go_upto_region 3 with fail
    generalize w.alloc (.cells #[.int .i64 0, .bool false, .int .i64 0, .string { data := #[] }, .int .i64 0] 30) = w2 at *
    go_wp2_with (refine wpList_store_row rfl 30 (.tmp 6) (.tmp 37) rfl w.heap.size #[.int .i64 0, .bool false, .int .i64 0, .string { data := #[] }, .int .i64 0] rfl rfl _ _ HY.out.1 (by kernel_rfl) rfl (one5 _ _ _ _ _) ?_)
    have hP := (HY.out.1.row (.int .i64 0) (.bool false) (.int .i64 0) (.string { data := #[] }) (.int .i64 0)).cells
    (try simp only [Exit.inBlock, Exit.then])
    refine bodyPost_ret (results_rsb rfl _ _ rfl hP.1 hP.2.1 hP.2.2.1 hP.2.2.2.1 hP.2.2.2.2.1) rfl ?_
    exact ⟨rfl, bel_row HY.out.2 (Nat.le_refl _) _⟩
set_option maxRecDepth 100000 in
set_option maxHeartbeats 4000000 in
theorem sReadNum_yes (f m : Int) (s : ByteArray) (w : World) (hf : f = 64 ∨ f = 128) (hm : 1 ≤ m ∧ m ≤ 5) (hs : s.size ≤ 200) :
    Calls Tryz.prog 13 #[.int .i64 f, .int .i64 m, .string s] w fun e w' => e = .returned (rdSt f m (sgn s.data.toList) (unS s.data.toList)) ∧ Below w.heap.size w w' := by
  obtain ⟨p, hp, hp0⟩ : ∃ p, limP f = p ∧ p ≠ 0 := ⟨_, rfl, by rcases limP_yes f hf with q | q <;> rw [q] <;> decide⟩
  have HL : Hid (∀ X, Calls Tryz.prog 22 #[.int .i64 f] X fun r w' => r = .returned (.tuple #[.int .i64 p, .int .i64 (limL f), .int .i64 (limH f)]) ∧ w' = X) := fun X => by rw [← hp]; exact Limits_any f X
  have HMo : Hid (∀ X, Calls Tryz.prog 34 #[.int .i64 m] X fun x w' => x = .returned (.bool true) ∧ w' = X) := fun X => by have := l12Mode_any m X; rwa [decide_eq_true hm] at this
  have hz : ¬ (200 : Int) < (s.size : Int) := by omega
  have hpb : (p == 0) = false := beq_eq_false_iff_ne.2 hp0
  have HM : Hid ((f = 64 ∨ f = 128) ∧ (1 ≤ m ∧ m ≤ 5)) := ⟨hf, hm⟩
  have hun : ∃ SB : Bool, (SB = false ∧ unS s.data.toList = s.data.toList ∧ sgn s.data.toList = false ∧ (s.size = 0 ∨ ∃ h : 0 < s.size, ¬ s[0] = 43 ∧ ¬ s[0] = 45)) ∨ (SB = true ∧ ∃ h : 0 < s.size, (s[0] = 43 ∨ s[0] = 45) ∧ unS s.data.toList = (s.extract 1 s.size).data.toList ∧ sgn s.data.toList = decide (s[0] = 45)) := by
    rcases unS_bytes s with ⟨h1, h2, h3⟩ | ⟨h0, ⟨h1, h2, h3⟩ | ⟨h1, h2, h3⟩⟩
    · exact ⟨false, .inl ⟨rfl, h2, h3, .inl h1⟩⟩
    · exact ⟨true, .inr ⟨rfl, h0, h1, h2, h3⟩⟩
    · exact ⟨false, .inl ⟨rfl, h2, h3, .inr ⟨h0, fun q => h1 (.inl q), fun q => h1 (.inr q)⟩⟩⟩
  obtain ⟨SB, hun⟩ := hun
  obtain ⟨An, hAn⟩ : ∃ An, rdSt f m (sgn s.data.toList) (unS s.data.toList) = An := ⟨_, rfl⟩
  have HAn : Hid (rdSt f m (sgn s.data.toList) (unS s.data.toList) = An) := hAn
  rw [hAn]
  clear hm hf hp hAn
  have HY : Hid (At5 (w.alloc (.cells #[.int .i64 0, .bool false, .int .i64 0, .string { data := #[] }, .int .i64 0] 30)) w.heap.size (.int .i64 0) (.bool false) (.int .i64 0) (.string { data := #[] }) (.int .i64 0) ∧ Below w.heap.size w (w.alloc (.cells #[.int .i64 0, .bool false, .int .i64 0, .string { data := #[] }, .int .i64 0] 30))) := ⟨at5_new w (.int .i64 0) (.bool false) (.int .i64 0) (.string { data := #[] }) (.int .i64 0), (Below.refl _ _).alloc (Nat.le_refl _) _⟩
  go_enter Tryz.func13, Tryz.ntmps13
  go_wp2_with fail
  refine (HL.out _).mono ?_
  rintro e w1 ⟨rfl, hw⟩
  subst hw
  go_wp2_with fail
  refine (HMo.out _).mono ?_
  rintro e w1 ⟨rfl, hw⟩
  subst hw
  go_upto_region 6 with fail
  clear HL HMo hp0 hz hpb
  generalize w.alloc (.cells #[.int .i64 0, .bool false, .int .i64 0, .string { data := #[] }, .int .i64 0] 30) = w2 at *
  go_cut [50] (fun b wx => b = .bool SB ∧ w2 = wx)
  case first =>
    have n0 : ∀ b : UInt8, ¬ b = 43 → ¬ (b.toNat : Int) = 43 := fun b h q => h (UInt8.toNat_inj.1 (by show b.toNat = 43; omega))
    have n1 : ∀ b : UInt8, ¬ b = 45 → ¬ (b.toNat : Int) = 45 := fun b h q => h (UInt8.toNat_inj.1 (by show b.toNat = 45; omega))
    rcases hun with ⟨rfl, -, -, h0 | ⟨h0, h1, h2⟩⟩ | ⟨rfl, h0, h1, -, -⟩
    · obtain rfl : s = { data := #[] } := by
        apply ByteArray.ext
        exact Array.eq_empty_of_size_eq_zero h0
      clear n0 n1 h0 HAn
      go_wp2
      go_meet
      case rel => exact ⟨rfl, rfl⟩
    · have he : s.toList.isEmpty = false := ne_empty s h0
      have k1 := n0 _ h1
      have k2 := n1 _ h2
      clear n0 n1 h1 h2 HAn
      go_wp2
      go_meet
      case rel => exact ⟨congrArg Value.bool (by rw [beq_eq_false_iff_ne.2 k1, beq_eq_false_iff_ne.2 k2]; rfl), rfl⟩
    · have he : s.toList.isEmpty = false := ne_empty s h0
      rcases h1 with q | q
      · have k1 : (s[0].toNat : Int) = 43 := by rw [q]; rfl
        clear n0 n1 q HAn
        go_wp2
        go_meet
        case rel => exact ⟨rfl, rfl⟩
      · have k1 : (s[0].toNat : Int) = 45 := by rw [q]; rfl
        clear n0 n1 q HAn
        go_wp2
        go_meet
        case rel => exact ⟨rfl, rfl⟩
  case rest =>
    obtain ⟨rfl, rfl⟩ := hcut
    go_upto_if 50 with fail
    go_cut [11, 12] (fun a b wx => ∃ (U : ByteArray) (neg : Bool), a = .string U ∧ b = .bool neg ∧ w2 = wx ∧ Hid (U.data.toList = unS s.data.toList ∧ neg = sgn s.data.toList ∧ U.size ≤ 200))
    case first =>
      rcases hun with ⟨rfl, e1, e2, -⟩ | ⟨rfl, h0, h1, e1, e2⟩
      · clear HAn
        go_wp2
        go_meet
        case rel => exact ⟨s, false, rfl, rfl, rfl, e1.symm, e2.symm, hs⟩
      · have HK : Hid (((s[0].toNat : Int) == 45) = decide (s[0] = 45)) := is45 _
        have hs1 : (1 : Int) ≤ (s.size : Int) := by omega
        clear h1 HAn
        go_wp2
        go_meet
        case rel => exact ⟨s.extract 1 s.size, decide (s[0] = 45), rfl, congrArg Value.bool HK.out, rfl, e1.symm, e2.symm, by rw [ByteArray.size_extract]; omega⟩
    case rest =>
      obtain ⟨U, neg, rfl, rfl, rfl, HU⟩ := hcut
      obtain ⟨hu1, hu2, hu3⟩ := HU.out
      rw [← hu1, ← hu2] at HAn
      unfold rdSt at HAn
      have HLo : Hid (∀ X, Calls Tryz.prog 35 #[.string U] X fun e w' => e = .returned (.string ⟨(U.data.toList.map lowB).toArray⟩) ∧ Below X.heap.size X w') := fun X => l16Low_any U X hu3
      have HU3 : Hid (U.size ≤ 200) := hu3
      clear HU hu1 hu2 hu3 hun hs
      generalize U.data.toList.map lowB = T at *
      go_wp2_with fail
      refine (HLo.out _).mono ?_
      rintro e w3 ⟨rfl, hb⟩
      have HQ : Hid (At5 w3 w.heap.size (.int .i64 0) (.bool false) (.int .i64 0) (.string { data := #[] }) (.int .i64 0) ∧ Below w.heap.size w w3) := ⟨HY.out.1.below hb HY.out.1.lt, HY.out.2.trans (hb.mono HY.out.2.size)⟩
      clear hb HY HLo
      by_cases a1 : T = nmInf
      · subst a1
        have HA2 : Hid (.tuple #[rsV 2 neg 0 { data := #[] } 0, .bool true] = An) := by
          have h := HAn.out
          rw [if_pos (show knK nmInf ≠ 0 by decide), show knK nmInf = 2 from rfl, decide_eq_true (show (2 : Int) = 2 from rfl), Bool.and_true] at h
          exact h
        unfold nmInf
        clear HAn
        go_wp2_with fail
        refine (l13Inf_any neg _).mono ?_
        rintro e w4 ⟨rfl, hb⟩
        have HQ4 : Hid (At5 w4 w.heap.size (.int .i64 0) (.bool false) (.int .i64 0) (.string { data := #[] }) (.int .i64 0) ∧ Below w.heap.size w w4) := ⟨HQ.out.1.below hb HQ.out.1.lt, HQ.out.2.trans (hb.mono HQ.out.2.size)⟩
        clear hb HQ
        go_wp2_with (refine wpList_store_row rfl 30 (.tmp 6) (.tmp 62) rfl w.heap.size #[.int .i64 2, .bool neg, .int .i64 0, .string { data := #[] }, .int .i64 0] rfl rfl _ _ HQ4.out.1 (by kernel_rfl) rfl (one5 _ _ _ _ _) ?_)
        have hP := (HQ4.out.1.row (.int .i64 2) (.bool neg) (.int .i64 0) (.string { data := #[] }) (.int .i64 0)).cells
        (try simp only [Exit.inBlock, Exit.then])
        refine bodyPost_ret (results_rsb rfl _ _ rfl hP.1 hP.2.1 hP.2.2.1 hP.2.2.2.1 hP.2.2.2.2.1) rfl ?_
        exact ⟨congrArg Ending.returned HA2.out, bel_row HQ4.out.2 (Nat.le_refl _) _⟩
      by_cases a2 : T = nmInfinity
      · subst a2
        have HA2 : Hid (.tuple #[rsV 2 neg 0 { data := #[] } 0, .bool true] = An) := by
          have h := HAn.out
          rw [if_pos (show knK nmInfinity ≠ 0 by decide), show knK nmInfinity = 2 from rfl, decide_eq_true (show (2 : Int) = 2 from rfl), Bool.and_true] at h
          exact h
        unfold nmInfinity
        clear HAn a1
        go_wp2_with fail
        refine (l13Inf_any neg _).mono ?_
        rintro e w4 ⟨rfl, hb⟩
        have HQ4 : Hid (At5 w4 w.heap.size (.int .i64 0) (.bool false) (.int .i64 0) (.string { data := #[] }) (.int .i64 0) ∧ Below w.heap.size w w4) := ⟨HQ.out.1.below hb HQ.out.1.lt, HQ.out.2.trans (hb.mono HQ.out.2.size)⟩
        clear hb HQ
        go_wp2_with (refine wpList_store_row rfl 30 (.tmp 6) (.tmp 62) rfl w.heap.size #[.int .i64 2, .bool neg, .int .i64 0, .string { data := #[] }, .int .i64 0] rfl rfl _ _ HQ4.out.1 (by kernel_rfl) rfl (one5 _ _ _ _ _) ?_)
        have hP := (HQ4.out.1.row (.int .i64 2) (.bool neg) (.int .i64 0) (.string { data := #[] }) (.int .i64 0)).cells
        (try simp only [Exit.inBlock, Exit.then])
        refine bodyPost_ret (results_rsb rfl _ _ rfl hP.1 hP.2.1 hP.2.2.1 hP.2.2.2.1 hP.2.2.2.2.1) rfl ?_
        exact ⟨congrArg Ending.returned HA2.out, bel_row HQ4.out.2 (Nat.le_refl _) _⟩
      by_cases a3 : T = nmNan
      · subst a3
        have HA2 : Hid (.tuple #[rsV 3 false 0 { data := #[] } 0, .bool true] = An) := by
          have h := HAn.out
          rw [if_pos (show knK nmNan ≠ 0 by decide), show knK nmNan = 3 from rfl, decide_eq_false (show ¬ (3 : Int) = 2 by decide), Bool.and_false] at h
          exact h
        have hB := build_res0 3 false 0 { data := #[] }
        unfold nmNan
        clear HAn a1 a2
        go_wp2_with fail
        refine (l13Nan_any _).mono ?_
        rintro e w4 ⟨rfl, hb⟩
        have HQ4 : Hid (At5 w4 w.heap.size (.int .i64 0) (.bool false) (.int .i64 0) (.string { data := #[] }) (.int .i64 0) ∧ Below w.heap.size w w4) := ⟨HQ.out.1.below hb HQ.out.1.lt, HQ.out.2.trans (hb.mono HQ.out.2.size)⟩
        clear hb HQ
        go_wp2_with (refine wpList_store_row rfl 30 (.tmp 6) (.tmp 66) rfl w.heap.size #[.int .i64 3, .bool false, .int .i64 0, .string { data := #[] }, .int .i64 0] rfl rfl _ _ HQ4.out.1 (by kernel_rfl) rfl (one5 _ _ _ _ _) ?_)
        have hP := (HQ4.out.1.row (.int .i64 3) (.bool false) (.int .i64 0) (.string { data := #[] }) (.int .i64 0)).cells
        (try simp only [Exit.inBlock, Exit.then])
        refine bodyPost_ret (results_rsb rfl _ _ rfl hP.1 hP.2.1 hP.2.2.1 hP.2.2.2.1 hP.2.2.2.2.1) rfl ?_
        exact ⟨congrArg Ending.returned HA2.out, bel_row HQ4.out.2 (Nat.le_refl _) _⟩
      by_cases a4 : T = nmSnan
      · subst a4
        have HA2 : Hid (.tuple #[rsV 4 false 0 { data := #[] } 0, .bool true] = An) := by
          have h := HAn.out
          rw [if_pos (show knK nmSnan ≠ 0 by decide), show knK nmSnan = 4 from rfl, decide_eq_false (show ¬ (4 : Int) = 2 by decide), Bool.and_false] at h
          exact h
        have hB := build_res0 4 false 0 { data := #[] }
        have hB1 := build_num1 4
        unfold nmSnan
        clear HAn a1 a2 a3
        go_wp2_with (refine wpList_store_row rfl 30 (.tmp 6) (.tmp 70) rfl w.heap.size #[.int .i64 4, .bool false, .int .i64 0, .string { data := #[] }, .int .i64 0] rfl rfl _ _ HQ.out.1 (by kernel_rfl) rfl (one5 _ _ _ _ _) ?_)
        have hP := (HQ.out.1.row (.int .i64 4) (.bool false) (.int .i64 0) (.string { data := #[] }) (.int .i64 0)).cells
        (try simp only [Exit.inBlock, Exit.then])
        refine bodyPost_ret (results_rsb rfl _ _ rfl hP.1 hP.2.1 hP.2.2.1 hP.2.2.2.1 hP.2.2.2.2.1) rfl ?_
        exact ⟨congrArg Ending.returned HA2.out, bel_row HQ.out.2 (Nat.le_refl _) _⟩
      have HA2 : Hid (rdP f m neg (pWhl (bz U.data.toList) []) = An) := by
        have h := HAn.out
        rw [if_neg (show ¬ knK T ≠ 0 from fun q => q (by unfold knK; rw [if_neg (fun q => q.elim a2 a1), if_neg a3, if_neg a4]))] at h
        exact h
      have b2 : (T == [105, 110, 102, 105, 110, 105, 116, 121]) = false := beq_eq_false_iff_ne.2 a2
      have b1 : (T == [105, 110, 102]) = false := beq_eq_false_iff_ne.2 a1
      have b3 : (T == [110, 97, 110]) = false := beq_eq_false_iff_ne.2 a3
      have b4 : (T == [115, 110, 97, 110]) = false := beq_eq_false_iff_ne.2 a4
      clear a1 a2 a3 a4 HAn
      go_upto_region 17 with fail
      clear b1 b2 b3 b4
      obtain ⟨Y, hY⟩ : ∃ Y, pWhl (bz U.data.toList) [] = Y := ⟨_, rfl⟩
      rw [hY] at HA2
      have HPk : Hid (∀ D n ng P, Y = some (D, n, ng, P) → Canon (strip (D.map (· - 48))) ∧ (strip (D.map (· - 48))).length ≤ 200 ∧ (-200000 ≤ scE n ng P ∧ scE n ng P ≤ 200000)) := fun D n ng P q => prt_fin (hY.trans q) (by rw [bz_len, Array.length_toList]; exact HU3.out)
      have HR0 : Hid (RnQ w w3.heap.size (w3.alloc (.cells #[] 5)) (.slice (some ⟨w3.heap.size, 0, none⟩) 0 0) []) := rnQ_new HQ.out.1 HQ.out.2
      have HY0 : Hid (Y = pAt false ((bz U.data.toList).drop 0) (bz []) 0) := hY.symm
      obtain ⟨i0, hi, hz0, hz1, hz2⟩ := info_parts info8r
      have hU3 := HU3.out
      clear hY HQ
      go_upto_block 1 with fail
      generalize w3.alloc (.cells #[] 5) = w5 at *
      go_cut [13, 14, 15, 16] (fun v pt ex i wx => ∃ (q n : Nat) (D : List UInt8) (b : Bool), pt = .bool b ∧ ex = .int .i64 (-(n : Int)) ∧ i = .int .i64 (q : Int) ∧ q ≤ U.size ∧ D.length ≤ q ∧ n ≤ D.length ∧ Hid (RnQ w w3.heap.size wx v D ∧ Y = pMark ((bz U.data.toList).drop q) (bz D) n))
      case first =>
        go_wp2_with fail
        go_loopg [13, 14, 15, 16] U.size (fun gk v pt ex i wx => ∃ (q n : Nat) (D : List UInt8) (b : Bool), Hid (gk = U.size - q) ∧ pt = .bool b ∧ ex = .int .i64 (-(n : Int)) ∧ i = .int .i64 (q : Int) ∧ q ≤ U.size ∧ D.length ≤ q ∧ n ≤ D.length ∧ Hid (RnQ w w3.heap.size wx v D ∧ Y = pAt b ((bz U.data.toList).drop q) (bz D) n ∧ pZ b n))
        case atStart => exact ⟨0, 0, [], false, rfl, rfl, Ln.val_int (by simp), rfl, Nat.zero_le _, Nat.le_refl _, Nat.le_refl _, HR0.out, HY0.out, (show pZ false 0 from fun _ => rfl)⟩
        case round =>
          clear HR0 HY0 HPk HA2
          obtain ⟨q, n, D, b, HG, rfl, rfl, rfl, hq, hD, hn, HR⟩ := hrel
          by_cases hlt : q < U.size
          · have hlt' : (q : Int) < (U.size : Int) := by omega
            have HYq : Hid (Y = pAt b ((U[q].toNat : Int) :: (bz U.data.toList).drop (q + 1)) (bz D) n) := by show _ = _; rw [HR.out.2.1, bz_drop U q hlt]
            have hb8 : U[q].toNat < 256 := U[q].toNat_lt
            have HDg : Hid (∀ X, Calls Tryz.prog 38 #[.int .u8 (U[q].toNat : Int)] X fun e w' => e = .returned (.bool (dgB (U[q].toNat : Int))) ∧ w' = X) := fun X => l16Digit_any _ X (by omega)
            cases hd : dgB (U[q].toNat : Int) with
            | true =>
              rw [hd] at HDg
              have k46 : ¬ (U[q].toNat : Int) = 46 := fun q => by rw [q] at hd; exact absurd hd (by decide)
              have HYd : Hid (Y = pAt b ((bz U.data.toList).drop (q + 1)) (bz (D ++ [U[q]])) (if b then n + 1 else n)) := by show _ = _; rw [HYq.out, pAt_dig b _ _ _ _ hd, bz_more]
              go_wp2_with fail
              refine (HDg.out _).mono ?_
              rintro e w1 ⟨rfl, hw⟩
              subst hw
              cases b with
              | false =>
                go_wp2_with (first | (at_builtin; refine wpList_append_own _ rfl _ _ 22 rfl w3.heap.size 5 i0 (.int .u8 0) 1 1 Tryz.underlying22 hi hz0 hz1 hz2 rfl (by decide) _ D.length (bcs D) rfl (World.ownsRow.alloc HR.out.1.1 _) ⟨w1.heap.size, 0, none⟩ 1 1 [.int .u8 (U[q].toNat : Int)] rfl rfl (World.news_of_block (cs := #[.int .u8 (U[q].toNat : Int)]) (t := 5) (fr := (0, 0)) (heap_alloc_new w1 _)) (one_cell8 _) (by unfold maxLen; omega) (by omega) (by have := HR.out.1.2.2.2.2.1; simp; omega) ?_) | go_in)
                intro v' w4 hown hgrow _
                have HQ4 : Hid (RnQ w w3.heap.size w4 v' (D ++ [U[q]])) := HR.out.1.more hown hgrow (dg_of hd)
                clear hown hgrow
                have HRe : Hid (Y = pAt false ((bz U.data.toList).drop (q + 1)) (bz (D ++ [U[q]])) n ∧ pZ false n) := ⟨HYd.out, HR.out.2.2⟩
                clear HR HYq HYd HDg hd k46
                go_wp2
                go_roundg (U.size - (q + 1))
                case measure => have := HG.out; omega
                case rel => exact ⟨q + 1, n, D ++ [U[q]], false, rfl, rfl, rfl, by go_num, by omega, by rw [List.length_append]; simp; omega, by rw [List.length_append]; omega, HQ4.out, HRe.out⟩
              | true =>
                go_wp2_with (first | (at_builtin; refine wpList_append_own _ rfl _ _ 22 rfl w3.heap.size 5 i0 (.int .u8 0) 1 1 Tryz.underlying22 hi hz0 hz1 hz2 rfl (by decide) _ D.length (bcs D) rfl (World.ownsRow.alloc HR.out.1.1 _) ⟨w1.heap.size, 0, none⟩ 1 1 [.int .u8 (U[q].toNat : Int)] rfl rfl (World.news_of_block (cs := #[.int .u8 (U[q].toNat : Int)]) (t := 5) (fr := (0, 0)) (heap_alloc_new w1 _)) (one_cell8 _) (by unfold maxLen; omega) (by omega) (by have := HR.out.1.2.2.2.2.1; simp; omega) ?_) | go_in)
                intro v' w4 hown hgrow _
                have HQ4 : Hid (RnQ w w3.heap.size w4 v' (D ++ [U[q]])) := HR.out.1.more hown hgrow (dg_of hd)
                clear hown hgrow
                have HRe : Hid (Y = pAt true ((bz U.data.toList).drop (q + 1)) (bz (D ++ [U[q]])) (n + 1)) := HYd.out
                have wn : IntKind.i64.wrap (-(n : Int) - 1) = -(n : Int) - 1 := by rw [IntKind.wrap_i64]; omega
                clear HR HYq HYd HDg hd k46
                go_wp2
                go_roundg (U.size - (q + 1))
                case measure => have := HG.out; omega
                case rel => exact ⟨q + 1, n + 1, D ++ [U[q]], true, rfl, rfl, Ln.val_int (by omega), by go_num, by omega, by rw [List.length_append]; simp; omega, by rw [List.length_append]; simp; omega, HQ4.out, HRe.out, (show pZ true (n + 1) from fun q => by cases q)⟩
            | false =>
              rw [hd] at HDg
              by_cases h46 : (U[q].toNat : Int) = 46
              · rw [h46] at HDg
                cases b with
                | false =>
                  have h0 := HR.out.2.2 rfl
                  subst h0
                  have HRe : Hid (RnQ w w3.heap.size wr u13 D ∧ Y = pAt true ((bz U.data.toList).drop (q + 1)) (bz D) 0) := ⟨HR.out.1, by rw [HYq.out, h46, pAt_dot]⟩
                  clear HR HYq hd
                  go_wp2_with fail
                  refine (HDg.out _).mono ?_
                  rintro e w1 ⟨rfl, hw⟩
                  subst hw
                  go_wp2
                  go_roundg (U.size - (q + 1))
                  case measure => have := HG.out; omega
                  case rel => exact ⟨q + 1, 0, D, true, rfl, rfl, rfl, by go_num, by omega, by omega, by omega, HRe.out.1, HRe.out.2, (show pZ true 0 from fun q => by cases q)⟩
                | true =>
                  have HRe : Hid (RnQ w w3.heap.size wr u13 D ∧ Y = pMark ((bz U.data.toList).drop q) (bz D) n) := ⟨HR.out.1, by rw [HYq.out, bz_drop U q hlt]; exact pAt_on true _ _ _ _ HR.out.2.2 hd (fun q => by cases q.2)⟩
                  clear HR HYq hd
                  go_wp2_with fail
                  refine (HDg.out _).mono ?_
                  rintro e w1 ⟨rfl, hw⟩
                  subst hw
                  go_wp2
                  go_meet
                  case rel => exact ⟨q, n, D, true, rfl, rfl, rfl, by omega, hD, hn, HRe.out⟩
              · have HRe : Hid (RnQ w w3.heap.size wr u13 D ∧ Y = pMark ((bz U.data.toList).drop q) (bz D) n) := ⟨HR.out.1, by rw [HYq.out, bz_drop U q hlt]; exact pAt_on b _ _ _ _ HR.out.2.2 hd (fun q => h46 q.1)⟩
                clear HR HYq hd
                go_wp2_with fail
                refine (HDg.out _).mono ?_
                rintro e w1 ⟨rfl, hw⟩
                subst hw
                go_wp2
                go_meet
                case rel => exact ⟨q, n, D, b, rfl, rfl, rfl, by omega, hD, hn, HRe.out⟩
          · obtain rfl : q = U.size := by omega
            have HRe : Hid (RnQ w w3.heap.size wr u13 D ∧ Y = pMark ((bz U.data.toList).drop U.size) (bz D) n) := ⟨HR.out.1, by rw [HR.out.2.1, bz_past U _ hlt]; exact pAt_nil b _ _ HR.out.2.2⟩
            clear HR
            go_wp2_with fail
            go_meet
            case rel => exact ⟨U.size, n, D, b, rfl, rfl, rfl, by omega, hD, hn, HRe.out⟩
      case rest =>
        obtain ⟨q, n, D, b, rfl, rfl, rfl, hq, hD, hn, HR⟩ := hcut
        clear HR0 HY0
        have hU3' := HU3.out
        (try go_step)
        refine rn_rest _ ?_ w _ f m HM.out.1 neg An _ _ n U q D Y hU3' (by omega) (by omega) HR.out.1 HA2.out HPk.out hq HR.out.2
        simp only [Tryz.f13, selC, Option.getD_some]
end Go.Proofs.YtdkpiofeidcffaaGreatDoor
