/-
  ReadNum of the program, walked.
-/
import Derived.Test.YtdkpiofeidcffaaGreatDoorRno
import Derived.Test.YtdkpiofeidcffaaGreatDoorFnz
import Derived.Test.YtdkpiofeidcffaaGreatDoorIsR2
import Derived.Test.YtdkpiofeidcffaaGreatDoorRdl
import Derived.Laws.EntriesVeiled
import Derived.Laws.IdiomStrings
import Derived.Deep.DeepCutAuto
namespace Go.Proofs.YtdkpiofeidcffaaGreatDoor
open Go.RowKit
set_option linter.unusedVariables false
set_option maxRecDepth 100000
set_option linter.unusedSimpArgs false
theorem results_rsb {fn : Func} {p t : Tmp} {b : Nat} {x y z u v : Value} (h : fn.results = #[.cell p 30, .tmp t]) (tmps : Array Value) (w : World) (hp : tmps[p]?.getD undef = .pointer (some ⟨b, 0, none⟩))
    (q0 : w.cell? ⟨b, 0, none⟩ = some x) (q1 : w.cell? ⟨b, 1, none⟩ = some y) (q2 : w.cell? ⟨b, 2, none⟩ = some z) (q3 : w.cell? ⟨b, 3, none⟩ = some u) (q4 : w.cell? ⟨b, 4, none⟩ = some v) : (results fn tmps).run Tryz.prog w = .ok (.tuple #[.agg #[x, y, z, u, v], tmps.getD t undef]) w := by
  simp [results, h, hp, go_sem, q0, q1, q2, q3, q4]
theorem fmt_yes (f : Int) (hf : f = 64 ∨ f = 128) : ∃ V, ∀ X, Calls Tryz.prog 25 #[.int .i64 f] X fun e w' => e = .returned (.tuple #[V, .bool true]) ∧ w' = X := by
  rcases hf with rfl | rfl
  · exact ⟨_, fmtOf_64⟩
  · exact ⟨_, fmtOf_128⟩
theorem mode_yes (m : Int) (hm : 1 ≤ m ∧ m ≤ 5) : ∃ F : Nat, ∀ X, Calls Tryz.prog 26 #[.int .i64 m] X fun e w' => e = .returned (.tuple #[.agg #[fnV F], .bool true]) ∧ Below X.heap.size X w' := by
  obtain ⟨F, -, -, h⟩ := rounding_yes m hm
  exact ⟨F, h⟩
theorem build_numB (k : Int) (b : Bool) (w : World) : (Instr.build 25 #[(0, .int .i64 k), (1, .bool b)]).run Tryz.prog w = .ok (numV k b 0 { data := #[] }) w := run_build w _ _ _ (by kernel_rfl)
theorem build_resZ (w : World) : (Instr.build 30 #[]).run Tryz.prog w = .ok (rsV 0 false 0 { data := #[] } 0) w := run_build w _ _ _ (by kernel_rfl)
set_option maxRecDepth 100000 in
set_option maxHeartbeats 4000000 in
theorem iReadNum_no (f m : Int) (s : ByteArray) (w : World) (hs : s.size ≤ 4611686018427387904) (h : ¬ ((f = 64 ∨ f = 128) ∧ (1 ≤ m ∧ m ≤ 5) ∧ s.size ≤ 200)) :
    Calls Tryz.prog 10 #[.int .i64 f, .int .i64 m, .string s] w fun e w' => e = .returned (.tuple #[rsV 0 false 0 { data := #[] } 0, .bool false]) ∧ Below w.heap.size w w' := by
  have HRn : Hid (¬ (1 ≤ m ∧ m ≤ 5) → Hid (∀ X, Calls Tryz.prog 26 #[.int .i64 m] X fun e w' => e = .returned (.tuple #[.agg #[.nilFunc], .bool false]) ∧ Below X.heap.size X w')) := fun hm X => roundingOf_no m hm X
  have HRy : Hid (1 ≤ m ∧ m ≤ 5 → ∃ F : Nat, Hid (∀ X, Calls Tryz.prog 26 #[.int .i64 m] X fun e w' => e = .returned (.tuple #[.agg #[fnV F], .bool true]) ∧ Below X.heap.size X w')) := fun hm => mode_yes m hm
  by_cases hf : f = 64 ∨ f = 128
  · obtain ⟨V, hV⟩ := fmt_yes f hf
    have HV : Hid (∀ X, Calls Tryz.prog 25 #[.int .i64 f] X fun e w' => e = .returned (.tuple #[V, .bool true]) ∧ w' = X) := hV
    clear hV
    by_cases hm : 1 ≤ m ∧ m ≤ 5
    · obtain ⟨F, HF⟩ := HRy.out hm
      have hz : (200 : Int) < (s.size : Int) := by
        rcases Nat.lt_or_ge 200 s.size with q | q
        · omega
        · exact absurd ⟨hf, hm, q⟩ h
      clear hm hf h HRn HRy
      go_enter Tryz.func10, Tryz.ntmps10
      go_wp2_with fail
      refine (HV.out _).mono ?_
      rintro e w1 ⟨rfl, hw⟩
      subst hw
      go_wp2_with fail
      refine (HF.out _).mono ?_
      rintro e w1 ⟨rfl, hb⟩
      have HY : Hid (At5 (w1.alloc (.cells #[fnV F] 55)) w.heap.size (.int .i64 0) (.bool false) (.int .i64 0) (.string { data := #[] }) (.int .i64 0) ∧ Below w.heap.size w (w1.alloc (.cells #[fnV F] 55))) := ⟨((at5_new w (.int .i64 0) (.bool false) (.int .i64 0) (.string { data := #[] }) (.int .i64 0)).below hb (by simp)).below ((Below.refl w1.heap.size w1).alloc (Nat.le_refl _) _) (Nat.lt_of_lt_of_le (by simp) hb.size), (((Below.refl _ _).alloc (Nat.le_refl _) _).trans (hb.mono (by simp))).alloc (by have := hb.size; simp at this; omega) _⟩
      have hB := build_resZ
      clear hb HV HF
      go_upto_region 4 with fail
      generalize w1.alloc (.cells #[fnV F] 55) = w2 at *
      go_wp2_with (refine wpList_store_row rfl 30 (.tmp 6) (.tmp 39) rfl w.heap.size #[.int .i64 0, .bool false, .int .i64 0, .string { data := #[] }, .int .i64 0] rfl rfl _ _ HY.out.1 (by kernel_rfl) rfl (one5 _ _ _ _ _) ?_)
      have hP := (HY.out.1.row (.int .i64 0) (.bool false) (.int .i64 0) (.string { data := #[] }) (.int .i64 0)).cells
      refine bodyPost_ret (results_rsb rfl _ _ rfl hP.1 hP.2.1 hP.2.2.1 hP.2.2.2.1 hP.2.2.2.2.1) rfl ?_
      exact ⟨rfl, bel_row HY.out.2 (Nat.le_refl _) _⟩
    · have HF := HRn.out hm
      clear hm hf h HRn HRy
      go_enter Tryz.func10, Tryz.ntmps10
      go_wp2_with fail
      refine (HV.out _).mono ?_
      rintro e w1 ⟨rfl, hw⟩
      subst hw
      go_wp2_with fail
      refine (HF.out _).mono ?_
      rintro e w1 ⟨rfl, hb⟩
      have HY : Hid (At5 (w1.alloc (.cells #[.nilFunc] 55)) w.heap.size (.int .i64 0) (.bool false) (.int .i64 0) (.string { data := #[] }) (.int .i64 0) ∧ Below w.heap.size w (w1.alloc (.cells #[.nilFunc] 55))) := ⟨((at5_new w (.int .i64 0) (.bool false) (.int .i64 0) (.string { data := #[] }) (.int .i64 0)).below hb (by simp)).below ((Below.refl w1.heap.size w1).alloc (Nat.le_refl _) _) (Nat.lt_of_lt_of_le (by simp) hb.size), (((Below.refl _ _).alloc (Nat.le_refl _) _).trans (hb.mono (by simp))).alloc (by have := hb.size; simp at this; omega) _⟩
      have hB := build_resZ
      clear hb HV HF
      go_upto_region 4 with fail
      generalize w1.alloc (.cells #[.nilFunc] 55) = w2 at *
      go_wp2_with (refine wpList_store_row rfl 30 (.tmp 6) (.tmp 39) rfl w.heap.size #[.int .i64 0, .bool false, .int .i64 0, .string { data := #[] }, .int .i64 0] rfl rfl _ _ HY.out.1 (by kernel_rfl) rfl (one5 _ _ _ _ _) ?_)
      have hP := (HY.out.1.row (.int .i64 0) (.bool false) (.int .i64 0) (.string { data := #[] }) (.int .i64 0)).cells
      refine bodyPost_ret (results_rsb rfl _ _ rfl hP.1 hP.2.1 hP.2.2.1 hP.2.2.2.1 hP.2.2.2.2.1) rfl ?_
      exact ⟨rfl, bel_row HY.out.2 (Nat.le_refl _) _⟩
  · have HV : Hid (∀ X, Calls Tryz.prog 25 #[.int .i64 f] X fun e w' => e = .returned (.tuple #[.nilIface, .bool false]) ∧ w' = X) := fun X => fmtOf_no f X (fun q => hf (.inl q)) (fun q => hf (.inr q))
    by_cases hm : 1 ≤ m ∧ m ≤ 5
    · obtain ⟨F, HF⟩ := HRy.out hm
      clear hm hf h HRn HRy
      go_enter Tryz.func10, Tryz.ntmps10
      go_wp2_with fail
      refine (HV.out _).mono ?_
      rintro e w1 ⟨rfl, hw⟩
      subst hw
      go_wp2_with fail
      refine (HF.out _).mono ?_
      rintro e w1 ⟨rfl, hb⟩
      have HY : Hid (At5 (w1.alloc (.cells #[fnV F] 55)) w.heap.size (.int .i64 0) (.bool false) (.int .i64 0) (.string { data := #[] }) (.int .i64 0) ∧ Below w.heap.size w (w1.alloc (.cells #[fnV F] 55))) := ⟨((at5_new w (.int .i64 0) (.bool false) (.int .i64 0) (.string { data := #[] }) (.int .i64 0)).below hb (by simp)).below ((Below.refl w1.heap.size w1).alloc (Nat.le_refl _) _) (Nat.lt_of_lt_of_le (by simp) hb.size), (((Below.refl _ _).alloc (Nat.le_refl _) _).trans (hb.mono (by simp))).alloc (by have := hb.size; simp at this; omega) _⟩
      have hB := build_resZ
      clear hb HV HF
      go_upto_region 4 with fail
      generalize w1.alloc (.cells #[fnV F] 55) = w2 at *
      go_wp2_with (refine wpList_store_row rfl 30 (.tmp 6) (.tmp 39) rfl w.heap.size #[.int .i64 0, .bool false, .int .i64 0, .string { data := #[] }, .int .i64 0] rfl rfl _ _ HY.out.1 (by kernel_rfl) rfl (one5 _ _ _ _ _) ?_)
      have hP := (HY.out.1.row (.int .i64 0) (.bool false) (.int .i64 0) (.string { data := #[] }) (.int .i64 0)).cells
      refine bodyPost_ret (results_rsb rfl _ _ rfl hP.1 hP.2.1 hP.2.2.1 hP.2.2.2.1 hP.2.2.2.2.1) rfl ?_
      exact ⟨rfl, bel_row HY.out.2 (Nat.le_refl _) _⟩
    · have HF := HRn.out hm
      clear hm hf h HRn HRy
      go_enter Tryz.func10, Tryz.ntmps10
      go_wp2_with fail
      refine (HV.out _).mono ?_
      rintro e w1 ⟨rfl, hw⟩
      subst hw
      go_wp2_with fail
      refine (HF.out _).mono ?_
      rintro e w1 ⟨rfl, hb⟩
      have HY : Hid (At5 (w1.alloc (.cells #[.nilFunc] 55)) w.heap.size (.int .i64 0) (.bool false) (.int .i64 0) (.string { data := #[] }) (.int .i64 0) ∧ Below w.heap.size w (w1.alloc (.cells #[.nilFunc] 55))) := ⟨((at5_new w (.int .i64 0) (.bool false) (.int .i64 0) (.string { data := #[] }) (.int .i64 0)).below hb (by simp)).below ((Below.refl w1.heap.size w1).alloc (Nat.le_refl _) _) (Nat.lt_of_lt_of_le (by simp) hb.size), (((Below.refl _ _).alloc (Nat.le_refl _) _).trans (hb.mono (by simp))).alloc (by have := hb.size; simp at this; omega) _⟩
      have hB := build_resZ
      clear hb HV HF
      go_upto_region 4 with fail
      generalize w1.alloc (.cells #[.nilFunc] 55) = w2 at *
      go_wp2_with (refine wpList_store_row rfl 30 (.tmp 6) (.tmp 39) rfl w.heap.size #[.int .i64 0, .bool false, .int .i64 0, .string { data := #[] }, .int .i64 0] rfl rfl _ _ HY.out.1 (by kernel_rfl) rfl (one5 _ _ _ _ _) ?_)
      have hP := (HY.out.1.row (.int .i64 0) (.bool false) (.int .i64 0) (.string { data := #[] }) (.int .i64 0)).cells
      refine bodyPost_ret (results_rsb rfl _ _ rfl hP.1 hP.2.1 hP.2.2.1 hP.2.2.2.1 hP.2.2.2.2.1) rfl ?_
      exact ⟨rfl, bel_row HY.out.2 (Nat.le_refl _) _⟩
theorem rd_add (g j : Nat) : (⟨g, 0, none⟩ : Addr).add j = ⟨g, j, none⟩ := by rw [add_at, Nat.zero_add]
theorem conv_rn (s : ByteArray) (X : World) (hs : s.size ≤ 200) : ∃ (cap : Nat) (cs : Array Value), (convert 9 58 (.string s)).run Tryz.prog X = .ok (.slice (some ⟨X.heap.size, 0, none⟩) (rn s.data.toList).length cap) (X.drew.alloc (.cells cs 21)) ∧ (rn s.data.toList).length ≤ cap ∧ ∀ i, i < (rn s.data.toList).length → cs[i]? = some (.int .i32 ((rn s.data.toList).getD i 0)) := by
  have hsz : (Conv.runesFrom s s.size 0 #[]).size = (rn s.data.toList).length := by rw [runes_of]; simp
  have hlen : s.data.toList.length = s.size := Array.length_toList
  have hle := rn_len s.data.toList
  have h := run_runes_of_string (P := Tryz.prog) X 9 58 21 s Tryz.underlying9 Tryz.underlying58 Tryz.underlying21 (by rw [hsz]; omega)
  refine ⟨_, _, by rw [h, hsz], grownCap_ge _ _ _ _, fun i hi => ?_⟩
  rw [Array.getElem?_append_left (by rw [hsz]; exact hi), runes_of]
  simp [List.getD, hi]
/-- The reader's box, laid. -/
theorem rdr_new (X : World) (R : List Int) (cap : Nat) (cs : Array Value) (h1 : R.length ≤ cap) (h2 : ∀ i, i < R.length → cs[i]? = some (.int .i32 (R.getD i 0))) (hR : R.length ≤ 1000) :
    RDr ((X.drew.alloc (.cells cs 21)).alloc (.cells #[.slice (some ⟨X.heap.size, 0, none⟩) R.length cap] 60)) (X.heap.size + 1) X.heap.size R 0 ∧ Below X.heap.size X ((X.drew.alloc (.cells cs 21)).alloc (.cells #[.slice (some ⟨X.heap.size, 0, none⟩) R.length cap] 60)) := by
  have hb : Below X.heap.size X ((X.drew.alloc (.cells cs 21)).alloc (.cells #[.slice (some ⟨X.heap.size, 0, none⟩) R.length cap] 60)) := ((Below.refl _ _).drew.alloc (Nat.le_refl _) _).alloc (by simp) _
  have s1 : (X.drew.alloc (.cells cs 21)).heap.size = X.heap.size + 1 := by simp
  have s2 : ((X.drew.alloc (.cells cs 21)).alloc (.cells #[.slice (some ⟨X.heap.size, 0, none⟩) R.length cap] 60)).heap.size = X.heap.size + 2 := by simp
  have a1 : (X.drew.alloc (.cells cs 21)).heap[X.heap.size]? = some (.cells cs 21 (0, 0)) := (MapKept.heap_alloc X.drew _).1
  have a2 := (MapKept.heap_alloc (X.drew.alloc (.cells cs 21)) (.cells #[.slice (some ⟨X.heap.size, 0, none⟩) R.length cap] 60)).1
  have b2 : Below (X.heap.size + 1) (X.drew.alloc (.cells cs 21)) ((X.drew.alloc (.cells cs 21)).alloc (.cells #[.slice (some ⟨X.heap.size, 0, none⟩) R.length cap] 60)) := (Below.refl _ _).alloc (by simp) _
  rw [s1] at a2
  generalize (X.drew.alloc (.cells cs 21)).alloc (.cells #[.slice (some ⟨X.heap.size, 0, none⟩) R.length cap] 60) = Y at *
  have a3 := (b2.block X.heap.size (by omega)).trans a1
  refine ⟨⟨⟨Nat.zero_le _, hR⟩, ⟨⟨0, cap, cell_blk a2, fun _ => rfl, h1⟩, frz_blk a2⟩, fun i hi => ?_, by omega, by omega, by omega⟩, hb⟩
  unfold World.cell?
  simp only [a3]
  simpa using h2 i hi
set_option maxRecDepth 100000 in
set_option maxHeartbeats 4000000 in
theorem iReadNum_yes (f m : Int) (s : ByteArray) (w : World) (hf : f = 64 ∨ f = 128) (hm : 1 ≤ m ∧ m ≤ 5) (hs : s.size ≤ 200) (hT : Lib.Utf8Tabs 0 1 w) :
    Calls Tryz.prog 10 #[.int .i64 f, .int .i64 m, .string s] w fun e w' => e = .returned (rdSt f m (sgn s.data.toList) (unS s.data.toList)) ∧ Below w.heap.size w w' := by
  obtain ⟨V, hV⟩ := fmt_yes f hf
  have HV : Hid (∀ X, Calls Tryz.prog 25 #[.int .i64 f] X fun e w' => e = .returned (.tuple #[V, .bool true]) ∧ w' = X) := hV
  obtain ⟨F, hF⟩ := mode_yes m hm
  have HF : Hid (∀ X, Calls Tryz.prog 26 #[.int .i64 m] X fun e w' => e = .returned (.tuple #[.agg #[fnV F], .bool true]) ∧ Below X.heap.size X w') := hF
  have HT : Hid (Lib.Utf8Tabs 0 1 w) := hT
  have hz : ¬ (200 : Int) < (s.size : Int) := by omega
  have HM : Hid ((f = 64 ∨ f = 128) ∧ (1 ≤ m ∧ m ≤ 5) ∧ s.size ≤ 200) := ⟨hf, hm, hs⟩
  obtain ⟨An, hAn⟩ : ∃ An, rdSt f m (sgn s.data.toList) (unS s.data.toList) = An := ⟨_, rfl⟩
  have HAn : Hid (rdSt f m (sgn s.data.toList) (unS s.data.toList) = An) := hAn
  rw [hAn]
  clear hV hF hT hf hm hs hAn
  go_enter Tryz.func10, Tryz.ntmps10
  go_wp2_with fail
  refine (HV.out _).mono ?_
  rintro e w1 ⟨rfl, hw⟩
  subst hw
  go_wp2_with fail
  refine (HF.out _).mono ?_
  rintro e w1 ⟨rfl, hb⟩
  have HY : Hid (At5 (w1.alloc (.cells #[fnV F] 55)) w.heap.size (.int .i64 0) (.bool false) (.int .i64 0) (.string { data := #[] }) (.int .i64 0) ∧ Below w.heap.size w (w1.alloc (.cells #[fnV F] 55))) := ⟨((at5_new w (.int .i64 0) (.bool false) (.int .i64 0) (.string { data := #[] }) (.int .i64 0)).below hb (by simp)).below ((Below.refl w1.heap.size w1).alloc (Nat.le_refl _) _) (Nat.lt_of_lt_of_le (by simp) hb.size), (((Below.refl _ _).alloc (Nat.le_refl _) _).trans (hb.mono (by simp))).alloc (by have := hb.size; simp at this; omega) _⟩

  clear hb HV HF
  go_upto_region 5 with fail
  generalize w1.alloc (.cells #[fnV F] 55) = w2 at *
  go_cut [12] (fun p wx => ∃ rb g, p = .pointer (some ⟨rb, 0, none⟩) ∧ Hid (RDr wx rb g (rn s.data.toList) 0 ∧ At5 wx w.heap.size (.int .i64 0) (.bool false) (.int .i64 0) (.string { data := #[] }) (.int .i64 0) ∧ Below w.heap.size w wx ∧ w.heap.size + 1 ≤ rb))
  case first =>
    obtain ⟨cap, cs, hcv, h1, h2⟩ := conv_rn s w2 HM.out.2.2
    have HN : Hid (RDr ((w2.drew.alloc (.cells cs 21)).alloc (.cells #[.slice (some ⟨w2.heap.size, 0, none⟩) (rn s.data.toList).length cap] 60)) (w2.heap.size + 1) w2.heap.size (rn s.data.toList) 0 ∧ Below w2.heap.size w2 ((w2.drew.alloc (.cells cs 21)).alloc (.cells #[.slice (some ⟨w2.heap.size, 0, none⟩) (rn s.data.toList).length cap] 60))) :=
      rdr_new w2 _ cap cs h1 h2 (by have := rn_len s.data.toList; have hl : s.data.toList.length = s.size := Array.length_toList; have := HM.out.2.2; omega)
    clear h1 h2
    generalize (rn s.data.toList).length = n at *
    go_wp2
    go_meet
    case rel =>
      exact ⟨_, _, rfl, HN.out.1, HY.out.1.below HN.out.2 HY.out.1.lt, HY.out.2.trans (HN.out.2.mono HY.out.2.size), by have := HY.out.1.lt; omega⟩
  case rest =>
    obtain ⟨rb, g, rfl, HR⟩ := hcut
    have HTS : Hid (Calls Tryz.prog 27 #[.pointer (some ⟨rb, 0, none⟩)] wc fun e w' => e = .returned (.bool (sgB (rn s.data.toList) 0)) ∧ RDr w' rb g (rn s.data.toList) (sgO (rn s.data.toList) 0) ∧ wc.grownBy w' (some rb)) := takesSign_any rb g (rn s.data.toList) 0 wc HR.out.1
    go_wp2_with fail
    refine HTS.out.mono ?_
    rintro e wa ⟨rfl, ha1, ha2⟩
    obtain ⟨hsg, hdr⟩ := rn_sign s.data.toList
    have hlen : s.data.toList.length = s.size := Array.length_toList
    have hun := unS_len s.data.toList
    have hrl := rn_len (unS s.data.toList)
    have hRl := rn_len s.data.toList
    have hs2 := HM.out.2.2
    have h5a : At5 wa w.heap.size (.int .i64 0) (.bool false) (.int .i64 0) (.string { data := #[] }) (.int .i64 0) := (ha2.block w.heap.size HR.out.2.1.lt (fun e => by have e' : w.heap.size = rb := Option.some.inj e; have := HR.out.2.2.2; omega)).trans HR.out.2.1
    have hba : Below w.heap.size w wa := HR.out.2.2.1.trans (bel_grw ha2 (by have := HR.out.2.2.2; omega) HR.out.2.2.1.size)
    have hrb := HR.out.2.2.2
    rw [hsg]
    clear HTS HR ha2 hsg
    generalize sgn s.data.toList = neg at *
    generalize hR : rn s.data.toList = R at *
    generalize unS s.data.toList = u at *
    generalize sgO R 0 = off at *
    have HR2 : Hid (RDr wa rb g R off) := ha1
    obtain ⟨⟨k1, k2⟩, ⟨⟨o, c, hc, ho, hcc⟩, -⟩, hcl, -⟩ := ha1
    have eL : R.length - off = (rn u).length := by rw [← hdr, List.length_drop]
    rw [eL] at hc
    have HKn : Hid (Calls Tryz.prog 28 #[.slice (some ⟨g, o, none⟩) (rn u).length c] wa fun e w' => e = .returned (.tuple #[.int .i64 (knK (u.map lowB)), .bool (decide (knK (u.map lowB) ≠ 0))]) ∧ Below wa.heap.size wa w') := by
      have := kindNamed_any g o c (rn u) wa (fun j hj => by
        have h0 : off < R.length := by omega
        obtain rfl := ho h0
        rw [hcl (o + j) (by omega), ← hdr]
        simp [List.getD, List.getElem?_drop]) (by omega) (Utf8Tabs_below HT.out (hba.mono (Nat.le_refl _)))
      rw [knK_rn] at this
      exact this
    have HA2 : Hid (At5 wa w.heap.size (.int .i64 0) (.bool false) (.int .i64 0) (.string { data := #[] }) (.int .i64 0) ∧ Below w.heap.size w wa ∧ w.heap.size + 1 ≤ rb ∧ wa.heap.size = wa.heap.size) := ⟨h5a, hba, hrb, rfl⟩
    have HPf : Hid (∀ D n ng P, pWhl (bz u) [] = some (D, n, ng, P) → Canon (strip (D.map (· - 48))) ∧ (strip (D.map (· - 48))).length ≤ 200 ∧ (-200000 ≤ scE n ng P ∧ scE n ng P ≤ 200000)) := fun D n ng P q => prt_fin q (by unfold bz; rw [List.length_map]; omega)
    have HDr : Hid (pWhl (R.drop off) [] = pWhl (bz u) []) := by show _ = _; rw [hdr, pWhl_rn]
    clear hR hlen hun hrl hRl hs2 h5a hba hrb hdr k1 k2 ho hcc hcl eL HT
    generalize (rn u).length = nL at *
    go_wp2_with fail
    refine HKn.out.mono ?_
    rintro e wb ⟨rfl, hbb⟩
    have HQ : Hid (At5 wb w.heap.size (.int .i64 0) (.bool false) (.int .i64 0) (.string { data := #[] }) (.int .i64 0) ∧ Below w.heap.size w wb) := ⟨HA2.out.1.below hbb HA2.out.1.lt, HA2.out.2.1.trans (hbb.mono HA2.out.2.1.size)⟩
    have HR3 : Hid (RDr wb rb g R off ∧ w.heap.size + 1 ≤ rb) := ⟨HR2.out.next hbb, HA2.out.2.2.1⟩
    clear hbb HR2 HA2 HKn hc
    unfold rdSt at HAn
    have HKv : Hid (knK (u.map lowB) = 0 ∨ knK (u.map lowB) = 2 ∨ knK (u.map lowB) = 3 ∨ knK (u.map lowB) = 4) := knK_bd _
    generalize knK (u.map lowB) = K at *
    by_cases hK : K = 0
    · subst hK
      have HRs : Hid (Calls Tryz.prog 29 #[.pointer (some ⟨rb, 0, none⟩)] wb (RsQ wb (w.heap.size + 1) (pWhl (bz u) []))) := by
        have := readScaled_any (w.heap.size + 1) rb g off R wb HR3.out.1 HR3.out.2
        rw [HDr.out] at this
        exact this
      rw [if_neg (show ¬ ((0 : Int) ≠ 0) by decide)] at HAn
      clear HR3 HDr
      generalize pWhl (bz u) [] = Y at *
      go_wp2_with fail
      refine HRs.out.mono ?_
      rintro e wd ⟨rfl, hbd⟩
      have HQ2 : Hid (At5 wd w.heap.size (.int .i64 0) (.bool false) (.int .i64 0) (.string { data := #[] }) (.int .i64 0) ∧ Below w.heap.size w wd) := ⟨HQ.out.1.below hbd (Nat.lt_succ_self _), HQ.out.2.trans (hbd.mono (Nat.le_succ _))⟩
      clear hbd HQ HRs
      rcases Y with _ | ⟨D, n, ng, P⟩
      · have hB := build_resZ
        simp only [rdP] at HAn
        simp only [rsVal]
        have HQ3 : Hid (∀ ob, At5 (wd.alloc ob) w.heap.size (.int .i64 0) (.bool false) (.int .i64 0) (.string { data := #[] }) (.int .i64 0) ∧ Below w.heap.size w (wd.alloc ob)) := fun ob => ⟨HQ2.out.1.below ((Below.refl wd.heap.size wd).alloc (Nat.le_refl _) ob) HQ2.out.1.lt, HQ2.out.2.alloc HQ2.out.2.size ob⟩
        clear HQ2 HPf
        go_upto_region 12 with fail
        have HQ4 := HQ3.out (.cells #[.string { data := #[] }, .int .i64 0] 65)
        generalize wd.alloc (.cells #[.string { data := #[] }, .int .i64 0] 65) = we at *
        have HQ5 : Hid (At5 we w.heap.size (.int .i64 0) (.bool false) (.int .i64 0) (.string { data := #[] }) (.int .i64 0) ∧ Below w.heap.size w we) := HQ4
        clear HQ4 HQ3
        go_wp2_with (refine wpList_store_row rfl 30 (.tmp 6) (.tmp 65) rfl w.heap.size #[.int .i64 0, .bool false, .int .i64 0, .string { data := #[] }, .int .i64 0] rfl rfl _ _ HQ5.out.1 (by kernel_rfl) rfl (one5 _ _ _ _ _) ?_)
        have hP := (HQ5.out.1.row (.int .i64 0) (.bool false) (.int .i64 0) (.string { data := #[] }) (.int .i64 0)).cells
        refine bodyPost_ret (results_rsb rfl _ _ rfl hP.1 hP.2.1 hP.2.2.1 hP.2.2.2.1 hP.2.2.2.2.1) rfl ?_
        exact ⟨congrArg Ending.returned HAn.out, bel_row HQ5.out.2 (Nat.le_refl _) _⟩
      · obtain ⟨hc1, hc2, hc3⟩ := HPf.out D n ng P rfl
        have HFi : Hid (∀ X, Calls Tryz.prog 30 #[.int .i64 f, .int .i64 m, .bool neg, .string (tx (strip (D.map (· - 48)))), .int .i64 (scE n ng P), .bool false, .int .i64 (scE n ng P)] X fun x w' => x = .returned (rsD neg (finD f m neg (strip (D.map (· - 48))) (scE n ng P) false (scE n ng P))) ∧ Below X.heap.size X w') := fun X => iFinish_all f m HM.out.1 HM.out.2.1 neg (strip (D.map (· - 48))) (scE n ng P) (scE n ng P) X hc1 hc2 hc3 hc3
        simp only [rdP] at HAn
        simp only [rsVal]
        clear HPf hc1 hc2 hc3 HM
        obtain ⟨Fz, hFz⟩ : ∃ Fz, finD f m neg (strip (D.map (· - 48))) (scE n ng P) false (scE n ng P) = Fz := ⟨_, rfl⟩
        rw [hFz] at HFi HAn
        clear hFz
        generalize tx (strip (D.map (· - 48))) = T at *
        generalize scE n ng P = ex at *
        obtain ⟨F1, F2, F3, F4⟩ := Fz
        have HQ3 : Hid (∀ ob we, Below (wd.alloc ob).heap.size (wd.alloc ob) we → At5 we w.heap.size (.int .i64 0) (.bool false) (.int .i64 0) (.string { data := #[] }) (.int .i64 0) ∧ Below w.heap.size w we) := fun ob we hbe => ⟨(HQ2.out.1.below ((Below.refl wd.heap.size wd).alloc (Nat.le_refl _) ob) HQ2.out.1.lt).below hbe (Nat.lt_of_lt_of_le HQ2.out.1.lt (by simp)), (HQ2.out.2.alloc HQ2.out.2.size ob).trans (hbe.mono (by have := HQ2.out.2.size; simp; omega))⟩
        clear HQ2
        go_wp2_with fail
        refine (HFi.out _).mono ?_
        rintro x we ⟨rfl, hbe⟩
        have HQ5 : Hid (At5 we w.heap.size (.int .i64 0) (.bool false) (.int .i64 0) (.string { data := #[] }) (.int .i64 0) ∧ Below w.heap.size w we) := HQ3.out _ we hbe
        clear hbe HQ3 HFi
        go_wp2_with (refine wpList_store_row rfl 30 (.tmp 6) (.tmp 75) rfl w.heap.size #[.int .i64 F1, .bool neg, .int .i64 F2, .string F3, .int .i64 F4] rfl rfl _ _ HQ5.out.1 (by kernel_rfl) rfl (one5 _ _ _ _ _) ?_)
        have hP := (HQ5.out.1.row (.int .i64 F1) (.bool neg) (.int .i64 F2) (.string F3) (.int .i64 F4)).cells
        refine bodyPost_ret (results_rsb rfl _ _ rfl hP.1 hP.2.1 hP.2.2.1 hP.2.2.2.1 hP.2.2.2.2.1) rfl ?_
        exact ⟨congrArg Ending.returned HAn.out, bel_row HQ5.out.2 (Nat.le_refl _) _⟩
    · have hKv : K = 2 ∨ K = 3 ∨ K = 4 := HKv.out.resolve_left hK
      rw [if_pos hK] at HAn
      clear HR3 HDr HPf hK HKv
      rcases neg with _ | _ <;> rcases hKv with rfl | rfl | rfl
      · have hB1 := build_numB 2 false
        have hB2 := build_res0 2 false 0 { data := #[] }
        go_wp2_with (refine wpList_store_row rfl 30 (.tmp 6) (.tmp 58) rfl w.heap.size #[.int .i64 2, .bool false, .int .i64 0, .string { data := #[] }, .int .i64 0] rfl rfl _ _ HQ.out.1 (by kernel_rfl) rfl (one5 _ _ _ _ _) ?_)
        have hP := (HQ.out.1.row (.int .i64 2) (.bool false) (.int .i64 0) (.string { data := #[] }) (.int .i64 0)).cells
        refine bodyPost_ret (results_rsb rfl _ _ rfl hP.1 hP.2.1 hP.2.2.1 hP.2.2.2.1 hP.2.2.2.2.1) rfl ?_
        exact ⟨congrArg Ending.returned HAn.out, bel_row HQ.out.2 (Nat.le_refl _) _⟩
      · have hB1 := build_numB 3 false
        have hB2 := build_res0 3 false 0 { data := #[] }
        go_wp2_with (refine wpList_store_row rfl 30 (.tmp 6) (.tmp 58) rfl w.heap.size #[.int .i64 3, .bool false, .int .i64 0, .string { data := #[] }, .int .i64 0] rfl rfl _ _ HQ.out.1 (by kernel_rfl) rfl (one5 _ _ _ _ _) ?_)
        have hP := (HQ.out.1.row (.int .i64 3) (.bool false) (.int .i64 0) (.string { data := #[] }) (.int .i64 0)).cells
        refine bodyPost_ret (results_rsb rfl _ _ rfl hP.1 hP.2.1 hP.2.2.1 hP.2.2.2.1 hP.2.2.2.2.1) rfl ?_
        exact ⟨congrArg Ending.returned HAn.out, bel_row HQ.out.2 (Nat.le_refl _) _⟩
      · have hB1 := build_numB 4 false
        have hB2 := build_res0 4 false 0 { data := #[] }
        go_wp2_with (refine wpList_store_row rfl 30 (.tmp 6) (.tmp 58) rfl w.heap.size #[.int .i64 4, .bool false, .int .i64 0, .string { data := #[] }, .int .i64 0] rfl rfl _ _ HQ.out.1 (by kernel_rfl) rfl (one5 _ _ _ _ _) ?_)
        have hP := (HQ.out.1.row (.int .i64 4) (.bool false) (.int .i64 0) (.string { data := #[] }) (.int .i64 0)).cells
        refine bodyPost_ret (results_rsb rfl _ _ rfl hP.1 hP.2.1 hP.2.2.1 hP.2.2.2.1 hP.2.2.2.2.1) rfl ?_
        exact ⟨congrArg Ending.returned HAn.out, bel_row HQ.out.2 (Nat.le_refl _) _⟩
      · have hB1 := build_numB 2 true
        have hB2 := build_res0 2 true 0 { data := #[] }
        go_wp2_with (refine wpList_store_row rfl 30 (.tmp 6) (.tmp 58) rfl w.heap.size #[.int .i64 2, .bool true, .int .i64 0, .string { data := #[] }, .int .i64 0] rfl rfl _ _ HQ.out.1 (by kernel_rfl) rfl (one5 _ _ _ _ _) ?_)
        have hP := (HQ.out.1.row (.int .i64 2) (.bool true) (.int .i64 0) (.string { data := #[] }) (.int .i64 0)).cells
        refine bodyPost_ret (results_rsb rfl _ _ rfl hP.1 hP.2.1 hP.2.2.1 hP.2.2.2.1 hP.2.2.2.2.1) rfl ?_
        exact ⟨congrArg Ending.returned HAn.out, bel_row HQ.out.2 (Nat.le_refl _) _⟩
      · have hB1 := build_numB 3 false
        have hB2 := build_res0 3 false 0 { data := #[] }
        go_wp2_with (refine wpList_store_row rfl 30 (.tmp 6) (.tmp 58) rfl w.heap.size #[.int .i64 3, .bool false, .int .i64 0, .string { data := #[] }, .int .i64 0] rfl rfl _ _ HQ.out.1 (by kernel_rfl) rfl (one5 _ _ _ _ _) ?_)
        have hP := (HQ.out.1.row (.int .i64 3) (.bool false) (.int .i64 0) (.string { data := #[] }) (.int .i64 0)).cells
        refine bodyPost_ret (results_rsb rfl _ _ rfl hP.1 hP.2.1 hP.2.2.1 hP.2.2.2.1 hP.2.2.2.2.1) rfl ?_
        exact ⟨congrArg Ending.returned HAn.out, bel_row HQ.out.2 (Nat.le_refl _) _⟩
      · have hB1 := build_numB 4 false
        have hB2 := build_res0 4 false 0 { data := #[] }
        go_wp2_with (refine wpList_store_row rfl 30 (.tmp 6) (.tmp 58) rfl w.heap.size #[.int .i64 4, .bool false, .int .i64 0, .string { data := #[] }, .int .i64 0] rfl rfl _ _ HQ.out.1 (by kernel_rfl) rfl (one5 _ _ _ _ _) ?_)
        have hP := (HQ.out.1.row (.int .i64 4) (.bool false) (.int .i64 0) (.string { data := #[] }) (.int .i64 0)).cells
        refine bodyPost_ret (results_rsb rfl _ _ rfl hP.1 hP.2.1 hP.2.2.1 hP.2.2.2.1 hP.2.2.2.2.1) rfl ?_
        exact ⟨congrArg Ending.returned HAn.out, bel_row HQ.out.2 (Nat.le_refl _) _⟩
end Go.Proofs.YtdkpiofeidcffaaGreatDoor
