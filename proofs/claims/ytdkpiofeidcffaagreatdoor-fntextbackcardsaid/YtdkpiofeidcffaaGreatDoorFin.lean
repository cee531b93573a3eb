/-
  An exact result finished, of the model, walked.
-/
import Derived.Test.YtdkpiofeidcffaaGreatDoorFinP
import Derived.Test.YtdkpiofeidcffaaGreatDoorRnd2
import Derived.Deep.CutBlock
import Derived.Deep.DeepCutAuto
import Derived.Deep.LoopGhost
import Derived.Great.Walk
import Derived.Laws.CopyOwn
import Derived.Laws.Tables
namespace Go.Proofs.YtdkpiofeidcffaaGreatDoor
open Go.RowKit
set_option linter.unusedVariables false
set_option maxRecDepth 100000
/-- A function's end, behind its last store. -/
theorem end_ret {P : Program} {ops : Array Oper} {Q : Exit → Act → World → Prop} {K : Act → World → Prop} {a : Act} {w : World} (hK : ∀ a w, Code.wp P Code.ret Q a w → K a w) (h : Q .ret a w) : Hid (wpList P ops (Exit.then K Q) [] a w) := hK _ _ (wp_ret h)
set_option maxRecDepth 100000 in
set_option maxHeartbeats 8000000 in
theorem l12Finish_any (f mode : Int) (neg : Bool) (ds : List Int) (e : Int) (rest : Bool) (want : Int) (P : Nat) (low high : Int) (w : World)
    (hP : limP f = P) (hL : limL f = low) (hH : limH f = high) (p1 : 1 ≤ P) (p2 : P ≤ 34) (l1 : -6176 ≤ low) (l2 : low ≤ -398) (h1 : 369 ≤ high) (h2 : high ≤ 6111)
    (hc : Canon ds) (hz : ds ≠ [0]) (hl : ds.length ≤ 200) (e1 : -200000 ≤ e) (e2 : e ≤ 200000) (w1 : -200000 ≤ want) (w2 : want ≤ 200000) :
    Calls Tryz.prog 39 #[.int .i64 f, .int .i64 mode, .bool neg, .string (tx ds), .int .i64 e, .bool rest, .int .i64 want] w fun x w' =>
      x = .returned (rsV (finN P low high mode neg ds e rest want).1 neg (finN P low high mode neg ds e rest want).2.1 (finN P low high mode neg ds e rest want).2.2.1 (finN P low high mode neg ds e rest want).2.2.2) ∧ Below w.heap.size w w' := by
  have hz0 : ((tx ds).toList == [48]) = false := tx_is0 ds hc.1 hz
  have hn0 : 0 < ds.length := hc.2.1
  have HC : Hid (Canon ds ∧ ds ≠ [0]) := ⟨hc, hz⟩
  have HL : Hid (limP f = P ∧ limL f = low ∧ limH f = high) := ⟨hP, hL, hH⟩
  have HZ : Hid (At5 (w.alloc (.cells #[.int .i64 0, .bool false, .int .i64 0, .string { data := #[] }, .int .i64 0] 30)) w.heap.size (.int .i64 0) (.bool false) (.int .i64 0) (.string { data := #[] }) (.int .i64 0) ∧ Below w.heap.size w (w.alloc (.cells #[.int .i64 0, .bool false, .int .i64 0, .string { data := #[] }, .int .i64 0] 30))) := ⟨at5_new w _ _ _ _ _, (Below.refl _ _).alloc (Nat.le_refl _) _⟩
  have hJ : Hid (finJ P ds.length rest ≤ 35 ∧ (∀ i, i < finJ P ds.length rest → rest = true ∧ ds.length + i ≤ P) ∧ (rest = false ∨ P < ds.length + finJ P ds.length rest) ∧ (rest = false → finJ P ds.length rest = 0)) := by
    show _ ∧ _ ∧ _ ∧ _
    unfold finJ
    cases rest with
    | true => exact ⟨by simp; omega, fun i hi => ⟨rfl, by simp at hi; omega⟩, .inr (by simp; omega), fun h => by cases h⟩
    | false => exact ⟨by simp, fun i hi => by simp at hi, .inl rfl, fun _ => rfl⟩
  clear hc hz hP hL hH
  obtain ⟨FN, hFN⟩ : ∃ F, finN P low high mode neg ds e rest want = F := ⟨_, rfl⟩
  have HFN : Hid (finN P low high mode neg ds e rest want = FN) := hFN
  rw [hFN]
  clear hFN
  obtain ⟨j, hj⟩ : ∃ j, finJ P ds.length rest = j := ⟨_, rfl⟩
  have HJE : Hid (finJ P ds.length rest = j) := hj
  rw [hj] at hJ
  clear hj
  obtain ⟨j35, hj1, hj2, hj3⟩ := hJ.out
  have HJ1 : Hid (∀ i, i < j → rest = true ∧ ds.length + i ≤ P) := hj1
  have HJ2 : Hid (rest = false ∨ P < ds.length + j) := hj2
  have HJ3 : Hid (rest = false → j = 0) := hj3
  clear hJ hj1 hj2 hj3
  go_enter Tryz.func39, Tryz.ntmps39
  go_wp2_with fail
  refine (Limits_any f _).mono ?_
  rintro x wa ⟨rfl, hwa⟩
  rw [HL.out.1, HL.out.2.1, HL.out.2.2]
  rw [← hwa] at HZ
  clear hwa
  go_upto_block 0 with fail
  go_cut [3, 4] (fun s x wx => s = .string (tx (ds ++ List.replicate j 0)) ∧ x = .int .i64 (e - (j : Int)) ∧ wx = wa)
  case first =>
    go_wp2_with fail
    go_loopg [3, 4] j (fun gk s x wx => ∃ i : Nat, i ≤ j ∧ gk = j - i ∧ s = .string (tx (ds ++ List.replicate i 0)) ∧ x = .int .i64 (e - (i : Int)) ∧ wx = wa)
    case atStart => exact ⟨0, Nat.zero_le _, rfl, by simp, by simp, rfl⟩
    case round =>
      obtain ⟨i, hi, hgk, rfl, rfl, hwr⟩ := hrel
      have HG : Hid (gk = j - i) := hgk
      have HW : Hid (wr = wa) := hwr
      clear hgk hwr
      have hsz : (tx (ds ++ List.replicate i 0)).size = ds.length + i := by rw [tx_size]; simp
      by_cases hlt : i < j
      · obtain ⟨hr, hle⟩ := HJ1.out i hlt
        subst hr
        have hle' : ((tx (ds ++ List.replicate i 0)).size : Int) ≤ (P : Int) := by omega
        have hm8 : ((tx (ds ++ List.replicate i 0)).size : Int) ≤ 8388608 := by omega
        have hap : tx (ds ++ List.replicate i 0) ++ { data := #[48] } = tx (ds ++ List.replicate (i + 1) 0) := by
          rw [tx_more, List.append_assoc, List.replicate_succ']
        clear hsz hle
        go_wp2
        go_roundg (j - (i + 1))
        case measure => have := HG.out; omega
        case rel => exact ⟨i + 1, by omega, rfl, rfl, by go_num, HW.out⟩
      · have ei : i = j := by omega
        subst ei
        rcases HJ2.out with hr | hgt
        · subst hr
          go_wp2
          go_meet
          case rel => exact ⟨rfl, rfl, HW.out⟩
        · have hgt' : ¬ ((tx (ds ++ List.replicate i 0)).size : Int) ≤ (P : Int) := by omega
          cases rest with
          | true =>
            go_wp2
            go_meet
            case rel => exact ⟨rfl, rfl, HW.out⟩
          | false =>
            go_wp2
            go_meet
            case rel => exact ⟨rfl, rfl, HW.out⟩
  case rest =>
    obtain ⟨rfl, rfl, rfl⟩ := hcut
    have HD1 : Hid (Canon (ds ++ List.replicate j 0) ∧ vl (ds ++ List.replicate j 0) = vl ds * 10 ^ j ∧ (ds ++ List.replicate j 0).length = ds.length + j) := ⟨canon_noughts ds j HC.out.1 HC.out.2, vl_noughts ds j, by simp⟩
    have hsz : (tx (ds ++ List.replicate j 0)).size = ds.length + j := by rw [tx_size]; simp
    have hl1 : ds.length + j ≤ 235 := by omega
    generalize ds ++ List.replicate j 0 = D1 at *
    obtain ⟨n1, hn1⟩ : ∃ n1, ds.length + j = n1 := ⟨_, rfl⟩
    obtain ⟨x1, hx1⟩ : ∃ x1, e - (j : Int) = x1 := ⟨_, rfl⟩
    have HN1 : Hid (ds.length + j = n1 ∧ e - (j : Int) = x1) := ⟨hn1, hx1⟩
    rw [hn1] at HD1 hsz hl1
    rw [hx1]
    have hx2 : -200035 ≤ x1 ∧ x1 ≤ 200000 := by omega
    have hn2 : 0 < n1 := by omega
    have hsn : (n1 : Int) + x1 = (ds.length : Int) + e := by omega
    have HSN : Hid ((n1 : Int) + x1 = (ds.length : Int) + e) := hsn
    obtain ⟨dr, hdr⟩ : ∃ dr, finDr P n1 low x1 = dr := ⟨_, rfl⟩
    have hdm : max (max 0 ((n1 : Int) - (P : Int))) (low - x1) = (dr : Int) := by rw [← hdr]; unfold finDr; omega
    have HDM : Hid (max (max 0 ((n1 : Int) - (P : Int))) (low - x1) = (dr : Int)) := hdm
    have HDR : Hid (finDr P n1 low x1 = dr) := hdr
    have hdr2 : (dr : Int) ≤ 200000 := by omega
    clear hdr hdm hn1 hx1 hsn HJ1 HJ2 HJ3
    obtain ⟨DD, KK, RR, hD1, hD2, hD3, hD4, hD5, hD6, hD7⟩ : ∃ (DD : List Int) (KK : Nat) (RR : Bool), (200 < dr → DD = [1] ∧ KK = 200 ∧ RR = true) ∧ (¬ 200 < dr → DD = D1 ∧ KK = dr ∧ RR = rest) ∧ Canon DD ∧ DD.length ≤ 300 ∧ KK ≤ 200 ∧ rndV mode neg (vl DD) KK RR = finV mode neg (vl ds * 10 ^ j) dr rest ∧ rndL (vl DD) KK RR = finLs (vl ds * 10 ^ j) dr rest := by
      by_cases h : 200 < dr
      · refine ⟨[1], 200, true, fun _ => ⟨rfl, rfl, rfl⟩, fun c => absurd h c, canon_one 1 (by decide) (by decide), by simp, by decide, ?_, ?_⟩
        · unfold finV; rw [if_pos h]; rfl
        · unfold finLs; rw [if_pos h]; rfl
      · refine ⟨D1, dr, rest, fun c => absurd c h, fun _ => ⟨rfl, rfl, rfl⟩, HD1.out.1, by rw [HD1.out.2.2]; omega, by omega, ?_, ?_⟩
        · unfold finV; rw [if_neg h, HD1.out.2.1]
        · unfold finLs; rw [if_neg h, HD1.out.2.1]
    have HDD : Hid ((200 < dr → DD = [1] ∧ KK = 200 ∧ RR = true) ∧ (¬ 200 < dr → DD = D1 ∧ KK = dr ∧ RR = rest)) := ⟨hD1, hD2⟩
    have HRD : Hid (∀ X, Calls Tryz.prog 72 #[.int .i64 mode, .bool neg, .string (tx DD), .int .i64 (KK : Int), .bool RR] X fun x w' => x = .returned (.tuple #[.string (tx (nt (finV mode neg (vl ds * 10 ^ j) dr rest))), .bool (finLs (vl ds * 10 ^ j) dr rest)]) ∧ Below X.heap.size X w') := fun X => by
      rw [← hD6, ← hD7]; exact l12Round_any mode neg DD KK RR X hD3 hD4 hD5
    have HC2 : Hid (Canon (nt (finV mode neg (vl ds * 10 ^ j) dr rest)) ∧ (nt (finV mode neg (vl ds * 10 ^ j) dr rest)).length ≤ 500) := by
      rw [← hD6]
      exact ⟨(nt_spec _ (rndV_bd mode neg (vl DD) KK RR (vl_bd DD hD3.1).1 (Int.lt_of_lt_of_le (vl_bd DD hD3.1).2 (pow_mono _ _ hD4))).1 (rndV_bd mode neg (vl DD) KK RR (vl_bd DD hD3.1).1 (Int.lt_of_lt_of_le (vl_bd DD hD3.1).2 (pow_mono _ _ hD4))).2).1, nt_500 _⟩
    clear hD1 hD2 hD3 hD4 hD5 hD6 hD7 HD1
    obtain ⟨D2, hD2⟩ : ∃ D2, nt (finV mode neg (vl ds * 10 ^ j) dr rest) = D2 := ⟨_, rfl⟩
    obtain ⟨lost, hlost⟩ : ∃ l, finLs (vl ds * 10 ^ j) dr rest = l := ⟨_, rfl⟩
    have HD2 : Hid (nt (finV mode neg (vl ds * 10 ^ j) dr rest) = D2 ∧ finLs (vl ds * 10 ^ j) dr rest = lost) := ⟨hD2, hlost⟩
    rw [hD2, hlost] at HRD
    rw [hD2] at HC2
    clear hD2 hlost
    have HE : Hid (fin5 P high mode neg (fin3D lost (finT P D2) (finTE P D2 (x1 + dr)) want low high P) (fin3E lost (finT P D2) (finTE P D2 (x1 + dr)) want low high P) (finF lost (ds.length + e) low P) = FN) := by
      show _ = _
      rw [← HFN.out]
      show _ = finN P low high mode neg ds e rest want
      unfold finN
      simp only [HJE.out, HN1.out.1, HN1.out.2, HDR.out, HD2.out.1, HD2.out.2]
    clear HFN HJE HN1 HDR HD2 HC HL
    go_wp2_with fail
    refine (l1Max_is 0 ((n1 : Int) - (P : Int)) _).mono ?_
    rintro x wb ⟨rfl, rfl⟩
    go_wp2_with fail
    refine (l1Max_is (max 0 ((n1 : Int) - (P : Int))) (low - x1) _).mono ?_
    rintro x wb ⟨rfl, rfl⟩
    rw [HDM.out]
    generalize max (0 : Int) ((n1 : Int) - (P : Int)) = mx at *
    go_upto_if 70 with fail
    go_cut [20, 21, 22] (fun d k r wx => d = .string (tx DD) ∧ k = .int .i64 (KK : Int) ∧ r = .bool RR ∧ wx = wb)
    case first =>
      by_cases h : 200 < dr
      · obtain ⟨q1, q2, q3⟩ := HDD.out.1 h
        have h' : (200 : Int) < (dr : Int) := by omega
        have E1 : Hid (tx DD = { data := #[49] } ∧ (KK : Int) = 200 ∧ RR = true) := ⟨by rw [q1]; exact tx_1, by omega, q3⟩
        clear q1 q2 q3 h
        go_wp2
        go_meet
        case rel => exact ⟨by rw [E1.out.1], by rw [E1.out.2.1], by rw [E1.out.2.2], rfl⟩
      · obtain ⟨q1, q2, q3⟩ := HDD.out.2 h
        have h' : ¬ (200 : Int) < (dr : Int) := by omega
        have E1 : Hid (DD = D1 ∧ KK = dr ∧ RR = rest) := ⟨q1, q2, q3⟩
        clear q1 q2 q3 h
        go_wp2
        go_meet
        case rel => exact ⟨by rw [E1.out.1], by rw [E1.out.2.1], by rw [E1.out.2.2], rfl⟩
    case rest =>
      obtain ⟨rfl, rfl, rfl, rfl⟩ := hcut
      clear HDD HDM
      go_wp2_with fail
      refine (HRD.out _).mono ?_
      rintro x wd ⟨rfl, hbd⟩
      have HZ2 : Hid (At5 wd w.heap.size (.int .i64 0) (.bool false) (.int .i64 0) (.string { data := #[] }) (.int .i64 0) ∧ Below w.heap.size w wd) := ⟨HZ.out.1.below hbd HZ.out.1.lt, HZ.out.2.trans (hbd.mono HZ.out.2.size)⟩
      clear HZ hbd HRD
      have hd0 : 0 < D2.length := HC2.out.1.2.1
      have hd5 : D2.length ≤ 500 := HC2.out.2
      obtain ⟨x3, hx3⟩ : ∃ x3, x1 + (dr : Int) = x3 := ⟨_, rfl⟩
      rw [hx3] at HE
      have hx4 : -200035 ≤ x3 ∧ x3 ≤ 400000 := by omega
      go_upto_if 86 with fail
      go_cut [20, 4] (fun d x wx => d = .string (tx (finT P D2)) ∧ x = .int .i64 (finTE P D2 x3) ∧ wx = wd)
      case first =>
        have hsz2 : (tx D2).size = D2.length := tx_size D2
        by_cases h : P < D2.length
        · have h' : (P : Int) < (D2.length : Int) := by omega
          have E1 : Hid (finT P D2 = D2.take P ∧ finTE P D2 x3 = x3 + 1) := ⟨by unfold finT; rw [if_pos h], by unfold finTE; rw [if_pos h]⟩
          have ht := tx_take D2 P (by omega)
          have hle : (P : Int) ≤ (D2.length : Int) := by omega
          clear h
          go_wp2
          go_meet
          case rel => exact ⟨by rw [E1.out.1], by rw [E1.out.2], rfl⟩
        · have h' : ¬ (P : Int) < (D2.length : Int) := by omega
          have E1 : Hid (finT P D2 = D2 ∧ finTE P D2 x3 = x3) := ⟨by unfold finT; rw [if_neg h], by unfold finTE; rw [if_neg h]⟩
          clear h
          go_wp2
          go_meet
          case rel => exact ⟨by rw [E1.out.1], by rw [E1.out.2], rfl⟩
      case rest =>
        obtain ⟨rfl, rfl, rfl⟩ := hcut
        have HT : Hid (Dec (finT P D2) ∧ 0 < (finT P D2).length ∧ (finT P D2).length ≤ 500) := by
          show _ ∧ _ ∧ _
          unfold finT
          split
          · exact ⟨fun x hx => HC2.out.1.1 x (List.mem_of_mem_take hx), by rw [List.length_take]; omega, by rw [List.length_take]; omega⟩
          · exact ⟨HC2.out.1.1, hd0, hd5⟩
        have hte : -200035 ≤ finTE P D2 x3 ∧ finTE P D2 x3 ≤ 400001 := by unfold finTE; split <;> omega
        generalize finT P D2 = D3 at *
        generalize finTE P D2 x3 = x5 at *
        clear HC2 hd0 hd5
        have hd0 := HT.out.2.1
        have hd5 := HT.out.2.2
        go_upto_if 92 with fail
        go_cut [20, 4, 24] (fun d x g wx => d = .string (tx (fin3D lost D3 x5 want low high P)) ∧ x = .int .i64 (fin3E lost D3 x5 want low high P) ∧ g = .int .i64 (finF lost (ds.length + e) low P) ∧ wx = wc)
        case first =>
          cases lost with
          | true =>
            have E1 : Hid (fin3D true D3 x5 want low high P = D3 ∧ fin3E true D3 x5 want low high P = x5) := ⟨rfl, rfl⟩
            by_cases h : (ds.length : Int) + e ≤ low + (P : Int) - 1
            · have h' : (n1 : Int) + x1 ≤ low + (P : Int) - 1 := by have := HSN.out; omega
              have E2 : Hid (finF true (ds.length + e) low P = 24) := by show _ = _; unfold finF; rw [if_pos rfl, if_pos h]
              clear h
              go_wp2
              go_meet
              case rel => exact ⟨by rw [E1.out.1], by rw [E1.out.2], by rw [E2.out], rfl⟩
            · have h' : ¬ (n1 : Int) + x1 ≤ low + (P : Int) - 1 := by have := HSN.out; omega
              have E2 : Hid (finF true (ds.length + e) low P = 16) := by show _ = _; unfold finF; rw [if_pos rfl, if_neg h]
              clear h
              go_wp2
              go_meet
              case rel => exact ⟨by rw [E1.out.1], by rw [E1.out.2], by rw [E2.out], rfl⟩
          | false =>
            obtain ⟨n, hn⟩ : ∃ n, D3.length = n := ⟨_, rfl⟩
            obtain ⟨A, hA⟩ : ∃ A, fA D3 x5 want high = A := ⟨_, rfl⟩
            obtain ⟨B, hB⟩ : ∃ B, fB (n - A) P (x5 + (A : Int)) want low = B := ⟨_, rfl⟩
            have E1 : Hid (fin3D false D3 x5 want low high P = D3.take (n - A) ++ List.replicate B 0 ∧ fin3E false D3 x5 want low high P = x5 + (A : Int) - (B : Int) ∧ finF false (ds.length + e) low P = 0) := by
              show _ ∧ _ ∧ _
              unfold fin3D fin3E finF
              rw [hA, hn, hB]
              exact ⟨rfl, rfl, rfl⟩
            have HA1 : Hid (∀ i : Nat, i < A → x5 + (i : Int) < want ∧ x5 + (i : Int) < high ∧ i + 1 < n ∧ D3.getD (n - 1 - i) 0 = 0) := fun i hi => by
              have := fA_more D3 x5 want high i (by omega)
              rwa [hn] at this
            have HA2 : Hid (¬ x5 + (A : Int) < want ∨ ¬ x5 + (A : Int) < high ∨ n ≤ A + 1 ∨ D3.getD (n - 1 - A) 0 ≠ 0) := by
              have := fA_stop D3 x5 want high hd0
              rwa [hA, hn] at this
            have hA0 : A < n := by have := fA_len D3 x5 want high hd0; omega
            have HB1 : Hid (∀ i : Nat, i < B → want < x5 + (A : Int) - (i : Int) ∧ low < x5 + (A : Int) - (i : Int) ∧ n - A + i < P) := fun i hi => fB_more (n - A) P (x5 + (A : Int)) want low i (by omega)
            have HB2 : Hid (¬ want < x5 + (A : Int) - (B : Int) ∨ ¬ (n - A + B < P) ∨ ¬ low < x5 + (A : Int) - (B : Int)) := by
              have := fB_stop (n - A) P (x5 + (A : Int)) want low
              rwa [hB] at this
            have hB0 : B ≤ 34 := by rw [← hB]; unfold fB; omega
            have HX : Hid (∀ k : Nat, k < n → ∃ S, S = tx (D3.take (k + 1)) ∧ S.size = k + 1 ∧ (∀ hk : k < S.size, ((S[k]'hk).toNat : Int) = 48 + D3.getD k 0) ∧ S.extract 0 k = tx (D3.take k) ∧ 0 ≤ D3.getD k 0 ∧ D3.getD k 0 ≤ 9) := fun k hk => by
              have hl : (D3.take (k + 1)).length = k + 1 := by rw [List.length_take]; omega
              refine ⟨_, rfl, by rw [tx_size, hl], fun h => ?_, ?_, dec_at D3 HT.out.1 k⟩
              · rw [tx_at _ (fun x hx => HT.out.1 x (List.mem_of_mem_take hx)) k h]
                simp [List.getD, List.getElem?_take_of_lt (Nat.lt_succ_self k)]
              · rw [tx_take _ k (by omega), List.take_take, Nat.min_eq_left (by omega)]
            have HS0 : Hid (tx D3 = tx (D3.take (n - 0))) := by show _ = _; rw [Nat.sub_zero, List.take_of_length_le (by omega)]
            rw [hn] at hd0 hd5
            have Hn : Hid (D3.length = n) := hn
            clear hA hB hn
            go_upto_block 2 with fail
            go_cut [20, 4] (fun d x wx => d = .string (tx (D3.take (n - A))) ∧ x = .int .i64 (x5 + (A : Int)) ∧ wx = wc)
            case first =>
              go_wp2_with fail
              go_loopg [20, 4] A (fun gk d x wx => ∃ i : Nat, i ≤ A ∧ gk = A - i ∧ d = .string (tx (D3.take (n - i))) ∧ x = .int .i64 (x5 + (i : Int)) ∧ wx = wc)
              case atStart => exact ⟨0, Nat.zero_le _, rfl, by rw [HS0.out], by simp, rfl⟩
              case round =>
                obtain ⟨i, hi, hgk, rfl, rfl, hwr⟩ := hrel
                have HG : Hid (gk = A - i) := hgk
                have HW : Hid (wr = wc) := hwr
                clear hgk hwr
                obtain ⟨k, hk⟩ : ∃ k, n - 1 - i = k := ⟨_, rfl⟩
                have hk1 : n - i = k + 1 := by omega
                rw [hk1]
                obtain ⟨S, hS, y1, y2, y3, y4, y5⟩ := HX.out k (by omega)
                have HSS : Hid (S = tx (D3.take (k + 1))) := hS
                rw [← hS]
                clear hS
                obtain ⟨m, hm⟩ : ∃ m, k + 1 = m := ⟨_, rfl⟩
                replace y1 := y1.trans hm
                have hkk : k < S.size := by rw [y1]; omega
                have y2' := y2 hkk
                have wm : IntKind.i64.wrap ((m : Int) - 1) = (k : Int) := by rw [IntKind.wrap_i64]; omega
                have km : (k : Int) ≤ (m : Int) := by omega
                have km2 : (k : Int) < (m : Int) := by omega
                have km3 : ¬ (k : Int) < 0 := by omega
                have HM : Hid (k + 1 = m ∧ n - 1 - i = k ∧ 0 ≤ D3.getD k 0 ∧ D3.getD k 0 ≤ 9) := ⟨hm, hk, y4, y5⟩
                clear y2 y4 y5 hm
                by_cases hlt : i < A
                · obtain ⟨z1, z2, z3, z4⟩ := HA1.out i hlt
                  rw [hk] at z4
                  have y6 : (((S[k]'hkk).toNat : Int)) = 48 := by rw [y2', z4]; rfl
                  have z5 : (1 : Int) < (m : Int) := by have := HM.out.1; omega
                  have HK : Hid (n - (i + 1) = k) := by show _ = _; omega
                  clear y2' z3 z4 hk hk1
                  go_wp2
                  go_roundg (A - (i + 1))
                  case measure => have := HG.out; omega
                  case rel => exact ⟨i + 1, by omega, rfl, by rw [HK.out], by go_num, HW.out⟩
                · have ei : i = A := by omega
                  subst ei
                  have HK : Hid (Value.string S = Value.string (tx (D3.take (n - i)))) := by show _ = _; rw [hk1]; exact congrArg Value.string HSS.out
                  by_cases g1 : x5 + (i : Int) < want
                  · by_cases g2 : (1 : Int) < (m : Int)
                    · by_cases g3 : D3.getD k 0 = 0
                      · have g4 : ¬ x5 + (i : Int) < high := by
                          rcases HA2.out with c | c | c | c
                          · omega
                          · omega
                          · have := HM.out; omega
                          · rw [hk] at c; exact absurd g3 c
                        have y6 : (((S[k]'hkk).toNat : Int)) = 48 := by rw [y2', g3]; rfl
                        clear hk hk1 g3 y2' hlt
                        go_wp2
                        go_meet
                        case rel => exact ⟨HK.out, rfl, HW.out⟩
                      · have g5 : (((S[k]'hkk).toNat : Int) == 48) = false := by
                          rw [y2']; exact beq_eq_false_iff_ne.2 (by omega)
                        clear hk hk1 g3 y2' hlt
                        go_wp2
                        go_meet
                        case rel => exact ⟨HK.out, rfl, HW.out⟩
                    · clear hk hk1 hlt y2'
                      go_wp2
                      go_meet
                      case rel => exact ⟨HK.out, rfl, HW.out⟩
                  · clear hk hk1 hlt y2'
                    go_wp2
                    go_meet
                    case rel => exact ⟨HK.out, rfl, HW.out⟩
            case rest =>
              obtain ⟨rfl, rfl, rfl⟩ := hcut
              have HL4 : Hid (∀ i, i ≤ B → (tx (D3.take (n - A) ++ List.replicate i 0)).size = n - A + i) := fun i hi => by
                have := Hn.out
                rw [tx_size, List.length_append, List.length_take, List.length_replicate]; omega
              have HS1 : Hid (tx (D3.take (n - A)) = tx (D3.take (n - A) ++ List.replicate 0 0)) := by show _ = _; simp
              clear HA1 HA2 HX HS0
              generalize D3.take (n - A) = D4 at *
              obtain ⟨m, hm⟩ : ∃ m, n - A = m := ⟨_, rfl⟩
              rw [hm] at HL4 HB1 HB2
              have hm5 : m ≤ 500 := by omega
              have hxa : -200035 ≤ x5 + (A : Int) ∧ x5 + (A : Int) ≤ 400501 := by omega
              generalize x5 + (A : Int) = x6 at *
              have HX6 : Hid (∀ i, i ≤ B → ∃ S m', S = tx (D4 ++ List.replicate i 0) ∧ S.size = m' ∧ m' = m + i ∧ S ++ { data := #[48] } = tx (D4 ++ List.replicate (i + 1) 0)) := fun i hi => ⟨_, _, rfl, HL4.out i hi, rfl, by rw [tx_more, List.append_assoc, List.replicate_succ']⟩
              clear HL4 hm HT Hn hA0 hd0 hd5
              go_upto_block 4 with fail
              go_cut [20, 4] (fun d x wx => d = .string (tx (D4 ++ List.replicate B 0)) ∧ x = .int .i64 (x6 - (B : Int)) ∧ wx = wc)
              case first =>
                go_wp2_with fail
                go_loopg [20, 4] B (fun gk d x wx => ∃ i : Nat, i ≤ B ∧ gk = B - i ∧ d = .string (tx (D4 ++ List.replicate i 0)) ∧ x = .int .i64 (x6 - (i : Int)) ∧ wx = wc)
                case atStart => exact ⟨0, Nat.zero_le _, rfl, by rw [HS1.out], by simp, rfl⟩
                case round =>
                  obtain ⟨i, hi, hgk, rfl, rfl, hwr⟩ := hrel
                  have HG : Hid (gk = B - i) := hgk
                  have HW : Hid (wr = wc) := hwr
                  clear hgk hwr
                  obtain ⟨S, m', hS, y1, hm', y3⟩ := HX6.out i hi
                  have HSS : Hid (S = tx (D4 ++ List.replicate i 0) ∧ m' = m + i) := ⟨hS, hm'⟩
                  rw [← hS]
                  have hm8 : m' ≤ 600 := by omega
                  clear hS
                  by_cases hlt : i < B
                  · obtain ⟨z1, z2, z3⟩ := HB1.out i hlt
                    have z4 : (m' : Int) < (P : Int) := by omega
                    have z5 : (m' : Int) ≤ 8388608 := by omega
                    clear hm' z3
                    go_wp2
                    go_roundg (B - (i + 1))
                    case measure => have := HG.out; omega
                    case rel => exact ⟨i + 1, by omega, rfl, rfl, by go_num, HW.out⟩
                  · have ei : i = B := by omega
                    subst ei
                    clear hlt
                    by_cases g1 : want < x6 - (i : Int)
                    · by_cases g2 : (m' : Int) < (P : Int)
                      · have g3 : ¬ low < x6 - (i : Int) := by
                          rcases HB2.out with c | c | c
                          · omega
                          · omega
                          · omega
                        clear hm'
                        go_wp2
                        go_meet
                        case rel => exact ⟨by rw [HSS.out.1], rfl, HW.out⟩
                      · clear hm'
                        go_wp2
                        go_meet
                        case rel => exact ⟨by rw [HSS.out.1], rfl, HW.out⟩
                    · clear hm'
                      go_wp2
                      go_meet
                      case rel => exact ⟨by rw [HSS.out.1], rfl, HW.out⟩
              case rest =>
                obtain ⟨rfl, rfl, rfl⟩ := hcut
                go_wp2
                go_meet
                case rel => exact ⟨by rw [E1.out.1], by rw [E1.out.2.1], by rw [E1.out.2.2], rfl⟩
        case rest =>
          obtain ⟨rfl, rfl, rfl, rfl⟩ := hcut
          obtain ⟨b1, b2, b3, b4⟩ := fin3_bd lost D3 x5 want low high P hd0 hd5 p2
          generalize fin3D lost D3 x5 want low high P = D5 at *
          generalize fin3E lost D3 x5 want low high P = x7 at *
          generalize finF lost (ds.length + e) low P = fl at *
          clear HT hsz HSN
          have hx7 : -200600 ≤ x7 ∧ x7 ≤ 400600 := by omega
          clear b3 b4 hte hx4
          obtain ⟨n5, hn5⟩ : ∃ n5, D5.length = n5 := ⟨_, rfl⟩
          obtain ⟨C, hC⟩ : ∃ C, fC n5 P x7 high = C := ⟨_, rfl⟩
          have HC1 : Hid (∀ i : Nat, i < C → high < x7 - (i : Int) ∧ n5 + i < P) := fun i hi => fC_more n5 P x7 high i (by omega)
          have HC2 : Hid (¬ high < x7 - (C : Int) ∨ ¬ (n5 + C < P)) := by
            have := fC_stop n5 P x7 high
            rwa [hC] at this
          have hC0 : C ≤ 34 := by rw [← hC]; unfold fC; omega
          have HE2 : Hid ((x7 - (C : Int) ≤ high → FN = (1, x7 - (C : Int), tx (D5 ++ List.replicate C 0), fl)) ∧ (¬ x7 - (C : Int) ≤ high → (finG mode neg = true → FN = (1, high, tx (List.replicate P 9), 20)) ∧ (finG mode neg = false → FN = (2, 0, { data := #[] }, 20)))) := by
            have hx : fin4E D5 x7 high P = x7 - (C : Int) := by unfold fin4E; rw [hn5, hC]
            have hd : fin4D D5 x7 high P = D5 ++ List.replicate C 0 := by unfold fin4D; rw [hn5, hC]
            rw [← HE.out]
            unfold fin5
            rw [hx, hd]
            exact ⟨fun h => by rw [if_pos h], fun h => ⟨fun g => by rw [if_neg h, g, if_pos rfl], fun g => by rw [if_neg h, g]; rfl⟩⟩
          have HX8 : Hid (∀ i, i ≤ C → ∃ S m', S = tx (D5 ++ List.replicate i 0) ∧ S.size = m' ∧ m' = n5 + i ∧ S ++ { data := #[48] } = tx (D5 ++ List.replicate (i + 1) 0)) := fun i hi => ⟨_, _, rfl, by rw [tx_size, List.length_append, List.length_replicate, hn5], rfl, by rw [tx_more, List.append_assoc, List.replicate_succ']⟩
          have HS1 : Hid (tx D5 = tx (D5 ++ List.replicate 0 0)) := by show _ = _; simp
          rw [hn5] at b1 b2
          clear hC hn5 HE
          go_upto_block 6 with fail
          go_cut [20, 4] (fun d x wx => d = .string (tx (D5 ++ List.replicate C 0)) ∧ x = .int .i64 (x7 - (C : Int)) ∧ wx = wc)
          case first =>
            go_wp2_with fail
            go_loopg [20, 4] C (fun gk d x wx => ∃ i : Nat, i ≤ C ∧ gk = C - i ∧ d = .string (tx (D5 ++ List.replicate i 0)) ∧ x = .int .i64 (x7 - (i : Int)) ∧ wx = wc)
            case atStart => exact ⟨0, Nat.zero_le _, rfl, by rw [HS1.out], by simp, rfl⟩
            case round =>
              obtain ⟨i, hi, hgk, rfl, rfl, hwr⟩ := hrel
              have HG : Hid (gk = C - i) := hgk
              have HW : Hid (wr = wc) := hwr
              clear hgk hwr
              obtain ⟨S, m', hS, y1, hm', y3⟩ := HX8.out i hi
              have HSS : Hid (S = tx (D5 ++ List.replicate i 0) ∧ m' = n5 + i) := ⟨hS, hm'⟩
              rw [← hS]
              have hm8 : m' ≤ 600 := by omega
              clear hS
              by_cases hlt : i < C
              · obtain ⟨z1, z3⟩ := HC1.out i hlt
                have z4 : (m' : Int) < (P : Int) := by omega
                have z5 : (m' : Int) ≤ 8388608 := by omega
                clear hm' z3
                go_wp2
                go_roundg (C - (i + 1))
                case measure => have := HG.out; omega
                case rel => exact ⟨i + 1, by omega, rfl, rfl, by go_num, HW.out⟩
              · have ei : i = C := by omega
                subst ei
                clear hlt
                by_cases g1 : high < x7 - (i : Int)
                · have g2 : ¬ (m' : Int) < (P : Int) := by
                    rcases HC2.out with c | c
                    · omega
                    · omega
                  clear hm'
                  go_wp2
                  go_meet
                  case rel => exact ⟨by rw [HSS.out.1], rfl, HW.out⟩
                · clear hm'
                  go_wp2
                  go_meet
                  case rel => exact ⟨by rw [HSS.out.1], rfl, HW.out⟩
          case rest =>
            obtain ⟨rfl, rfl, rfl⟩ := hcut
            clear HC1 HC2 HX8 HS1
            generalize tx (D5 ++ List.replicate C 0) = T at *
            have hx8 : -200700 ≤ x7 - (C : Int) ∧ x7 - (C : Int) ≤ 400600 := by omega
            generalize x7 - (C : Int) = x8 at *
            by_cases hfin : x8 ≤ high
            · as_aux_lemma =>
              have EF : Hid (FN = (1, x8, T, fl)) := HE2.out.1 hfin
              clear HE2
              clear hl e1 e2 w1 w2 hz0 hn0 j35 hl1 hx2 hn2 hdr2 hx3 hd0 hd5 hx7 b2 b1 hC0 hx8 p1 l1 l2
              go_wp2_with fail
              refine (l12Finite_any neg T x8 _).mono ?_
              rintro x wd ⟨rfl, hbd⟩
              have HZ3 : Hid (At5 wd w.heap.size (.int .i64 0) (.bool false) (.int .i64 0) (.string { data := #[] }) (.int .i64 0) ∧ Below w.heap.size w wd) := ⟨HZ2.out.1.below hbd HZ2.out.1.lt, HZ2.out.2.trans (hbd.mono HZ2.out.2.size)⟩
              clear hbd HZ2
              have hbl := build_res 1 neg x8 T fl wd
              go_wp2_with (refine wpList_store_row rfl 30 (.tmp 14) (.tmp 168) rfl w.heap.size #[.int .i64 1, .bool neg, .int .i64 x8, .string T, .int .i64 fl] rfl rfl _ _ HZ3.out.1 (by kernel_rfl) rfl (one5 _ _ _ _ _) (Hid.out ?_))
              refine end_ret (by assumption) ?_
              try simp only [Exit.then]
              have hP := (HZ3.out.1.row (.int .i64 1) (.bool neg) (.int .i64 x8) (.string T) (.int .i64 fl)).cells
              refine bodyPost_ret (results_res rfl _ _ rfl hP.1 hP.2.1 hP.2.2.1 hP.2.2.2.1 hP.2.2.2.2.1) rfl ?_
              exact ⟨by rw [EF.out], bel_row HZ3.out.2 (Nat.le_refl _) _⟩
            · obtain ⟨hg1, hg2⟩ := HE2.out.2 hfin
              have HG1 : Hid (finG mode neg = true → FN = (1, high, tx (List.replicate P 9), 20)) := hg1
              have HG2 : Hid (finG mode neg = false → FN = (2, 0, { data := #[] }, 20)) := hg2
              clear HE2 hg1 hg2
              clear hl e1 e2 w1 w2 hz0 hn0 j35 hl1 hx2 hn2 hdr2 hx3 hd0 hd5 hx7 b2 b1 hC0 hx8 p1 l1 l2
              go_upto_region 38 with fail
              go_cut [185] (fun c wx => c = .bool (finG mode neg) ∧ wx = wc)
              case first =>
               as_aux_lemma =>
                by_cases m2 : mode = 2
                · have E : Hid (finG mode neg = true) := by show _ = _; unfold finG; rw [decide_eq_true m2]; rfl
                  have m2b : (mode == 2) = true := by rw [m2]; rfl
                  clear m2
                  go_wp2
                  go_meet
                  case rel => exact ⟨by rw [E.out], rfl⟩
                · have m2b : (mode == 2) = false := beq_eq_false_iff_ne.2 m2
                  have m2d : decide (mode = 2) = false := decide_eq_false m2
                  by_cases m3 : mode = 3
                  · have m4b : (mode == 4) = false := beq_eq_false_iff_ne.2 (by omega)
                    have E : Hid (finG mode neg = !neg) := by show _ = _; unfold finG; rw [m2d, decide_eq_true m3, decide_eq_false (show ¬ mode = 4 by omega)]; cases neg <;> rfl
                    have m3b : (mode == 3) = true := by rw [m3]; rfl
                    clear m3 m2
                    cases neg
                    · clear m2d
                      go_wp2
                      go_meet
                      case rel => exact ⟨by rw [E.out]; rfl, rfl⟩
                    · clear m2d
                      go_wp2
                      go_meet
                      case rel => exact ⟨by rw [E.out]; rfl, rfl⟩
                  · have m3b : (mode == 3) = false := beq_eq_false_iff_ne.2 m3
                    have m3d : decide (mode = 3) = false := decide_eq_false m3
                    by_cases m4 : mode = 4
                    · have E : Hid (finG mode neg = neg) := by show _ = _; unfold finG; rw [m2d, m3d, decide_eq_true m4]; cases neg <;> rfl
                      have m4b : (mode == 4) = true := by rw [m4]; rfl
                      clear m2d m3d m4 m3 m2
                      cases neg
                      · go_wp2
                        go_meet
                        case rel => exact ⟨by rw [E.out], rfl⟩
                      · go_wp2
                        go_meet
                        case rel => exact ⟨by rw [E.out], rfl⟩
                    · have m4b : (mode == 4) = false := beq_eq_false_iff_ne.2 m4
                      have E : Hid (finG mode neg = false) := by show _ = _; unfold finG; rw [m2d, m3d, decide_eq_false m4]; cases neg <;> rfl
                      clear m2d m3d
                      go_wp2
                      go_meet
                      case rel => exact ⟨by rw [E.out], rfl⟩
              case rest =>
                obtain ⟨rfl, rfl⟩ := hcut
                cases hG : finG mode neg with
                | true =>
                 as_aux_lemma =>
                  have EF : Hid (FN = (1, high, tx (List.replicate P 9), 20)) := HG1.out hG
                  clear HG1 HG2 hG
                  have HX9 : Hid (∀ i, ∃ S m', S = tx (List.replicate i 9) ∧ S.size = m' ∧ m' = i ∧ S ++ { data := #[57] } = tx (List.replicate (i + 1) 9)) := fun i => ⟨_, _, rfl, by rw [tx_size, List.length_replicate], rfl, by rw [tx_nine, List.replicate_succ']⟩
                  go_wp2
                  go_loopg [25] P (fun gk s wx => ∃ i : Nat, i ≤ P ∧ gk = P - i ∧ s = .string (tx (List.replicate i 9)) ∧ wx = wc)
                  case atStart => exact ⟨0, Nat.zero_le _, rfl, rfl, rfl⟩
                  case round =>
                    obtain ⟨i, hi, hgk, rfl, hwr⟩ := hrel
                    have HG : Hid (gk = P - i) := hgk
                    clear hgk
                    obtain ⟨S, m', hS, y1, hm', y3⟩ := HX9.out i
                    rw [← hS]
                    have HSS : Hid (S = tx (List.replicate i 9)) := hS
                    clear hS
                    by_cases hlt : i < P
                    · have HW : Hid (wr = wc) := hwr
                      have z4 : (m' : Int) < (P : Int) := by omega
                      have z5 : (m' : Int) ≤ 8388608 := by omega
                      clear hm' hwr
                      go_wp2
                      go_roundg (P - (i + 1))
                      case measure => have := HG.out; omega
                      case rel => exact ⟨i + 1, by omega, rfl, rfl, HW.out⟩
                    · have ei : i = P := by omega
                      subst ei
                      subst hwr
                      have z4 : ¬ (m' : Int) < (i : Int) := by omega
                      clear hm' hlt y3
                      go_wp2_with fail
                      refine (l12Finite_any neg S high _).mono ?_
                      rintro x wd ⟨rfl, hbd⟩
                      have HZ3 : Hid (At5 wd w.heap.size (.int .i64 0) (.bool false) (.int .i64 0) (.string { data := #[] }) (.int .i64 0) ∧ Below w.heap.size w wd) := ⟨HZ2.out.1.below hbd HZ2.out.1.lt, HZ2.out.2.trans (hbd.mono HZ2.out.2.size)⟩
                      clear hbd HZ2
                      have hbl := build_res 1 neg high S 20 wd
                      go_wp2_with (refine wpList_store_row rfl 30 (.tmp 14) (.tmp 197) rfl w.heap.size #[.int .i64 1, .bool neg, .int .i64 high, .string S, .int .i64 20] rfl rfl _ _ HZ3.out.1 (by kernel_rfl) rfl (one5 _ _ _ _ _) (Hid.out ?_))
                      refine end_ret (by assumption) ?_
                      try simp only [Exit.then]
                      have hP := (HZ3.out.1.row (.int .i64 1) (.bool neg) (.int .i64 high) (.string S) (.int .i64 20)).cells
                      refine bodyPost_ret (results_res rfl _ _ rfl hP.1 hP.2.1 hP.2.2.1 hP.2.2.2.1 hP.2.2.2.2.1) rfl ?_
                      exact ⟨by rw [EF.out, HSS.out], bel_row HZ3.out.2 (Nat.le_refl _) _⟩
                | false =>
                 as_aux_lemma =>
                  have EF : Hid (FN = (2, 0, { data := #[] }, 20)) := HG2.out hG
                  clear HG1 HG2 hG
                  have hbi := build_inf neg wc
                  have hbl := build_res 2 neg 0 { data := #[] } 20 wc
                  go_wp2_with (refine wpList_store_row rfl 30 (.tmp 14) (.tmp 201) rfl w.heap.size #[.int .i64 2, .bool neg, .int .i64 0, .string { data := #[] }, .int .i64 20] rfl rfl _ _ HZ2.out.1 (by kernel_rfl) rfl (one5 _ _ _ _ _) (Hid.out ?_))
                  refine end_ret (by assumption) ?_
                  try simp only [Exit.then]
                  have hP := (HZ2.out.1.row (.int .i64 2) (.bool neg) (.int .i64 0) (.string { data := #[] }) (.int .i64 20)).cells
                  refine bodyPost_ret (results_res rfl _ _ rfl hP.1 hP.2.1 hP.2.2.1 hP.2.2.2.1 hP.2.2.2.2.1) rfl ?_
                  exact ⟨by rw [EF.out], bel_row HZ2.out.2 (Nat.le_refl _) _⟩
end Go.Proofs.YtdkpiofeidcffaaGreatDoor
