/-
  Finish of the program, something standing behind more digits than the format has, walked.
-/
import Derived.Test.YteofommckgeemaaGreatDoorSpe

namespace Go.Proofs.YteofommckgeemaaGreatDoor
open Go.RowKit
set_option linter.unusedVariables false
set_option maxRecDepth 100000
/-- Finished digits, something standing behind them. -/
theorem finN_rest (p : Nat) (low high mode : Int) (neg : Bool) (ds : List Int) (e want : Int) (hp : p < ds.length) (dr : Nat) (hdr : finDr p ds.length low e = dr) (D2 : List Int) (hD2 : nt (finV mode neg (vl ds) dr true) = D2) (lost : Bool) (hlo : finLs (vl ds) dr true = lost) :
    finN p low high mode neg ds e true want = fin5 p high mode neg (fin3D lost (finT p D2) (finTE p D2 (e + dr)) want low high p) (fin3E lost (finT p D2) (finTE p D2 (e + dr)) want low high p) (finF lost (ds.length + e) low p) := by
  subst hdr hD2 hlo
  have hj : finJ p ds.length true = 0 := by unfold finJ; rw [if_pos rfl]; omega
  unfold finN
  simp only [hj]
  simp
set_option maxRecDepth 100000 in
set_option maxHeartbeats 4000000 in
theorem fitted_r64 (Fn : Nat) (mode : Int) (hent : ∀ args w, (callFunc Fn args).run Tryz.prog w = .ok (.enter Fn args) w)
    (HG : Hid (∀ neg od p, (p = 0 ∨ p = 1 ∨ p = 2 ∨ p = 3) → ∀ X, Calls Tryz.prog Fn #[cutV neg od p] X fun e w' => e = .returned (.bool (grw mode neg od p)) ∧ Below X.heap.size X w'))
    (neg : Bool) (ds : List Int) (e : Int) (w : World) (hc : Canon ds) (hl : ds.length ≤ 200) (hp : 16 < ds.length) (he : -200000 ≤ e ∧ e ≤ 200000) (dr : Nat) (hdr : finDr 16 ds.length (-398) e = dr) (D2 : List Int) (hD2 : nt (finV mode neg (vl ds) dr true) = D2) (lost : Bool) (hlo : finLs (vl ds) dr true = lost) :
    Calls Tryz.prog 166 #[.agg #[fnV Fn], .iface 208 (.agg #[]), .bool neg, scV (tx ds) e, .bool true] w fun x w' => x = .returned (.tuple #[scV (tx (finT 16 D2)) (finTE 16 D2 (e + dr)), .bool lost]) ∧ Below w.heap.size w w' := by
  obtain ⟨DD, KK, RR, hD1, hDn, hD3, hD4, hD5, hD6, hD7⟩ : ∃ (DD : List Int) (KK : Nat) (RR : Bool), (200 < dr → DD = [1] ∧ KK = 200 ∧ RR = true) ∧ (¬ 200 < dr → DD = ds ∧ KK = dr ∧ RR = true) ∧ Canon DD ∧ DD.length ≤ 200 ∧ KK ≤ 200 ∧ rndV mode neg (vl DD) KK RR = finV mode neg (vl ds) dr true ∧ rndL (vl DD) KK RR = finLs (vl ds) dr true := by
    by_cases h : 200 < dr
    · refine ⟨[1], 200, true, fun _ => ⟨rfl, rfl, rfl⟩, fun c => absurd h c, canon_one 1 (by decide) (by decide), by simp, by decide, ?_, ?_⟩
      · unfold finV; rw [if_pos h]; rfl
      · unfold finLs; rw [if_pos h]; rfl
    · refine ⟨ds, dr, true, fun c => absurd c h, fun _ => ⟨rfl, rfl, rfl⟩, hc, hl, by omega, ?_, ?_⟩
      · unfold finV; rw [if_neg h]
      · unfold finLs; rw [if_neg h]
  have HDD : Hid ((200 < dr → DD = [1] ∧ KK = 200 ∧ RR = true) ∧ (¬ 200 < dr → DD = ds ∧ KK = dr ∧ RR = true)) := ⟨hD1, hDn⟩
  have HRD : Hid (∀ X, Calls Tryz.prog 222 #[.agg #[fnV Fn], .bool neg, .string (tx DD), .int .i64 (KK : Int), .bool RR] X fun x w' => x = .returned (.tuple #[.string (tx D2), .bool lost]) ∧ Below X.heap.size X w') := fun X => by
    rw [← hD2, ← hlo, ← hD6, ← hD7]; exact roundOff_any Fn mode hent HG neg DD KK RR X hD3 hD4 hD5
  have hd5 : D2.length ≤ 500 := by rw [← hD2]; exact nt_500 _
  have hdm : max (max ((ds.length : Int) - 16) ((-398) - e)) 1 = (dr : Int) := by rw [← hdr]; unfold finDr; omega
  have hdr2 : (dr : Int) ≤ 200000 := by omega
  have hpp : ¬ ((ds.length : Int) < 16) := by omega
  have HSz : Hid (∀ X, Calls Tryz.prog 220 #[scV (tx ds) e] X fun x w' => x = .returned (.int .i64 ds.length) ∧ Below X.heap.size X w') := fun X => by
    have := scSize_any (tx ds) e X (by rw [tx_size]; omega)
    rwa [tx_size] at this
  have HIn : Hid (In3 w Fn (tx ds) e (bx3 w Fn (tx ds) e)) := in3_new w Fn (tx ds) e
  have hw1 : IntKind.i64.wrap ((ds.length : Int) - 16) = (ds.length : Int) - 16 := by rw [IntKind.wrap_i64]; omega
  have hw2 : IntKind.i64.wrap ((-398) - e) = (-398) - e := by rw [IntKind.wrap_i64]; omega
  have hw3 : IntKind.i64.wrap (e + (dr : Int)) = e + (dr : Int) := by rw [IntKind.wrap_i64]; omega
  have HDM : Hid (max (max ((ds.length : Int) - 16) ((-398) - e)) 1 = (dr : Int)) := hdm
  clear hp
  clear hD1 hDn hD3 hD4 hD5 hD6 hD7 hc hl hdr hD2 hlo hdm HG
  obtain ⟨TT, hTT⟩ : ∃ T, tx (finT 16 D2) = T := ⟨_, rfl⟩
  obtain ⟨XX, hXX⟩ : ∃ X, finTE 16 D2 (e + dr) = X := ⟨_, rfl⟩
  have HTX : Hid (tx (finT 16 D2) = TT ∧ finTE 16 D2 (e + dr) = XX) := ⟨hTT, hXX⟩
  rw [hTT, hXX]
  clear hTT hXX
  go_enter Tryz.func166, Tryz.ntmps166
  go_wp2_with fail
  refine (digitCount_64 _).mono ?_
  rintro x w0 ⟨rfl, hb0⟩
  have HIn0 : Hid (In3 w Fn (tx ds) e w0) := HIn.out.next hb0
  clear hb0 HIn
  obtain ⟨q0, q1⟩ := HIn0.out.2.1.cells
  go_wp2_with fail
  refine (HSz.out _).mono ?_
  rintro x w1 ⟨rfl, hb1⟩
  have HIn1 : Hid (In3 w Fn (tx ds) e w1) := HIn0.out.next hb1
  clear hb1 HIn0 q0 q1
  have HX0 : Hid (Below w1.heap.size w1 w1.drew) := (Below.refl _ _).drew
  have hdm := run_mx3 Tryz.prog #[2, 2, 2] 2 _ _ _ _ HDM.out
  go_upto_region 6 with fail
  refine wp_region_class (C := fun W => Below w1.heap.size w1 W) (by kernel_rfl) (by kernel_rfl) HX0.out ?_
  repeat (refine wpQuiet_step (fun K hK => ?_); go_simp; first | (refine hK _ ?_; clear hK K) | (apply Exists.intro; refine ⟨fun wx hC => ?_, hK _ ?_⟩; (first | exact rfl | exact Calls.class_of (HSz.out wx) (fun w' hb => bel1 hC hb) | (simp only [md_leastExp_64]; go_simp; exact Calls.class_of (leastExp_64 wx) (fun w' hb => bel1 hC hb)) | (obtain ⟨q0, q1⟩ := (HIn1.out.next hC).2.1.cells; go_simp; exact rfl)); clear hK K))
  refine wpQuiet_nil ?_
  intro w2 hb2
  have HIn2 : Hid (In3 w Fn (tx ds) e w2) := HIn1.out.next hb2
  clear hb2 HX0 HIn1 hdm hw1 hw2 HSz HDM
  go_upto_region 7 with fail
  obtain ⟨q0, q1⟩ := HIn2.out.2.1.cells
  go_quiet (fail)
  have HIn3 : Hid (In3 w Fn (tx ds) e (w2.drewN nq)) := HIn2.out.drewN nq
  generalize w2.drewN nq = w3 at *
  clear q0 q1 HIn2
  go_upto_if 51 with fail
  go_cut [15, 14, 4] (fun d k r wx => d = .string (tx DD) ∧ k = .int .i64 (KK : Int) ∧ r = .bool RR ∧ wx = w3)
  case first =>
    by_cases h : 200 < dr
    · obtain ⟨q1, q2, q3⟩ := HDD.out.1 h
      have h' : (200 : Int) < (dr : Int) := by omega
      have E1 : Hid (tx DD = { data := #[49] } ∧ (KK : Int) = 200 ∧ RR = true) := ⟨by rw [q1]; exact tx_1, by omega, q3⟩
      clear q1 q2 q3 h
      go_wp2
      go_meet
      case rel => exact ⟨by rw [E1.out.1], by rw [E1.out.2.1], by rw [E1.out.2.2], rfl⟩
    · obtain ⟨q1, q2, q3⟩ := HDD.out.2 h
      have h' : ¬ (200 : Int) < (dr : Int) := by omega
      have E1 : Hid (DD = ds ∧ KK = dr ∧ RR = true) := ⟨q1, q2, q3⟩
      clear q1 q2 q3 h
      go_wp2
      go_meet
      case rel => exact ⟨by rw [E1.out.1], by rw [E1.out.2.1], by rw [E1.out.2.2], rfl⟩
  case rest =>
    obtain ⟨rfl, rfl, rfl, rfl⟩ := hcut
    have hfn := HIn3.out.fn
    clear HDD
    go_wp2_with fail
    refine (HRD.out _).mono ?_
    rintro x w4 ⟨rfl, hb4⟩
    have HZ4 : Hid (At2r w4 (w.heap.size + 1 + 1) 192 (.string { data := #[] }) (.int .i64 0) ∧ Below w.heap.size w w4) := ⟨(HIn3.out.next hb4).2.2.1, (HIn3.out.next hb4).2.2.2.1⟩
    clear hb4 HIn3 HRD hfn
    obtain ⟨x3, hx3⟩ : ∃ x3, e + (dr : Int) = x3 := ⟨_, rfl⟩
    have hx4 : -200000 ≤ x3 ∧ x3 ≤ 400000 := by omega
    rw [hx3] at HTX
    rw [hx3]
    clear hw3 hx3
    have hsz2 : (tx D2).size = D2.length := tx_size D2
    by_cases h : 16 < D2.length
    · have h' : (16 : Int) < (D2.length : Int) := by omega
      have ht := tx_take D2 16 (by omega)
      have hle : (16 : Int) ≤ (D2.length : Int) := by omega
      have E1 : Hid (TT = tx (D2.take 16) ∧ XX = x3 + 1) := ⟨by rw [← HTX.out.1]; unfold finT; rw [if_pos h], by rw [← HTX.out.2]; unfold finTE; rw [if_pos h]⟩
      have wx : IntKind.i64.wrap (x3 + 1) = x3 + 1 := by rw [IntKind.wrap_i64]; omega
      have hbl := build_sc (tx (D2.take 16)) (x3 + 1)
      generalize tx (D2.take 16) = T2 at *
      clear h HTX
      go_wp2_with (refine wpList_store_row rfl 192 (.tmp 10) (.tmp 70) rfl (w.heap.size + 1 + 1) #[.string T2, .int .i64 (x3 + 1)] rfl rfl _ _ HZ4.out.1 (by kernel_rfl) rfl (one2 _ _) ?_)
      have hP := (HZ4.out.1.row (.string T2) (.int .i64 (x3 + 1))).cells
      refine bodyPost_ret (results_sct rfl _ _ rfl hP.1 hP.2) rfl ?_
      exact ⟨by rw [E1.out.1, E1.out.2]; rfl, bel_row HZ4.out.2 (by omega) _⟩
    · have h' : ¬ (16 : Int) < (D2.length : Int) := by omega
      have E1 : Hid (TT = tx D2 ∧ XX = x3) := ⟨by rw [← HTX.out.1]; unfold finT; rw [if_neg h], by rw [← HTX.out.2]; unfold finTE; rw [if_neg h]⟩
      have hbl := build_sc (tx D2) x3
      clear h HTX
      go_wp2_with (refine wpList_store_row rfl 192 (.tmp 10) (.tmp 74) rfl (w.heap.size + 1 + 1) #[.string (tx D2), .int .i64 x3] rfl rfl _ _ HZ4.out.1 (by kernel_rfl) rfl (one2 _ _) ?_)
      have hP := (HZ4.out.1.row (.string (tx D2)) (.int .i64 x3)).cells
      refine bodyPost_ret (results_sct rfl _ _ rfl hP.1 hP.2) rfl ?_
      exact ⟨by rw [E1.out.1, E1.out.2]; rfl, bel_row HZ4.out.2 (by omega) _⟩
set_option maxRecDepth 100000 in
set_option maxHeartbeats 4000000 in
theorem iFinish_r64 (mode : Int) (hm : 1 ≤ mode ∧ mode ≤ 5) (neg : Bool) (ds : List Int) (e want : Int) (w : World) (hc : Canon ds) (hz : ds ≠ [0]) (hl : ds.length ≤ 200) (hp : 16 < ds.length) (he : -200000 ≤ e ∧ e ≤ 200000) (hwt : -200000 ≤ want ∧ want ≤ 200000) :
    Calls Tryz.prog 88 #[.int .i64 64, .int .i64 mode, .bool neg, .string (tx ds), .int .i64 e, .bool true, .int .i64 want] w fun x w' => x = .returned (rsD neg (finD 64 mode neg ds e true want)) ∧ Below w.heap.size w w' := by
  obtain ⟨Fn, hent, HG0, HR0⟩ := rounding_yes mode hm
  have HG : Hid (∀ neg od p, (p = 0 ∨ p = 1 ∨ p = 2 ∨ p = 3) → ∀ X, Calls Tryz.prog Fn #[cutV neg od p] X fun e w' => e = .returned (.bool (grw mode neg od p)) ∧ Below X.heap.size X w') := HG0
  have HR : Hid (∀ X, Calls Tryz.prog 149 #[.int .i64 mode] X fun e w' => e = .returned (.tuple #[.agg #[fnV Fn], .bool true]) ∧ Below X.heap.size X w') := HR0
  clear HG0 HR0
  obtain ⟨dr, hdr⟩ : ∃ d, finDr 16 ds.length (-398) e = d := ⟨_, rfl⟩
  obtain ⟨D2, hD2⟩ : ∃ D, nt (finV mode neg (vl ds) dr true) = D := ⟨_, rfl⟩
  obtain ⟨lost, hlo⟩ : ∃ l, finLs (vl ds) dr true = l := ⟨_, rfl⟩
  have HFt : Hid (∀ X, Calls Tryz.prog 166 #[.agg #[fnV Fn], .iface 208 (.agg #[]), .bool neg, scV (tx ds) e, .bool true] X fun x w' => x = .returned (.tuple #[scV (tx (finT 16 D2)) (finTE 16 D2 (e + dr)), .bool lost]) ∧ Below X.heap.size X w') := fun X => fitted_r64 Fn mode hent HG neg ds e X hc hl hp he dr hdr D2 hD2 lost hlo
  have HOv : Hid (∀ X, Calls Tryz.prog 170 #[.agg #[fnV Fn], .iface 208 (.agg #[]), .bool neg] X fun x w' => x = .returned (if finG mode neg then numV 1 neg 369 (tx (List.replicate 16 9)) else numV 2 neg 0 { data := #[] }) ∧ Below X.heap.size X w') := fun X => overflow_64 Fn mode hm hent HG neg X
  have hdr2 : (dr : Int) ≤ 200000 := by rw [← hdr]; unfold finDr; omega
  have HC2 : Canon D2 ∧ D2.length ≤ 500 := by
    rw [← hD2]
    refine ⟨?_, nt_500 _⟩
    have hv := vl_bd ds hc.1
    have hb : vl ds < 10 ^ 300 := Int.lt_of_lt_of_le hv.2 (pow_mono _ _ (by omega))
    unfold finV
    split
    · have h1 : (1 : Int) < 10 ^ 300 := Int.lt_of_lt_of_le (by decide : (1 : Int) < 10 ^ 1) (pow_mono 1 300 (by decide))
      exact (nt_spec _ (rndV_bd mode neg 1 200 true (by decide) h1).1 (rndV_bd mode neg 1 200 true (by decide) h1).2).1
    · exact (nt_spec _ (rndV_bd mode neg (vl ds) dr true hv.1 hb).1 (rndV_bd mode neg (vl ds) dr true hv.1 hb).2).1
  have HFin : Hid (finD 64 mode neg ds e true want = fin5 16 369 mode neg (fin3D lost (finT 16 D2) (finTE 16 D2 (e + dr)) want (-398) 369 16) (fin3E lost (finT 16 D2) (finTE 16 D2 (e + dr)) want (-398) 369 16) (finF lost (ds.length + e) (-398) 16)) := by
    show _ = _
    unfold finD
    rw [if_neg hz]
    exact finN_rest 16 (-398) 369 mode neg ds e want hp dr hdr D2 hD2 lost hlo
  obtain ⟨D3, hD3⟩ : ∃ D, finT 16 D2 = D := ⟨_, rfl⟩
  obtain ⟨x3, hx3⟩ : ∃ x, finTE 16 D2 (e + dr) = x := ⟨_, rfl⟩
  have HT : Dec D3 ∧ 0 < D3.length ∧ D3.length ≤ 500 := by
    rw [← hD3]
    unfold finT
    split
    · exact ⟨fun x hx => HC2.1.1 x (List.mem_of_mem_take hx), by rw [List.length_take]; have := HC2.1.2.1; omega, by rw [List.length_take]; have := HC2.2; omega⟩
    · exact ⟨HC2.1.1, HC2.1.2.1, HC2.2⟩
  have hx4 : -200000 ≤ x3 ∧ x3 ≤ 400001 := by rw [← hx3]; unfold finTE; split <;> omega
  rw [hD3, hx3] at HFt HFin
  have HLf : Hid (∀ X, Calls Tryz.prog 167 #[.iface 208 (.agg #[]), scV (tx ds) e] X fun x w' => x = .returned (.int .i64 (finF true (ds.length + e) (-398) 16)) ∧ Below X.heap.size X w') := fun X => lossFlags_64 ds e X (by omega) (by omega)
  have HPr : Hid (∀ X, Calls Tryz.prog 168 #[.iface 208 (.agg #[]), scV (tx D3) x3, .int .i64 want] X fun x w' => x = .returned (scV (tx (fin3D false D3 x3 want (-398) 369 16)) (fin3E false D3 x3 want (-398) 369 16)) ∧ Below X.heap.size X w') := fun X => preferred_64 D3 x3 want X HT.1 HT.2.1 HT.2.2 (by omega) hwt
  obtain ⟨D5, hD5⟩ : ∃ D, fin3D lost D3 x3 want (-398) 369 16 = D := ⟨_, rfl⟩
  obtain ⟨x5, hx5⟩ : ∃ x, fin3E lost D3 x3 want (-398) 369 16 = x := ⟨_, rfl⟩
  obtain ⟨fl, hfl⟩ : ∃ x, finF lost (ds.length + e) (-398) 16 = x := ⟨_, rfl⟩
  have hb5 := fin3_bd lost D3 x3 want (-398) 369 16 HT.2.1 HT.2.2 (by decide)
  rw [hD5, hx5] at hb5
  rw [hD5, hx5, hfl] at HFin
  have HLw : Hid (∀ X, Calls Tryz.prog 169 #[scV (tx D5) x5, .iface 208 (.agg #[]), .int .i64 369] X fun x w' => x = .returned (scV (tx (fin4D D5 x5 369 16)) (fin4E D5 x5 369 16)) ∧ Below X.heap.size X w') := fun X => lowered_64 D5 x5 369 X (by omega) (by omega) (by omega)
  have HS1 : Hid ((lost = true → D5 = D3 ∧ x5 = x3 ∧ fl = finF true (ds.length + e) (-398) 16) ∧ (lost = false → D5 = fin3D false D3 x3 want (-398) 369 16 ∧ x5 = fin3E false D3 x3 want (-398) 369 16 ∧ fl = 0)) := by
    refine ⟨fun h => ?_, fun h => ?_⟩
    · subst h; exact ⟨hD5.symm, hx5.symm, hfl.symm⟩
    · subst h; exact ⟨hD5.symm, hx5.symm, hfl.symm⟩
  have HB5 : Hid (x5 ≤ 500000 ∧ -300000 ≤ x5) := ⟨by omega, by omega⟩
  obtain ⟨FD, hFD⟩ : ∃ F, finD 64 mode neg ds e true want = F := ⟨_, rfl⟩
  rw [hFD]
  rw [hFD] at HFin
  have hz0 : ((tx ds).toList == [48]) = false := tx_is0 ds hc.1 hz
  have HNok : Hid (∀ X, Calls Tryz.prog 162 #[.string (tx ds)] X fun x w' => x = .returned (.bool true) ∧ w' = X) := fun X => by
    have := iNatOk_any (tx ds) X (by rw [tx_size]; omega)
    rwa [natB_tx 200 ds hc (by omega)] at this
  have HE1 : Hid (∀ X, Calls Tryz.prog 165 #[.int .i64 e] X fun x w' => x = .returned (.bool true) ∧ w' = X) := fun X => isExp_yes e X he
  have HE2 : Hid (∀ X, Calls Tryz.prog 165 #[.int .i64 want] X fun x w' => x = .returned (.bool true) ∧ w' = X) := fun X => isExp_yes want X hwt
  have HZ : Hid (At5 (w.alloc (.cells #[.int .i64 0, .bool false, .int .i64 0, .string { data := #[] }, .int .i64 0] 90)) w.heap.size (.int .i64 0) (.bool false) (.int .i64 0) (.string { data := #[] }) (.int .i64 0) ∧ Below w.heap.size w (w.alloc (.cells #[.int .i64 0, .bool false, .int .i64 0, .string { data := #[] }, .int .i64 0] 90))) := ⟨at5_new w _ _ _ _ _, (Below.refl _ _).alloc (Nat.le_refl _) _⟩
  clear hp
  clear hdr hD2 hlo hdr2 HC2 hD3 hx3 HT hx4 hD5 hx5 hfl hb5 hFD hc hz hl he hwt hm HG hent
  go_enter Tryz.func88, Tryz.ntmps88
  go_wp2_with fail
  refine (fmtOf_64 _).mono ?_
  rintro x wa ⟨rfl, rfl⟩
  go_wp2_with fail
  refine (HR.out _).mono ?_
  rintro x w1 ⟨rfl, hb1⟩
  have HZ1 : Hid (At5 w1 w.heap.size (.int .i64 0) (.bool false) (.int .i64 0) (.string { data := #[] }) (.int .i64 0) ∧ Below w.heap.size w w1) := ⟨HZ.out.1.below hb1 HZ.out.1.lt, HZ.out.2.trans (hb1.mono HZ.out.2.size)⟩
  clear hb1 HZ HR
  have hnew := new_at w1 (.cells #[.nilFunc] 177)
  have h1c : (#[fnV Fn] : Array Value).all (·.oneCell') = true := by simp [Value.oneCell']
  go_wp2_with (refine wpList_store_row rfl 177 (.tmp 17) (.tmp 32) rfl w1.heap.size #[fnV Fn] rfl rfl _ _ hnew (by kernel_rfl) rfl h1c ?_)
  obtain ⟨w2, hw2⟩ : ∃ W, (w1.alloc (.cells #[.nilFunc] 177)).setRow w1.heap.size #[fnV Fn] = W := ⟨_, rfl⟩
  obtain ⟨hlt, hin⟩ := inF_first (Fn := Fn) (s := tx ds) (e := e) HZ1.out.1 HZ1.out.2 w2 hw2.symm
  have HI2 : Hid (InF w Fn w1.heap.size w2.heap.size (tx ds) e (w2.alloc (.cells #[.string (tx ds), .int .i64 e] 192))) := hin
  have hfn2 := hin.fn
  obtain ⟨c0, c1⟩ := hin.2.2.1.cells
  rw [hw2]
  clear hnew h1c hw2 HZ1 hlt hin
  generalize w1.heap.size = b1 at *
  refine (HNok.out _).mono ?_
  rintro x wx ⟨rfl, rfl⟩
  go_wp2_with fail
  refine (HE1.out _).mono ?_
  rintro x wy ⟨rfl, rfl⟩
  go_wp2_with fail
  refine (HE2.out _).mono ?_
  rintro x wz ⟨rfl, rfl⟩
  clear HNok HE1 HE2
  have hbs := build_sc (tx ds) e
  go_wp2_with fail
  refine (HFt.out _).mono ?_
  rintro x w3 ⟨rfl, hb3⟩
  have HI3 : Hid (InF w Fn b1 wz.heap.size (tx ds) e w3 ∧ InF w Fn b1 w3.heap.size (tx D3) x3 (w3.alloc (.cells #[.string (tx D3), .int .i64 x3] 192))) := ⟨HI2.out.next hb3, (HI2.out.next hb3).alloc⟩
  clear hb3 HI2 HFt hfn2 c0 c1 hbs
  generalize wz.heap.size = b2 at *
  go_upto_if 88 with fail
  generalize hb3 : w3.heap.size = b3 at *
  go_cut [21] (fun g wx => g = .int .i64 fl ∧ Hid (InF w Fn b1 b3 (tx D5) x5 wx))
  case first =>
    cases lost with
    | true =>
      obtain ⟨h1, h2, h3⟩ := HS1.out.1 rfl
      rw [← h3] at HLf
      have HE : Hid (D5 = D3 ∧ x5 = x3) := ⟨h1, h2⟩
      have hq : ∀ o, (w3.alloc o).cell? ⟨b2, 0, none⟩ = some (.string (tx ds)) ∧ (w3.alloc o).cell? ⟨b2, 1, none⟩ = some (.int .i64 e) := fun o => (HI3.out.1.next ((Below.refl _ _).alloc (Nat.le_refl _) o)).2.2.1.cells
      obtain ⟨c0, c1⟩ := hq (.cells #[.string (tx D3), .int .i64 x3] 192)
      clear h1 h2 h3 hq hb3
      go_wp2_with fail
      refine (HLf.out _).mono ?_
      rintro x w4 ⟨rfl, hb4⟩
      have HI4 : Hid (InF w Fn b1 b3 (tx D3) x3 w4) := HI3.out.2.next hb4
      clear hb4 HI3 c0 c1
      go_wp2
      go_meet
      case rel => exact ⟨rfl, by rw [HE.out.1, HE.out.2]; exact HI4⟩
    | false =>
      obtain ⟨h1, h2, h3⟩ := HS1.out.2 rfl
      rw [← h1, ← h2] at HPr
      have HE : Hid (fl = 0) := h3
      obtain ⟨c0, c1⟩ := HI3.out.2.2.2.1.cells
      clear h1 h2 h3 hb3
      go_wp2_with fail
      refine (HPr.out _).mono ?_
      rintro x w4 ⟨rfl, hb4⟩
      have HI4 : Hid (InF w Fn b1 b3 (tx D3) x3 w4) := HI3.out.2.next hb4
      have HZ4 : Hid (At2r w4 b3 192 (.string (tx D3)) (.int .i64 x3)) := HI4.out.2.2.1
      clear hb4 HI3 c0 c1
      go_wp2_with (refine wpList_store_row rfl 192 (.tmp 22) (.tmp 95) rfl b3 #[.string (tx D5), .int .i64 x5] rfl rfl _ _ HZ4.out (by kernel_rfl) rfl (one2 _ _) ?_)
      go_meet
      case rel => exact ⟨by rw [HE.out], HI4.out.put _ _⟩
  case rest =>
    obtain ⟨rfl, HI5⟩ := hcut
    clear HI3 HS1 HLf HPr
    have HX0 : Hid (Below wc.heap.size wc wc.drew) := (Below.refl _ _).drew
    go_upto_region 13 with fail
    refine wp_region_tail (C := fun W => Below wc.heap.size wc W) 4 (by kernel_rfl) (by kernel_rfl) HX0.out ?_
    simp only [List.take_succ_cons, List.take_zero, List.drop_succ_cons, List.drop_zero]
    repeat (refine wpQuiet_step (fun K hK => ?_); go_simp; first | (refine hK _ ?_; clear hK K) | (apply Exists.intro; refine ⟨fun wx hC => ?_, hK _ ?_⟩; (first | exact rfl | (simp only [md_greatestExp_64]; go_simp; exact Calls.class_of (greatestExp_64 wx) (fun w' hb => bel1 hC hb)) | (obtain ⟨q0, q1⟩ := (HI5.out.next hC).2.2.1.cells; go_simp; exact rfl)); clear hK K))
    refine wpQuiet_nil ?_
    intro w6 hb6
    have HI6 : Hid (InF w Fn b1 b3 (tx D5) x5 w6) := HI5.out.next hb6
    clear hb6 HI5 HX0
    have HF5 : Hid (fin5 16 369 mode neg D5 x5 fl = FD) := HFin.out.symm
    have hb6 : -300000 ≤ fin4E D5 x5 369 16 ∧ fin4E D5 x5 369 16 ≤ 500000 := by have := HB5.out; unfold fin4E fC; omega
    unfold fin5 at HF5
    generalize fin4D D5 x5 369 16 = D6 at *
    generalize fin4E D5 x5 369 16 = x6 at *
    clear HFin HB5
    go_wp2_with fail
    refine (HLw.out _).mono ?_
    rintro x w7 ⟨rfl, hb7⟩
    have HI7 : Hid (InF w Fn b1 b3 (tx D5) x5 w7) := HI6.out.next hb7
    have HZ7 : Hid (At2r w7 b3 192 (.string (tx D5)) (.int .i64 x5)) := HI7.out.2.2.1
    clear hb7 HI6 HLw
    go_wp2_with (refine wpList_store_row rfl 192 (.tmp 22) (.tmp 100) rfl b3 #[.string (tx D6), .int .i64 x6] rfl rfl _ _ HZ7.out (by kernel_rfl) rfl (one2 _ _) ?_)
    have HI8 : Hid (InF w Fn b1 b3 (tx D6) x6 (w7.setRow b3 #[.string (tx D6), .int .i64 x6])) := HI7.out.put _ _
    generalize w7.setRow b3 #[.string (tx D6), .int .i64 x6] = w8 at *
    clear HI7 HZ7
    have HX8 : Hid (Below w8.heap.size w8 w8.drew) := (Below.refl _ _).drew
    by_cases hfin : x6 ≤ 369
    · have hgt : ¬ (369 < x6) := by omega
      rw [if_pos hfin] at HF5
      clear hfin HOv
      go_upto_region 14 with fail
      refine wp_region_class (C := fun W => Below w8.heap.size w8 W) (by kernel_rfl) (by kernel_rfl) HX8.out ?_
      repeat (refine wpQuiet_step (fun K hK => ?_); go_simp; first | (refine hK _ ?_; clear hK K) | (apply Exists.intro; refine ⟨fun wx hC => ?_, hK _ ?_⟩; (first | exact rfl | (simp only [md_greatestExp_64]; go_simp; exact Calls.class_of (greatestExp_64 wx) (fun w' hb => bel1 hC hb)) | (obtain ⟨q0, q1⟩ := (HI8.out.next hC).2.2.1.cells; go_simp; exact rfl)); clear hK K))
      refine wpQuiet_nil ?_
      intro w9 hb9
      have HI9 : Hid (InF w Fn b1 b3 (tx D6) x6 w9) := HI8.out.next hb9
      have HZ9 : Hid (At5 w9 w.heap.size (.int .i64 0) (.bool false) (.int .i64 0) (.string { data := #[] }) (.int .i64 0)) := HI9.out.1
      obtain ⟨q0, q1⟩ := HI9.out.2.2.1.cells
      clear hb9 HI8 HX8
      have hbn := build_num 1 neg x6 (tx D6)
      have hbr := build_res 1 neg x6 (tx D6) fl
      go_wp2_with (refine wpList_store_row rfl 90 (.tmp 14) (.tmp 118) rfl w.heap.size #[.int .i64 1, .bool neg, .int .i64 x6, .string (tx D6), .int .i64 fl] rfl rfl _ _ HZ9.out (by kernel_rfl) rfl (one5 _ _ _ _ _) ?_)
      have hP := (HZ9.out.row (.int .i64 1) (.bool neg) (.int .i64 x6) (.string (tx D6)) (.int .i64 fl)).cells
      refine bodyPost_ret (results_res rfl _ _ rfl hP.1 hP.2.1 hP.2.2.1 hP.2.2.2.1 hP.2.2.2.2.1) rfl ?_
      exact ⟨by rw [← HF5.out], bel_row HI9.out.2.2.2.1 (Nat.le_refl _) _⟩
    · have hgt : 369 < x6 := by omega
      rw [if_neg hfin] at HF5
      clear hfin
      go_upto_region 14 with fail
      refine wp_region_class (C := fun W => Below w8.heap.size w8 W) (by kernel_rfl) (by kernel_rfl) HX8.out ?_
      repeat (refine wpQuiet_step (fun K hK => ?_); go_simp; first | (refine hK _ ?_; clear hK K) | (apply Exists.intro; refine ⟨fun wx hC => ?_, hK _ ?_⟩; (first | exact rfl | (simp only [md_greatestExp_64]; go_simp; exact Calls.class_of (greatestExp_64 wx) (fun w' hb => bel1 hC hb)) | (obtain ⟨q0, q1⟩ := (HI8.out.next hC).2.2.1.cells; go_simp; exact rfl)); clear hK K))
      refine wpQuiet_nil ?_
      intro w9 hb9
      have HI9 : Hid (InF w Fn b1 b3 (tx D6) x6 w9) := HI8.out.next hb9
      have hfn9 := HI9.out.fn
      clear hb9 HI8 HX8
      go_wp2_with fail
      refine (HOv.out _).mono ?_
      rintro x wv ⟨rfl, hbv⟩
      have HZv : Hid (At5 wv w.heap.size (.int .i64 0) (.bool false) (.int .i64 0) (.string { data := #[] }) (.int .i64 0) ∧ Below w.heap.size w wv) := ⟨(HI9.out.next hbv).1, (HI9.out.next hbv).2.2.2.1⟩
      clear hbv HI9 hfn9 HOv
      generalize finG mode neg = G at *
      generalize tx (List.replicate 16 9) = NN at *
      cases G with
      | true =>
        have hbr := build_res 1 neg 369 NN 20
        simp only [if_true]
        go_wp2_with (refine wpList_store_row rfl 90 (.tmp 14) (.tmp 110) rfl w.heap.size #[.int .i64 1, .bool neg, .int .i64 369, .string NN, .int .i64 20] rfl rfl _ _ HZv.out.1 (by kernel_rfl) rfl (one5 _ _ _ _ _) ?_)
        have hP := (HZv.out.1.row (.int .i64 1) (.bool neg) (.int .i64 369) (.string NN) (.int .i64 20)).cells
        refine bodyPost_ret (results_res rfl _ _ rfl hP.1 hP.2.1 hP.2.2.1 hP.2.2.2.1 hP.2.2.2.2.1) rfl ?_
        exact ⟨by rw [← HF5.out]; rfl, bel_row HZv.out.2 (Nat.le_refl _) _⟩
      | false =>
        have hbr := build_res 2 neg 0 { data := #[] } 20
        simp only [Bool.false_eq_true, if_false]
        go_wp2_with (refine wpList_store_row rfl 90 (.tmp 14) (.tmp 110) rfl w.heap.size #[.int .i64 2, .bool neg, .int .i64 0, .string { data := #[] }, .int .i64 20] rfl rfl _ _ HZv.out.1 (by kernel_rfl) rfl (one5 _ _ _ _ _) ?_)
        have hP := (HZv.out.1.row (.int .i64 2) (.bool neg) (.int .i64 0) (.string { data := #[] }) (.int .i64 20)).cells
        refine bodyPost_ret (results_res rfl _ _ rfl hP.1 hP.2.1 hP.2.2.1 hP.2.2.2.1 hP.2.2.2.2.1) rfl ?_
        exact ⟨by rw [← HF5.out]; rfl, bel_row HZv.out.2 (Nat.le_refl _) _⟩
set_option maxRecDepth 100000 in
set_option maxHeartbeats 4000000 in
theorem fitted_r128 (Fn : Nat) (mode : Int) (hent : ∀ args w, (callFunc Fn args).run Tryz.prog w = .ok (.enter Fn args) w)
    (HG : Hid (∀ neg od p, (p = 0 ∨ p = 1 ∨ p = 2 ∨ p = 3) → ∀ X, Calls Tryz.prog Fn #[cutV neg od p] X fun e w' => e = .returned (.bool (grw mode neg od p)) ∧ Below X.heap.size X w'))
    (neg : Bool) (ds : List Int) (e : Int) (w : World) (hc : Canon ds) (hl : ds.length ≤ 200) (hp : 34 < ds.length) (he : -200000 ≤ e ∧ e ≤ 200000) (dr : Nat) (hdr : finDr 34 ds.length (-6176) e = dr) (D2 : List Int) (hD2 : nt (finV mode neg (vl ds) dr true) = D2) (lost : Bool) (hlo : finLs (vl ds) dr true = lost) :
    Calls Tryz.prog 166 #[.agg #[fnV Fn], .iface 211 (.agg #[]), .bool neg, scV (tx ds) e, .bool true] w fun x w' => x = .returned (.tuple #[scV (tx (finT 34 D2)) (finTE 34 D2 (e + dr)), .bool lost]) ∧ Below w.heap.size w w' := by
  obtain ⟨DD, KK, RR, hD1, hDn, hD3, hD4, hD5, hD6, hD7⟩ : ∃ (DD : List Int) (KK : Nat) (RR : Bool), (200 < dr → DD = [1] ∧ KK = 200 ∧ RR = true) ∧ (¬ 200 < dr → DD = ds ∧ KK = dr ∧ RR = true) ∧ Canon DD ∧ DD.length ≤ 200 ∧ KK ≤ 200 ∧ rndV mode neg (vl DD) KK RR = finV mode neg (vl ds) dr true ∧ rndL (vl DD) KK RR = finLs (vl ds) dr true := by
    by_cases h : 200 < dr
    · refine ⟨[1], 200, true, fun _ => ⟨rfl, rfl, rfl⟩, fun c => absurd h c, canon_one 1 (by decide) (by decide), by simp, by decide, ?_, ?_⟩
      · unfold finV; rw [if_pos h]; rfl
      · unfold finLs; rw [if_pos h]; rfl
    · refine ⟨ds, dr, true, fun c => absurd c h, fun _ => ⟨rfl, rfl, rfl⟩, hc, hl, by omega, ?_, ?_⟩
      · unfold finV; rw [if_neg h]
      · unfold finLs; rw [if_neg h]
  have HDD : Hid ((200 < dr → DD = [1] ∧ KK = 200 ∧ RR = true) ∧ (¬ 200 < dr → DD = ds ∧ KK = dr ∧ RR = true)) := ⟨hD1, hDn⟩
  have HRD : Hid (∀ X, Calls Tryz.prog 222 #[.agg #[fnV Fn], .bool neg, .string (tx DD), .int .i64 (KK : Int), .bool RR] X fun x w' => x = .returned (.tuple #[.string (tx D2), .bool lost]) ∧ Below X.heap.size X w') := fun X => by
    rw [← hD2, ← hlo, ← hD6, ← hD7]; exact roundOff_any Fn mode hent HG neg DD KK RR X hD3 hD4 hD5
  have hd5 : D2.length ≤ 500 := by rw [← hD2]; exact nt_500 _
  have hdm : max (max ((ds.length : Int) - 34) ((-6176) - e)) 1 = (dr : Int) := by rw [← hdr]; unfold finDr; omega
  have hdr2 : (dr : Int) ≤ 200000 := by omega
  have hpp : ¬ ((ds.length : Int) < 34) := by omega
  have HSz : Hid (∀ X, Calls Tryz.prog 220 #[scV (tx ds) e] X fun x w' => x = .returned (.int .i64 ds.length) ∧ Below X.heap.size X w') := fun X => by
    have := scSize_any (tx ds) e X (by rw [tx_size]; omega)
    rwa [tx_size] at this
  have HIn : Hid (In3 w Fn (tx ds) e (bx3 w Fn (tx ds) e)) := in3_new w Fn (tx ds) e
  have hw1 : IntKind.i64.wrap ((ds.length : Int) - 34) = (ds.length : Int) - 34 := by rw [IntKind.wrap_i64]; omega
  have hw2 : IntKind.i64.wrap ((-6176) - e) = (-6176) - e := by rw [IntKind.wrap_i64]; omega
  have hw3 : IntKind.i64.wrap (e + (dr : Int)) = e + (dr : Int) := by rw [IntKind.wrap_i64]; omega
  have HDM : Hid (max (max ((ds.length : Int) - 34) ((-6176) - e)) 1 = (dr : Int)) := hdm
  clear hp
  clear hD1 hDn hD3 hD4 hD5 hD6 hD7 hc hl hdr hD2 hlo hdm HG
  obtain ⟨TT, hTT⟩ : ∃ T, tx (finT 34 D2) = T := ⟨_, rfl⟩
  obtain ⟨XX, hXX⟩ : ∃ X, finTE 34 D2 (e + dr) = X := ⟨_, rfl⟩
  have HTX : Hid (tx (finT 34 D2) = TT ∧ finTE 34 D2 (e + dr) = XX) := ⟨hTT, hXX⟩
  rw [hTT, hXX]
  clear hTT hXX
  go_enter Tryz.func166, Tryz.ntmps166
  go_wp2_with fail
  refine (digitCount_128 _).mono ?_
  rintro x w0 ⟨rfl, hb0⟩
  have HIn0 : Hid (In3 w Fn (tx ds) e w0) := HIn.out.next hb0
  clear hb0 HIn
  obtain ⟨q0, q1⟩ := HIn0.out.2.1.cells
  go_wp2_with fail
  refine (HSz.out _).mono ?_
  rintro x w1 ⟨rfl, hb1⟩
  have HIn1 : Hid (In3 w Fn (tx ds) e w1) := HIn0.out.next hb1
  clear hb1 HIn0 q0 q1
  have HX0 : Hid (Below w1.heap.size w1 w1.drew) := (Below.refl _ _).drew
  have hdm := run_mx3 Tryz.prog #[2, 2, 2] 2 _ _ _ _ HDM.out
  go_upto_region 6 with fail
  refine wp_region_class (C := fun W => Below w1.heap.size w1 W) (by kernel_rfl) (by kernel_rfl) HX0.out ?_
  repeat (refine wpQuiet_step (fun K hK => ?_); go_simp; first | (refine hK _ ?_; clear hK K) | (apply Exists.intro; refine ⟨fun wx hC => ?_, hK _ ?_⟩; (first | exact rfl | exact Calls.class_of (HSz.out wx) (fun w' hb => bel1 hC hb) | (simp only [md_leastExp_128]; go_simp; exact Calls.class_of (leastExp_128 wx) (fun w' hb => bel1 hC hb)) | (obtain ⟨q0, q1⟩ := (HIn1.out.next hC).2.1.cells; go_simp; exact rfl)); clear hK K))
  refine wpQuiet_nil ?_
  intro w2 hb2
  have HIn2 : Hid (In3 w Fn (tx ds) e w2) := HIn1.out.next hb2
  clear hb2 HX0 HIn1 hdm hw1 hw2 HSz HDM
  go_upto_region 7 with fail
  obtain ⟨q0, q1⟩ := HIn2.out.2.1.cells
  go_quiet (fail)
  have HIn3 : Hid (In3 w Fn (tx ds) e (w2.drewN nq)) := HIn2.out.drewN nq
  generalize w2.drewN nq = w3 at *
  clear q0 q1 HIn2
  go_upto_if 51 with fail
  go_cut [15, 14, 4] (fun d k r wx => d = .string (tx DD) ∧ k = .int .i64 (KK : Int) ∧ r = .bool RR ∧ wx = w3)
  case first =>
    by_cases h : 200 < dr
    · obtain ⟨q1, q2, q3⟩ := HDD.out.1 h
      have h' : (200 : Int) < (dr : Int) := by omega
      have E1 : Hid (tx DD = { data := #[49] } ∧ (KK : Int) = 200 ∧ RR = true) := ⟨by rw [q1]; exact tx_1, by omega, q3⟩
      clear q1 q2 q3 h
      go_wp2
      go_meet
      case rel => exact ⟨by rw [E1.out.1], by rw [E1.out.2.1], by rw [E1.out.2.2], rfl⟩
    · obtain ⟨q1, q2, q3⟩ := HDD.out.2 h
      have h' : ¬ (200 : Int) < (dr : Int) := by omega
      have E1 : Hid (DD = ds ∧ KK = dr ∧ RR = true) := ⟨q1, q2, q3⟩
      clear q1 q2 q3 h
      go_wp2
      go_meet
      case rel => exact ⟨by rw [E1.out.1], by rw [E1.out.2.1], by rw [E1.out.2.2], rfl⟩
  case rest =>
    obtain ⟨rfl, rfl, rfl, rfl⟩ := hcut
    have hfn := HIn3.out.fn
    clear HDD
    go_wp2_with fail
    refine (HRD.out _).mono ?_
    rintro x w4 ⟨rfl, hb4⟩
    have HZ4 : Hid (At2r w4 (w.heap.size + 1 + 1) 192 (.string { data := #[] }) (.int .i64 0) ∧ Below w.heap.size w w4) := ⟨(HIn3.out.next hb4).2.2.1, (HIn3.out.next hb4).2.2.2.1⟩
    clear hb4 HIn3 HRD hfn
    obtain ⟨x3, hx3⟩ : ∃ x3, e + (dr : Int) = x3 := ⟨_, rfl⟩
    have hx4 : -200000 ≤ x3 ∧ x3 ≤ 400000 := by omega
    rw [hx3] at HTX
    rw [hx3]
    clear hw3 hx3
    have hsz2 : (tx D2).size = D2.length := tx_size D2
    by_cases h : 34 < D2.length
    · have h' : (34 : Int) < (D2.length : Int) := by omega
      have ht := tx_take D2 34 (by omega)
      have hle : (34 : Int) ≤ (D2.length : Int) := by omega
      have E1 : Hid (TT = tx (D2.take 34) ∧ XX = x3 + 1) := ⟨by rw [← HTX.out.1]; unfold finT; rw [if_pos h], by rw [← HTX.out.2]; unfold finTE; rw [if_pos h]⟩
      have wx : IntKind.i64.wrap (x3 + 1) = x3 + 1 := by rw [IntKind.wrap_i64]; omega
      have hbl := build_sc (tx (D2.take 34)) (x3 + 1)
      generalize tx (D2.take 34) = T2 at *
      clear h HTX
      go_wp2_with (refine wpList_store_row rfl 192 (.tmp 10) (.tmp 70) rfl (w.heap.size + 1 + 1) #[.string T2, .int .i64 (x3 + 1)] rfl rfl _ _ HZ4.out.1 (by kernel_rfl) rfl (one2 _ _) ?_)
      have hP := (HZ4.out.1.row (.string T2) (.int .i64 (x3 + 1))).cells
      refine bodyPost_ret (results_sct rfl _ _ rfl hP.1 hP.2) rfl ?_
      exact ⟨by rw [E1.out.1, E1.out.2]; rfl, bel_row HZ4.out.2 (by omega) _⟩
    · have h' : ¬ (34 : Int) < (D2.length : Int) := by omega
      have E1 : Hid (TT = tx D2 ∧ XX = x3) := ⟨by rw [← HTX.out.1]; unfold finT; rw [if_neg h], by rw [← HTX.out.2]; unfold finTE; rw [if_neg h]⟩
      have hbl := build_sc (tx D2) x3
      clear h HTX
      go_wp2_with (refine wpList_store_row rfl 192 (.tmp 10) (.tmp 74) rfl (w.heap.size + 1 + 1) #[.string (tx D2), .int .i64 x3] rfl rfl _ _ HZ4.out.1 (by kernel_rfl) rfl (one2 _ _) ?_)
      have hP := (HZ4.out.1.row (.string (tx D2)) (.int .i64 x3)).cells
      refine bodyPost_ret (results_sct rfl _ _ rfl hP.1 hP.2) rfl ?_
      exact ⟨by rw [E1.out.1, E1.out.2]; rfl, bel_row HZ4.out.2 (by omega) _⟩
set_option maxRecDepth 100000 in
set_option maxHeartbeats 4000000 in
theorem iFinish_r128 (mode : Int) (hm : 1 ≤ mode ∧ mode ≤ 5) (neg : Bool) (ds : List Int) (e want : Int) (w : World) (hc : Canon ds) (hz : ds ≠ [0]) (hl : ds.length ≤ 200) (hp : 34 < ds.length) (he : -200000 ≤ e ∧ e ≤ 200000) (hwt : -200000 ≤ want ∧ want ≤ 200000) :
    Calls Tryz.prog 88 #[.int .i64 128, .int .i64 mode, .bool neg, .string (tx ds), .int .i64 e, .bool true, .int .i64 want] w fun x w' => x = .returned (rsD neg (finD 128 mode neg ds e true want)) ∧ Below w.heap.size w w' := by
  obtain ⟨Fn, hent, HG0, HR0⟩ := rounding_yes mode hm
  have HG : Hid (∀ neg od p, (p = 0 ∨ p = 1 ∨ p = 2 ∨ p = 3) → ∀ X, Calls Tryz.prog Fn #[cutV neg od p] X fun e w' => e = .returned (.bool (grw mode neg od p)) ∧ Below X.heap.size X w') := HG0
  have HR : Hid (∀ X, Calls Tryz.prog 149 #[.int .i64 mode] X fun e w' => e = .returned (.tuple #[.agg #[fnV Fn], .bool true]) ∧ Below X.heap.size X w') := HR0
  clear HG0 HR0
  obtain ⟨dr, hdr⟩ : ∃ d, finDr 34 ds.length (-6176) e = d := ⟨_, rfl⟩
  obtain ⟨D2, hD2⟩ : ∃ D, nt (finV mode neg (vl ds) dr true) = D := ⟨_, rfl⟩
  obtain ⟨lost, hlo⟩ : ∃ l, finLs (vl ds) dr true = l := ⟨_, rfl⟩
  have HFt : Hid (∀ X, Calls Tryz.prog 166 #[.agg #[fnV Fn], .iface 211 (.agg #[]), .bool neg, scV (tx ds) e, .bool true] X fun x w' => x = .returned (.tuple #[scV (tx (finT 34 D2)) (finTE 34 D2 (e + dr)), .bool lost]) ∧ Below X.heap.size X w') := fun X => fitted_r128 Fn mode hent HG neg ds e X hc hl hp he dr hdr D2 hD2 lost hlo
  have HOv : Hid (∀ X, Calls Tryz.prog 170 #[.agg #[fnV Fn], .iface 211 (.agg #[]), .bool neg] X fun x w' => x = .returned (if finG mode neg then numV 1 neg 6111 (tx (List.replicate 34 9)) else numV 2 neg 0 { data := #[] }) ∧ Below X.heap.size X w') := fun X => overflow_128 Fn mode hm hent HG neg X
  have hdr2 : (dr : Int) ≤ 200000 := by rw [← hdr]; unfold finDr; omega
  have HC2 : Canon D2 ∧ D2.length ≤ 500 := by
    rw [← hD2]
    refine ⟨?_, nt_500 _⟩
    have hv := vl_bd ds hc.1
    have hb : vl ds < 10 ^ 300 := Int.lt_of_lt_of_le hv.2 (pow_mono _ _ (by omega))
    unfold finV
    split
    · have h1 : (1 : Int) < 10 ^ 300 := Int.lt_of_lt_of_le (by decide : (1 : Int) < 10 ^ 1) (pow_mono 1 300 (by decide))
      exact (nt_spec _ (rndV_bd mode neg 1 200 true (by decide) h1).1 (rndV_bd mode neg 1 200 true (by decide) h1).2).1
    · exact (nt_spec _ (rndV_bd mode neg (vl ds) dr true hv.1 hb).1 (rndV_bd mode neg (vl ds) dr true hv.1 hb).2).1
  have HFin : Hid (finD 128 mode neg ds e true want = fin5 34 6111 mode neg (fin3D lost (finT 34 D2) (finTE 34 D2 (e + dr)) want (-6176) 6111 34) (fin3E lost (finT 34 D2) (finTE 34 D2 (e + dr)) want (-6176) 6111 34) (finF lost (ds.length + e) (-6176) 34)) := by
    show _ = _
    unfold finD
    rw [if_neg hz]
    exact finN_rest 34 (-6176) 6111 mode neg ds e want hp dr hdr D2 hD2 lost hlo
  obtain ⟨D3, hD3⟩ : ∃ D, finT 34 D2 = D := ⟨_, rfl⟩
  obtain ⟨x3, hx3⟩ : ∃ x, finTE 34 D2 (e + dr) = x := ⟨_, rfl⟩
  have HT : Dec D3 ∧ 0 < D3.length ∧ D3.length ≤ 500 := by
    rw [← hD3]
    unfold finT
    split
    · exact ⟨fun x hx => HC2.1.1 x (List.mem_of_mem_take hx), by rw [List.length_take]; have := HC2.1.2.1; omega, by rw [List.length_take]; have := HC2.2; omega⟩
    · exact ⟨HC2.1.1, HC2.1.2.1, HC2.2⟩
  have hx4 : -200000 ≤ x3 ∧ x3 ≤ 400001 := by rw [← hx3]; unfold finTE; split <;> omega
  rw [hD3, hx3] at HFt HFin
  have HLf : Hid (∀ X, Calls Tryz.prog 167 #[.iface 211 (.agg #[]), scV (tx ds) e] X fun x w' => x = .returned (.int .i64 (finF true (ds.length + e) (-6176) 34)) ∧ Below X.heap.size X w') := fun X => lossFlags_128 ds e X (by omega) (by omega)
  have HPr : Hid (∀ X, Calls Tryz.prog 168 #[.iface 211 (.agg #[]), scV (tx D3) x3, .int .i64 want] X fun x w' => x = .returned (scV (tx (fin3D false D3 x3 want (-6176) 6111 34)) (fin3E false D3 x3 want (-6176) 6111 34)) ∧ Below X.heap.size X w') := fun X => preferred_128 D3 x3 want X HT.1 HT.2.1 HT.2.2 (by omega) hwt
  obtain ⟨D5, hD5⟩ : ∃ D, fin3D lost D3 x3 want (-6176) 6111 34 = D := ⟨_, rfl⟩
  obtain ⟨x5, hx5⟩ : ∃ x, fin3E lost D3 x3 want (-6176) 6111 34 = x := ⟨_, rfl⟩
  obtain ⟨fl, hfl⟩ : ∃ x, finF lost (ds.length + e) (-6176) 34 = x := ⟨_, rfl⟩
  have hb5 := fin3_bd lost D3 x3 want (-6176) 6111 34 HT.2.1 HT.2.2 (by decide)
  rw [hD5, hx5] at hb5
  rw [hD5, hx5, hfl] at HFin
  have HLw : Hid (∀ X, Calls Tryz.prog 169 #[scV (tx D5) x5, .iface 211 (.agg #[]), .int .i64 6111] X fun x w' => x = .returned (scV (tx (fin4D D5 x5 6111 34)) (fin4E D5 x5 6111 34)) ∧ Below X.heap.size X w') := fun X => lowered_128 D5 x5 6111 X (by omega) (by omega) (by omega)
  have HS1 : Hid ((lost = true → D5 = D3 ∧ x5 = x3 ∧ fl = finF true (ds.length + e) (-6176) 34) ∧ (lost = false → D5 = fin3D false D3 x3 want (-6176) 6111 34 ∧ x5 = fin3E false D3 x3 want (-6176) 6111 34 ∧ fl = 0)) := by
    refine ⟨fun h => ?_, fun h => ?_⟩
    · subst h; exact ⟨hD5.symm, hx5.symm, hfl.symm⟩
    · subst h; exact ⟨hD5.symm, hx5.symm, hfl.symm⟩
  have HB5 : Hid (x5 ≤ 500000 ∧ -300000 ≤ x5) := ⟨by omega, by omega⟩
  obtain ⟨FD, hFD⟩ : ∃ F, finD 128 mode neg ds e true want = F := ⟨_, rfl⟩
  rw [hFD]
  rw [hFD] at HFin
  have hz0 : ((tx ds).toList == [48]) = false := tx_is0 ds hc.1 hz
  have HNok : Hid (∀ X, Calls Tryz.prog 162 #[.string (tx ds)] X fun x w' => x = .returned (.bool true) ∧ w' = X) := fun X => by
    have := iNatOk_any (tx ds) X (by rw [tx_size]; omega)
    rwa [natB_tx 200 ds hc (by omega)] at this
  have HE1 : Hid (∀ X, Calls Tryz.prog 165 #[.int .i64 e] X fun x w' => x = .returned (.bool true) ∧ w' = X) := fun X => isExp_yes e X he
  have HE2 : Hid (∀ X, Calls Tryz.prog 165 #[.int .i64 want] X fun x w' => x = .returned (.bool true) ∧ w' = X) := fun X => isExp_yes want X hwt
  have HZ : Hid (At5 (w.alloc (.cells #[.int .i64 0, .bool false, .int .i64 0, .string { data := #[] }, .int .i64 0] 90)) w.heap.size (.int .i64 0) (.bool false) (.int .i64 0) (.string { data := #[] }) (.int .i64 0) ∧ Below w.heap.size w (w.alloc (.cells #[.int .i64 0, .bool false, .int .i64 0, .string { data := #[] }, .int .i64 0] 90))) := ⟨at5_new w _ _ _ _ _, (Below.refl _ _).alloc (Nat.le_refl _) _⟩
  clear hp
  clear hdr hD2 hlo hdr2 HC2 hD3 hx3 HT hx4 hD5 hx5 hfl hb5 hFD hc hz hl he hwt hm HG hent
  go_enter Tryz.func88, Tryz.ntmps88
  go_wp2_with fail
  refine (fmtOf_128 _).mono ?_
  rintro x wa ⟨rfl, rfl⟩
  go_wp2_with fail
  refine (HR.out _).mono ?_
  rintro x w1 ⟨rfl, hb1⟩
  have HZ1 : Hid (At5 w1 w.heap.size (.int .i64 0) (.bool false) (.int .i64 0) (.string { data := #[] }) (.int .i64 0) ∧ Below w.heap.size w w1) := ⟨HZ.out.1.below hb1 HZ.out.1.lt, HZ.out.2.trans (hb1.mono HZ.out.2.size)⟩
  clear hb1 HZ HR
  have hnew := new_at w1 (.cells #[.nilFunc] 177)
  have h1c : (#[fnV Fn] : Array Value).all (·.oneCell') = true := by simp [Value.oneCell']
  go_wp2_with (refine wpList_store_row rfl 177 (.tmp 17) (.tmp 32) rfl w1.heap.size #[fnV Fn] rfl rfl _ _ hnew (by kernel_rfl) rfl h1c ?_)
  obtain ⟨w2, hw2⟩ : ∃ W, (w1.alloc (.cells #[.nilFunc] 177)).setRow w1.heap.size #[fnV Fn] = W := ⟨_, rfl⟩
  obtain ⟨hlt, hin⟩ := inF_first (Fn := Fn) (s := tx ds) (e := e) HZ1.out.1 HZ1.out.2 w2 hw2.symm
  have HI2 : Hid (InF w Fn w1.heap.size w2.heap.size (tx ds) e (w2.alloc (.cells #[.string (tx ds), .int .i64 e] 192))) := hin
  have hfn2 := hin.fn
  obtain ⟨c0, c1⟩ := hin.2.2.1.cells
  rw [hw2]
  clear hnew h1c hw2 HZ1 hlt hin
  generalize w1.heap.size = b1 at *
  refine (HNok.out _).mono ?_
  rintro x wx ⟨rfl, rfl⟩
  go_wp2_with fail
  refine (HE1.out _).mono ?_
  rintro x wy ⟨rfl, rfl⟩
  go_wp2_with fail
  refine (HE2.out _).mono ?_
  rintro x wz ⟨rfl, rfl⟩
  clear HNok HE1 HE2
  have hbs := build_sc (tx ds) e
  go_wp2_with fail
  refine (HFt.out _).mono ?_
  rintro x w3 ⟨rfl, hb3⟩
  have HI3 : Hid (InF w Fn b1 wz.heap.size (tx ds) e w3 ∧ InF w Fn b1 w3.heap.size (tx D3) x3 (w3.alloc (.cells #[.string (tx D3), .int .i64 x3] 192))) := ⟨HI2.out.next hb3, (HI2.out.next hb3).alloc⟩
  clear hb3 HI2 HFt hfn2 c0 c1 hbs
  generalize wz.heap.size = b2 at *
  go_upto_if 88 with fail
  generalize hb3 : w3.heap.size = b3 at *
  go_cut [21] (fun g wx => g = .int .i64 fl ∧ Hid (InF w Fn b1 b3 (tx D5) x5 wx))
  case first =>
    cases lost with
    | true =>
      obtain ⟨h1, h2, h3⟩ := HS1.out.1 rfl
      rw [← h3] at HLf
      have HE : Hid (D5 = D3 ∧ x5 = x3) := ⟨h1, h2⟩
      have hq : ∀ o, (w3.alloc o).cell? ⟨b2, 0, none⟩ = some (.string (tx ds)) ∧ (w3.alloc o).cell? ⟨b2, 1, none⟩ = some (.int .i64 e) := fun o => (HI3.out.1.next ((Below.refl _ _).alloc (Nat.le_refl _) o)).2.2.1.cells
      obtain ⟨c0, c1⟩ := hq (.cells #[.string (tx D3), .int .i64 x3] 192)
      clear h1 h2 h3 hq hb3
      go_wp2_with fail
      refine (HLf.out _).mono ?_
      rintro x w4 ⟨rfl, hb4⟩
      have HI4 : Hid (InF w Fn b1 b3 (tx D3) x3 w4) := HI3.out.2.next hb4
      clear hb4 HI3 c0 c1
      go_wp2
      go_meet
      case rel => exact ⟨rfl, by rw [HE.out.1, HE.out.2]; exact HI4⟩
    | false =>
      obtain ⟨h1, h2, h3⟩ := HS1.out.2 rfl
      rw [← h1, ← h2] at HPr
      have HE : Hid (fl = 0) := h3
      obtain ⟨c0, c1⟩ := HI3.out.2.2.2.1.cells
      clear h1 h2 h3 hb3
      go_wp2_with fail
      refine (HPr.out _).mono ?_
      rintro x w4 ⟨rfl, hb4⟩
      have HI4 : Hid (InF w Fn b1 b3 (tx D3) x3 w4) := HI3.out.2.next hb4
      have HZ4 : Hid (At2r w4 b3 192 (.string (tx D3)) (.int .i64 x3)) := HI4.out.2.2.1
      clear hb4 HI3 c0 c1
      go_wp2_with (refine wpList_store_row rfl 192 (.tmp 22) (.tmp 95) rfl b3 #[.string (tx D5), .int .i64 x5] rfl rfl _ _ HZ4.out (by kernel_rfl) rfl (one2 _ _) ?_)
      go_meet
      case rel => exact ⟨by rw [HE.out], HI4.out.put _ _⟩
  case rest =>
    obtain ⟨rfl, HI5⟩ := hcut
    clear HI3 HS1 HLf HPr
    have HX0 : Hid (Below wc.heap.size wc wc.drew) := (Below.refl _ _).drew
    go_upto_region 13 with fail
    refine wp_region_tail (C := fun W => Below wc.heap.size wc W) 4 (by kernel_rfl) (by kernel_rfl) HX0.out ?_
    simp only [List.take_succ_cons, List.take_zero, List.drop_succ_cons, List.drop_zero]
    repeat (refine wpQuiet_step (fun K hK => ?_); go_simp; first | (refine hK _ ?_; clear hK K) | (apply Exists.intro; refine ⟨fun wx hC => ?_, hK _ ?_⟩; (first | exact rfl | (simp only [md_greatestExp_128]; go_simp; exact Calls.class_of (greatestExp_128 wx) (fun w' hb => bel1 hC hb)) | (obtain ⟨q0, q1⟩ := (HI5.out.next hC).2.2.1.cells; go_simp; exact rfl)); clear hK K))
    refine wpQuiet_nil ?_
    intro w6 hb6
    have HI6 : Hid (InF w Fn b1 b3 (tx D5) x5 w6) := HI5.out.next hb6
    clear hb6 HI5 HX0
    have HF5 : Hid (fin5 34 6111 mode neg D5 x5 fl = FD) := HFin.out.symm
    have hb6 : -300000 ≤ fin4E D5 x5 6111 34 ∧ fin4E D5 x5 6111 34 ≤ 500000 := by have := HB5.out; unfold fin4E fC; omega
    unfold fin5 at HF5
    generalize fin4D D5 x5 6111 34 = D6 at *
    generalize fin4E D5 x5 6111 34 = x6 at *
    clear HFin HB5
    go_wp2_with fail
    refine (HLw.out _).mono ?_
    rintro x w7 ⟨rfl, hb7⟩
    have HI7 : Hid (InF w Fn b1 b3 (tx D5) x5 w7) := HI6.out.next hb7
    have HZ7 : Hid (At2r w7 b3 192 (.string (tx D5)) (.int .i64 x5)) := HI7.out.2.2.1
    clear hb7 HI6 HLw
    go_wp2_with (refine wpList_store_row rfl 192 (.tmp 22) (.tmp 100) rfl b3 #[.string (tx D6), .int .i64 x6] rfl rfl _ _ HZ7.out (by kernel_rfl) rfl (one2 _ _) ?_)
    have HI8 : Hid (InF w Fn b1 b3 (tx D6) x6 (w7.setRow b3 #[.string (tx D6), .int .i64 x6])) := HI7.out.put _ _
    generalize w7.setRow b3 #[.string (tx D6), .int .i64 x6] = w8 at *
    clear HI7 HZ7
    have HX8 : Hid (Below w8.heap.size w8 w8.drew) := (Below.refl _ _).drew
    by_cases hfin : x6 ≤ 6111
    · have hgt : ¬ (6111 < x6) := by omega
      rw [if_pos hfin] at HF5
      clear hfin HOv
      go_upto_region 14 with fail
      refine wp_region_class (C := fun W => Below w8.heap.size w8 W) (by kernel_rfl) (by kernel_rfl) HX8.out ?_
      repeat (refine wpQuiet_step (fun K hK => ?_); go_simp; first | (refine hK _ ?_; clear hK K) | (apply Exists.intro; refine ⟨fun wx hC => ?_, hK _ ?_⟩; (first | exact rfl | (simp only [md_greatestExp_128]; go_simp; exact Calls.class_of (greatestExp_128 wx) (fun w' hb => bel1 hC hb)) | (obtain ⟨q0, q1⟩ := (HI8.out.next hC).2.2.1.cells; go_simp; exact rfl)); clear hK K))
      refine wpQuiet_nil ?_
      intro w9 hb9
      have HI9 : Hid (InF w Fn b1 b3 (tx D6) x6 w9) := HI8.out.next hb9
      have HZ9 : Hid (At5 w9 w.heap.size (.int .i64 0) (.bool false) (.int .i64 0) (.string { data := #[] }) (.int .i64 0)) := HI9.out.1
      obtain ⟨q0, q1⟩ := HI9.out.2.2.1.cells
      clear hb9 HI8 HX8
      have hbn := build_num 1 neg x6 (tx D6)
      have hbr := build_res 1 neg x6 (tx D6) fl
      go_wp2_with (refine wpList_store_row rfl 90 (.tmp 14) (.tmp 118) rfl w.heap.size #[.int .i64 1, .bool neg, .int .i64 x6, .string (tx D6), .int .i64 fl] rfl rfl _ _ HZ9.out (by kernel_rfl) rfl (one5 _ _ _ _ _) ?_)
      have hP := (HZ9.out.row (.int .i64 1) (.bool neg) (.int .i64 x6) (.string (tx D6)) (.int .i64 fl)).cells
      refine bodyPost_ret (results_res rfl _ _ rfl hP.1 hP.2.1 hP.2.2.1 hP.2.2.2.1 hP.2.2.2.2.1) rfl ?_
      exact ⟨by rw [← HF5.out], bel_row HI9.out.2.2.2.1 (Nat.le_refl _) _⟩
    · have hgt : 6111 < x6 := by omega
      rw [if_neg hfin] at HF5
      clear hfin
      go_upto_region 14 with fail
      refine wp_region_class (C := fun W => Below w8.heap.size w8 W) (by kernel_rfl) (by kernel_rfl) HX8.out ?_
      repeat (refine wpQuiet_step (fun K hK => ?_); go_simp; first | (refine hK _ ?_; clear hK K) | (apply Exists.intro; refine ⟨fun wx hC => ?_, hK _ ?_⟩; (first | exact rfl | (simp only [md_greatestExp_128]; go_simp; exact Calls.class_of (greatestExp_128 wx) (fun w' hb => bel1 hC hb)) | (obtain ⟨q0, q1⟩ := (HI8.out.next hC).2.2.1.cells; go_simp; exact rfl)); clear hK K))
      refine wpQuiet_nil ?_
      intro w9 hb9
      have HI9 : Hid (InF w Fn b1 b3 (tx D6) x6 w9) := HI8.out.next hb9
      have hfn9 := HI9.out.fn
      clear hb9 HI8 HX8
      go_wp2_with fail
      refine (HOv.out _).mono ?_
      rintro x wv ⟨rfl, hbv⟩
      have HZv : Hid (At5 wv w.heap.size (.int .i64 0) (.bool false) (.int .i64 0) (.string { data := #[] }) (.int .i64 0) ∧ Below w.heap.size w wv) := ⟨(HI9.out.next hbv).1, (HI9.out.next hbv).2.2.2.1⟩
      clear hbv HI9 hfn9 HOv
      generalize finG mode neg = G at *
      generalize tx (List.replicate 34 9) = NN at *
      cases G with
      | true =>
        have hbr := build_res 1 neg 6111 NN 20
        simp only [if_true]
        go_wp2_with (refine wpList_store_row rfl 90 (.tmp 14) (.tmp 110) rfl w.heap.size #[.int .i64 1, .bool neg, .int .i64 6111, .string NN, .int .i64 20] rfl rfl _ _ HZv.out.1 (by kernel_rfl) rfl (one5 _ _ _ _ _) ?_)
        have hP := (HZv.out.1.row (.int .i64 1) (.bool neg) (.int .i64 6111) (.string NN) (.int .i64 20)).cells
        refine bodyPost_ret (results_res rfl _ _ rfl hP.1 hP.2.1 hP.2.2.1 hP.2.2.2.1 hP.2.2.2.2.1) rfl ?_
        exact ⟨by rw [← HF5.out]; rfl, bel_row HZv.out.2 (Nat.le_refl _) _⟩
      | false =>
        have hbr := build_res 2 neg 0 { data := #[] } 20
        simp only [Bool.false_eq_true, if_false]
        go_wp2_with (refine wpList_store_row rfl 90 (.tmp 14) (.tmp 110) rfl w.heap.size #[.int .i64 2, .bool neg, .int .i64 0, .string { data := #[] }, .int .i64 20] rfl rfl _ _ HZv.out.1 (by kernel_rfl) rfl (one5 _ _ _ _ _) ?_)
        have hP := (HZv.out.1.row (.int .i64 2) (.bool neg) (.int .i64 0) (.string { data := #[] }) (.int .i64 20)).cells
        refine bodyPost_ret (results_res rfl _ _ rfl hP.1 hP.2.1 hP.2.2.1 hP.2.2.2.1 hP.2.2.2.2.1) rfl ?_
        exact ⟨by rw [← HF5.out]; rfl, bel_row HZv.out.2 (Nat.le_refl _) _⟩
theorem iFinish_rest (f mode : Int) (hf : f = 64 ∨ f = 128) (hm : 1 ≤ mode ∧ mode ≤ 5) (neg : Bool) (ds : List Int) (e want : Int) (w : World) (hc : Canon ds) (hz : ds ≠ [0]) (hl : ds.length ≤ 200) (hp : limP f < ds.length) (he : -200000 ≤ e ∧ e ≤ 200000) (hwt : -200000 ≤ want ∧ want ≤ 200000) :
    Calls Tryz.prog 88 #[.int .i64 f, .int .i64 mode, .bool neg, .string (tx ds), .int .i64 e, .bool true, .int .i64 want] w fun x w' => x = .returned (rsD neg (finD f mode neg ds e true want)) ∧ Below w.heap.size w w' := by
  rcases hf with rfl | rfl
  · exact iFinish_r64 mode hm neg ds e want w hc hz hl (by have h : limP 64 = 16 := rfl; rw [h] at hp; omega) he hwt
  · exact iFinish_r128 mode hm neg ds e want w hc hz hl (by have h : limP 128 = 34 := rfl; rw [h] at hp; omega) he hwt
/-- Whatever stands behind, or nothing. -/
theorem iFinish_both (f mode : Int) (hf : f = 64 ∨ f = 128) (hm : 1 ≤ mode ∧ mode ≤ 5) (neg : Bool) (ds : List Int) (e : Int) (rest : Bool) (want : Int) (w : World) (hc : Canon ds) (hl : ds.length ≤ 200) (hp : rest = true → ds ≠ [0] ∧ limP f < ds.length) (he : -200000 ≤ e ∧ e ≤ 200000) (hwt : -200000 ≤ want ∧ want ≤ 200000) :
    Calls Tryz.prog 88 #[.int .i64 f, .int .i64 mode, .bool neg, .string (tx ds), .int .i64 e, .bool rest, .int .i64 want] w fun x w' => x = .returned (rsD neg (finD f mode neg ds e rest want)) ∧ Below w.heap.size w w' := by
  cases rest with
  | false => exact iFinish_all f mode hf hm neg ds e want w hc hl he hwt
  | true => exact iFinish_rest f mode hf hm neg ds e want w hc (hp rfl).1 hl (hp rfl).2 he hwt
end Go.Proofs.YteofommckgeemaaGreatDoor
