/-
  Finish of the program, nothing standing behind the digits, walked.
-/
import Derived.Test.YteofommckgeemaaGreatDoorFinA

namespace Go.Proofs.YteofommckgeemaaGreatDoor
open Go.RowKit
set_option linter.unusedVariables false
set_option maxRecDepth 100000
/-- What lies in memory while digits are finished: the result's block, the mode's, one number's. -/
def InF (w : World) (Fn b1 b : Nat) (s : ByteArray) (e : Int) (W : World) : Prop := At5 W w.heap.size (.int .i64 0) (.bool false) (.int .i64 0) (.string { data := #[] }) (.int .i64 0) ∧ W.heap[b1]? = some (.cells #[fnV Fn] 177 (0, 0)) ∧ At2r W b 192 (.string s) (.int .i64 e) ∧ Below w.heap.size w W ∧ w.heap.size < b1 ∧ b1 < b
theorem InF.next {w W W' : World} {Fn b1 b : Nat} {s : ByteArray} {e : Int} (h : InF w Fn b1 b s e W) (hb : Below W.heap.size W W') : InF w Fn b1 b s e W' :=
  ⟨h.1.below hb h.1.lt, (hb.block _ (Nat.lt_trans h.2.2.2.2.2 h.2.2.1.lt)).trans h.2.1, h.2.2.1.below hb h.2.2.1.lt, h.2.2.2.1.trans (hb.mono h.2.2.2.1.size), h.2.2.2.2⟩
theorem InF.put {w W : World} {Fn b1 b : Nat} {s : ByteArray} {e : Int} (h : InF w Fn b1 b s e W) (s' : ByteArray) (e' : Int) : InF w Fn b1 b s' e' (W.setRow b #[.string s', .int .i64 e']) :=
  have c := h.2.2.2.2
  ⟨(setRow_other W b w.heap.size _ (by omega)).trans h.1, (setRow_other W b b1 _ (by omega)).trans h.2.1, h.2.2.1.row _ _, bel_row h.2.2.2.1 (by omega) _, c⟩
theorem InF.fn {w W : World} {Fn b1 b : Nat} {s : ByteArray} {e : Int} (h : InF w Fn b1 b s e W) : W.cell? ⟨b1, 0, none⟩ = some (fnV Fn) := by
  unfold World.cell?
  simp only [h.2.1]
  rfl
theorem InF.alloc {w W : World} {Fn b1 b : Nat} {s s' : ByteArray} {e e' : Int} (h : InF w Fn b1 b s e W) : InF w Fn b1 W.heap.size s' e' (W.alloc (.cells #[.string s', .int .i64 e'] 192)) :=
  have c := h.next ((Below.refl _ W).alloc (Nat.le_refl _) (.cells #[.string s', .int .i64 e'] 192))
  ⟨c.1, c.2.1, at2r_new W _ _ _, c.2.2.2.1, c.2.2.2.2.1, Nat.lt_trans h.2.2.2.2.2 h.2.2.1.lt⟩
theorem inF_first {w w1 : World} {Fn : Nat} {s : ByteArray} {e : Int} (h : At5 w1 w.heap.size (.int .i64 0) (.bool false) (.int .i64 0) (.string { data := #[] }) (.int .i64 0)) (hb : Below w.heap.size w w1) (W : World) (hW : W = (w1.alloc (.cells #[.nilFunc] 177)).setRow w1.heap.size #[fnV Fn]) :
    w1.heap.size < W.heap.size ∧ InF w Fn w1.heap.size W.heap.size s e (W.alloc (.cells #[.string s, .int .i64 e] 192)) := by
  subst hW
  have hz : ((w1.alloc (.cells #[.nilFunc] 177)).setRow w1.heap.size #[fnV Fn]).heap.size = w1.heap.size + 1 := by
    show (((w1.alloc (.cells #[.nilFunc] 177)).setRow w1.heap.size #[fnV Fn]).heap).size = _
    rw [show (((w1.alloc (.cells #[.nilFunc] 177)).setRow w1.heap.size #[fnV Fn]).heap).size = (w1.alloc (.cells #[.nilFunc] 177)).heap.size by simp [World.setRow], new_size]
  have h0 : ((w1.alloc (.cells #[.nilFunc] 177)).setRow w1.heap.size #[fnV Fn]).heap[w1.heap.size]? = some (.cells #[fnV Fn] 177 (0, 0)) := setRow_heap _ _ _ _ _ _ (new_at w1 (.cells #[.nilFunc] 177))
  have hA : Below w1.heap.size w1 ((w1.alloc (.cells #[.nilFunc] 177)).setRow w1.heap.size #[fnV Fn]) := bel_row ((Below.refl _ _).alloc (Nat.le_refl _) _) (Nat.le_refl _) _
  generalize (w1.alloc (.cells #[.nilFunc] 177)).setRow w1.heap.size #[fnV Fn] = W at *
  have hB : Below W.heap.size W (W.alloc (.cells #[.string s, .int .i64 e] 192)) := (Below.refl _ _).alloc (Nat.le_refl _) _
  refine ⟨by omega, h.below (hA.trans (hB.mono hA.size)) h.lt, (hB.block _ (by omega)).trans h0, at2r_new W _ _ _, hb.trans ((hA.trans (hB.mono hA.size)).mono hb.size), h.lt, by omega⟩
theorem isExp_yes (e : Int) (w : World) (h : -200000 ≤ e ∧ e ≤ 200000) : Calls Tryz.prog 165 #[.int .i64 e] w fun x w' => x = .returned (.bool true) ∧ w' = w := by
  obtain ⟨h1, h2⟩ := h
  go_enter Tryz.func165, Tryz.ntmps165
  go_wp2
  go_ret
  exact ⟨rfl, rfl⟩
/-- Finished digits, nothing standing behind them. -/
theorem finN_plain (p : Nat) (low high mode : Int) (neg : Bool) (ds : List Int) (e want : Int) (dr : Nat) (hdr : finDr p ds.length low e = dr) (D2 : List Int) (hD2 : nt (finV mode neg (vl ds) dr false) = D2) (lost : Bool) (hlo : finLs (vl ds) dr false = lost) :
    finN p low high mode neg ds e false want = fin5 p high mode neg (fin3D lost (finT p D2) (finTE p D2 (e + dr)) want low high p) (fin3E lost (finT p D2) (finTE p D2 (e + dr)) want low high p) (finF lost (ds.length + e) low p) := by
  subst hdr hD2 hlo
  simp [finN, finJ]
set_option maxRecDepth 100000 in
set_option maxHeartbeats 4000000 in
theorem iFinish_64 (mode : Int) (hm : 1 ≤ mode ∧ mode ≤ 5) (neg : Bool) (ds : List Int) (e want : Int) (w : World) (hc : Canon ds) (hz : ds ≠ [0]) (hl : ds.length ≤ 200) (he : -200000 ≤ e ∧ e ≤ 200000) (hwt : -200000 ≤ want ∧ want ≤ 200000) :
    Calls Tryz.prog 88 #[.int .i64 64, .int .i64 mode, .bool neg, .string (tx ds), .int .i64 e, .bool false, .int .i64 want] w fun x w' => x = .returned (rsD neg (finD 64 mode neg ds e false want)) ∧ Below w.heap.size w w' := by
  obtain ⟨Fn, hent, HG0, HR0⟩ := rounding_yes mode hm
  have HG : Hid (∀ neg od p, (p = 0 ∨ p = 1 ∨ p = 2 ∨ p = 3) → ∀ X, Calls Tryz.prog Fn #[cutV neg od p] X fun e w' => e = .returned (.bool (grw mode neg od p)) ∧ Below X.heap.size X w') := HG0
  have HR : Hid (∀ X, Calls Tryz.prog 149 #[.int .i64 mode] X fun e w' => e = .returned (.tuple #[.agg #[fnV Fn], .bool true]) ∧ Below X.heap.size X w') := HR0
  clear HG0 HR0
  obtain ⟨dr, hdr⟩ : ∃ d, finDr 16 ds.length (-398) e = d := ⟨_, rfl⟩
  obtain ⟨D2, hD2⟩ : ∃ D, nt (finV mode neg (vl ds) dr false) = D := ⟨_, rfl⟩
  obtain ⟨lost, hlo⟩ : ∃ l, finLs (vl ds) dr false = l := ⟨_, rfl⟩
  have HFt : Hid (∀ X, Calls Tryz.prog 166 #[.agg #[fnV Fn], .iface 208 (.agg #[]), .bool neg, scV (tx ds) e, .bool false] X fun x w' => x = .returned (.tuple #[scV (tx (finT 16 D2)) (finTE 16 D2 (e + dr)), .bool lost]) ∧ Below X.heap.size X w') := fun X => fitted_64 Fn mode hent HG neg ds e X hc hl he dr hdr D2 hD2 lost hlo
  have HOv : Hid (∀ X, Calls Tryz.prog 170 #[.agg #[fnV Fn], .iface 208 (.agg #[]), .bool neg] X fun x w' => x = .returned (if finG mode neg then numV 1 neg 369 (tx (List.replicate 16 9)) else numV 2 neg 0 { data := #[] }) ∧ Below X.heap.size X w') := fun X => overflow_64 Fn mode hm hent HG neg X
  have hdr2 : (dr : Int) ≤ 200000 := by rw [← hdr]; unfold finDr; omega
  have HC2 : Canon D2 ∧ D2.length ≤ 500 := by
    rw [← hD2]
    refine ⟨?_, nt_500 _⟩
    have hv := vl_bd ds hc.1
    have hb : vl ds < 10 ^ 300 := Int.lt_of_lt_of_le hv.2 (pow_mono _ _ (by omega))
    unfold finV
    split
    · have h1 : (1 : Int) < 10 ^ 300 := Int.lt_of_lt_of_le (by decide : (1 : Int) < 10 ^ 1) (pow_mono 1 300 (by decide))
      exact (nt_spec _ (rndV_bd mode neg 1 200 true (by decide) h1).1 (rndV_bd mode neg 1 200 true (by decide) h1).2).1
    · exact (nt_spec _ (rndV_bd mode neg (vl ds) dr false hv.1 hb).1 (rndV_bd mode neg (vl ds) dr false hv.1 hb).2).1
  have HFin : Hid (finD 64 mode neg ds e false want = fin5 16 369 mode neg (fin3D lost (finT 16 D2) (finTE 16 D2 (e + dr)) want (-398) 369 16) (fin3E lost (finT 16 D2) (finTE 16 D2 (e + dr)) want (-398) 369 16) (finF lost (ds.length + e) (-398) 16)) := by
    show _ = _
    unfold finD
    rw [if_neg hz]
    exact finN_plain 16 (-398) 369 mode neg ds e want dr hdr D2 hD2 lost hlo
  obtain ⟨D3, hD3⟩ : ∃ D, finT 16 D2 = D := ⟨_, rfl⟩
  obtain ⟨x3, hx3⟩ : ∃ x, finTE 16 D2 (e + dr) = x := ⟨_, rfl⟩
  have HT : Dec D3 ∧ 0 < D3.length ∧ D3.length ≤ 500 := by
    rw [← hD3]
    unfold finT
    split
    · exact ⟨fun x hx => HC2.1.1 x (List.mem_of_mem_take hx), by rw [List.length_take]; have := HC2.1.2.1; omega, by rw [List.length_take]; have := HC2.2; omega⟩
    · exact ⟨HC2.1.1, HC2.1.2.1, HC2.2⟩
  have hx4 : -200000 ≤ x3 ∧ x3 ≤ 400001 := by rw [← hx3]; unfold finTE; split <;> omega
  rw [hD3, hx3] at HFt HFin
  have HLf : Hid (∀ X, Calls Tryz.prog 167 #[.iface 208 (.agg #[]), scV (tx ds) e] X fun x w' => x = .returned (.int .i64 (finF true (ds.length + e) (-398) 16)) ∧ Below X.heap.size X w') := fun X => lossFlags_64 ds e X (by omega) (by omega)
  have HPr : Hid (∀ X, Calls Tryz.prog 168 #[.iface 208 (.agg #[]), scV (tx D3) x3, .int .i64 want] X fun x w' => x = .returned (scV (tx (fin3D false D3 x3 want (-398) 369 16)) (fin3E false D3 x3 want (-398) 369 16)) ∧ Below X.heap.size X w') := fun X => preferred_64 D3 x3 want X HT.1 HT.2.1 HT.2.2 (by omega) hwt
  obtain ⟨D5, hD5⟩ : ∃ D, fin3D lost D3 x3 want (-398) 369 16 = D := ⟨_, rfl⟩
  obtain ⟨x5, hx5⟩ : ∃ x, fin3E lost D3 x3 want (-398) 369 16 = x := ⟨_, rfl⟩
  obtain ⟨fl, hfl⟩ : ∃ x, finF lost (ds.length + e) (-398) 16 = x := ⟨_, rfl⟩
  have hb5 := fin3_bd lost D3 x3 want (-398) 369 16 HT.2.1 HT.2.2 (by decide)
  rw [hD5, hx5] at hb5
  rw [hD5, hx5, hfl] at HFin
  have HLw : Hid (∀ X, Calls Tryz.prog 169 #[scV (tx D5) x5, .iface 208 (.agg #[]), .int .i64 369] X fun x w' => x = .returned (scV (tx (fin4D D5 x5 369 16)) (fin4E D5 x5 369 16)) ∧ Below X.heap.size X w') := fun X => lowered_64 D5 x5 369 X (by omega) (by omega) (by omega)
  have HS1 : Hid ((lost = true → D5 = D3 ∧ x5 = x3 ∧ fl = finF true (ds.length + e) (-398) 16) ∧ (lost = false → D5 = fin3D false D3 x3 want (-398) 369 16 ∧ x5 = fin3E false D3 x3 want (-398) 369 16 ∧ fl = 0)) := by
    refine ⟨fun h => ?_, fun h => ?_⟩
    · subst h; exact ⟨hD5.symm, hx5.symm, hfl.symm⟩
    · subst h; exact ⟨hD5.symm, hx5.symm, hfl.symm⟩
  have HB5 : Hid (x5 ≤ 500000 ∧ -300000 ≤ x5) := ⟨by omega, by omega⟩
  obtain ⟨FD, hFD⟩ : ∃ F, finD 64 mode neg ds e false want = F := ⟨_, rfl⟩
  rw [hFD]
  rw [hFD] at HFin
  have hz0 : ((tx ds).toList == [48]) = false := tx_is0 ds hc.1 hz
  have HNok : Hid (∀ X, Calls Tryz.prog 162 #[.string (tx ds)] X fun x w' => x = .returned (.bool true) ∧ w' = X) := fun X => by
    have := iNatOk_any (tx ds) X (by rw [tx_size]; omega)
    rwa [natB_tx 200 ds hc (by omega)] at this
  have HE1 : Hid (∀ X, Calls Tryz.prog 165 #[.int .i64 e] X fun x w' => x = .returned (.bool true) ∧ w' = X) := fun X => isExp_yes e X he
  have HE2 : Hid (∀ X, Calls Tryz.prog 165 #[.int .i64 want] X fun x w' => x = .returned (.bool true) ∧ w' = X) := fun X => isExp_yes want X hwt
  have HZ : Hid (At5 (w.alloc (.cells #[.int .i64 0, .bool false, .int .i64 0, .string { data := #[] }, .int .i64 0] 90)) w.heap.size (.int .i64 0) (.bool false) (.int .i64 0) (.string { data := #[] }) (.int .i64 0) ∧ Below w.heap.size w (w.alloc (.cells #[.int .i64 0, .bool false, .int .i64 0, .string { data := #[] }, .int .i64 0] 90))) := ⟨at5_new w _ _ _ _ _, (Below.refl _ _).alloc (Nat.le_refl _) _⟩
  clear hdr hD2 hlo hdr2 HC2 hD3 hx3 HT hx4 hD5 hx5 hfl hb5 hFD hc hz hl he hwt hm HG hent
  go_enter Tryz.func88, Tryz.ntmps88
  go_wp2_with fail
  refine (fmtOf_64 _).mono ?_
  rintro x wa ⟨rfl, rfl⟩
  go_wp2_with fail
  refine (HR.out _).mono ?_
  rintro x w1 ⟨rfl, hb1⟩
  have HZ1 : Hid (At5 w1 w.heap.size (.int .i64 0) (.bool false) (.int .i64 0) (.string { data := #[] }) (.int .i64 0) ∧ Below w.heap.size w w1) := ⟨HZ.out.1.below hb1 HZ.out.1.lt, HZ.out.2.trans (hb1.mono HZ.out.2.size)⟩
  clear hb1 HZ HR
  have hnew := new_at w1 (.cells #[.nilFunc] 177)
  have h1c : (#[fnV Fn] : Array Value).all (·.oneCell') = true := by simp [Value.oneCell']
  go_wp2_with (refine wpList_store_row rfl 177 (.tmp 17) (.tmp 32) rfl w1.heap.size #[fnV Fn] rfl rfl _ _ hnew (by kernel_rfl) rfl h1c ?_)
  obtain ⟨w2, hw2⟩ : ∃ W, (w1.alloc (.cells #[.nilFunc] 177)).setRow w1.heap.size #[fnV Fn] = W := ⟨_, rfl⟩
  obtain ⟨hlt, hin⟩ := inF_first (Fn := Fn) (s := tx ds) (e := e) HZ1.out.1 HZ1.out.2 w2 hw2.symm
  have HI2 : Hid (InF w Fn w1.heap.size w2.heap.size (tx ds) e (w2.alloc (.cells #[.string (tx ds), .int .i64 e] 192))) := hin
  have hfn2 := hin.fn
  obtain ⟨c0, c1⟩ := hin.2.2.1.cells
  rw [hw2]
  clear hnew h1c hw2 HZ1 hlt hin
  generalize w1.heap.size = b1 at *
  refine (HNok.out _).mono ?_
  rintro x wx ⟨rfl, rfl⟩
  go_wp2_with fail
  refine (HE1.out _).mono ?_
  rintro x wy ⟨rfl, rfl⟩
  go_wp2_with fail
  refine (HE2.out _).mono ?_
  rintro x wz ⟨rfl, rfl⟩
  clear HNok HE1 HE2
  have hbs := build_sc (tx ds) e
  go_wp2_with fail
  refine (HFt.out _).mono ?_
  rintro x w3 ⟨rfl, hb3⟩
  have HI3 : Hid (InF w Fn b1 wz.heap.size (tx ds) e w3 ∧ InF w Fn b1 w3.heap.size (tx D3) x3 (w3.alloc (.cells #[.string (tx D3), .int .i64 x3] 192))) := ⟨HI2.out.next hb3, (HI2.out.next hb3).alloc⟩
  clear hb3 HI2 HFt hfn2 c0 c1 hbs
  generalize wz.heap.size = b2 at *
  go_upto_if 88 with fail
  generalize hb3 : w3.heap.size = b3 at *
  go_cut [21] (fun g wx => g = .int .i64 fl ∧ Hid (InF w Fn b1 b3 (tx D5) x5 wx))
  case first =>
    cases lost with
    | true =>
      obtain ⟨h1, h2, h3⟩ := HS1.out.1 rfl
      rw [← h3] at HLf
      have HE : Hid (D5 = D3 ∧ x5 = x3) := ⟨h1, h2⟩
      have hq : ∀ o, (w3.alloc o).cell? ⟨b2, 0, none⟩ = some (.string (tx ds)) ∧ (w3.alloc o).cell? ⟨b2, 1, none⟩ = some (.int .i64 e) := fun o => (HI3.out.1.next ((Below.refl _ _).alloc (Nat.le_refl _) o)).2.2.1.cells
      obtain ⟨c0, c1⟩ := hq (.cells #[.string (tx D3), .int .i64 x3] 192)
      clear h1 h2 h3 hq hb3
      go_wp2_with fail
      refine (HLf.out _).mono ?_
      rintro x w4 ⟨rfl, hb4⟩
      have HI4 : Hid (InF w Fn b1 b3 (tx D3) x3 w4) := HI3.out.2.next hb4
      clear hb4 HI3 c0 c1
      go_wp2
      go_meet
      case rel => exact ⟨rfl, by rw [HE.out.1, HE.out.2]; exact HI4⟩
    | false =>
      obtain ⟨h1, h2, h3⟩ := HS1.out.2 rfl
      rw [← h1, ← h2] at HPr
      have HE : Hid (fl = 0) := h3
      obtain ⟨c0, c1⟩ := HI3.out.2.2.2.1.cells
      clear h1 h2 h3 hb3
      go_wp2_with fail
      refine (HPr.out _).mono ?_
      rintro x w4 ⟨rfl, hb4⟩
      have HI4 : Hid (InF w Fn b1 b3 (tx D3) x3 w4) := HI3.out.2.next hb4
      have HZ4 : Hid (At2r w4 b3 192 (.string (tx D3)) (.int .i64 x3)) := HI4.out.2.2.1
      clear hb4 HI3 c0 c1
      go_wp2_with (refine wpList_store_row rfl 192 (.tmp 22) (.tmp 95) rfl b3 #[.string (tx D5), .int .i64 x5] rfl rfl _ _ HZ4.out (by kernel_rfl) rfl (one2 _ _) ?_)
      go_meet
      case rel => exact ⟨by rw [HE.out], HI4.out.put _ _⟩
  case rest =>
    obtain ⟨rfl, HI5⟩ := hcut
    clear HI3 HS1 HLf HPr
    have HX0 : Hid (Below wc.heap.size wc wc.drew) := (Below.refl _ _).drew
    go_upto_region 13 with fail
    refine wp_region_tail (C := fun W => Below wc.heap.size wc W) 4 (by kernel_rfl) (by kernel_rfl) HX0.out ?_
    simp only [List.take_succ_cons, List.take_zero, List.drop_succ_cons, List.drop_zero]
    repeat (refine wpQuiet_step (fun K hK => ?_); go_simp; first | (refine hK _ ?_; clear hK K) | (apply Exists.intro; refine ⟨fun wx hC => ?_, hK _ ?_⟩; (first | exact rfl | (simp only [md_greatestExp_64]; go_simp; exact Calls.class_of (greatestExp_64 wx) (fun w' hb => bel1 hC hb)) | (obtain ⟨q0, q1⟩ := (HI5.out.next hC).2.2.1.cells; go_simp; exact rfl)); clear hK K))
    refine wpQuiet_nil ?_
    intro w6 hb6
    have HI6 : Hid (InF w Fn b1 b3 (tx D5) x5 w6) := HI5.out.next hb6
    clear hb6 HI5 HX0
    have HF5 : Hid (fin5 16 369 mode neg D5 x5 fl = FD) := HFin.out.symm
    have hb6 : -300000 ≤ fin4E D5 x5 369 16 ∧ fin4E D5 x5 369 16 ≤ 500000 := by have := HB5.out; unfold fin4E fC; omega
    unfold fin5 at HF5
    generalize fin4D D5 x5 369 16 = D6 at *
    generalize fin4E D5 x5 369 16 = x6 at *
    clear HFin HB5
    go_wp2_with fail
    refine (HLw.out _).mono ?_
    rintro x w7 ⟨rfl, hb7⟩
    have HI7 : Hid (InF w Fn b1 b3 (tx D5) x5 w7) := HI6.out.next hb7
    have HZ7 : Hid (At2r w7 b3 192 (.string (tx D5)) (.int .i64 x5)) := HI7.out.2.2.1
    clear hb7 HI6 HLw
    go_wp2_with (refine wpList_store_row rfl 192 (.tmp 22) (.tmp 100) rfl b3 #[.string (tx D6), .int .i64 x6] rfl rfl _ _ HZ7.out (by kernel_rfl) rfl (one2 _ _) ?_)
    have HI8 : Hid (InF w Fn b1 b3 (tx D6) x6 (w7.setRow b3 #[.string (tx D6), .int .i64 x6])) := HI7.out.put _ _
    generalize w7.setRow b3 #[.string (tx D6), .int .i64 x6] = w8 at *
    clear HI7 HZ7
    have HX8 : Hid (Below w8.heap.size w8 w8.drew) := (Below.refl _ _).drew
    by_cases hfin : x6 ≤ 369
    · have hgt : ¬ (369 < x6) := by omega
      rw [if_pos hfin] at HF5
      clear hfin HOv
      go_upto_region 14 with fail
      refine wp_region_class (C := fun W => Below w8.heap.size w8 W) (by kernel_rfl) (by kernel_rfl) HX8.out ?_
      repeat (refine wpQuiet_step (fun K hK => ?_); go_simp; first | (refine hK _ ?_; clear hK K) | (apply Exists.intro; refine ⟨fun wx hC => ?_, hK _ ?_⟩; (first | exact rfl | (simp only [md_greatestExp_64]; go_simp; exact Calls.class_of (greatestExp_64 wx) (fun w' hb => bel1 hC hb)) | (obtain ⟨q0, q1⟩ := (HI8.out.next hC).2.2.1.cells; go_simp; exact rfl)); clear hK K))
      refine wpQuiet_nil ?_
      intro w9 hb9
      have HI9 : Hid (InF w Fn b1 b3 (tx D6) x6 w9) := HI8.out.next hb9
      have HZ9 : Hid (At5 w9 w.heap.size (.int .i64 0) (.bool false) (.int .i64 0) (.string { data := #[] }) (.int .i64 0)) := HI9.out.1
      obtain ⟨q0, q1⟩ := HI9.out.2.2.1.cells
      clear hb9 HI8 HX8
      have hbn := build_num 1 neg x6 (tx D6)
      have hbr := build_res 1 neg x6 (tx D6) fl
      go_wp2_with (refine wpList_store_row rfl 90 (.tmp 14) (.tmp 118) rfl w.heap.size #[.int .i64 1, .bool neg, .int .i64 x6, .string (tx D6), .int .i64 fl] rfl rfl _ _ HZ9.out (by kernel_rfl) rfl (one5 _ _ _ _ _) ?_)
      have hP := (HZ9.out.row (.int .i64 1) (.bool neg) (.int .i64 x6) (.string (tx D6)) (.int .i64 fl)).cells
      refine bodyPost_ret (results_res rfl _ _ rfl hP.1 hP.2.1 hP.2.2.1 hP.2.2.2.1 hP.2.2.2.2.1) rfl ?_
      exact ⟨by rw [← HF5.out], bel_row HI9.out.2.2.2.1 (Nat.le_refl _) _⟩
    · have hgt : 369 < x6 := by omega
      rw [if_neg hfin] at HF5
      clear hfin
      go_upto_region 14 with fail
      refine wp_region_class (C := fun W => Below w8.heap.size w8 W) (by kernel_rfl) (by kernel_rfl) HX8.out ?_
      repeat (refine wpQuiet_step (fun K hK => ?_); go_simp; first | (refine hK _ ?_; clear hK K) | (apply Exists.intro; refine ⟨fun wx hC => ?_, hK _ ?_⟩; (first | exact rfl | (simp only [md_greatestExp_64]; go_simp; exact Calls.class_of (greatestExp_64 wx) (fun w' hb => bel1 hC hb)) | (obtain ⟨q0, q1⟩ := (HI8.out.next hC).2.2.1.cells; go_simp; exact rfl)); clear hK K))
      refine wpQuiet_nil ?_
      intro w9 hb9
      have HI9 : Hid (InF w Fn b1 b3 (tx D6) x6 w9) := HI8.out.next hb9
      have hfn9 := HI9.out.fn
      clear hb9 HI8 HX8
      go_wp2_with fail
      refine (HOv.out _).mono ?_
      rintro x wv ⟨rfl, hbv⟩
      have HZv : Hid (At5 wv w.heap.size (.int .i64 0) (.bool false) (.int .i64 0) (.string { data := #[] }) (.int .i64 0) ∧ Below w.heap.size w wv) := ⟨(HI9.out.next hbv).1, (HI9.out.next hbv).2.2.2.1⟩
      clear hbv HI9 hfn9 HOv
      generalize finG mode neg = G at *
      generalize tx (List.replicate 16 9) = NN at *
      cases G with
      | true =>
        have hbr := build_res 1 neg 369 NN 20
        simp only [if_true]
        go_wp2_with (refine wpList_store_row rfl 90 (.tmp 14) (.tmp 110) rfl w.heap.size #[.int .i64 1, .bool neg, .int .i64 369, .string NN, .int .i64 20] rfl rfl _ _ HZv.out.1 (by kernel_rfl) rfl (one5 _ _ _ _ _) ?_)
        have hP := (HZv.out.1.row (.int .i64 1) (.bool neg) (.int .i64 369) (.string NN) (.int .i64 20)).cells
        refine bodyPost_ret (results_res rfl _ _ rfl hP.1 hP.2.1 hP.2.2.1 hP.2.2.2.1 hP.2.2.2.2.1) rfl ?_
        exact ⟨by rw [← HF5.out]; rfl, bel_row HZv.out.2 (Nat.le_refl _) _⟩
      | false =>
        have hbr := build_res 2 neg 0 { data := #[] } 20
        simp only [Bool.false_eq_true, if_false]
        go_wp2_with (refine wpList_store_row rfl 90 (.tmp 14) (.tmp 110) rfl w.heap.size #[.int .i64 2, .bool neg, .int .i64 0, .string { data := #[] }, .int .i64 20] rfl rfl _ _ HZv.out.1 (by kernel_rfl) rfl (one5 _ _ _ _ _) ?_)
        have hP := (HZv.out.1.row (.int .i64 2) (.bool neg) (.int .i64 0) (.string { data := #[] }) (.int .i64 20)).cells
        refine bodyPost_ret (results_res rfl _ _ rfl hP.1 hP.2.1 hP.2.2.1 hP.2.2.2.1 hP.2.2.2.2.1) rfl ?_
        exact ⟨by rw [← HF5.out]; rfl, bel_row HZv.out.2 (Nat.le_refl _) _⟩
set_option maxRecDepth 100000 in
set_option maxHeartbeats 4000000 in
theorem iFinish_128 (mode : Int) (hm : 1 ≤ mode ∧ mode ≤ 5) (neg : Bool) (ds : List Int) (e want : Int) (w : World) (hc : Canon ds) (hz : ds ≠ [0]) (hl : ds.length ≤ 200) (he : -200000 ≤ e ∧ e ≤ 200000) (hwt : -200000 ≤ want ∧ want ≤ 200000) :
    Calls Tryz.prog 88 #[.int .i64 128, .int .i64 mode, .bool neg, .string (tx ds), .int .i64 e, .bool false, .int .i64 want] w fun x w' => x = .returned (rsD neg (finD 128 mode neg ds e false want)) ∧ Below w.heap.size w w' := by
  obtain ⟨Fn, hent, HG0, HR0⟩ := rounding_yes mode hm
  have HG : Hid (∀ neg od p, (p = 0 ∨ p = 1 ∨ p = 2 ∨ p = 3) → ∀ X, Calls Tryz.prog Fn #[cutV neg od p] X fun e w' => e = .returned (.bool (grw mode neg od p)) ∧ Below X.heap.size X w') := HG0
  have HR : Hid (∀ X, Calls Tryz.prog 149 #[.int .i64 mode] X fun e w' => e = .returned (.tuple #[.agg #[fnV Fn], .bool true]) ∧ Below X.heap.size X w') := HR0
  clear HG0 HR0
  obtain ⟨dr, hdr⟩ : ∃ d, finDr 34 ds.length (-6176) e = d := ⟨_, rfl⟩
  obtain ⟨D2, hD2⟩ : ∃ D, nt (finV mode neg (vl ds) dr false) = D := ⟨_, rfl⟩
  obtain ⟨lost, hlo⟩ : ∃ l, finLs (vl ds) dr false = l := ⟨_, rfl⟩
  have HFt : Hid (∀ X, Calls Tryz.prog 166 #[.agg #[fnV Fn], .iface 211 (.agg #[]), .bool neg, scV (tx ds) e, .bool false] X fun x w' => x = .returned (.tuple #[scV (tx (finT 34 D2)) (finTE 34 D2 (e + dr)), .bool lost]) ∧ Below X.heap.size X w') := fun X => fitted_128 Fn mode hent HG neg ds e X hc hl he dr hdr D2 hD2 lost hlo
  have HOv : Hid (∀ X, Calls Tryz.prog 170 #[.agg #[fnV Fn], .iface 211 (.agg #[]), .bool neg] X fun x w' => x = .returned (if finG mode neg then numV 1 neg 6111 (tx (List.replicate 34 9)) else numV 2 neg 0 { data := #[] }) ∧ Below X.heap.size X w') := fun X => overflow_128 Fn mode hm hent HG neg X
  have hdr2 : (dr : Int) ≤ 200000 := by rw [← hdr]; unfold finDr; omega
  have HC2 : Canon D2 ∧ D2.length ≤ 500 := by
    rw [← hD2]
    refine ⟨?_, nt_500 _⟩
    have hv := vl_bd ds hc.1
    have hb : vl ds < 10 ^ 300 := Int.lt_of_lt_of_le hv.2 (pow_mono _ _ (by omega))
    unfold finV
    split
    · have h1 : (1 : Int) < 10 ^ 300 := Int.lt_of_lt_of_le (by decide : (1 : Int) < 10 ^ 1) (pow_mono 1 300 (by decide))
      exact (nt_spec _ (rndV_bd mode neg 1 200 true (by decide) h1).1 (rndV_bd mode neg 1 200 true (by decide) h1).2).1
    · exact (nt_spec _ (rndV_bd mode neg (vl ds) dr false hv.1 hb).1 (rndV_bd mode neg (vl ds) dr false hv.1 hb).2).1
  have HFin : Hid (finD 128 mode neg ds e false want = fin5 34 6111 mode neg (fin3D lost (finT 34 D2) (finTE 34 D2 (e + dr)) want (-6176) 6111 34) (fin3E lost (finT 34 D2) (finTE 34 D2 (e + dr)) want (-6176) 6111 34) (finF lost (ds.length + e) (-6176) 34)) := by
    show _ = _
    unfold finD
    rw [if_neg hz]
    exact finN_plain 34 (-6176) 6111 mode neg ds e want dr hdr D2 hD2 lost hlo
  obtain ⟨D3, hD3⟩ : ∃ D, finT 34 D2 = D := ⟨_, rfl⟩
  obtain ⟨x3, hx3⟩ : ∃ x, finTE 34 D2 (e + dr) = x := ⟨_, rfl⟩
  have HT : Dec D3 ∧ 0 < D3.length ∧ D3.length ≤ 500 := by
    rw [← hD3]
    unfold finT
    split
    · exact ⟨fun x hx => HC2.1.1 x (List.mem_of_mem_take hx), by rw [List.length_take]; have := HC2.1.2.1; omega, by rw [List.length_take]; have := HC2.2; omega⟩
    · exact ⟨HC2.1.1, HC2.1.2.1, HC2.2⟩
  have hx4 : -200000 ≤ x3 ∧ x3 ≤ 400001 := by rw [← hx3]; unfold finTE; split <;> omega
  rw [hD3, hx3] at HFt HFin
  have HLf : Hid (∀ X, Calls Tryz.prog 167 #[.iface 211 (.agg #[]), scV (tx ds) e] X fun x w' => x = .returned (.int .i64 (finF true (ds.length + e) (-6176) 34)) ∧ Below X.heap.size X w') := fun X => lossFlags_128 ds e X (by omega) (by omega)
  have HPr : Hid (∀ X, Calls Tryz.prog 168 #[.iface 211 (.agg #[]), scV (tx D3) x3, .int .i64 want] X fun x w' => x = .returned (scV (tx (fin3D false D3 x3 want (-6176) 6111 34)) (fin3E false D3 x3 want (-6176) 6111 34)) ∧ Below X.heap.size X w') := fun X => preferred_128 D3 x3 want X HT.1 HT.2.1 HT.2.2 (by omega) hwt
  obtain ⟨D5, hD5⟩ : ∃ D, fin3D lost D3 x3 want (-6176) 6111 34 = D := ⟨_, rfl⟩
  obtain ⟨x5, hx5⟩ : ∃ x, fin3E lost D3 x3 want (-6176) 6111 34 = x := ⟨_, rfl⟩
  obtain ⟨fl, hfl⟩ : ∃ x, finF lost (ds.length + e) (-6176) 34 = x := ⟨_, rfl⟩
  have hb5 := fin3_bd lost D3 x3 want (-6176) 6111 34 HT.2.1 HT.2.2 (by decide)
  rw [hD5, hx5] at hb5
  rw [hD5, hx5, hfl] at HFin
  have HLw : Hid (∀ X, Calls Tryz.prog 169 #[scV (tx D5) x5, .iface 211 (.agg #[]), .int .i64 6111] X fun x w' => x = .returned (scV (tx (fin4D D5 x5 6111 34)) (fin4E D5 x5 6111 34)) ∧ Below X.heap.size X w') := fun X => lowered_128 D5 x5 6111 X (by omega) (by omega) (by omega)
  have HS1 : Hid ((lost = true → D5 = D3 ∧ x5 = x3 ∧ fl = finF true (ds.length + e) (-6176) 34) ∧ (lost = false → D5 = fin3D false D3 x3 want (-6176) 6111 34 ∧ x5 = fin3E false D3 x3 want (-6176) 6111 34 ∧ fl = 0)) := by
    refine ⟨fun h => ?_, fun h => ?_⟩
    · subst h; exact ⟨hD5.symm, hx5.symm, hfl.symm⟩
    · subst h; exact ⟨hD5.symm, hx5.symm, hfl.symm⟩
  have HB5 : Hid (x5 ≤ 500000 ∧ -300000 ≤ x5) := ⟨by omega, by omega⟩
  obtain ⟨FD, hFD⟩ : ∃ F, finD 128 mode neg ds e false want = F := ⟨_, rfl⟩
  rw [hFD]
  rw [hFD] at HFin
  have hz0 : ((tx ds).toList == [48]) = false := tx_is0 ds hc.1 hz
  have HNok : Hid (∀ X, Calls Tryz.prog 162 #[.string (tx ds)] X fun x w' => x = .returned (.bool true) ∧ w' = X) := fun X => by
    have := iNatOk_any (tx ds) X (by rw [tx_size]; omega)
    rwa [natB_tx 200 ds hc (by omega)] at this
  have HE1 : Hid (∀ X, Calls Tryz.prog 165 #[.int .i64 e] X fun x w' => x = .returned (.bool true) ∧ w' = X) := fun X => isExp_yes e X he
  have HE2 : Hid (∀ X, Calls Tryz.prog 165 #[.int .i64 want] X fun x w' => x = .returned (.bool true) ∧ w' = X) := fun X => isExp_yes want X hwt
  have HZ : Hid (At5 (w.alloc (.cells #[.int .i64 0, .bool false, .int .i64 0, .string { data := #[] }, .int .i64 0] 90)) w.heap.size (.int .i64 0) (.bool false) (.int .i64 0) (.string { data := #[] }) (.int .i64 0) ∧ Below w.heap.size w (w.alloc (.cells #[.int .i64 0, .bool false, .int .i64 0, .string { data := #[] }, .int .i64 0] 90))) := ⟨at5_new w _ _ _ _ _, (Below.refl _ _).alloc (Nat.le_refl _) _⟩
  clear hdr hD2 hlo hdr2 HC2 hD3 hx3 HT hx4 hD5 hx5 hfl hb5 hFD hc hz hl he hwt hm HG hent
  go_enter Tryz.func88, Tryz.ntmps88
  go_wp2_with fail
  refine (fmtOf_128 _).mono ?_
  rintro x wa ⟨rfl, rfl⟩
  go_wp2_with fail
  refine (HR.out _).mono ?_
  rintro x w1 ⟨rfl, hb1⟩
  have HZ1 : Hid (At5 w1 w.heap.size (.int .i64 0) (.bool false) (.int .i64 0) (.string { data := #[] }) (.int .i64 0) ∧ Below w.heap.size w w1) := ⟨HZ.out.1.below hb1 HZ.out.1.lt, HZ.out.2.trans (hb1.mono HZ.out.2.size)⟩
  clear hb1 HZ HR
  have hnew := new_at w1 (.cells #[.nilFunc] 177)
  have h1c : (#[fnV Fn] : Array Value).all (·.oneCell') = true := by simp [Value.oneCell']
  go_wp2_with (refine wpList_store_row rfl 177 (.tmp 17) (.tmp 32) rfl w1.heap.size #[fnV Fn] rfl rfl _ _ hnew (by kernel_rfl) rfl h1c ?_)
  obtain ⟨w2, hw2⟩ : ∃ W, (w1.alloc (.cells #[.nilFunc] 177)).setRow w1.heap.size #[fnV Fn] = W := ⟨_, rfl⟩
  obtain ⟨hlt, hin⟩ := inF_first (Fn := Fn) (s := tx ds) (e := e) HZ1.out.1 HZ1.out.2 w2 hw2.symm
  have HI2 : Hid (InF w Fn w1.heap.size w2.heap.size (tx ds) e (w2.alloc (.cells #[.string (tx ds), .int .i64 e] 192))) := hin
  have hfn2 := hin.fn
  obtain ⟨c0, c1⟩ := hin.2.2.1.cells
  rw [hw2]
  clear hnew h1c hw2 HZ1 hlt hin
  generalize w1.heap.size = b1 at *
  refine (HNok.out _).mono ?_
  rintro x wx ⟨rfl, rfl⟩
  go_wp2_with fail
  refine (HE1.out _).mono ?_
  rintro x wy ⟨rfl, rfl⟩
  go_wp2_with fail
  refine (HE2.out _).mono ?_
  rintro x wz ⟨rfl, rfl⟩
  clear HNok HE1 HE2
  have hbs := build_sc (tx ds) e
  go_wp2_with fail
  refine (HFt.out _).mono ?_
  rintro x w3 ⟨rfl, hb3⟩
  have HI3 : Hid (InF w Fn b1 wz.heap.size (tx ds) e w3 ∧ InF w Fn b1 w3.heap.size (tx D3) x3 (w3.alloc (.cells #[.string (tx D3), .int .i64 x3] 192))) := ⟨HI2.out.next hb3, (HI2.out.next hb3).alloc⟩
  clear hb3 HI2 HFt hfn2 c0 c1 hbs
  generalize wz.heap.size = b2 at *
  go_upto_if 88 with fail
  generalize hb3 : w3.heap.size = b3 at *
  go_cut [21] (fun g wx => g = .int .i64 fl ∧ Hid (InF w Fn b1 b3 (tx D5) x5 wx))
  case first =>
    cases lost with
    | true =>
      obtain ⟨h1, h2, h3⟩ := HS1.out.1 rfl
      rw [← h3] at HLf
      have HE : Hid (D5 = D3 ∧ x5 = x3) := ⟨h1, h2⟩
      have hq : ∀ o, (w3.alloc o).cell? ⟨b2, 0, none⟩ = some (.string (tx ds)) ∧ (w3.alloc o).cell? ⟨b2, 1, none⟩ = some (.int .i64 e) := fun o => (HI3.out.1.next ((Below.refl _ _).alloc (Nat.le_refl _) o)).2.2.1.cells
      obtain ⟨c0, c1⟩ := hq (.cells #[.string (tx D3), .int .i64 x3] 192)
      clear h1 h2 h3 hq hb3
      go_wp2_with fail
      refine (HLf.out _).mono ?_
      rintro x w4 ⟨rfl, hb4⟩
      have HI4 : Hid (InF w Fn b1 b3 (tx D3) x3 w4) := HI3.out.2.next hb4
      clear hb4 HI3 c0 c1
      go_wp2
      go_meet
      case rel => exact ⟨rfl, by rw [HE.out.1, HE.out.2]; exact HI4⟩
    | false =>
      obtain ⟨h1, h2, h3⟩ := HS1.out.2 rfl
      rw [← h1, ← h2] at HPr
      have HE : Hid (fl = 0) := h3
      obtain ⟨c0, c1⟩ := HI3.out.2.2.2.1.cells
      clear h1 h2 h3 hb3
      go_wp2_with fail
      refine (HPr.out _).mono ?_
      rintro x w4 ⟨rfl, hb4⟩
      have HI4 : Hid (InF w Fn b1 b3 (tx D3) x3 w4) := HI3.out.2.next hb4
      have HZ4 : Hid (At2r w4 b3 192 (.string (tx D3)) (.int .i64 x3)) := HI4.out.2.2.1
      clear hb4 HI3 c0 c1
      go_wp2_with (refine wpList_store_row rfl 192 (.tmp 22) (.tmp 95) rfl b3 #[.string (tx D5), .int .i64 x5] rfl rfl _ _ HZ4.out (by kernel_rfl) rfl (one2 _ _) ?_)
      go_meet
      case rel => exact ⟨by rw [HE.out], HI4.out.put _ _⟩
  case rest =>
    obtain ⟨rfl, HI5⟩ := hcut
    clear HI3 HS1 HLf HPr
    have HX0 : Hid (Below wc.heap.size wc wc.drew) := (Below.refl _ _).drew
    go_upto_region 13 with fail
    refine wp_region_tail (C := fun W => Below wc.heap.size wc W) 4 (by kernel_rfl) (by kernel_rfl) HX0.out ?_
    simp only [List.take_succ_cons, List.take_zero, List.drop_succ_cons, List.drop_zero]
    repeat (refine wpQuiet_step (fun K hK => ?_); go_simp; first | (refine hK _ ?_; clear hK K) | (apply Exists.intro; refine ⟨fun wx hC => ?_, hK _ ?_⟩; (first | exact rfl | (simp only [md_greatestExp_128]; go_simp; exact Calls.class_of (greatestExp_128 wx) (fun w' hb => bel1 hC hb)) | (obtain ⟨q0, q1⟩ := (HI5.out.next hC).2.2.1.cells; go_simp; exact rfl)); clear hK K))
    refine wpQuiet_nil ?_
    intro w6 hb6
    have HI6 : Hid (InF w Fn b1 b3 (tx D5) x5 w6) := HI5.out.next hb6
    clear hb6 HI5 HX0
    have HF5 : Hid (fin5 34 6111 mode neg D5 x5 fl = FD) := HFin.out.symm
    have hb6 : -300000 ≤ fin4E D5 x5 6111 34 ∧ fin4E D5 x5 6111 34 ≤ 500000 := by have := HB5.out; unfold fin4E fC; omega
    unfold fin5 at HF5
    generalize fin4D D5 x5 6111 34 = D6 at *
    generalize fin4E D5 x5 6111 34 = x6 at *
    clear HFin HB5
    go_wp2_with fail
    refine (HLw.out _).mono ?_
    rintro x w7 ⟨rfl, hb7⟩
    have HI7 : Hid (InF w Fn b1 b3 (tx D5) x5 w7) := HI6.out.next hb7
    have HZ7 : Hid (At2r w7 b3 192 (.string (tx D5)) (.int .i64 x5)) := HI7.out.2.2.1
    clear hb7 HI6 HLw
    go_wp2_with (refine wpList_store_row rfl 192 (.tmp 22) (.tmp 100) rfl b3 #[.string (tx D6), .int .i64 x6] rfl rfl _ _ HZ7.out (by kernel_rfl) rfl (one2 _ _) ?_)
    have HI8 : Hid (InF w Fn b1 b3 (tx D6) x6 (w7.setRow b3 #[.string (tx D6), .int .i64 x6])) := HI7.out.put _ _
    generalize w7.setRow b3 #[.string (tx D6), .int .i64 x6] = w8 at *
    clear HI7 HZ7
    have HX8 : Hid (Below w8.heap.size w8 w8.drew) := (Below.refl _ _).drew
    by_cases hfin : x6 ≤ 6111
    · have hgt : ¬ (6111 < x6) := by omega
      rw [if_pos hfin] at HF5
      clear hfin HOv
      go_upto_region 14 with fail
      refine wp_region_class (C := fun W => Below w8.heap.size w8 W) (by kernel_rfl) (by kernel_rfl) HX8.out ?_
      repeat (refine wpQuiet_step (fun K hK => ?_); go_simp; first | (refine hK _ ?_; clear hK K) | (apply Exists.intro; refine ⟨fun wx hC => ?_, hK _ ?_⟩; (first | exact rfl | (simp only [md_greatestExp_128]; go_simp; exact Calls.class_of (greatestExp_128 wx) (fun w' hb => bel1 hC hb)) | (obtain ⟨q0, q1⟩ := (HI8.out.next hC).2.2.1.cells; go_simp; exact rfl)); clear hK K))
      refine wpQuiet_nil ?_
      intro w9 hb9
      have HI9 : Hid (InF w Fn b1 b3 (tx D6) x6 w9) := HI8.out.next hb9
      have HZ9 : Hid (At5 w9 w.heap.size (.int .i64 0) (.bool false) (.int .i64 0) (.string { data := #[] }) (.int .i64 0)) := HI9.out.1
      obtain ⟨q0, q1⟩ := HI9.out.2.2.1.cells
      clear hb9 HI8 HX8
      have hbn := build_num 1 neg x6 (tx D6)
      have hbr := build_res 1 neg x6 (tx D6) fl
      go_wp2_with (refine wpList_store_row rfl 90 (.tmp 14) (.tmp 118) rfl w.heap.size #[.int .i64 1, .bool neg, .int .i64 x6, .string (tx D6), .int .i64 fl] rfl rfl _ _ HZ9.out (by kernel_rfl) rfl (one5 _ _ _ _ _) ?_)
      have hP := (HZ9.out.row (.int .i64 1) (.bool neg) (.int .i64 x6) (.string (tx D6)) (.int .i64 fl)).cells
      refine bodyPost_ret (results_res rfl _ _ rfl hP.1 hP.2.1 hP.2.2.1 hP.2.2.2.1 hP.2.2.2.2.1) rfl ?_
      exact ⟨by rw [← HF5.out], bel_row HI9.out.2.2.2.1 (Nat.le_refl _) _⟩
    · have hgt : 6111 < x6 := by omega
      rw [if_neg hfin] at HF5
      clear hfin
      go_upto_region 14 with fail
      refine wp_region_class (C := fun W => Below w8.heap.size w8 W) (by kernel_rfl) (by kernel_rfl) HX8.out ?_
      repeat (refine wpQuiet_step (fun K hK => ?_); go_simp; first | (refine hK _ ?_; clear hK K) | (apply Exists.intro; refine ⟨fun wx hC => ?_, hK _ ?_⟩; (first | exact rfl | (simp only [md_greatestExp_128]; go_simp; exact Calls.class_of (greatestExp_128 wx) (fun w' hb => bel1 hC hb)) | (obtain ⟨q0, q1⟩ := (HI8.out.next hC).2.2.1.cells; go_simp; exact rfl)); clear hK K))
      refine wpQuiet_nil ?_
      intro w9 hb9
      have HI9 : Hid (InF w Fn b1 b3 (tx D6) x6 w9) := HI8.out.next hb9
      have hfn9 := HI9.out.fn
      clear hb9 HI8 HX8
      go_wp2_with fail
      refine (HOv.out _).mono ?_
      rintro x wv ⟨rfl, hbv⟩
      have HZv : Hid (At5 wv w.heap.size (.int .i64 0) (.bool false) (.int .i64 0) (.string { data := #[] }) (.int .i64 0) ∧ Below w.heap.size w wv) := ⟨(HI9.out.next hbv).1, (HI9.out.next hbv).2.2.2.1⟩
      clear hbv HI9 hfn9 HOv
      generalize finG mode neg = G at *
      generalize tx (List.replicate 34 9) = NN at *
      cases G with
      | true =>
        have hbr := build_res 1 neg 6111 NN 20
        simp only [if_true]
        go_wp2_with (refine wpList_store_row rfl 90 (.tmp 14) (.tmp 110) rfl w.heap.size #[.int .i64 1, .bool neg, .int .i64 6111, .string NN, .int .i64 20] rfl rfl _ _ HZv.out.1 (by kernel_rfl) rfl (one5 _ _ _ _ _) ?_)
        have hP := (HZv.out.1.row (.int .i64 1) (.bool neg) (.int .i64 6111) (.string NN) (.int .i64 20)).cells
        refine bodyPost_ret (results_res rfl _ _ rfl hP.1 hP.2.1 hP.2.2.1 hP.2.2.2.1 hP.2.2.2.2.1) rfl ?_
        exact ⟨by rw [← HF5.out]; rfl, bel_row HZv.out.2 (Nat.le_refl _) _⟩
      | false =>
        have hbr := build_res 2 neg 0 { data := #[] } 20
        simp only [Bool.false_eq_true, if_false]
        go_wp2_with (refine wpList_store_row rfl 90 (.tmp 14) (.tmp 110) rfl w.heap.size #[.int .i64 2, .bool neg, .int .i64 0, .string { data := #[] }, .int .i64 20] rfl rfl _ _ HZv.out.1 (by kernel_rfl) rfl (one5 _ _ _ _ _) ?_)
        have hP := (HZv.out.1.row (.int .i64 2) (.bool neg) (.int .i64 0) (.string { data := #[] }) (.int .i64 20)).cells
        refine bodyPost_ret (results_res rfl _ _ rfl hP.1 hP.2.1 hP.2.2.1 hP.2.2.2.1 hP.2.2.2.2.1) rfl ?_
        exact ⟨by rw [← HF5.out]; rfl, bel_row HZv.out.2 (Nat.le_refl _) _⟩
end Go.Proofs.YteofommckgeemaaGreatDoor
