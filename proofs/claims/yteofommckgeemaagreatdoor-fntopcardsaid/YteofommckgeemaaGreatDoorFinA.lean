/-
  The model's finishing of digits, nought or not, told by one word.
-/
import Derived.Laws.EntriesVeiled
import Derived.Test.YteofommckgeemaaGreatDoorFinP
import Derived.Test.YteofommckgeemaaGreatDoorRows
import Derived.WalkKit
import Derived.Test.YteofommckgeemaaGreatDoorFmt
import Derived.Test.YteofommckgeemaaGreatDoorSl
import Derived.Test.YteofommckgeemaaGreatDoorFnb
import Derived.Test.YteofommckgeemaaGreatDoorNatS
namespace Go.Proofs.YteofommckgeemaaGreatDoor
open Go.RowKit
set_option linter.unusedVariables false
set_option maxRecDepth 100000
theorem run_mx3 (P : Program) (ts : Array TypeId) (t : TypeId) (x y z n : Int) (h : max (max x y) z = n) (w : World) : (Builtin.max_ ts t #[.int .i64 x, .int .i64 y, .int .i64 z]).run P w = .ok (.int .i64 n) w := by
  have e : (if z > (if y > x then y else x) then z else (if y > x then y else x)) = n := by
    rw [← h]
    repeat' split
    all_goals omega
  simp [Builtin.max_, Builtin.max2, e]
theorem results_sct {fn : Func} {p t : Tmp} {b : Nat} {x y : Value} (h : fn.results = #[.cell p 192, .tmp t]) (tmps : Array Value) (w : World) (hp : tmps[p]?.getD undef = .pointer (some ⟨b, 0, none⟩))
    (q0 : w.cell? ⟨b, 0, none⟩ = some x) (q1 : w.cell? ⟨b, 1, none⟩ = some y) : (results fn tmps).run Tryz.prog w = .ok (.tuple #[.agg #[x, y], tmps.getD t undef]) w := by
  simp [results, h, hp, go_sem, q0, q1]
/-- The world with a mode's box, a number's and a result's. -/
abbrev bx3 (w : World) (Fn : Nat) (s : ByteArray) (e : Int) : World := ((w.alloc (.cells #[fnV Fn] 177)).alloc (.cells #[.string s, .int .i64 e] 192)).alloc (.cells #[.string { data := #[] }, .int .i64 0] 192)
/-- What lies in it. -/
def In3 (w : World) (Fn : Nat) (s : ByteArray) (e : Int) (W : World) : Prop := W.heap[w.heap.size]? = some (.cells #[fnV Fn] 177 (0, 0)) ∧ At2r W (w.heap.size + 1) 192 (.string s) (.int .i64 e) ∧ At2r W (w.heap.size + 2) 192 (.string { data := #[] }) (.int .i64 0) ∧ Below w.heap.size w W ∧ w.heap.size + 3 ≤ W.heap.size
theorem in3_new (w : World) (Fn : Nat) (s : ByteArray) (e : Int) : In3 w Fn s e (bx3 w Fn s e) := by
  obtain ⟨a, b, c⟩ := bx2_at (w.alloc (.cells #[fnV Fn] 177)) s e
  have z := new_size w (.cells #[fnV Fn] 177)
  have h0 := new_at w (.cells #[fnV Fn] 177)
  have zz := bx2_size (w.alloc (.cells #[fnV Fn] 177)) s e
  rw [z] at a b zz
  refine ⟨(c.block w.heap.size (by rw [z]; omega)).trans h0, a, b, ((Below.refl _ _).alloc (Nat.le_refl _) _).trans (c.mono (by rw [z]; omega)), ?_⟩
  show w.heap.size + 3 ≤ (bx2 _ s e).heap.size
  omega
theorem In3.next {w W W' : World} {Fn : Nat} {s : ByteArray} {e : Int} (h : In3 w Fn s e W) (hb : Below W.heap.size W W') : In3 w Fn s e W' :=
  ⟨(hb.block _ (by have := h.2.2.2.2; omega)).trans h.1, h.2.1.below hb h.2.1.lt, h.2.2.1.below hb h.2.2.1.lt, h.2.2.2.1.trans (hb.mono h.2.2.2.1.size), Nat.le_trans h.2.2.2.2 hb.size⟩
theorem In3.drew {w W : World} {Fn : Nat} {s : ByteArray} {e : Int} (h : In3 w Fn s e W) : In3 w Fn s e W.drew := ⟨h.1, h.2.1, h.2.2.1, h.2.2.2.1.drew, h.2.2.2.2⟩
theorem below_drewN {B : Nat} {w W : World} (h : Below B w W) (n : Nat) : Below B w (W.drewN n) := ⟨h.os, h.tape, h.output, h.size, h.block⟩
theorem In3.drewN {w W : World} {Fn : Nat} {s : ByteArray} {e : Int} (h : In3 w Fn s e W) (n : Nat) : In3 w Fn s e (W.drewN n) := ⟨h.1, h.2.1, h.2.2.1, below_drewN h.2.2.2.1 n, h.2.2.2.2⟩
theorem In3.fn {w W : World} {Fn : Nat} {s : ByteArray} {e : Int} (h : In3 w Fn s e W) : W.cell? ⟨w.heap.size, 0, none⟩ = some (fnV Fn) := by
  unfold World.cell?
  simp only [h.1]
  rfl
set_option maxRecDepth 100000 in
set_option maxHeartbeats 4000000 in
theorem fitted_64 (Fn : Nat) (mode : Int) (hent : ∀ args w, (callFunc Fn args).run Tryz.prog w = .ok (.enter Fn args) w)
    (HG : Hid (∀ neg od p, (p = 0 ∨ p = 1 ∨ p = 2 ∨ p = 3) → ∀ X, Calls Tryz.prog Fn #[cutV neg od p] X fun e w' => e = .returned (.bool (grw mode neg od p)) ∧ Below X.heap.size X w'))
    (neg : Bool) (ds : List Int) (e : Int) (w : World) (hc : Canon ds) (hl : ds.length ≤ 200) (he : -200000 ≤ e ∧ e ≤ 200000) (dr : Nat) (hdr : finDr 16 ds.length (-398) e = dr) (D2 : List Int) (hD2 : nt (finV mode neg (vl ds) dr false) = D2) (lost : Bool) (hlo : finLs (vl ds) dr false = lost) :
    Calls Tryz.prog 166 #[.agg #[fnV Fn], .iface 208 (.agg #[]), .bool neg, scV (tx ds) e, .bool false] w fun x w' => x = .returned (.tuple #[scV (tx (finT 16 D2)) (finTE 16 D2 (e + dr)), .bool lost]) ∧ Below w.heap.size w w' := by
  obtain ⟨DD, KK, RR, hD1, hDn, hD3, hD4, hD5, hD6, hD7⟩ : ∃ (DD : List Int) (KK : Nat) (RR : Bool), (200 < dr → DD = [1] ∧ KK = 200 ∧ RR = true) ∧ (¬ 200 < dr → DD = ds ∧ KK = dr ∧ RR = false) ∧ Canon DD ∧ DD.length ≤ 200 ∧ KK ≤ 200 ∧ rndV mode neg (vl DD) KK RR = finV mode neg (vl ds) dr false ∧ rndL (vl DD) KK RR = finLs (vl ds) dr false := by
    by_cases h : 200 < dr
    · refine ⟨[1], 200, true, fun _ => ⟨rfl, rfl, rfl⟩, fun c => absurd h c, canon_one 1 (by decide) (by decide), by simp, by decide, ?_, ?_⟩
      · unfold finV; rw [if_pos h]; rfl
      · unfold finLs; rw [if_pos h]; rfl
    · refine ⟨ds, dr, false, fun c => absurd c h, fun _ => ⟨rfl, rfl, rfl⟩, hc, hl, by omega, ?_, ?_⟩
      · unfold finV; rw [if_neg h]
      · unfold finLs; rw [if_neg h]
  have HDD : Hid ((200 < dr → DD = [1] ∧ KK = 200 ∧ RR = true) ∧ (¬ 200 < dr → DD = ds ∧ KK = dr ∧ RR = false)) := ⟨hD1, hDn⟩
  have HRD : Hid (∀ X, Calls Tryz.prog 222 #[.agg #[fnV Fn], .bool neg, .string (tx DD), .int .i64 (KK : Int), .bool RR] X fun x w' => x = .returned (.tuple #[.string (tx D2), .bool lost]) ∧ Below X.heap.size X w') := fun X => by
    rw [← hD2, ← hlo, ← hD6, ← hD7]; exact roundOff_any Fn mode hent HG neg DD KK RR X hD3 hD4 hD5
  have hd5 : D2.length ≤ 500 := by rw [← hD2]; exact nt_500 _
  have hdm : max (max ((ds.length : Int) - 16) ((-398) - e)) 0 = (dr : Int) := by rw [← hdr]; unfold finDr; omega
  have hdr2 : (dr : Int) ≤ 200000 := by omega
  have HSz : Hid (∀ X, Calls Tryz.prog 220 #[scV (tx ds) e] X fun x w' => x = .returned (.int .i64 ds.length) ∧ Below X.heap.size X w') := fun X => by
    have := scSize_any (tx ds) e X (by rw [tx_size]; omega)
    rwa [tx_size] at this
  have HIn : Hid (In3 w Fn (tx ds) e (bx3 w Fn (tx ds) e)) := in3_new w Fn (tx ds) e
  have hw1 : IntKind.i64.wrap ((ds.length : Int) - 16) = (ds.length : Int) - 16 := by rw [IntKind.wrap_i64]; omega
  have hw2 : IntKind.i64.wrap ((-398) - e) = (-398) - e := by rw [IntKind.wrap_i64]; omega
  have hw3 : IntKind.i64.wrap (e + (dr : Int)) = e + (dr : Int) := by rw [IntKind.wrap_i64]; omega
  have HDM : Hid (max (max ((ds.length : Int) - 16) ((-398) - e)) 0 = (dr : Int)) := hdm
  clear hD1 hDn hD3 hD4 hD5 hD6 hD7 hc hl hdr hD2 hlo hdm HG
  obtain ⟨TT, hTT⟩ : ∃ T, tx (finT 16 D2) = T := ⟨_, rfl⟩
  obtain ⟨XX, hXX⟩ : ∃ X, finTE 16 D2 (e + dr) = X := ⟨_, rfl⟩
  have HTX : Hid (tx (finT 16 D2) = TT ∧ finTE 16 D2 (e + dr) = XX) := ⟨hTT, hXX⟩
  rw [hTT, hXX]
  clear hTT hXX
  go_enter Tryz.func166, Tryz.ntmps166
  go_wp2_with fail
  refine (digitCount_64 _).mono ?_
  rintro x w1 ⟨rfl, hb1⟩
  have HIn1 : Hid (In3 w Fn (tx ds) e w1) := HIn.out.next hb1
  clear hb1 HIn
  have HX0 : Hid (Below w1.heap.size w1 w1.drew) := (Below.refl _ _).drew
  have hdm := run_mx3 Tryz.prog #[2, 2, 2] 2 _ _ _ _ HDM.out
  go_upto_region 6 with fail
  refine wp_region_class (C := fun W => Below w1.heap.size w1 W) (by kernel_rfl) (by kernel_rfl) HX0.out ?_
  repeat (refine wpQuiet_step (fun K hK => ?_); go_simp; first | (refine hK _ ?_; clear hK K) | (apply Exists.intro; refine ⟨fun wx hC => ?_, hK _ ?_⟩; (first | exact rfl | exact Calls.class_of (HSz.out wx) (fun w' hb => bel1 hC hb) | (simp only [md_leastExp_64]; go_simp; exact Calls.class_of (leastExp_64 wx) (fun w' hb => bel1 hC hb)) | (obtain ⟨q0, q1⟩ := (HIn1.out.next hC).2.1.cells; go_simp; exact rfl)); clear hK K))
  refine wpQuiet_nil ?_
  intro w2 hb2
  have HIn2 : Hid (In3 w Fn (tx ds) e w2) := HIn1.out.next hb2
  clear hb2 HX0 HIn1 hdm hw1 hw2 HSz HDM
  go_upto_region 7 with fail
  obtain ⟨q0, q1⟩ := HIn2.out.2.1.cells
  go_quiet (fail)
  have HIn3 : Hid (In3 w Fn (tx ds) e (w2.drewN nq)) := HIn2.out.drewN nq
  generalize w2.drewN nq = w3 at *
  clear q0 q1 HIn2
  go_upto_if 51 with fail
  go_cut [15, 14, 4] (fun d k r wx => d = .string (tx DD) ∧ k = .int .i64 (KK : Int) ∧ r = .bool RR ∧ wx = w3)
  case first =>
    by_cases h : 200 < dr
    · obtain ⟨q1, q2, q3⟩ := HDD.out.1 h
      have h' : (200 : Int) < (dr : Int) := by omega
      have E1 : Hid (tx DD = { data := #[49] } ∧ (KK : Int) = 200 ∧ RR = true) := ⟨by rw [q1]; exact tx_1, by omega, q3⟩
      clear q1 q2 q3 h
      go_wp2
      go_meet
      case rel => exact ⟨by rw [E1.out.1], by rw [E1.out.2.1], by rw [E1.out.2.2], rfl⟩
    · obtain ⟨q1, q2, q3⟩ := HDD.out.2 h
      have h' : ¬ (200 : Int) < (dr : Int) := by omega
      have E1 : Hid (DD = ds ∧ KK = dr ∧ RR = false) := ⟨q1, q2, q3⟩
      clear q1 q2 q3 h
      go_wp2
      go_meet
      case rel => exact ⟨by rw [E1.out.1], by rw [E1.out.2.1], by rw [E1.out.2.2], rfl⟩
  case rest =>
    obtain ⟨rfl, rfl, rfl, rfl⟩ := hcut
    have hfn := HIn3.out.fn
    clear HDD
    go_wp2_with fail
    refine (HRD.out _).mono ?_
    rintro x w4 ⟨rfl, hb4⟩
    have HZ4 : Hid (At2r w4 (w.heap.size + 1 + 1) 192 (.string { data := #[] }) (.int .i64 0) ∧ Below w.heap.size w w4) := ⟨(HIn3.out.next hb4).2.2.1, (HIn3.out.next hb4).2.2.2.1⟩
    clear hb4 HIn3 HRD hfn
    obtain ⟨x3, hx3⟩ : ∃ x3, e + (dr : Int) = x3 := ⟨_, rfl⟩
    have hx4 : -200000 ≤ x3 ∧ x3 ≤ 400000 := by omega
    rw [hx3] at HTX
    rw [hx3]
    clear hw3 hx3
    have hsz2 : (tx D2).size = D2.length := tx_size D2
    by_cases h : 16 < D2.length
    · have h' : (16 : Int) < (D2.length : Int) := by omega
      have ht := tx_take D2 16 (by omega)
      have hle : (16 : Int) ≤ (D2.length : Int) := by omega
      have E1 : Hid (TT = tx (D2.take 16) ∧ XX = x3 + 1) := ⟨by rw [← HTX.out.1]; unfold finT; rw [if_pos h], by rw [← HTX.out.2]; unfold finTE; rw [if_pos h]⟩
      have wx : IntKind.i64.wrap (x3 + 1) = x3 + 1 := by rw [IntKind.wrap_i64]; omega
      have hbl := build_sc (tx (D2.take 16)) (x3 + 1)
      generalize tx (D2.take 16) = T2 at *
      clear h HTX
      go_wp2_with (refine wpList_store_row rfl 192 (.tmp 10) (.tmp 70) rfl (w.heap.size + 1 + 1) #[.string T2, .int .i64 (x3 + 1)] rfl rfl _ _ HZ4.out.1 (by kernel_rfl) rfl (one2 _ _) ?_)
      have hP := (HZ4.out.1.row (.string T2) (.int .i64 (x3 + 1))).cells
      refine bodyPost_ret (results_sct rfl _ _ rfl hP.1 hP.2) rfl ?_
      exact ⟨by rw [E1.out.1, E1.out.2]; rfl, bel_row HZ4.out.2 (by omega) _⟩
    · have h' : ¬ (16 : Int) < (D2.length : Int) := by omega
      have E1 : Hid (TT = tx D2 ∧ XX = x3) := ⟨by rw [← HTX.out.1]; unfold finT; rw [if_neg h], by rw [← HTX.out.2]; unfold finTE; rw [if_neg h]⟩
      have hbl := build_sc (tx D2) x3
      clear h HTX
      go_wp2_with (refine wpList_store_row rfl 192 (.tmp 10) (.tmp 74) rfl (w.heap.size + 1 + 1) #[.string (tx D2), .int .i64 x3] rfl rfl _ _ HZ4.out.1 (by kernel_rfl) rfl (one2 _ _) ?_)
      have hP := (HZ4.out.1.row (.string (tx D2)) (.int .i64 x3)).cells
      refine bodyPost_ret (results_sct rfl _ _ rfl hP.1 hP.2) rfl ?_
      exact ⟨by rw [E1.out.1, E1.out.2]; rfl, bel_row HZ4.out.2 (by omega) _⟩
set_option maxRecDepth 100000 in
set_option maxHeartbeats 4000000 in
theorem fitted_128 (Fn : Nat) (mode : Int) (hent : ∀ args w, (callFunc Fn args).run Tryz.prog w = .ok (.enter Fn args) w)
    (HG : Hid (∀ neg od p, (p = 0 ∨ p = 1 ∨ p = 2 ∨ p = 3) → ∀ X, Calls Tryz.prog Fn #[cutV neg od p] X fun e w' => e = .returned (.bool (grw mode neg od p)) ∧ Below X.heap.size X w'))
    (neg : Bool) (ds : List Int) (e : Int) (w : World) (hc : Canon ds) (hl : ds.length ≤ 200) (he : -200000 ≤ e ∧ e ≤ 200000) (dr : Nat) (hdr : finDr 34 ds.length (-6176) e = dr) (D2 : List Int) (hD2 : nt (finV mode neg (vl ds) dr false) = D2) (lost : Bool) (hlo : finLs (vl ds) dr false = lost) :
    Calls Tryz.prog 166 #[.agg #[fnV Fn], .iface 211 (.agg #[]), .bool neg, scV (tx ds) e, .bool false] w fun x w' => x = .returned (.tuple #[scV (tx (finT 34 D2)) (finTE 34 D2 (e + dr)), .bool lost]) ∧ Below w.heap.size w w' := by
  obtain ⟨DD, KK, RR, hD1, hDn, hD3, hD4, hD5, hD6, hD7⟩ : ∃ (DD : List Int) (KK : Nat) (RR : Bool), (200 < dr → DD = [1] ∧ KK = 200 ∧ RR = true) ∧ (¬ 200 < dr → DD = ds ∧ KK = dr ∧ RR = false) ∧ Canon DD ∧ DD.length ≤ 200 ∧ KK ≤ 200 ∧ rndV mode neg (vl DD) KK RR = finV mode neg (vl ds) dr false ∧ rndL (vl DD) KK RR = finLs (vl ds) dr false := by
    by_cases h : 200 < dr
    · refine ⟨[1], 200, true, fun _ => ⟨rfl, rfl, rfl⟩, fun c => absurd h c, canon_one 1 (by decide) (by decide), by simp, by decide, ?_, ?_⟩
      · unfold finV; rw [if_pos h]; rfl
      · unfold finLs; rw [if_pos h]; rfl
    · refine ⟨ds, dr, false, fun c => absurd c h, fun _ => ⟨rfl, rfl, rfl⟩, hc, hl, by omega, ?_, ?_⟩
      · unfold finV; rw [if_neg h]
      · unfold finLs; rw [if_neg h]
  have HDD : Hid ((200 < dr → DD = [1] ∧ KK = 200 ∧ RR = true) ∧ (¬ 200 < dr → DD = ds ∧ KK = dr ∧ RR = false)) := ⟨hD1, hDn⟩
  have HRD : Hid (∀ X, Calls Tryz.prog 222 #[.agg #[fnV Fn], .bool neg, .string (tx DD), .int .i64 (KK : Int), .bool RR] X fun x w' => x = .returned (.tuple #[.string (tx D2), .bool lost]) ∧ Below X.heap.size X w') := fun X => by
    rw [← hD2, ← hlo, ← hD6, ← hD7]; exact roundOff_any Fn mode hent HG neg DD KK RR X hD3 hD4 hD5
  have hd5 : D2.length ≤ 500 := by rw [← hD2]; exact nt_500 _
  have hdm : max (max ((ds.length : Int) - 34) ((-6176) - e)) 0 = (dr : Int) := by rw [← hdr]; unfold finDr; omega
  have hdr2 : (dr : Int) ≤ 200000 := by omega
  have HSz : Hid (∀ X, Calls Tryz.prog 220 #[scV (tx ds) e] X fun x w' => x = .returned (.int .i64 ds.length) ∧ Below X.heap.size X w') := fun X => by
    have := scSize_any (tx ds) e X (by rw [tx_size]; omega)
    rwa [tx_size] at this
  have HIn : Hid (In3 w Fn (tx ds) e (bx3 w Fn (tx ds) e)) := in3_new w Fn (tx ds) e
  have hw1 : IntKind.i64.wrap ((ds.length : Int) - 34) = (ds.length : Int) - 34 := by rw [IntKind.wrap_i64]; omega
  have hw2 : IntKind.i64.wrap ((-6176) - e) = (-6176) - e := by rw [IntKind.wrap_i64]; omega
  have hw3 : IntKind.i64.wrap (e + (dr : Int)) = e + (dr : Int) := by rw [IntKind.wrap_i64]; omega
  have HDM : Hid (max (max ((ds.length : Int) - 34) ((-6176) - e)) 0 = (dr : Int)) := hdm
  clear hD1 hDn hD3 hD4 hD5 hD6 hD7 hc hl hdr hD2 hlo hdm HG
  obtain ⟨TT, hTT⟩ : ∃ T, tx (finT 34 D2) = T := ⟨_, rfl⟩
  obtain ⟨XX, hXX⟩ : ∃ X, finTE 34 D2 (e + dr) = X := ⟨_, rfl⟩
  have HTX : Hid (tx (finT 34 D2) = TT ∧ finTE 34 D2 (e + dr) = XX) := ⟨hTT, hXX⟩
  rw [hTT, hXX]
  clear hTT hXX
  go_enter Tryz.func166, Tryz.ntmps166
  go_wp2_with fail
  refine (digitCount_128 _).mono ?_
  rintro x w1 ⟨rfl, hb1⟩
  have HIn1 : Hid (In3 w Fn (tx ds) e w1) := HIn.out.next hb1
  clear hb1 HIn
  have HX0 : Hid (Below w1.heap.size w1 w1.drew) := (Below.refl _ _).drew
  have hdm := run_mx3 Tryz.prog #[2, 2, 2] 2 _ _ _ _ HDM.out
  go_upto_region 6 with fail
  refine wp_region_class (C := fun W => Below w1.heap.size w1 W) (by kernel_rfl) (by kernel_rfl) HX0.out ?_
  repeat (refine wpQuiet_step (fun K hK => ?_); go_simp; first | (refine hK _ ?_; clear hK K) | (apply Exists.intro; refine ⟨fun wx hC => ?_, hK _ ?_⟩; (first | exact rfl | exact Calls.class_of (HSz.out wx) (fun w' hb => bel1 hC hb) | (simp only [md_leastExp_128]; go_simp; exact Calls.class_of (leastExp_128 wx) (fun w' hb => bel1 hC hb)) | (obtain ⟨q0, q1⟩ := (HIn1.out.next hC).2.1.cells; go_simp; exact rfl)); clear hK K))
  refine wpQuiet_nil ?_
  intro w2 hb2
  have HIn2 : Hid (In3 w Fn (tx ds) e w2) := HIn1.out.next hb2
  clear hb2 HX0 HIn1 hdm hw1 hw2 HSz HDM
  go_upto_region 7 with fail
  obtain ⟨q0, q1⟩ := HIn2.out.2.1.cells
  go_quiet (fail)
  have HIn3 : Hid (In3 w Fn (tx ds) e (w2.drewN nq)) := HIn2.out.drewN nq
  generalize w2.drewN nq = w3 at *
  clear q0 q1 HIn2
  go_upto_if 51 with fail
  go_cut [15, 14, 4] (fun d k r wx => d = .string (tx DD) ∧ k = .int .i64 (KK : Int) ∧ r = .bool RR ∧ wx = w3)
  case first =>
    by_cases h : 200 < dr
    · obtain ⟨q1, q2, q3⟩ := HDD.out.1 h
      have h' : (200 : Int) < (dr : Int) := by omega
      have E1 : Hid (tx DD = { data := #[49] } ∧ (KK : Int) = 200 ∧ RR = true) := ⟨by rw [q1]; exact tx_1, by omega, q3⟩
      clear q1 q2 q3 h
      go_wp2
      go_meet
      case rel => exact ⟨by rw [E1.out.1], by rw [E1.out.2.1], by rw [E1.out.2.2], rfl⟩
    · obtain ⟨q1, q2, q3⟩ := HDD.out.2 h
      have h' : ¬ (200 : Int) < (dr : Int) := by omega
      have E1 : Hid (DD = ds ∧ KK = dr ∧ RR = false) := ⟨q1, q2, q3⟩
      clear q1 q2 q3 h
      go_wp2
      go_meet
      case rel => exact ⟨by rw [E1.out.1], by rw [E1.out.2.1], by rw [E1.out.2.2], rfl⟩
  case rest =>
    obtain ⟨rfl, rfl, rfl, rfl⟩ := hcut
    have hfn := HIn3.out.fn
    clear HDD
    go_wp2_with fail
    refine (HRD.out _).mono ?_
    rintro x w4 ⟨rfl, hb4⟩
    have HZ4 : Hid (At2r w4 (w.heap.size + 1 + 1) 192 (.string { data := #[] }) (.int .i64 0) ∧ Below w.heap.size w w4) := ⟨(HIn3.out.next hb4).2.2.1, (HIn3.out.next hb4).2.2.2.1⟩
    clear hb4 HIn3 HRD hfn
    obtain ⟨x3, hx3⟩ : ∃ x3, e + (dr : Int) = x3 := ⟨_, rfl⟩
    have hx4 : -200000 ≤ x3 ∧ x3 ≤ 400000 := by omega
    rw [hx3] at HTX
    rw [hx3]
    clear hw3 hx3
    have hsz2 : (tx D2).size = D2.length := tx_size D2
    by_cases h : 34 < D2.length
    · have h' : (34 : Int) < (D2.length : Int) := by omega
      have ht := tx_take D2 34 (by omega)
      have hle : (34 : Int) ≤ (D2.length : Int) := by omega
      have E1 : Hid (TT = tx (D2.take 34) ∧ XX = x3 + 1) := ⟨by rw [← HTX.out.1]; unfold finT; rw [if_pos h], by rw [← HTX.out.2]; unfold finTE; rw [if_pos h]⟩
      have wx : IntKind.i64.wrap (x3 + 1) = x3 + 1 := by rw [IntKind.wrap_i64]; omega
      have hbl := build_sc (tx (D2.take 34)) (x3 + 1)
      generalize tx (D2.take 34) = T2 at *
      clear h HTX
      go_wp2_with (refine wpList_store_row rfl 192 (.tmp 10) (.tmp 70) rfl (w.heap.size + 1 + 1) #[.string T2, .int .i64 (x3 + 1)] rfl rfl _ _ HZ4.out.1 (by kernel_rfl) rfl (one2 _ _) ?_)
      have hP := (HZ4.out.1.row (.string T2) (.int .i64 (x3 + 1))).cells
      refine bodyPost_ret (results_sct rfl _ _ rfl hP.1 hP.2) rfl ?_
      exact ⟨by rw [E1.out.1, E1.out.2]; rfl, bel_row HZ4.out.2 (by omega) _⟩
    · have h' : ¬ (34 : Int) < (D2.length : Int) := by omega
      have E1 : Hid (TT = tx D2 ∧ XX = x3) := ⟨by rw [← HTX.out.1]; unfold finT; rw [if_neg h], by rw [← HTX.out.2]; unfold finTE; rw [if_neg h]⟩
      have hbl := build_sc (tx D2) x3
      clear h HTX
      go_wp2_with (refine wpList_store_row rfl 192 (.tmp 10) (.tmp 74) rfl (w.heap.size + 1 + 1) #[.string (tx D2), .int .i64 x3] rfl rfl _ _ HZ4.out.1 (by kernel_rfl) rfl (one2 _ _) ?_)
      have hP := (HZ4.out.1.row (.string (tx D2)) (.int .i64 x3)).cells
      refine bodyPost_ret (results_sct rfl _ _ rfl hP.1 hP.2) rfl ?_
      exact ⟨by rw [E1.out.1, E1.out.2]; rfl, bel_row HZ4.out.2 (by omega) _⟩
end Go.Proofs.YteofommckgeemaaGreatDoor
namespace Go.Proofs.YteofommckgeemaaGreatDoor
open Go.RowKit
set_option linter.unusedVariables false
set_option maxRecDepth 100000
/-- What l12Finish tells: kind, exponent, digits, flags (the sign beside it). -/
def finD (f mode : Int) (neg : Bool) (ds : List Int) (e : Int) (rest : Bool) (want : Int) : Int × Int × ByteArray × Int :=
  if ds = [0] then (1, min (limH f) (max (limL f) want), { data := #[48] }, 0) else finN (limP f).toNat (limL f) (limH f) mode neg ds e rest want
/-- A Result of such a word. -/
abbrev rsD (neg : Bool) (F : Int × Int × ByteArray × Int) : Value := rsV F.1 neg F.2.1 F.2.2.1 F.2.2.2
theorem lims (f : Int) (hf : f = 64 ∨ f = 128) : limP f ≤ 34 ∧ -6176 ≤ limL f ∧ limH f ≤ 6111 := by
  rcases hf with rfl | rfl <;> decide
end Go.Proofs.YteofommckgeemaaGreatDoor
