/-
  Whole of the program, walked.
-/
import Derived.Test.YtmndemegiimagasGreatDoorRta
import Derived.Test.YtmndemegiimagasGreatDoorSpa
import Derived.Test.YtmndemegiimagasGreatDoorRdl
import Derived.Test.YtmndemegiimagasGreatDoorSmC
import Derived.Test.YtmndemegiimagasGreatDoorSmL
namespace Go.Proofs.YtmndemegiimagasGreatDoor
open Go.RowKit
set_option linter.unusedVariables false
set_option maxRecDepth 100000
theorem nrwO {W : World} {g : Nat} {T : TypeId} {k : Int} {n : Bool} {e : Int} {s : ByteArray} (h : W.heap[g]? = some (.cells #[.int .i64 k, .bool n, .int .i64 e, .string s] T (0, 0))) : NRw W g 1 (fun _ => k) (fun _ => n) (fun _ => e) (fun _ => s) := fun i hi => by
  obtain rfl : i = 0 := by omega
  exact ⟨(cell_lit h 0).trans rfl, (cell_lit h 1).trans rfl, (cell_lit h 2).trans rfl, (cell_lit h 3).trans rfl⟩
theorem shift_tn {v n : Int} (h : Nok v) (h2 : Nok (v * 10 ^ n.toNat)) (h0 : 0 ≤ n) (h1 : n ≤ 200) : shiftS (tn v) n = tn (v * 10 ^ n.toNat) := by
  unfold shiftS
  rw [tn_ok h, decide_eq_true h0, decide_eq_true h1, nv_tn h, fit_tn h2]
  rfl
theorem round_tn {v n : Int} (mode : Int) (neg : Bool) (hm : 1 ≤ mode ∧ mode ≤ 5) (h : Nok v) (h0 : 0 ≤ n) (h1 : n ≤ 200) : rdS mode neg (tn v) n false = tx (nt (rndV mode neg v n.toNat false)) ∧ rdL mode (tn v) n false = rndL v n.toNat false := by
  have ho : rdO mode (tn v) n = true := by unfold rdO; rw [tn_ok h, decide_eq_true hm, decide_eq_true ⟨h0, h1⟩]; rfl
  unfold rdS rdL
  rw [ho, if_pos rfl, if_pos rfl, nv_tn h]
  exact ⟨rfl, rfl⟩
theorem tnSz (v : Int) : (tn v).size ≤ 4611686018427387904 := Nat.le_trans (tn_size v) (by decide)
/-- How many digits come or go. -/
def plc (n : Int) : Int := min (max n 0) 200
theorem places_any (n : Int) (w : World) : Calls Tryz.prog 48 #[.int .i64 n] w fun x w' => x = .returned (.int .i64 (plc n)) ∧ w' = w := by
  obtain ⟨mx, hmx⟩ : ∃ m, max n 0 = m := ⟨_, rfl⟩
  obtain ⟨mn, hmn⟩ : ∃ m, min mx 200 = m := ⟨_, rfl⟩
  have E : Hid (plc n = mn) := by show _ = _; unfold plc; rw [hmx, hmn]
  rw [E.out]
  clear E
  go_enter Tryz.func48, Tryz.ntmps48
  go_wp2
  go_ret
  exact ⟨rfl, rfl⟩
theorem copied_any (k : Int) (b : Bool) (e : Int) (s : ByteArray) (w : World) (hs : s.size ≤ 600) : Calls Tryz.prog 31 #[numV k b e s] w fun x w' => x = .returned (numV k b e s) ∧ Below w.heap.size w w' := by
  have HCl : Hid (∀ X, Calls Tryz.prog 50 #[.string s] X fun e w' => e = .returned (.string s) ∧ Below X.heap.size X w') := fun X => iClone_any s X hs
  clear hs
  have h1 := at4r_new w (.int .i64 k) (.bool b) (.int .i64 e) (.string s)
  have z1 := new_size w (.cells #[.int .i64 k, .bool b, .int .i64 e, .string s] 25)
  have b1 : Below w.heap.size w (w.alloc (.cells #[.int .i64 k, .bool b, .int .i64 e, .string s] 25)) := (Below.refl _ _).alloc (Nat.le_refl _) _
  have h2 := at4r_new (w.alloc (.cells #[.int .i64 k, .bool b, .int .i64 e, .string s] 25)) (.int .i64 0) (.bool false) (.int .i64 0) (.string { data := #[] })
  have b2 : Below (w.alloc (.cells #[.int .i64 k, .bool b, .int .i64 e, .string s] 25)).heap.size (w.alloc (.cells #[.int .i64 k, .bool b, .int .i64 e, .string s] 25)) ((w.alloc (.cells #[.int .i64 k, .bool b, .int .i64 e, .string s] 25)).alloc (.cells #[.int .i64 0, .bool false, .int .i64 0, .string { data := #[] }] 25)) := (Below.refl _ _).alloc (Nat.le_refl _) _
  rw [z1] at h2
  have HN : Hid (At4r ((w.alloc (.cells #[.int .i64 k, .bool b, .int .i64 e, .string s] 25)).alloc (.cells #[.int .i64 0, .bool false, .int .i64 0, .string { data := #[] }] 25)) w.heap.size (.int .i64 k) (.bool b) (.int .i64 e) (.string s) ∧ At4r ((w.alloc (.cells #[.int .i64 k, .bool b, .int .i64 e, .string s] 25)).alloc (.cells #[.int .i64 0, .bool false, .int .i64 0, .string { data := #[] }] 25)) (w.heap.size + 1) (.int .i64 0) (.bool false) (.int .i64 0) (.string { data := #[] }) ∧ Below w.heap.size w ((w.alloc (.cells #[.int .i64 k, .bool b, .int .i64 e, .string s] 25)).alloc (.cells #[.int .i64 0, .bool false, .int .i64 0, .string { data := #[] }] 25))) := ⟨h1.next b2, h2, b1.trans (b2.mono b1.size)⟩
  clear h1 z1 b1 h2 b2
  go_enter Tryz.func31, Tryz.ntmps31
  go_wp2_with fail
  refine (HCl.out _).mono ?_
  rintro x w1 ⟨rfl, hb1⟩
  have HN1 : Hid (At4r w1 w.heap.size (.int .i64 k) (.bool b) (.int .i64 e) (.string s) ∧ At4r w1 (w.heap.size + 1) (.int .i64 0) (.bool false) (.int .i64 0) (.string { data := #[] }) ∧ Below w.heap.size w w1) := ⟨HN.out.1.next hb1, HN.out.2.1.next hb1, HN.out.2.2.trans (hb1.mono HN.out.2.2.size)⟩
  have HN2 : Hid (At4r (w1.setCell ⟨w.heap.size, 3, none⟩ (.string s)) w.heap.size (.int .i64 k) (.bool b) (.int .i64 e) (.string s) ∧ At4r (w1.setCell ⟨w.heap.size, 3, none⟩ (.string s)) (w.heap.size + 1) (.int .i64 0) (.bool false) (.int .i64 0) (.string { data := #[] }) ∧ Below w.heap.size w (w1.setCell ⟨w.heap.size, 3, none⟩ (.string s))) := ⟨HN1.out.1.set3 _, HN1.out.2.1.far (by omega) _ _, HN1.out.2.2.setCell (Nat.le_refl _) _⟩
  obtain ⟨a0, a1, a2, a3, a4⟩ := HN1.out.1.cells
  obtain ⟨c0, c1, c2, c3, c4⟩ := HN2.out.1.cells
  clear hb1 HN HCl HN1
  go_wp2_with (refine wpList_store_row rfl 25 (.tmp 2) (.tmp 7) rfl (w.heap.size + 1) #[.int .i64 k, .bool b, .int .i64 e, .string s] rfl rfl _ _ HN2.out.2.1 (by kernel_rfl) rfl (one4 _ _ _ _) ?_)
  have hP := (HN2.out.2.1.row (.int .i64 k) (.bool b) (.int .i64 e) (.string s)).cells
  refine bodyPost_ret (results_num rfl _ _ rfl hP.1 hP.2.1 hP.2.2.1 hP.2.2.2.1) rfl ?_
  exact ⟨rfl, bel_row HN2.out.2.2 (by omega) _⟩
/-- A number's box and a result's. -/
def N2 (w : World) (kx : Int) (nx : Bool) (ex : Int) (sx : ByteArray) (W : World) : Prop :=
  At4r W w.heap.size (.int .i64 kx) (.bool nx) (.int .i64 ex) (.string sx) ∧ At4r W (w.heap.size + 1) (.int .i64 0) (.bool false) (.int .i64 0) (.string { data := #[] }) ∧ Below w.heap.size w W
theorem n2_new (w : World) (kx : Int) (nx : Bool) (ex : Int) (sx : ByteArray) : N2 w kx nx ex sx ((w.alloc (.cells #[.int .i64 kx, .bool nx, .int .i64 ex, .string sx] 25)).alloc (.cells #[.int .i64 0, .bool false, .int .i64 0, .string { data := #[] }] 25)) := by
  have h1 := at4r_new w (.int .i64 kx) (.bool nx) (.int .i64 ex) (.string sx)
  have z1 := new_size w (.cells #[.int .i64 kx, .bool nx, .int .i64 ex, .string sx] 25)
  have b1 : Below w.heap.size w (w.alloc (.cells #[.int .i64 kx, .bool nx, .int .i64 ex, .string sx] 25)) := (Below.refl _ _).alloc (Nat.le_refl _) _
  generalize w.alloc (.cells #[.int .i64 kx, .bool nx, .int .i64 ex, .string sx] 25) = w1 at *
  have h2 := at4r_new w1 (.int .i64 0) (.bool false) (.int .i64 0) (.string { data := #[] })
  have b2 : Below w1.heap.size w1 (w1.alloc (.cells #[.int .i64 0, .bool false, .int .i64 0, .string { data := #[] }] 25)) := (Below.refl _ _).alloc (Nat.le_refl _) _
  rw [z1] at h2
  exact ⟨h1.next b2, h2, b1.trans (b2.mono b1.size)⟩
theorem N2.next {w W W' : World} {kx : Int} {nx : Bool} {ex : Int} {sx : ByteArray} (h : N2 w kx nx ex sx W) (hb : Below W.heap.size W W') : N2 w kx nx ex sx W' :=
  ⟨h.1.next hb, h.2.1.next hb, h.2.2.trans (hb.mono h.2.2.size)⟩
theorem results_nt {fn : Func} {p t : Tmp} {b : Nat} {x y z u : Value} (h : fn.results = #[.cell p 25, .tmp t]) (tmps : Array Value) (w : World) (hp : tmps[p]?.getD undef = .pointer (some ⟨b, 0, none⟩))
    (q0 : w.cell? ⟨b, 0, none⟩ = some x) (q1 : w.cell? ⟨b, 1, none⟩ = some y) (q2 : w.cell? ⟨b, 2, none⟩ = some z) (q3 : w.cell? ⟨b, 3, none⟩ = some u) : (results fn tmps).run Tryz.prog w = .ok (.tuple #[.agg #[x, y, z, u], tmps.getD t undef]) w := by
  simp [results, h, hp, go_sem, q0, q1, q2, q3]
set_option maxRecDepth 100000 in
set_option maxHeartbeats 1000000 in
theorem withExp_any (mode : Int) (hm : 1 ≤ mode ∧ mode ≤ 5) (na : Bool) (ea v exp : Int) (w : World) (hea : -7000 ≤ ea ∧ ea ≤ 7000) (hex : -7000 ≤ exp ∧ exp ≤ 7000) (hv : Nok v) (hv2 : Nok (v * 10 ^ (plc (ea - exp)).toNat)) :
    Calls Tryz.prog 28 #[.int .i64 mode, numV 1 na ea (tn v), .int .i64 exp] w fun x w' => x = .returned (.tuple #[numV 1 na exp (tx (nt (rndV mode na (v * 10 ^ (plc (ea - exp)).toNat) (plc (exp - ea)).toNat false))), .bool (rndL (v * 10 ^ (plc (ea - exp)).toNat) (plc (exp - ea)).toNat false)]) ∧ Below w.heap.size w w' := by
  have p0 : ∀ n, 0 ≤ plc n ∧ plc n ≤ 200 := fun n => by unfold plc; omega
  have HS : Hid (∀ X, Calls Tryz.prog 47 #[.string (tn v), .int .i64 (plc (ea - exp))] X fun e w' => e = .returned (.string (tn (v * 10 ^ (plc (ea - exp)).toNat))) ∧ Below X.heap.size X w') := fun X => by
    have := iNatShift_any (tn v) (plc (ea - exp)) X (tnSz v)
    rwa [shift_tn hv hv2 (p0 _).1 (p0 _).2] at this
  obtain ⟨T2, hT2⟩ : ∃ T, tn (v * 10 ^ (plc (ea - exp)).toNat) = T := ⟨_, rfl⟩
  have HRd : Hid (∀ X, Calls Tryz.prog 49 #[.int .i64 mode, .bool na, .string T2, .int .i64 (plc (exp - ea)), .bool false] X fun e w' => e = .returned (.tuple #[.string (tx (nt (rndV mode na (v * 10 ^ (plc (ea - exp)).toNat) (plc (exp - ea)).toNat false))), .bool (rndL (v * 10 ^ (plc (ea - exp)).toNat) (plc (exp - ea)).toNat false)]) ∧ Below X.heap.size X w') := fun X => by
    rw [← hT2]
    have := iRoundDigits_all mode na (tn (v * 10 ^ (plc (ea - exp)).toNat)) (plc (exp - ea)) false X (tnSz _)
    rwa [(round_tn mode na hm hv2 (p0 _).1 (p0 _).2).1, (round_tn mode na hm hv2 (p0 _).1 (p0 _).2).2] at this
  rw [hT2] at HS
  clear hT2
  generalize tx (nt (rndV mode na (v * 10 ^ (plc (ea - exp)).toNat) (plc (exp - ea)).toNat false)) = T3 at *
  generalize rndL (v * 10 ^ (plc (ea - exp)).toNat) (plc (exp - ea)).toNat false = lo at *
  have HP1 : Hid (∀ X, Calls Tryz.prog 48 #[.int .i64 (ea - exp)] X fun x w' => x = .returned (.int .i64 (plc (ea - exp))) ∧ w' = X) := fun X => places_any (ea - exp) X
  have HP2 : Hid (∀ X, Calls Tryz.prog 48 #[.int .i64 (exp - ea)] X fun x w' => x = .returned (.int .i64 (plc (exp - ea))) ∧ w' = X) := fun X => places_any (exp - ea) X
  generalize plc (ea - exp) = q1 at *
  generalize plc (exp - ea) = q2 at *
  have hw1 : IntKind.i64.wrap (ea - exp) = ea - exp := by rw [IntKind.wrap_i64]; omega
  have hw2 : IntKind.i64.wrap (exp - ea) = exp - ea := by rw [IntKind.wrap_i64]; omega
  generalize tn v = T1 at *
  clear hv hv2 hea hex hm p0
  have HN : Hid (N2 w 1 na ea T1 ((w.alloc (.cells #[.int .i64 1, .bool na, .int .i64 ea, .string T1] 25)).alloc (.cells #[.int .i64 0, .bool false, .int .i64 0, .string { data := #[] }] 25))) := n2_new w 1 na ea T1
  go_enter Tryz.func28, Tryz.ntmps28
  go_upto_region 1 with fail
  generalize (w.alloc (.cells #[.int .i64 1, .bool na, .int .i64 ea, .string T1] 25)).alloc (.cells #[.int .i64 0, .bool false, .int .i64 0, .string { data := #[] }] 25) = w0 at *
  have HX0 : Hid (Below w0.heap.size w0 w0.drew) := (Below.refl _ _).drew
  refine wp_region_class (C := fun W => Below w0.heap.size w0 W) (by kernel_rfl) (by kernel_rfl) HX0.out ?_
  repeat (refine wpQuiet_step (fun K hK => ?_); go_simp; first | (refine hK _ ?_; clear hK K) | (apply Exists.intro; refine ⟨fun wx hC => ?_, hK _ ?_⟩; (first | exact rfl | ((with_reducible refine Calls.class_of (HS.out wx) ?_); exact fun w' hb => bel1 hC hb) | ((with_reducible refine (HP1.out wx).mono ?_); rintro x w' ⟨rfl, rfl⟩; exact ⟨rfl, hC⟩) | (obtain ⟨a0, a1, a2, a3, a4⟩ := (HN.out.next hC).1.cells; go_simp; exact rfl)); clear hK K))
  refine wpQuiet_nil ?_
  intro w1 hb1
  have HN1 : Hid (N2 w 1 na ea T1 w1) := HN.out.next hb1
  clear hb1 HN HX0 HS HP1 hw1
  go_upto_region 2 with fail
  have HX1 : Hid (Below w1.heap.size w1 w1.drew) := (Below.refl _ _).drew
  refine wp_region_class (C := fun W => Below w1.heap.size w1 W) (by kernel_rfl) (by kernel_rfl) HX1.out ?_
  repeat (refine wpQuiet_step (fun K hK => ?_); go_simp; first | (refine hK _ ?_; clear hK K) | (apply Exists.intro; refine ⟨fun wx hC => ?_, hK _ ?_⟩; (first | exact rfl | ((with_reducible refine Calls.class_of (HRd.out wx) ?_); exact fun w' hb => bel1 hC hb) | ((with_reducible refine (HP2.out wx).mono ?_); rintro x w' ⟨rfl, rfl⟩; exact ⟨rfl, hC⟩) | (obtain ⟨a0, a1, a2, a3, a4⟩ := (HN1.out.next hC).1.cells; go_simp; exact rfl)); clear hK K))
  refine wpQuiet_nil ?_
  intro w2 hb2
  have HN2 : Hid (N2 w 1 na ea T1 w2) := HN1.out.next hb2
  clear hb2 HN1 HX1 HRd HP2 hw2
  obtain ⟨a0, a1, a2, a3, a4⟩ := HN2.out.1.cells
  have hbn := build_num 1 na exp T3
  go_wp2_with (refine wpList_store_row rfl 25 (.tmp 6) (.tmp 35) rfl (w.heap.size + 1) #[.int .i64 1, .bool na, .int .i64 exp, .string T3] rfl rfl _ _ HN2.out.2.1 (by kernel_rfl) rfl (one4 _ _ _ _) ?_)
  have hP := (HN2.out.2.1.row (.int .i64 1) (.bool na) (.int .i64 exp) (.string T3)).cells
  refine bodyPost_ret (results_nt rfl _ _ rfl hP.1 hP.2.1 hP.2.2.1 hP.2.2.2.1) rfl ?_
  exact ⟨rfl, bel_row HN2.out.2.2 (by omega) _⟩
end Go.Proofs.YtmndemegiimagasGreatDoor
namespace Go.Proofs.YtmndemegiimagasGreatDoor
open Go.RowKit
set_option linter.unusedVariables false
set_option maxRecDepth 100000
/-- A right number that is no NaN, as the walks want it. -/
def Rgn (f : Int) (k : Int) (e : Int) (s : ByteArray) : Prop := (f = 64 ∨ f = 128) ∧ s = tx (dl s) ∧ (k = 1 ∨ k = 2) ∧ (k = 1 → Canon (dl s) ∧ ((dl s).length : Int) ≤ limP f ∧ limL f ≤ e ∧ e ≤ limH f) ∧ (k = 2 → e = 0 ∧ s = { data := #[] })
theorem rgn_of (f k : Int) (b : Bool) (e : Int) (s : ByteArray) (h : numB f k b e s = true) (h3 : k ≠ 3) (h4 : k ≠ 4) : Rgn f k e s := by
  obtain ⟨a, b', c, d⟩ := right_two f k b e s h h3 h4
  refine ⟨a, b', c, d, fun hk => ?_⟩
  subst hk
  unfold numB at h
  by_cases h0 : limP f = 0
  · rw [if_pos h0] at h; cases h
  rw [if_neg h0, if_neg (by decide), if_pos rfl] at h
  simp only [Bool.and_eq_true, decide_eq_true_eq] at h
  refine ⟨h.1, ?_⟩
  have hs : s.size = 0 := by
    have := h.2
    rw [ByteArray.toList_eq, List.isEmpty_iff] at this
    show s.data.size = 0
    rw [← Array.length_toList, this]; rfl
  apply ByteArray.ext
  exact Array.eq_empty_of_size_eq_zero hs
/-- Of one number that is right and no NaN. -/
theorem rgn_one {f m : Int} {k : Int} {b : Bool} {e : Int} {s : ByteArray} (h : rightB f m 1 (fun _ => k) (fun _ => b) (fun _ => e) (fun _ => s) = true) (hs : spB 1 (fun _ => k) = false) : (1 ≤ m ∧ m ≤ 5) ∧ Rgn f k e s := by
  unfold rightB at h
  simp only [Bool.and_eq_true, decide_eq_true_eq] at h
  have hn := of_decide_eq_false hs
  exact ⟨h.1, rgn_of f k b e s (h.2 0 (by decide)) (fun c => hn ⟨0, by decide, .inl c⟩) (fun c => hn ⟨0, by decide, .inr c⟩)⟩
/-- Of two. -/
theorem rgn_two {f m : Int} {ka kb : Int} {na nb : Bool} {ea eb : Int} {sa sb : ByteArray} (h : rightB f m 2 (tw2 ka kb) (tw2 na nb) (tw2 ea eb) (tw2 sa sb) = true) (hs : spB 2 (tw2 ka kb) = false) : (1 ≤ m ∧ m ≤ 5) ∧ Rgn f ka ea sa ∧ Rgn f kb eb sb := by
  unfold rightB at h
  simp only [Bool.and_eq_true, decide_eq_true_eq] at h
  have hn := of_decide_eq_false hs
  exact ⟨h.1, rgn_of f ka na ea sa (h.2 0 (by decide)) (fun c => hn ⟨0, by decide, .inl c⟩) (fun c => hn ⟨0, by decide, .inr c⟩), rgn_of f kb nb eb sb (h.2 1 (by decide)) (fun c => hn ⟨1, by decide, .inl c⟩) (fun c => hn ⟨1, by decide, .inr c⟩)⟩
theorem Rgn.tn {f k e : Int} {s : ByteArray} (h : Rgn f k e s) (hk : k = 1) : s = tn (vl (dl s)) ∧ Nok (vl (dl s)) ∧ 0 ≤ vl (dl s) ∧ vl (dl s) < 10 ^ (limP f).toNat ∧ (dl s).length ≤ 34 ∧ 1 ≤ (dl s).length ∧ s.size = (dl s).length ∧ (-7000 ≤ e ∧ e ≤ 7000) := by
  obtain ⟨hf, hs, -, h1, -⟩ := h
  obtain ⟨c, l, x, y⟩ := h1 hk
  have hL := lims f hf
  have hb := vl_bd (dl s) c.1
  have h34 : (dl s).length ≤ 34 := by omega
  have hp := c.2.1
  refine ⟨?_, ⟨hb.1, Int.lt_of_lt_of_le hb.2 (pow_mono _ _ (by omega))⟩, hb.1, Int.lt_of_lt_of_le hb.2 (pow_mono _ _ (by omega)), h34, hp, ?_, by omega, by omega⟩
  · show s = tx (nt (vl (dl s)))
    rw [← nt_of (dl s) (vl (dl s)) c rfl (by omega)]; exact hs
  · rw [hs, tx_size, ← hs]
theorem Rgn.small {f k e : Int} {s : ByteArray} (h : Rgn f k e s) : s.size ≤ 600 := by
  rcases h.2.2.1 with c | c
  · obtain ⟨-, -, -, -, l, -, z, -⟩ := h.tn c; omega
  · rw [(h.2.2.2.2 c).2]; decide
/-- What Whole tells of a right number that is no NaN. -/
def whX (mode : Int) (ka : Int) (na : Bool) (ea : Int) (sa : ByteArray) : R5o :=
  if ka = 2 ∨ 0 ≤ ea then (na, (ka, ea, sa, 0)) else (na, (1, 0, tx (nt (drV mode na (vl (dl sa)) (-ea).toNat)), 0))
/-- What Whole tells. -/
def whR (f mode : Int) (ka : Int) (na : Bool) (ea : Int) (sa : ByteArray) : R5o := ofR f mode 1 (fun _ => ka) (fun _ => na) (fun _ => ea) (fun _ => sa) (whX mode ka na ea sa)
/-- What the closures of operations on one number see. -/
def Cp1 (X : World) (p : Nat) (mode : Int) (ka : Int) (na : Bool) (ea : Int) (sa : ByteArray) : Prop := X.cell? ⟨p, 0, none⟩ = some (.int .i64 mode) ∧ At4r X (p + 1) (.int .i64 ka) (.bool na) (.int .i64 ea) (.string sa)
theorem Cp1.next {X X' : World} {p : Nat} {mode : Int} {ka : Int} {na : Bool} {ea : Int} {sa : ByteArray} (h : Cp1 X p mode ka na ea sa) (hb : Below X.heap.size X X') : Cp1 X' p mode ka na ea sa :=
  ⟨(hb.cell (p := ⟨p, 0, none⟩) (show p < X.heap.size by have := h.2.lt; omega)).trans h.1, h.2.next hb⟩
set_option maxRecDepth 100000 in
set_option maxHeartbeats 1000000 in
theorem whole1_any (p : Nat) (f mode : Int) (ka : Int) (na : Bool) (ea : Int) (sa : ByteArray) (X : World) (hm : 1 ≤ mode ∧ mode ≤ 5) (hr : Rgn f ka ea sa) (hC : Cp1 X p mode ka na ea sa) :
    Calls Tryz.prog 30 #[.pointer (some ⟨p + 1, 0, none⟩), .pointer (some ⟨p, 0, none⟩)] X fun x w' => (x = .returned (rsD (whX mode ka na ea sa).1 (whX mode ka na ea sa).2) ∨ x = thrown (rsD (whX mode ka na ea sa).1 (whX mode ka na ea sa).2)) ∧ Below X.heap.size X w' := by
  have hb0 : Below X.heap.size X (X.alloc (.cells #[.int .i64 0, .bool false, .int .i64 0, .string { data := #[] }, .int .i64 0] 27)) := (Below.refl _ _).alloc (Nat.le_refl _) _
  have HZ : Hid (At5 (X.alloc (.cells #[.int .i64 0, .bool false, .int .i64 0, .string { data := #[] }, .int .i64 0] 27)) X.heap.size (.int .i64 0) (.bool false) (.int .i64 0) (.string { data := #[] }) (.int .i64 0) ∧ Below X.heap.size X (X.alloc (.cells #[.int .i64 0, .bool false, .int .i64 0, .string { data := #[] }, .int .i64 0] 27)) ∧ Cp1 (X.alloc (.cells #[.int .i64 0, .bool false, .int .i64 0, .string { data := #[] }, .int .i64 0] 27)) p mode ka na ea sa) := ⟨at5_new X _ _ _ _ _, hb0, hC.next hb0⟩
  obtain ⟨q0, qa⟩ := HZ.out.2.2
  obtain ⟨a0, a1, a2, a3, a4⟩ := qa.cells
  clear qa hb0 hC
  have HCp : Hid (∀ Y, Calls Tryz.prog 31 #[numV ka na ea sa] Y fun x w' => x = .returned (numV ka na ea sa) ∧ Below Y.heap.size Y w') := fun Y => copied_any ka na ea sa Y hr.small
  by_cases hA : ka = 2 ∨ 0 ≤ ea
  · have EX : Hid (whX mode ka na ea sa = (na, (ka, ea, sa, 0))) := by show _ = _; unfold whX; rw [if_pos hA]
    rw [EX.out]
    have hbr := build_res0 ka na ea sa
    have hk : (ka == 2) = true ∨ ((ka == 2) = false ∧ 0 ≤ ea) := by
      by_cases c : ka = 2
      · exact .inl (by rw [c]; rfl)
      · exact .inr ⟨beq_eq_false_iff_ne.2 c, hA.resolve_left c⟩
    clear hA hr hm EX
    rcases hk with hk | ⟨hk, hge⟩
    · go_enter Tryz.func30, Tryz.ntmps30
      go_wp2_with fail
      refine (HCp.out _).mono ?_
      rintro x w1 ⟨rfl, hb1⟩
      have HZ1 : Hid (At5 w1 X.heap.size (.int .i64 0) (.bool false) (.int .i64 0) (.string { data := #[] }) (.int .i64 0) ∧ Below X.heap.size X w1) := ⟨HZ.out.1.below hb1 HZ.out.1.lt, HZ.out.2.1.trans (hb1.mono HZ.out.2.1.size)⟩
      clear hb1 HZ HCp a0 a1 a2 a3 a4 q0
      go_wp2_with (refine wpList_store_row rfl 27 (.tmp 2) (.tmp 15) rfl X.heap.size #[.int .i64 ka, .bool na, .int .i64 ea, .string sa, .int .i64 0] rfl rfl _ _ HZ1.out.1 (by kernel_rfl) rfl (one5 _ _ _ _ _) ?_)
      have hP := (HZ1.out.1.row (.int .i64 ka) (.bool na) (.int .i64 ea) (.string sa) (.int .i64 0)).cells
      refine bodyPost_ret (results_res rfl _ _ rfl hP.1 hP.2.1 hP.2.2.1 hP.2.2.2.1 hP.2.2.2.2.1) rfl ?_
      exact ⟨.inl rfl, bel_row HZ1.out.2 (Nat.le_refl _) _⟩
    · go_enter Tryz.func30, Tryz.ntmps30
      go_wp2_with fail
      refine (HCp.out _).mono ?_
      rintro x w1 ⟨rfl, hb1⟩
      have HZ1 : Hid (At5 w1 X.heap.size (.int .i64 0) (.bool false) (.int .i64 0) (.string { data := #[] }) (.int .i64 0) ∧ Below X.heap.size X w1) := ⟨HZ.out.1.below hb1 HZ.out.1.lt, HZ.out.2.1.trans (hb1.mono HZ.out.2.1.size)⟩
      clear hb1 HZ HCp a0 a1 a2 a3 a4 q0
      go_wp2_with (refine wpList_store_row rfl 27 (.tmp 2) (.tmp 15) rfl X.heap.size #[.int .i64 ka, .bool na, .int .i64 ea, .string sa, .int .i64 0] rfl rfl _ _ HZ1.out.1 (by kernel_rfl) rfl (one5 _ _ _ _ _) ?_)
      have hP := (HZ1.out.1.row (.int .i64 ka) (.bool na) (.int .i64 ea) (.string sa) (.int .i64 0)).cells
      refine bodyPost_ret (results_res rfl _ _ rfl hP.1 hP.2.1 hP.2.2.1 hP.2.2.2.1 hP.2.2.2.2.1) rfl ?_
      exact ⟨.inl rfl, bel_row HZ1.out.2 (Nat.le_refl _) _⟩
  · have hk1 : ka = 1 := by rcases hr.2.2.1 with c | c; exact c; exact absurd (.inl c) hA
    subst hk1
    have hlt : ¬ (0 ≤ ea) := fun c => hA (.inr c)
    obtain ⟨hs, nk, -, -, l34, l1, hz, he⟩ := hr.tn rfl
    have EX : Hid (whX mode 1 na ea sa = (na, (1, 0, tx (nt (drV mode na (vl (dl sa)) (-ea).toNat)), 0))) := by show _ = _; unfold whX; rw [if_neg hA]
    have e1 : plc (ea - 0) = 0 := by unfold plc; omega
    have e2 : (plc (0 - ea)).toNat = min (-ea).toNat 200 := by unfold plc; omega
    have HWx : Hid (∀ Y, Calls Tryz.prog 28 #[.int .i64 mode, numV 1 na ea sa, .int .i64 0] Y fun x w' => x = .returned (.tuple #[numV 1 na 0 (tx (nt (drV mode na (vl (dl sa)) (-ea).toNat))), .bool (drL (vl (dl sa)) (-ea).toNat)]) ∧ Below Y.heap.size Y w') := fun Y => by
      have := withExp_any mode hm na ea (vl (dl sa)) 0 Y he (by decide) nk (by rw [e1, Int.toNat_zero, Int.pow_zero, Int.mul_one]; exact nk)
      rw [e1, e2, Int.toNat_zero, Int.pow_zero, Int.mul_one, ← hs] at this
      exact this
    rw [EX.out]
    generalize tx (nt (drV mode na (vl (dl sa)) (-ea).toNat)) = T3 at *
    generalize drL (vl (dl sa)) (-ea).toNat = lo at *
    have hbr := build_res0 1 na 0 T3
    clear hA hr hm EX hs nk l34 l1 hz he e1 e2 HCp
    go_enter Tryz.func30, Tryz.ntmps30
    go_wp2_with fail
    refine (HWx.out _).mono ?_
    rintro x w1 ⟨rfl, hb1⟩
    have hb2 : Below w1.heap.size w1 (w1.alloc (.cells #[.int .i64 1, .bool na, .int .i64 0, .string T3] 25)) := (Below.refl _ _).alloc (Nat.le_refl _) _
    have HZ0 : At5 w1 X.heap.size (.int .i64 0) (.bool false) (.int .i64 0) (.string { data := #[] }) (.int .i64 0) ∧ Below X.heap.size X w1 := ⟨HZ.out.1.below hb1 HZ.out.1.lt, HZ.out.2.1.trans (hb1.mono HZ.out.2.1.size)⟩
    have HZ1 : Hid (At5 (w1.alloc (.cells #[.int .i64 1, .bool na, .int .i64 0, .string T3] 25)) X.heap.size (.int .i64 0) (.bool false) (.int .i64 0) (.string { data := #[] }) (.int .i64 0) ∧ Below X.heap.size X (w1.alloc (.cells #[.int .i64 1, .bool na, .int .i64 0, .string T3] 25))) := ⟨HZ0.1.below hb2 HZ0.1.lt, HZ0.2.trans (hb2.mono HZ0.2.size)⟩
    clear hb1 hb2 HZ HZ0 HWx a0 a1 a2 a3 a4 q0
    go_wp2_with (refine wpList_store_row rfl 27 (.tmp 2) (.tmp 23) rfl X.heap.size #[.int .i64 1, .bool na, .int .i64 0, .string T3, .int .i64 0] rfl rfl _ _ HZ1.out.1 (by kernel_rfl) rfl (one5 _ _ _ _ _) ?_)
    have hP := (HZ1.out.1.row (.int .i64 1) (.bool na) (.int .i64 0) (.string T3) (.int .i64 0)).cells
    refine bodyPost_ret (results_res rfl _ _ rfl hP.1 hP.2.1 hP.2.2.1 hP.2.2.2.1 hP.2.2.2.2.1) rfl ?_
    exact ⟨.inl rfl, bel_row HZ1.out.2 (Nat.le_refl _) _⟩
set_option maxRecDepth 100000 in
set_option maxHeartbeats 1000000 in
theorem iWhole_any (f mode : Int) (ka : Int) (na : Bool) (ea : Int) (sa : ByteArray) (w : World) (hsa : sa.size ≤ 4611686018427387904) :
    Calls Tryz.prog 12 #[.int .i64 f, .int .i64 mode, numV ka na ea sa] w fun x w' => x = .returned (rsD (whR f mode ka na ea sa).1 (whR f mode ka na ea sa).2) ∧ Below w.heap.size w w' := by
  have hmf : ∀ (fn : Fn) (first cap : Array Value) (w : World), (Instr.makeFunc fn first cap).run Tryz.prog w = .ok (.func fn first cap) w := fun _ _ _ _ => rfl
  have HE : Hid (∀ args w, (callFunc 30 args).run Tryz.prog w = .ok (.enter 30 args) w) := enters_of Tryz.func30 (by kernel_rfl) rfl
  obtain ⟨W, hW⟩ : ∃ W, ((w.alloc (.cells #[.int .i64 mode] 2)).alloc (.cells #[.int .i64 ka, .bool na, .int .i64 ea, .string sa] 25)).alloc (.cells #[.int .i64 0, .bool false, .int .i64 0, .string { data := #[] }, .int .i64 0] 27) = W := ⟨_, rfl⟩
  have hN : Cp1 W w.heap.size mode ka na ea sa ∧ At5 W (w.heap.size + 2) (.int .i64 0) (.bool false) (.int .i64 0) (.string { data := #[] }) (.int .i64 0) ∧ Below w.heap.size w W ∧ W.heap.size = w.heap.size + 3 := by
    rw [← hW]
    have c1 := new_cell1 w (.int .i64 mode) 2
    have z1 := new_size w (.cells #[.int .i64 mode] 2)
    have b1 : Below w.heap.size w (w.alloc (.cells #[.int .i64 mode] 2)) := (Below.refl _ _).alloc (Nat.le_refl _) _
    generalize w.alloc (.cells #[.int .i64 mode] 2) = w1 at *
    have h2 := at4r_new w1 (.int .i64 ka) (.bool na) (.int .i64 ea) (.string sa)
    have z2 := new_size w1 (.cells #[.int .i64 ka, .bool na, .int .i64 ea, .string sa] 25)
    have b2 : Below w1.heap.size w1 (w1.alloc (.cells #[.int .i64 ka, .bool na, .int .i64 ea, .string sa] 25)) := (Below.refl _ _).alloc (Nat.le_refl _) _
    generalize w1.alloc (.cells #[.int .i64 ka, .bool na, .int .i64 ea, .string sa] 25) = w2 at *
    have h3 := at5_new w2 (.int .i64 0) (.bool false) (.int .i64 0) (.string { data := #[] }) (.int .i64 0)
    have z3 := new_size w2 (.cells #[.int .i64 0, .bool false, .int .i64 0, .string { data := #[] }, .int .i64 0] 27)
    have b3 : Below w2.heap.size w2 (w2.alloc (.cells #[.int .i64 0, .bool false, .int .i64 0, .string { data := #[] }, .int .i64 0] 27)) := (Below.refl _ _).alloc (Nat.le_refl _) _
    rw [z1] at h2
    rw [z2, z1] at h3
    have b23 := b2.trans (b3.mono b2.size)
    exact ⟨⟨(b23.cell (p := ⟨w.heap.size, 0, none⟩) (show w.heap.size < w1.heap.size by omega)).trans c1, h2.next b3⟩, h3, b1.trans (b23.mono b1.size), by omega⟩
  have hb5 : Below W.heap.size W (W.alloc (.cells #[.int .i64 ka, .bool na, .int .i64 ea, .string sa] 25)) := (Below.refl _ _).alloc (Nat.le_refl _) _
  have hg := heap_at W (.cells #[.int .i64 ka, .bool na, .int .i64 ea, .string sa] 25)
  have hz5 := new_size W (.cells #[.int .i64 ka, .bool na, .int .i64 ea, .string sa] 25)
  have HO : Hid (Calls Tryz.prog 23 #[.int .i64 f, .int .i64 mode, .func (.func 30) #[] #[.pointer (some ⟨w.heap.size + 1, 0, none⟩), .pointer (some ⟨w.heap.size, 0, none⟩)], .slice (some ⟨W.heap.size, 0, none⟩) 1 1] (W.alloc (.cells #[.int .i64 ka, .bool na, .int .i64 ea, .string sa] 25)) fun x w' => x = .returned (rsD (whR f mode ka na ea sa).1 (whR f mode ka na ea sa).2) ∧ Below (W.alloc (.cells #[.int .i64 ka, .bool na, .int .i64 ea, .string sa] 25)).heap.size (W.alloc (.cells #[.int .i64 ka, .bool na, .int .i64 ea, .string sa] 25)) w') :=
    ofNumbers_any f mode 30 _ HE.out 1 W.heap.size (fun _ => ka) (fun _ => na) (fun _ => ea) (fun _ => sa) (whX mode ka na ea sa) _ (by decide) (by decide) (by rw [hz5]; omega) (nrwO hg) (fun _ _ => hsa) (fun h1 h2 Y hY => by
      obtain ⟨hm, hr⟩ := rgn_one h1 h2
      exact whole1_any w.heap.size f mode ka na ea sa Y hm hr ((hN.1.next hb5).next hY))
  have HZ : Hid (At5 (W.alloc (.cells #[.int .i64 ka, .bool na, .int .i64 ea, .string sa] 25)) (w.heap.size + 2) (.int .i64 0) (.bool false) (.int .i64 0) (.string { data := #[] }) (.int .i64 0) ∧ Below w.heap.size w (W.alloc (.cells #[.int .i64 ka, .bool na, .int .i64 ea, .string sa] 25))) := ⟨hN.2.1.below hb5 hN.2.1.lt, hN.2.2.1.trans (hb5.mono hN.2.2.1.size)⟩
  rw [hN.2.2.2] at HO
  obtain ⟨q0, qa⟩ := hN.1
  obtain ⟨a0, a1, a2, a3, a4⟩ := qa.cells
  rw [← hW] at HO HZ q0 a0 a1 a2 a3
  clear hW hN hb5 hg hz5 hsa HE qa a4
  generalize whR f mode ka na ea sa = R at *
  obtain ⟨R0, F1, F2, F3, F4⟩ := R
  go_enter Tryz.func12, Tryz.ntmps12
  go_wp2_with fail
  refine HO.out.mono ?_
  rintro x w1 ⟨rfl, hb1⟩
  have HZ1 : Hid (At5 w1 (w.heap.size + 2) (.int .i64 0) (.bool false) (.int .i64 0) (.string { data := #[] }) (.int .i64 0) ∧ Below w.heap.size w w1) := ⟨HZ.out.1.below hb1 HZ.out.1.lt, HZ.out.2.trans (hb1.mono HZ.out.2.size)⟩
  clear hb1 HZ HO q0 a0 a1 a2 a3
  go_wp2_with (refine wpList_store_row rfl 27 (.tmp 6) (.tmp 12) rfl (w.heap.size + 2) #[.int .i64 F1, .bool R0, .int .i64 F2, .string F3, .int .i64 F4] rfl rfl _ _ HZ1.out.1 (by kernel_rfl) rfl (one5 _ _ _ _ _) ?_)
  have hP := (HZ1.out.1.row (.int .i64 F1) (.bool R0) (.int .i64 F2) (.string F3) (.int .i64 F4)).cells
  refine bodyPost_ret (results_res rfl _ _ rfl hP.1 hP.2.1 hP.2.2.1 hP.2.2.2.1 hP.2.2.2.2.1) rfl ?_
  exact ⟨rfl, bel_row HZ1.out.2 (by omega) _⟩
end Go.Proofs.YtmndemegiimagasGreatDoor
