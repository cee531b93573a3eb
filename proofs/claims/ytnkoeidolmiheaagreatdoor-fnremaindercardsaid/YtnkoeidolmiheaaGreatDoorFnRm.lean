/-
  FnRemainder: the law's own walk.
-/
import Derived.Test.YtnkoeidolmiheaaGreatDoorWhp
import Derived.Test.YtnkoeidolmiheaaGreatDoorFup
import Derived.Test.YtnkoeidolmiheaaGreatDoorRmp
import Derived.Test.YtnkoeidolmiheaaGreatDoorExg
import Derived.Test.YtnkoeidolmiheaaGreatDoorIsR2
import Derived.Test.YtnkoeidolmiheaaGreatDoorQtl
import Derived.Test.YtnkoeidolmiheaaGreatDoorDrRm
import Derived.Test.YtnkoeidolmiheaaGreatDoorQta
import Derived.Test.YtnkoeidolmiheaaGreatDoorSpr
import Derived.Test.YtnkoeidolmiheaaGreatDoorRms
import Derived.Test.YtnkoeidolmiheaaGreatDoorOrt
namespace Go.Proofs.YtnkoeidolmiheaaGreatDoor
set_option linter.unusedVariables false
set_option maxRecDepth 100000
theorem cp_infa (f : Int) (na : Bool) (ea : Int) (sa : ByteArray) (nb : Bool) (eb : Int) (sb : ByteArray) (hA : numB f 2 na ea sa = true) (hB : numB f 1 nb eb sb = true) : cpR f 2 na ea sa 1 nb eb sb = if na then -1 else 1 := by
  have hn : nouB 2 sa = false := rfl
  unfold cpR
  rw [hA, hB, Bool.and_self, if_pos rfl, if_neg (by decide), hn, Bool.false_and, if_neg (by decide)]
  have e1 := cu_infb eb sb ea sa
  have e2 := cu_infa ea sa eb sb
  unfold cmpR
  cases na <;> cases nb <;> simp [e1, e2]
/-- Something at most nought, held against nought. -/
theorem cp_most0 (f : Int) (hf : f = 64 ∨ f = 128) (r : Bool × (Int × Int × ByteArray × Int)) (hr : Rgr f r) (h : AtMost 0 0 r) : cpR f r.2.1 r.1 r.2.2.1 r.2.2.2.1 1 false 0 { data := #[48] } = 0 ∨ cpR f r.2.1 r.1 r.2.2.1 r.2.2.2.1 1 false 0 { data := #[48] } = -1 := by
  have hz : numB f 1 false 0 (tx [0]) = true := wh_num f hf false 0 [0] canon_zero (by rcases hf with rfl | rfl <;> decide) (by rcases hf with rfl | rfl <;> decide) (by rcases hf with rfl | rfl <;> decide)
  obtain ⟨g, k, E, S, F⟩ := r
  unfold Rgr at hr
  rw [← tx_0]
  rcases h with ⟨h1, h2⟩ | ⟨h1, R, hS, dR, hv⟩
  · dsimp only at h1 h2 hr ⊢
    subst h1 h2
    exact .inr (cp_infa f true E S false 0 (tx [0]) hr hz)
  · dsimp only at h1 hS hv hr ⊢
    subst h1 hS
    obtain ⟨-, -, -, c⟩ := right_two f 1 g E (tx R) hr (by decide) (by decide)
    have cR := (c rfl).1
    rw [dl_tx R dR] at cR
    exact cp_le f g E R false 0 [0] hr hz cR canon_zero (by rw [show vl [0] = 0 from rfl, sgv_0]; exact hv)
theorem tx_2 : tx [2] = { data := #[50] } := by apply ByteArray.ext; rw [tx_data]; rfl
theorem canon_2 : Canon [2] := ⟨fun d hd => by simp at hd; omega, by simp, .inl rfl⟩
/-- ALL THAT FnRemainder WANTS of two finite numbers with a finite remainder. -/
theorem rm_fin (f : Int) (na : Bool) (ea : Int) (sa : ByteArray) (nb : Bool) (eb : Int) (sb : ByteArray) (hA : numB f 1 na ea sa = true) (hB : numB f 1 nb eb sb = true) (R0 : Bool) (F2 : Int) (F3 : ByteArray) (F4 : Int) (h : rmR f 1 na ea sa 1 nb eb sb = (R0, (1, F2, F3, F4))) :
    F4 = 0 ∧ numB f 1 R0 F2 F3 = true ∧ Rgr f (fmaR f 3 1 false F2 F3 1 false 0 { data := #[50] } 1 true eb sb)
      ∧ (cpR f (fmaR f 3 1 false F2 F3 1 false 0 { data := #[50] } 1 true eb sb).2.1 (fmaR f 3 1 false F2 F3 1 false 0 { data := #[50] } 1 true eb sb).1 (fmaR f 3 1 false F2 F3 1 false 0 { data := #[50] } 1 true eb sb).2.2.1 (fmaR f 3 1 false F2 F3 1 false 0 { data := #[50] } 1 true eb sb).2.2.2.1 1 false 0 { data := #[48] } = 0
        ∨ cpR f (fmaR f 3 1 false F2 F3 1 false 0 { data := #[50] } 1 true eb sb).2.1 (fmaR f 3 1 false F2 F3 1 false 0 { data := #[50] } 1 true eb sb).1 (fmaR f 3 1 false F2 F3 1 false 0 { data := #[50] } 1 true eb sb).2.2.1 (fmaR f 3 1 false F2 F3 1 false 0 { data := #[50] } 1 true eb sb).2.2.2.1 1 false 0 { data := #[48] } = -1) := by
  obtain ⟨hf, ea1, -, ca⟩ := right_two f 1 na ea sa hA (by decide) (by decide)
  obtain ⟨-, eb1, -, cb⟩ := right_two f 1 nb eb sb hB (by decide) (by decide)
  obtain ⟨q1, l1, x1, y1⟩ := ca rfl
  obtain ⟨q2, l2, x2, y2⟩ := cb rfl
  have hL := lims f hf
  have hP : limP f = ((limP f).toNat : Int) ∧ 2 ≤ (limP f).toNat ∧ (limP f).toNat ≤ 34 := by rcases hf with rfl | rfl <;> decide
  have hR : rightB f 1 2 (tw2 1 1) (tw2 na nb) (tw2 ea eb) (tw2 sa sb) = true := by
    unfold rightB
    rw [show decide ((1 : Int) ≤ 1 ∧ (1 : Int) ≤ 5) = true from rfl, Bool.true_and]
    refine decide_eq_true fun i hi => ?_
    match i, hi with
    | 0, _ => exact hA
    | 1, _ => exact hB
  have hS : spB 2 (tw2 1 1) = false := by rw [spB2]; decide
  unfold rmR ofR at h
  rw [hR, if_pos rfl, hS, if_neg (by decide)] at h
  unfold rmX at h
  have three : ∀ (P : Prop), (false, ((3 : Int), (0 : Int), ({ data := #[] } : ByteArray), (1 : Int))) = (R0, (1, F2, F3, F4)) → P := fun P q => absurd (congrArg (fun t : Bool × Int × Int × ByteArray × Int => t.2.1) q) (show ¬ (3 : Int) = 1 by decide)
  by_cases hz : zB 1 sb = true
  · rw [if_pos (.inr hz)] at h; exact three _ h
  rw [if_neg (by rintro (q | q); · cases q
                 · exact hz q), if_neg (by decide)] at h
  by_cases hd : 160 < max ea eb - min ea eb
  · rw [if_pos hd] at h; exact three _ h
  rw [if_neg hd] at h
  have hb0 : vl (dl sb) ≠ 0 := fun q => hz (by unfold zB; simp [q])
  obtain ⟨-, -, bp, -, -, -, rP, r0, r1, ru⟩ := rm_size f hf (dl sa) (dl sb) q1 q2 l1 l2 hb0 ea eb hd
  -- what remains
  obtain ⟨x, hx, x0, xP, xB⟩ : ∃ x : Int, ((1 : Int), F2, F3, F4) = (1, min ea eb, tn x, 0) ∧ 0 ≤ x ∧ x < 10 ^ (limP f).toNat ∧ 2 * x ≤ rmV (vl (dl sb)) eb ea := by
    cases hu : rmUp (rmV (vl (dl sa)) ea eb) (rmV (vl (dl sb)) eb ea) with
    | true =>
      rw [hu, if_pos rfl] at h
      have := ru hu
      exact ⟨rmV (vl (dl sb)) eb ea - rmV (vl (dl sa)) ea eb % rmV (vl (dl sb)) eb ea, (congrArg Prod.snd h).symm, by omega, by omega, by omega⟩
    | false =>
      rw [hu, if_neg (by decide)] at h
      have h2 : ¬ rmV (vl (dl sb)) eb ea < rmV (vl (dl sa)) ea eb % rmV (vl (dl sb)) eb ea + rmV (vl (dl sa)) ea eb % rmV (vl (dl sb)) eb ea := fun q => by
        unfold rmUp at hu
        rw [decide_eq_true q] at hu
        cases hu
      exact ⟨_, (congrArg Prod.snd h).symm, r0, rP, by omega⟩
  obtain ⟨-, rfl, rfl, rfl⟩ : (1 : Int) = 1 ∧ F2 = min ea eb ∧ F3 = tn x ∧ F4 = 0 := by simpa only [Prod.mk.injEq] using hx
  clear h hx three
  obtain ⟨cN, vN⟩ := nt_spec x x0 (Int.lt_of_lt_of_le xP (pow_mono _ _ (by omega)))
  have lN := canon_le _ cN (limP f).toNat (by omega) (by rw [vN]; exact xP)
  have htn : tn x = tx (nt x) := rfl
  have hM1 : limL f ≤ min ea eb := by omega
  have hM2 : min ea eb ≤ limH f := by omega
  have hN : ∀ n, numB f 1 n (min ea eb) (tx (nt x)) = true := fun n => wh_num f hf n _ (nt x) cN (by omega) hM1 hM2
  have h2 : numB f 1 false 0 { data := #[50] } = true := by
    rw [← tx_2]
    exact wh_num f hf false 0 [2] canon_2 (by rcases hf with rfl | rfl <;> decide) (by rcases hf with rfl | rfl <;> decide) (by rcases hf with rfl | rfl <;> decide)
  have hBt : numB f 1 true eb sb = true := by rw [numB_sign f true nb]; exact hB
  have hO : fmaO f 3 1 false (min ea eb) (tx (nt x)) 1 false 0 { data := #[50] } 1 true eb sb = true := by
    unfold fmaO; rw [hN, h2, hBt]; rfl
  rw [htn]
  have hRg := fmaR_right f 3 1 false (min ea eb) (tx (nt x)) 1 false 0 { data := #[50] } 1 true eb sb hO
  refine ⟨rfl, hN R0, hRg, ?_⟩
  have d2 : dl { data := #[50] } = [2] := by rw [← tx_2]; exact dl_tx [2] canon_2.1
  have hF : fmaR f 3 1 false (min ea eb) (tx (nt x)) 1 false 0 { data := #[50] } 1 true eb sb = sumX f 3 false (min ea eb) (nt (x * 2)) true eb (dl sb) := by
    have hB3 : spB 3 (tw3 1 1 1) = false := by rw [spB3]; decide
    unfold fmaR
    rw [hO, if_pos rfl, hB3, if_neg (by decide)]
    unfold fmaX
    rw [if_pos ⟨rfl, rfl⟩, dl_tx (nt x) cN.1, d2, vN, show vl [2] = 2 from rfl, Int.add_zero]
    unfold addX
    rw [if_neg (by decide), if_neg (by decide), if_neg (by decide)]
    rfl
  refine cp_most0 f hf _ hRg ?_
  rw [hF]
  have e35 : (10 : Int) ^ ((limP f).toNat + 1) = 10 ^ (limP f).toNat * 10 := Int.pow_succ ..
  obtain ⟨c2, v2⟩ := nt_spec (x * 2) (by omega) (Int.lt_of_lt_of_le (show x * 2 < 10 ^ ((limP f).toNat + 1) by omega) (pow_mono _ _ (by omega)))
  have lN2 := canon_le _ c2 ((limP f).toNat + 1) (by omega) (by rw [v2]; omega)
  refine (sumX_floor f hf false (min ea eb) (nt (x * 2)) true eb (dl sb) c2 q2 (by omega)).of ?_
  have hm : min (min ea eb) eb = min ea eb := by omega
  rw [hm]
  refine LV.trans (v' := 0) (e' := min ea eb) (lv_same ?_) (sv_zero _ _).lv
  unfold sumS
  rw [v2, show (min ea eb - min ea eb).toNat = 0 by omega, Int.pow_zero, Int.mul_one, show sgv false (x * 2) = x * 2 from rfl, show sgv true (vl (dl sb)) = -vl (dl sb) from rfl, Int.neg_mul]
  unfold rmV at xB
  rw [show min eb ea = min ea eb by omega] at xB
  omega
end Go.Proofs.YtnkoeidolmiheaaGreatDoor
namespace Go.Proofs.YtnkoeidolmiheaaGreatDoor
open Go.RowKit
set_option linter.unusedVariables false
set_option maxRecDepth 100000
theorem turned_any (k : Int) (b : Bool) (e : Int) (s : ByteArray) (w : World) : Calls Tryz.prog 20 #[numV k b e s] w fun x w' => x = .returned (numV k (tuB k b) e s) ∧ Below w.heap.size w w' := by
  by_cases h1 : k = 1
  · subst h1
    rw [show tuB 1 b = !b from if_pos (.inl rfl)]
    go_enter Tryz.func20, Tryz.ntmps20
    go_wp2
    have hP := at4_new (w.alloc (.cells #[.int .i64 1, .bool (!b), .int .i64 e, .string s] 25)) (.int .i64 1) (.bool (!b)) (.int .i64 e) (.string s)
    rw [show (w.alloc (.cells #[.int .i64 1, .bool (!b), .int .i64 e, .string s] 25)).heap.size = w.heap.size + 1 by simp] at hP
    refine bodyPost_ret (results_num rfl _ _ rfl hP.1 hP.2.1 hP.2.2.1 hP.2.2.2.1) rfl ?_
    exact ⟨rfl, bel_two _ _ _⟩
  · by_cases h2 : k = 2
    · subst h2
      rw [show tuB 2 b = !b from if_pos (.inr rfl)]
      go_enter Tryz.func20, Tryz.ntmps20
      go_wp2
      have hP := at4_new (w.alloc (.cells #[.int .i64 2, .bool (!b), .int .i64 e, .string s] 25)) (.int .i64 2) (.bool (!b)) (.int .i64 e) (.string s)
      rw [show (w.alloc (.cells #[.int .i64 2, .bool (!b), .int .i64 e, .string s] 25)).heap.size = w.heap.size + 1 by simp] at hP
      refine bodyPost_ret (results_num rfl _ _ rfl hP.1 hP.2.1 hP.2.2.1 hP.2.2.2.1) rfl ?_
      exact ⟨rfl, bel_two _ _ _⟩
    · rw [show tuB k b = b from if_neg (fun h => h.elim h1 h2)]
      have c1 : (k == 1) = false := beq_eq_false_iff_ne.2 h1
      have c2 : (k == 2) = false := beq_eq_false_iff_ne.2 h2
      clear h1 h2
      go_enter Tryz.func20, Tryz.ntmps20
      go_wp2
      have hP := at4_new (w.alloc (.cells #[.int .i64 k, .bool b, .int .i64 e, .string s] 25)) (.int .i64 k) (.bool b) (.int .i64 e) (.string s)
      rw [show (w.alloc (.cells #[.int .i64 k, .bool b, .int .i64 e, .string s] 25)).heap.size = w.heap.size + 1 by simp] at hP
      refine bodyPost_ret (results_num rfl _ _ rfl hP.1 hP.2.1 hP.2.2.1 hP.2.2.2.1) rfl ?_
      exact ⟨rfl, bel_two _ _ _⟩
end Go.Proofs.YtnkoeidolmiheaaGreatDoor
namespace Go.Proofs.YtnkoeidolmiheaaGreatDoor
open Go.RowKit
set_option linter.unusedVariables false
set_option maxRecDepth 100000
set_option maxRecDepth 100000 in
theorem lowered_any (na : Bool) (ea v e : Int) (w : World) (hea : -7000 ≤ ea ∧ ea ≤ 7000) (he : -7000 ≤ e ∧ e ≤ 7000) (h0 : 0 ≤ ea - e) (h1 : ea - e ≤ 200) (hv : Nok v) (hv2 : Nok (v * 10 ^ (ea - e).toNat)) :
    Calls Tryz.prog 81 #[numV 1 na ea (tn v), .int .i64 e] w fun x w' => x = .returned (numV 1 na e (tn (v * 10 ^ (ea - e).toNat))) ∧ Below w.heap.size w w' := by
  have HS : Hid (∀ X, Calls Tryz.prog 54 #[.string (tn v), .int .i64 (ea - e)] X fun x w' => x = .returned (.string (tn (v * 10 ^ (ea - e).toNat))) ∧ Below X.heap.size X w') := fun X => by
    have := iNatShift_any (tn v) (ea - e) X (tnSz v)
    rwa [shift_tn hv hv2 h0 h1] at this
  have hw1 : IntKind.i64.wrap (ea - e) = ea - e := by rw [IntKind.wrap_i64]; omega
  generalize tn (v * 10 ^ (ea - e).toNat) = T2 at *
  generalize tn v = T1 at *
  have hbn := build_num 1 na e T2
  clear hv hv2 hea he h0 h1
  have HN : Hid (N2 w 1 na ea T1 ((w.alloc (.cells #[.int .i64 1, .bool na, .int .i64 ea, .string T1] 25)).alloc (.cells #[.int .i64 0, .bool false, .int .i64 0, .string { data := #[] }] 25))) := n2_new w 1 na ea T1
  go_enter Tryz.func81, Tryz.ntmps81
  go_upto_region 1 with fail
  generalize (w.alloc (.cells #[.int .i64 1, .bool na, .int .i64 ea, .string T1] 25)).alloc (.cells #[.int .i64 0, .bool false, .int .i64 0, .string { data := #[] }] 25) = w0 at *
  have HX0 : Hid (Below w0.heap.size w0 w0.drew) := (Below.refl _ _).drew
  refine wp_region_tail (C := fun W => Below w0.heap.size w0 W) 11 (by kernel_rfl) (by kernel_rfl) HX0.out ?_
  simp only [List.take_succ_cons, List.take_zero, List.drop_succ_cons, List.drop_zero]
  repeat (refine wpQuiet_step (fun K hK => ?_); go_simp; first | (refine hK _ ?_; clear hK K) | (apply Exists.intro; refine ⟨fun wx hC => ?_, hK _ ?_⟩; (first | exact rfl | ((with_reducible refine Calls.class_of (HS.out wx) ?_); exact fun w' hb => bel1 hC hb) | (obtain ⟨a0, a1, a2, a3, a4⟩ := (HN.out.next hC).1.cells; go_simp; exact rfl)); clear hK K))
  refine wpQuiet_nil ?_
  intro w1 hb1
  have HN1 : Hid (N2 w 1 na ea T1 w1) := HN.out.next hb1
  clear hb1 HN HX0 HS
  go_wp2_with (refine wpList_store_row rfl 25 (.tmp 4) (.tmp 15) rfl (w.heap.size + 1) #[.int .i64 1, .bool na, .int .i64 e, .string T2] rfl rfl _ _ HN1.out.2.1 (by kernel_rfl) rfl (one4 _ _ _ _) ?_)
  have hP := (HN1.out.2.1.row (.int .i64 1) (.bool na) (.int .i64 e) (.string T2)).cells
  refine bodyPost_ret (results_num rfl _ _ rfl hP.1 hP.2.1 hP.2.2.1 hP.2.2.2.1) rfl ?_
  exact ⟨rfl, bel_row HN1.out.2.2 (by omega) _⟩
theorem build_cut2 (od : Bool) (p : Int) (w : World) : (Instr.build 143 #[(1, .bool od), (2, .int .i64 p)]).run Tryz.prog w = .ok (cutV false od p) w := run_build w _ _ _ (by kernel_rfl)
set_option maxRecDepth 100000 in
set_option maxHeartbeats 1000000 in
theorem remainderOf_any (na nb : Bool) (e x y : Int) (w : World) (nx : Nok x) (ny : Nok y) (hy : 0 < y) (nq : Nok (x / y)) (nr : Nok (x % y)) (n2 : Nok (x % y + x % y)) (hr1 : x % y < y) :
    Calls Tryz.prog 80 #[numV 1 na e (tn x), numV 1 nb e (tn y)] w fun r w' => r = .returned (if rmUp x y then numV 1 (!na) e (tn (y - x % y)) else numV 1 na e (tn (x % y))) ∧ Below w.heap.size w w' := by
  have HDv : Hid (∀ X, Calls Tryz.prog 141 #[.string (tn x), .string (tn y)] X fun r w' => r = .returned (.tuple #[.string (tn (x / y)), .string (tn (x % y))]) ∧ Below X.heap.size X w') := fun X => by
    have := iNatDiv_any (tn x) (tn y) X (tnSz _) (tnSz _)
    rwa [(div_tn nx ny (Int.ne_of_gt hy)).1, (div_tn nx ny (Int.ne_of_gt hy)).2] at this
  have HAd : Hid (∀ X, Calls Tryz.prog 143 #[.string (tn (x % y)), .string (tn (x % y))] X fun r w' => r = .returned (.string (tn (x % y + x % y))) ∧ Below X.heap.size X w') := fun X => by
    have := iNatAdd_any (tn (x % y)) (tn (x % y)) X (tnSz _) (tnSz _)
    rwa [add_tn nr nr, fit_tn n2] at this
  have HCm : Hid (∀ X, Calls Tryz.prog 142 #[.string (tn (x % y + x % y)), .string (tn y)] X fun r w' => r = .returned (.int .i64 (cmpI (x % y + x % y) y)) ∧ Below X.heap.size X w') := fun X => by
    have := iNatCmp_any (tn (x % y + x % y)) (tn y) X (tnSz _) (tnSz _)
    rwa [cmp_tn n2 ny] at this
  have HSb : Hid (∀ X, Calls Tryz.prog 146 #[.string (tn y), .string (tn (x % y))] X fun r w' => r = .returned (.string (tn (y - x % y))) ∧ Below X.heap.size X w') := fun X => by
    have := iNatSub_any (tn y) (tn (x % y)) X (tnSz _) (tnSz _)
    rwa [sub_tn ny nr (by omega)] at this
  have HOd : Hid (∀ X, Calls Tryz.prog 145 #[.string (tn (x / y))] X fun r w' => r = .returned (.bool (decide (x / y % 2 = 1))) ∧ w' = X) := fun X => by
    have := iOdd_any (nt (x / y)) (nok_spec nq).1.1 (by have := (nok_spec nq).1.2.1; omega) (by have := nok_len nq; omega) X
    rwa [(nok_spec nq).2] at this
  have hcm : cmpI (x % y + x % y) y = -1 ∨ cmpI (x % y + x % y) y = 0 ∨ cmpI (x % y + x % y) y = 1 := by
    unfold cmpI; split
    · exact .inl rfl
    · split
      · exact .inr (.inr rfl)
      · exact .inr (.inl rfl)
  have hgr : ∀ od, rmUp x y = (decide (y < x % y + x % y) || (decide (x % y + x % y = y) && decide (x / y % 2 = 1))) ∧ grw 1 false od (2 + cmpI (x % y + x % y) y) = (decide (y < x % y + x % y) || (decide (x % y + x % y = y) && od)) := fun od => by
    refine ⟨rfl, ?_⟩
    unfold grw cmpI
    rw [if_pos rfl]
    by_cases c1 : x % y + x % y < y
    · rw [if_pos c1, decide_eq_false (show ¬ y < x % y + x % y by omega), decide_eq_false (show ¬ x % y + x % y = y by omega)]; rfl
    · rw [if_neg c1]
      by_cases c2 : y < x % y + x % y
      · rw [if_pos c2, decide_eq_true c2]; rfl
      · rw [if_neg c2, decide_eq_false c2, decide_eq_true (show x % y + x % y = y by omega)]; rfl
  obtain ⟨od, hod⟩ : ∃ o, decide (x / y % 2 = 1) = o := ⟨_, rfl⟩
  have hup : grw 1 false od (2 + cmpI (x % y + x % y) y) = rmUp x y := by rw [(hgr od).1, (hgr od).2, hod]
  rw [hod] at HOd
  have hp4 : 2 + cmpI (x % y + x % y) y = 0 ∨ 2 + cmpI (x % y + x % y) y = 1 ∨ 2 + cmpI (x % y + x % y) y = 2 ∨ 2 + cmpI (x % y + x % y) y = 3 := by omega
  have hwp : IntKind.i64.wrap (2 + cmpI (x % y + x % y) y) = 2 + cmpI (x % y + x % y) y := by rw [IntKind.wrap_i64]; omega
  have HGr : Hid (∀ X, Calls Tryz.prog 144 #[cutV false od (2 + cmpI (x % y + x % y) y)] X fun r w' => r = .returned (.bool (rmUp x y)) ∧ Below X.heap.size X w') := fun X => by
    have := grow1 false od (2 + cmpI (x % y + x % y) y) hp4 X
    rwa [hup] at this
  have hbc := build_cut2 od (2 + cmpI (x % y + x % y) y)
  generalize cmpI (x % y + x % y) y = cc at *
  generalize tn (y - x % y) = TS at *
  generalize tn (x % y + x % y) = TD at *
  generalize tn (x / y) = TQ at *
  generalize tn (x % y) = TR at *
  generalize tn x = TX at *
  generalize tn y = TY at *
  generalize rmUp x y = up at *
  clear nx ny hy nq nr n2 hr1 hcm hgr hod hup hp4
  have HN : Hid (N3 w 1 na e TX 1 nb e TY (n3W w 1 na e TX 1 nb e TY)) := n3_new w 1 na e TX 1 nb e TY
  obtain ⟨a0, a1, a2, a3, a4⟩ := HN.out.1.cells
  obtain ⟨c0, c1, c2, c3, c4⟩ := HN.out.2.1.cells
  go_enter Tryz.func80, Tryz.ntmps80
  go_wp2_with fail
  refine (HDv.out _).mono ?_
  rintro r w1 ⟨rfl, hb1⟩
  have HN1 : Hid (N3 w 1 na e TX 1 nb e TY w1) := HN.out.next hb1
  clear hb1 HN HDv a0 a1 a2 a3 a4 c0 c1 c2 c3 c4
  go_upto_region 2 with fail
  have HX0 : Hid (Below w1.heap.size w1 w1.drew) := (Below.refl _ _).drew
  refine wp_region_class (C := fun W => Below w1.heap.size w1 W) (by kernel_rfl) (by kernel_rfl) HX0.out ?_
  repeat (refine wpQuiet_step (fun K hK => ?_); go_simp; first | (refine hK _ ?_; clear hK K) | (apply Exists.intro; refine ⟨fun wx hC => ?_, hK _ ?_⟩; (first | exact rfl | ((with_reducible refine Calls.class_of (HAd.out wx) ?_); exact fun w' hb => bel1 hC hb) | ((with_reducible refine Calls.class_of (HCm.out wx) ?_); exact fun w' hb => bel1 hC hb) | (obtain ⟨a0, a1, a2, a3, a4⟩ := (HN1.out.next hC).2.1.cells; go_simp; exact rfl)); clear hK K))
  refine wpQuiet_nil ?_
  intro w2 hb2
  have HN2 : Hid (N3 w 1 na e TX 1 nb e TY w2) := HN1.out.next hb2
  clear hb2 HN1 HX0 HAd HCm hwp
  go_wp2_with fail
  refine (HOd.out _).mono ?_
  rintro r wx ⟨rfl, rfl⟩
  go_wp2_with fail
  refine (HGr.out _).mono ?_
  rintro r w3 ⟨rfl, hb3⟩
  have HN3 : Hid (N3 w 1 na e TX 1 nb e TY w3) := HN2.out.next hb3
  clear hb3 HN2 HGr HOd hbc
  cases up with
  | true =>
    have hbn := build_num 1 (!na) e TS
    go_upto_region 4 with fail
    have HX1 : Hid (Below w3.heap.size w3 w3.drew) := (Below.refl _ _).drew
    refine wp_region_tail (C := fun W => Below w3.heap.size w3 W) 10 (by kernel_rfl) (by kernel_rfl) HX1.out ?_
    simp only [List.take_succ_cons, List.take_zero, List.drop_succ_cons, List.drop_zero]
    repeat (refine wpQuiet_step (fun K hK => ?_); go_simp; first | (refine hK _ ?_; clear hK K) | (apply Exists.intro; refine ⟨fun wx hC => ?_, hK _ ?_⟩; (first | exact rfl | ((with_reducible refine Calls.class_of (HSb.out wx) ?_); exact fun w' hb => bel1 hC hb) | (obtain ⟨a0, a1, a2, a3, a4⟩ := (HN3.out.next hC).1.cells; go_simp; exact rfl) | (obtain ⟨a0, a1, a2, a3, a4⟩ := (HN3.out.next hC).2.1.cells; go_simp; exact rfl)); clear hK K))
    refine wpQuiet_nil ?_
    intro w4 hb4
    have HN4 : Hid (N3 w 1 na e TX 1 nb e TY w4) := HN3.out.next hb4
    clear hb4 HN3 HX1 HSb
    go_wp2_with (refine wpList_store_row rfl 25 (.tmp 4) (.tmp 37) rfl (w.heap.size + 2) #[.int .i64 1, .bool (!na), .int .i64 e, .string TS] rfl rfl _ _ HN4.out.2.2.1 (by kernel_rfl) rfl (one4 _ _ _ _) ?_)
    have hP := (HN4.out.2.2.1.row (.int .i64 1) (.bool (!na)) (.int .i64 e) (.string TS)).cells
    refine bodyPost_ret (results_num rfl _ _ rfl hP.1 hP.2.1 hP.2.2.1 hP.2.2.2.1) rfl ?_
    exact ⟨rfl, bel_row HN4.out.2.2.2 (by omega) _⟩
  | false =>
    have hbn := build_num 1 na e TR
    obtain ⟨a0, a1, a2, a3, a4⟩ := HN3.out.1.cells
    go_wp2_with (refine wpList_store_row rfl 25 (.tmp 4) (.tmp 43) rfl (w.heap.size + 2) #[.int .i64 1, .bool na, .int .i64 e, .string TR] rfl rfl _ _ HN3.out.2.2.1 (by kernel_rfl) rfl (one4 _ _ _ _) ?_)
    have hP := (HN3.out.2.2.1.row (.int .i64 1) (.bool na) (.int .i64 e) (.string TR)).cells
    refine bodyPost_ret (results_num rfl _ _ rfl hP.1 hP.2.1 hP.2.2.1 hP.2.2.2.1) rfl ?_
    exact ⟨rfl, bel_row HN3.out.2.2.2 (by omega) _⟩
/-- Two numbers that a closure sees. -/
def CpR (X : World) (p : Nat) (ka : Int) (na : Bool) (ea : Int) (sa : ByteArray) (kb : Int) (nb : Bool) (eb : Int) (sb : ByteArray) : Prop :=
  At4r X p (.int .i64 ka) (.bool na) (.int .i64 ea) (.string sa) ∧ At4r X (p + 1) (.int .i64 kb) (.bool nb) (.int .i64 eb) (.string sb)
theorem CpR.next {X X' : World} {p : Nat} {ka : Int} {na : Bool} {ea : Int} {sa : ByteArray} {kb : Int} {nb : Bool} {eb : Int} {sb : ByteArray} (h : CpR X p ka na ea sa kb nb eb sb) (hb : Below X.heap.size X X') : CpR X' p ka na ea sa kb nb eb sb := ⟨h.1.next hb, h.2.next hb⟩
set_option maxRecDepth 100000 in
set_option maxHeartbeats 2000000 in
theorem remainder1_any (p : Nat) (f : Int) (ka : Int) (na : Bool) (ea : Int) (sa : ByteArray) (kb : Int) (nb : Bool) (eb : Int) (sb : ByteArray) (X : World) (hr : Rgn f ka ea sa) (hrb : Rgn f kb eb sb) (hC : CpR X p ka na ea sa kb nb eb sb) :
    Calls Tryz.prog 78 #[.pointer (some ⟨p, 0, none⟩), .pointer (some ⟨p + 1, 0, none⟩)] X fun x w' => (x = .returned (rsD (rmX ka na ea sa kb eb sb).1 (rmX ka na ea sa kb eb sb).2) ∨ x = thrown (rsD (rmX ka na ea sa kb eb sb).1 (rmX ka na ea sa kb eb sb).2)) ∧ Below X.heap.size X w' := by
  have hb0 : Below X.heap.size X (X.alloc (.cells #[.int .i64 0, .bool false, .int .i64 0, .string { data := #[] }, .int .i64 0] 29)) := (Below.refl _ _).alloc (Nat.le_refl _) _
  have HZ : Hid (At5 (X.alloc (.cells #[.int .i64 0, .bool false, .int .i64 0, .string { data := #[] }, .int .i64 0] 29)) X.heap.size (.int .i64 0) (.bool false) (.int .i64 0) (.string { data := #[] }) (.int .i64 0) ∧ Below X.heap.size X (X.alloc (.cells #[.int .i64 0, .bool false, .int .i64 0, .string { data := #[] }, .int .i64 0] 29)) ∧ CpR (X.alloc (.cells #[.int .i64 0, .bool false, .int .i64 0, .string { data := #[] }, .int .i64 0] 29)) p ka na ea sa kb nb eb sb) := ⟨at5_new X _ _ _ _ _, hb0, hC.next hb0⟩
  have HNb : Hid (∀ Y, Calls Tryz.prog 48 #[numV kb nb eb sb] Y fun x w' => x = .returned (.bool (zB kb sb)) ∧ Below Y.heap.size Y w') := fun Y => isNought_rgn hrb nb Y
  have HCp : Hid (∀ Y, Calls Tryz.prog 79 #[numV ka na ea sa] Y fun x w' => x = .returned (numV ka na ea sa) ∧ Below Y.heap.size Y w') := fun Y => copied_any ka na ea sa Y hr.small
  obtain ⟨R, hR⟩ : ∃ R, rmX ka na ea sa kb eb sb = R := ⟨_, rfl⟩
  rw [hR]
  unfold rmX at hR
  obtain ⟨qa, qb⟩ := HZ.out.2.2
  obtain ⟨a0, a1, a2, a3, a4⟩ := qa.cells
  obtain ⟨c0, c1, c2, c3, c4⟩ := qb.cells
  clear qa qb hb0 hC
  by_cases hA : ka = 2
  · subst hA
    rw [if_pos (.inl rfl)] at hR
    subst hR
    clear hr hrb HCp HNb
    go_enter Tryz.func78, Tryz.ntmps78
    go_wp2_with fail
    refine (iInvalid_any _).mono ?_
    rintro x w4 ⟨rfl, hb4⟩
    go_wp2
    exact ⟨rfl, .inr rfl, HZ.out.2.1.trans (hb4.mono HZ.out.2.1.size)⟩
  have hk1 : ka = 1 := hr.2.2.1.resolve_right hA
  subst hk1
  by_cases hzb : zB kb sb = true
  · rw [if_pos (.inr hzb)] at hR
    subst hR
    rw [hzb] at HNb
    clear hr hrb HCp hzb hA
    go_enter Tryz.func78, Tryz.ntmps78
    go_wp2_with fail
    refine (HNb.out _).mono ?_
    rintro x w1 ⟨rfl, hb1⟩
    have HB1 : Hid (Below X.heap.size X w1) := HZ.out.2.1.trans (hb1.mono HZ.out.2.1.size)
    clear hb1 HZ HNb a0 a1 a2 a3 a4 c0 c1 c2 c3 c4
    go_wp2_with fail
    refine (iInvalid_any _).mono ?_
    rintro x w4 ⟨rfl, hb4⟩
    go_wp2
    exact ⟨rfl, .inr rfl, HB1.out.trans (hb4.mono HB1.out.size)⟩
  have hzf : zB kb sb = false := by simpa using hzb
  rw [if_neg (fun c => c.elim hA hzb)] at hR
  rw [hzf] at HNb
  by_cases hB : kb = 2
  · rw [if_pos hB] at hR
    subst hR hB
    have hbr := build_res0 1 na ea sa
    clear hr hrb hzb hzf hA
    go_enter Tryz.func78, Tryz.ntmps78
    go_wp2_with fail
    refine (HNb.out _).mono ?_
    rintro x w1 ⟨rfl, hb1⟩
    have HZ1 : Hid (At5 w1 X.heap.size (.int .i64 0) (.bool false) (.int .i64 0) (.string { data := #[] }) (.int .i64 0) ∧ Below X.heap.size X w1 ∧ CpR w1 p 1 na ea sa 2 nb eb sb) := ⟨HZ.out.1.below hb1 HZ.out.1.lt, HZ.out.2.1.trans (hb1.mono HZ.out.2.1.size), HZ.out.2.2.next hb1⟩
    clear hb1 HZ HNb a0 a1 a2 a3 a4 c0 c1 c2 c3 c4
    obtain ⟨a0, a1, a2, a3, a4⟩ := HZ1.out.2.2.1.cells
    obtain ⟨c0, c1, c2, c3, c4⟩ := HZ1.out.2.2.2.cells
    go_wp2_with fail
    refine (HCp.out _).mono ?_
    rintro x w2 ⟨rfl, hb2⟩
    have HZ2 : Hid (At5 w2 X.heap.size (.int .i64 0) (.bool false) (.int .i64 0) (.string { data := #[] }) (.int .i64 0) ∧ Below X.heap.size X w2) := ⟨HZ1.out.1.below hb2 HZ1.out.1.lt, HZ1.out.2.1.trans (hb2.mono HZ1.out.2.1.size)⟩
    clear hb2 HZ1 HCp a0 a1 a2 a3 a4 c0 c1 c2 c3 c4
    go_wp2_with (refine wpList_store_row rfl 29 (.tmp 2) (.tmp 18) rfl X.heap.size #[.int .i64 1, .bool na, .int .i64 ea, .string sa, .int .i64 0] rfl rfl _ _ HZ2.out.1 (by kernel_rfl) rfl (one5 _ _ _ _ _) ?_)
    have hP := (HZ2.out.1.row (.int .i64 1) (.bool na) (.int .i64 ea) (.string sa) (.int .i64 0)).cells
    refine bodyPost_ret (results_res rfl _ _ rfl hP.1 hP.2.1 hP.2.2.1 hP.2.2.2.1 hP.2.2.2.2.1) rfl ?_
    exact ⟨.inl rfl, bel_row HZ2.out.2 (Nat.le_refl _) _⟩
  have hkb1 : kb = 1 := hrb.2.2.1.resolve_right hB
  subst hkb1
  rw [if_neg hB] at hR
  obtain ⟨hsa, nka, v0a, -, l34a, l1a, hszA, hea⟩ := hr.tn rfl
  obtain ⟨hsb, nkb, v0b, -, l34b, l1b, hszB, heb⟩ := hrb.tn rfl
  obtain ⟨ca, lpa, -, -⟩ := hr.2.2.2.1 rfl
  obtain ⟨cb, lpb, -, -⟩ := hrb.2.2.2.1 rfl
  have hvb : vl (dl sb) ≠ 0 := by
    unfold zB at hzf
    simpa using hzf
  obtain ⟨mn, hmn⟩ : ∃ m, min ea eb = m := ⟨_, rfl⟩
  obtain ⟨mx, hmx⟩ : ∃ m, max ea eb = m := ⟨_, rfl⟩
  have hwd : IntKind.i64.wrap (mx - mn) = mx - mn := by rw [IntKind.wrap_i64]; omega
  by_cases hd : 160 < max ea eb - min ea eb
  · rw [if_pos hd] at hR
    subst hR
    rw [hmx, hmn] at hd
    clear hr hrb hzb hzf hA hB hsa nka v0a l34a l1a hszA hea hsb nkb v0b l34b l1b hszB heb ca lpa cb lpb hvb HCp
    go_enter Tryz.func78, Tryz.ntmps78
    go_wp2_with fail
    refine (HNb.out _).mono ?_
    rintro x w1 ⟨rfl, hb1⟩
    have HZ1 : Hid (At5 w1 X.heap.size (.int .i64 0) (.bool false) (.int .i64 0) (.string { data := #[] }) (.int .i64 0) ∧ Below X.heap.size X w1 ∧ CpR w1 p 1 na ea sa 1 nb eb sb) := ⟨HZ.out.1.below hb1 HZ.out.1.lt, HZ.out.2.1.trans (hb1.mono HZ.out.2.1.size), HZ.out.2.2.next hb1⟩
    clear hb1 HZ HNb a0 a1 a2 a3 a4 c0 c1 c2 c3 c4
    obtain ⟨a0, a1, a2, a3, a4⟩ := HZ1.out.2.2.1.cells
    obtain ⟨c0, c1, c2, c3, c4⟩ := HZ1.out.2.2.2.cells
    go_wp2_with fail
    refine (iInvalid_any _).mono ?_
    rintro x w4 ⟨rfl, hb4⟩
    go_wp2
    exact ⟨rfl, .inr rfl, HZ1.out.2.1.trans (hb4.mono HZ1.out.2.1.size)⟩
  · rw [if_neg hd] at hR
    obtain ⟨nX, nY, yp, nq, nr, n2, -, hr0, hr1, -⟩ := rm_size f hr.1 (dl sa) (dl sb) ca cb lpa lpb hvb ea eb hd
    have HLa : Hid (∀ Y, Calls Tryz.prog 81 #[numV 1 na ea sa, .int .i64 mn] Y fun x w' => x = .returned (numV 1 na mn (tn (rmV (vl (dl sa)) ea eb))) ∧ Below Y.heap.size Y w') := fun Y => by
      have := lowered_any na ea (vl (dl sa)) mn Y hea (by omega) (by omega) (by omega) nka (by rw [← hmn]; exact nX)
      rw [← hsa, ← hmn] at this
      rw [← hmn]
      exact this
    have HLb : Hid (∀ Y, Calls Tryz.prog 81 #[numV 1 nb eb sb, .int .i64 mn] Y fun x w' => x = .returned (numV 1 nb mn (tn (rmV (vl (dl sb)) eb ea))) ∧ Below Y.heap.size Y w') := fun Y => by
      have := lowered_any nb eb (vl (dl sb)) mn Y heb (by omega) (by omega) (by omega) nkb (by rw [← hmn, ← min_turn]; exact nY)
      rw [← hsb, ← hmn, ← min_turn] at this
      rw [← hmn, ← min_turn]
      exact this
    have HRo : Hid (∀ Y, Calls Tryz.prog 80 #[numV 1 na mn (tn (rmV (vl (dl sa)) ea eb)), numV 1 nb mn (tn (rmV (vl (dl sb)) eb ea))] Y fun r w' => r = .returned (numV R.2.1 R.1 R.2.2.1 R.2.2.2.1) ∧ Below Y.heap.size Y w') := fun Y => by
      have := remainderOf_any na nb mn (rmV (vl (dl sa)) ea eb) (rmV (vl (dl sb)) eb ea) Y nX nY yp nq nr n2 hr1
      rw [← hR, hmn]
      by_cases c : rmUp (rmV (vl (dl sa)) ea eb) (rmV (vl (dl sb)) eb ea) = true
      · rw [if_pos c] at this ⊢
        exact this
      · rw [if_neg c] at this ⊢
        exact this
    have hR4 : R.2.2.2.2 = 0 := by
      rw [← hR]
      split <;> rfl
    rw [hmx, hmn] at hd
    clear hr hrb hzb hzf hA hB hsa nka v0a l34a l1a hszA hea hsb nkb v0b l34b l1b hszB heb ca lpa cb lpb hvb nX nY yp nq nr n2 hr0 hr1 hR HCp
    generalize tn (rmV (vl (dl sa)) ea eb) = TX at *
    generalize tn (rmV (vl (dl sb)) eb ea) = TY at *
    obtain ⟨R0, F1, F2, F3, F4⟩ := R
    dsimp only at hR4
    subst hR4
    have hbr := build_res0 F1 R0 F2 F3
    go_enter Tryz.func78, Tryz.ntmps78
    go_wp2_with fail
    refine (HNb.out _).mono ?_
    rintro x w1 ⟨rfl, hb1⟩
    have HZ1 : Hid (At5 w1 X.heap.size (.int .i64 0) (.bool false) (.int .i64 0) (.string { data := #[] }) (.int .i64 0) ∧ Below X.heap.size X w1 ∧ CpR w1 p 1 na ea sa 1 nb eb sb) := ⟨HZ.out.1.below hb1 HZ.out.1.lt, HZ.out.2.1.trans (hb1.mono HZ.out.2.1.size), HZ.out.2.2.next hb1⟩
    clear hb1 HZ HNb a0 a1 a2 a3 a4 c0 c1 c2 c3 c4
    obtain ⟨a0, a1, a2, a3, a4⟩ := HZ1.out.2.2.1.cells
    obtain ⟨c0, c1, c2, c3, c4⟩ := HZ1.out.2.2.2.cells
    go_upto_region 8 with fail
    clear a0 a1 a2 a3 a4 c0 c1 c2 c3 c4
    have HX1 : Hid (Below w1.heap.size w1 w1.drew) := (Below.refl _ _).drew
    refine wp_region_tail (C := fun W => Below w1.heap.size w1 W) 8 (by kernel_rfl) (by kernel_rfl) HX1.out ?_
    simp only [List.take_succ_cons, List.take_zero, List.drop_succ_cons, List.drop_zero]
    repeat (refine wpQuiet_step (fun K hK => ?_); go_simp; first | (refine hK _ ?_; clear hK K) | (apply Exists.intro; refine ⟨fun wx hC => ?_, hK _ ?_⟩; (first | exact rfl | ((with_reducible refine Calls.class_of (HLa.out wx) ?_); exact fun w' hb => bel1 hC hb) | ((with_reducible refine Calls.class_of (HLb.out wx) ?_); exact fun w' hb => bel1 hC hb) | ((with_reducible refine Calls.class_of (HRo.out wx) ?_); exact fun w' hb => bel1 hC hb) | (obtain ⟨a0, a1, a2, a3, a4⟩ := (HZ1.out.2.2.next hC).1.cells; go_simp; exact rfl) | (obtain ⟨a0, a1, a2, a3, a4⟩ := (HZ1.out.2.2.next hC).2.cells; go_simp; exact rfl)); clear hK K))
    refine wpQuiet_nil ?_
    intro w2 hb2
    have HZ2 : Hid (At5 w2 X.heap.size (.int .i64 0) (.bool false) (.int .i64 0) (.string { data := #[] }) (.int .i64 0) ∧ Below X.heap.size X w2) := ⟨HZ1.out.1.below hb2 HZ1.out.1.lt, HZ1.out.2.1.trans (hb2.mono HZ1.out.2.1.size)⟩
    clear hb2 HZ1 HX1 HLa HLb HRo
    go_wp2_with (refine wpList_store_row rfl 29 (.tmp 2) (.tmp 41) rfl X.heap.size #[.int .i64 F1, .bool R0, .int .i64 F2, .string F3, .int .i64 0] rfl rfl _ _ HZ2.out.1 (by kernel_rfl) rfl (one5 _ _ _ _ _) ?_)
    have hP := (HZ2.out.1.row (.int .i64 F1) (.bool R0) (.int .i64 F2) (.string F3) (.int .i64 0)).cells
    refine bodyPost_ret (results_res rfl _ _ rfl hP.1 hP.2.1 hP.2.2.1 hP.2.2.2.1 hP.2.2.2.2.1) rfl ?_
    exact ⟨.inl rfl, bel_row HZ2.out.2 (Nat.le_refl _) _⟩
set_option maxRecDepth 100000 in
set_option maxHeartbeats 1000000 in
theorem iRemainder_any (f : Int) (ka : Int) (na : Bool) (ea : Int) (sa : ByteArray) (kb : Int) (nb : Bool) (eb : Int) (sb : ByteArray) (w : World) (hsa : sa.size ≤ 4611686018427387904) (hsb : sb.size ≤ 4611686018427387904) :
    Calls Tryz.prog 17 #[.int .i64 f, numV ka na ea sa, numV kb nb eb sb] w fun x w' => x = .returned (rsD (rmR f ka na ea sa kb nb eb sb).1 (rmR f ka na ea sa kb nb eb sb).2) ∧ Below w.heap.size w w' := by
  have hmf : ∀ (fn : Fn) (first cap : Array Value) (w : World), (Instr.makeFunc fn first cap).run Tryz.prog w = .ok (.func fn first cap) w := fun _ _ _ _ => rfl
  have HE : Hid (∀ args w, (callFunc 78 args).run Tryz.prog w = .ok (.enter 78 args) w) := enters_of Tryz.func78 (by kernel_rfl) rfl
  obtain ⟨W, hW⟩ : ∃ W, suW w ka na ea sa kb nb eb sb = W := ⟨_, rfl⟩
  have hN := su_new w ka na ea sa kb nb eb sb
  have hsz : (suW w ka na ea sa kb nb eb sb).heap.size = w.heap.size + 3 := by
    unfold suW
    rw [new_size, new_size, new_size]
  rw [hW] at hN hsz
  have hb5 : Below W.heap.size W (W.alloc (.cells #[.int .i64 ka, .bool na, .int .i64 ea, .string sa, .int .i64 kb, .bool nb, .int .i64 eb, .string sb] 25)) := (Below.refl _ _).alloc (Nat.le_refl _) _
  obtain ⟨hrw, hlt⟩ := row2_new W ka na ea sa kb nb eb sb
  have hCp : CpR W w.heap.size ka na ea sa kb nb eb sb := ⟨hN.1, hN.2.1⟩
  have HO : Hid (Calls Tryz.prog 46 #[.int .i64 f, .int .i64 1, .func (.func 78) #[] #[.pointer (some ⟨w.heap.size, 0, none⟩), .pointer (some ⟨w.heap.size + 1, 0, none⟩)], .slice (some ⟨W.heap.size, 0, none⟩) 2 2] (W.alloc (.cells #[.int .i64 ka, .bool na, .int .i64 ea, .string sa, .int .i64 kb, .bool nb, .int .i64 eb, .string sb] 25)) fun x w' => x = .returned (rsD (rmR f ka na ea sa kb nb eb sb).1 (rmR f ka na ea sa kb nb eb sb).2) ∧ Below (W.alloc (.cells #[.int .i64 ka, .bool na, .int .i64 ea, .string sa, .int .i64 kb, .bool nb, .int .i64 eb, .string sb] 25)).heap.size (W.alloc (.cells #[.int .i64 ka, .bool na, .int .i64 ea, .string sa, .int .i64 kb, .bool nb, .int .i64 eb, .string sb] 25)) w') :=
    ofNumbers_any f 1 78 _ HE.out 2 W.heap.size (tw2 ka kb) (tw2 na nb) (tw2 ea eb) (tw2 sa sb) (rmX ka na ea sa kb eb sb) _ (by decide) (by decide) hlt hrw (fun i hi => by match i, hi with
      | 0, _ => exact hsa
      | 1, _ => exact hsb) (fun h1 h2 Y hY => by
      obtain ⟨-, hr, hrb⟩ := rgn_two h1 h2
      exact remainder1_any w.heap.size f ka na ea sa kb nb eb sb Y hr hrb ((hCp.next hb5).next hY))
  have HZ : Hid (At5 (W.alloc (.cells #[.int .i64 ka, .bool na, .int .i64 ea, .string sa, .int .i64 kb, .bool nb, .int .i64 eb, .string sb] 25)) (w.heap.size + 2) (.int .i64 0) (.bool false) (.int .i64 0) (.string { data := #[] }) (.int .i64 0) ∧ Below w.heap.size w (W.alloc (.cells #[.int .i64 ka, .bool na, .int .i64 ea, .string sa, .int .i64 kb, .bool nb, .int .i64 eb, .string sb] 25))) := ⟨hN.2.2.1.below hb5 hN.2.2.1.lt, hN.2.2.2.1.trans (hb5.mono hN.2.2.2.1.size)⟩
  rw [hsz] at HO
  obtain ⟨qa, qb⟩ := hCp
  obtain ⟨a0, a1, a2, a3, -⟩ := qa.cells
  obtain ⟨c0, c1, c2, c3, -⟩ := qb.cells
  rw [← hW] at HO HZ a0 a1 a2 a3 c0 c1 c2 c3
  clear hW hN hb5 hrw hlt hsa hsb HE qa qb hsz
  generalize rmR f ka na ea sa kb nb eb sb = R at *
  obtain ⟨R0, F1, F2, F3, F4⟩ := R
  go_enter Tryz.func17, Tryz.ntmps17
  go_wp2_with fail
  refine HO.out.mono ?_
  rintro x w1 ⟨rfl, hb1⟩
  have HZ1 : Hid (At5 w1 (w.heap.size + 2) (.int .i64 0) (.bool false) (.int .i64 0) (.string { data := #[] }) (.int .i64 0) ∧ Below w.heap.size w w1) := ⟨HZ.out.1.below hb1 HZ.out.1.lt, HZ.out.2.trans (hb1.mono HZ.out.2.size)⟩
  clear hb1 HZ HO a0 a1 a2 a3 c0 c1 c2 c3
  go_wp2_with (refine wpList_store_row rfl 29 (.tmp 6) (.tmp 12) rfl (w.heap.size + 2) #[.int .i64 F1, .bool R0, .int .i64 F2, .string F3, .int .i64 F4] rfl rfl _ _ HZ1.out.1 (by kernel_rfl) rfl (one5 _ _ _ _ _) ?_)
  have hP := (HZ1.out.1.row (.int .i64 F1) (.bool R0) (.int .i64 F2) (.string F3) (.int .i64 F4)).cells
  refine bodyPost_ret (results_res rfl _ _ rfl hP.1 hP.2.1 hP.2.2.1 hP.2.2.2.1 hP.2.2.2.2.1) rfl ?_
  exact ⟨rfl, bel_row HZ1.out.2 (by omega) _⟩
end Go.Proofs.YtnkoeidolmiheaaGreatDoor
namespace Go.Proofs.YtnkoeidolmiheaaGreatDoor
open Go.RowKit
set_option linter.unusedVariables false
set_option maxRecDepth 100000
theorem rm_wrong (f : Int) (ka : Int) (na : Bool) (ea : Int) (sa : ByteArray) (kb : Int) (nb : Bool) (eb : Int) (sb : ByteArray) (h : rightB f 1 2 (tw2 ka kb) (tw2 na nb) (tw2 ea eb) (tw2 sa sb) = false) : rmR f ka na ea sa kb nb eb sb = (false, (0, 0, { data := #[] }, 0)) := by
  unfold rmR ofR
  rw [h]
  rfl
theorem rm_both {f : Int} {ka : Int} {na : Bool} {ea : Int} {sa : ByteArray} {kb : Int} {nb : Bool} {eb : Int} {sb : ByteArray} (h : rightB f 1 2 (tw2 ka kb) (tw2 na nb) (tw2 ea eb) (tw2 sa sb) = true) : numB f ka na ea sa = true ∧ numB f kb nb eb sb = true := by
  unfold rightB at h
  have h2 := of_decide_eq_true (Bool.and_eq_true_iff.1 h).2
  exact ⟨h2 0 (by decide), h2 1 (by decide)⟩
theorem rm_kind (f : Int) (ka : Int) (na : Bool) (ea : Int) (sa : ByteArray) (kb : Int) (nb : Bool) (eb : Int) (sb : ByteArray) (h : rightB f 1 2 (tw2 ka kb) (tw2 na nb) (tw2 ea eb) (tw2 sa sb) = true) : (rmR f ka na ea sa kb nb eb sb).2.1 ≠ 0 := by
  have hk := numB_kind f ka na ea sa (rm_both h).1
  unfold rmR ofR
  rw [h, if_pos rfl]
  by_cases hs : spB 2 (tw2 ka kb) = true
  · rw [if_pos hs]; show (3 : Int) ≠ 0; decide
  · rw [if_neg hs]
    unfold rmX
    split
    · show (3 : Int) ≠ 0; decide
    split
    · exact hk
    split
    · show (3 : Int) ≠ 0; decide
    · split
      · show (1 : Int) ≠ 0; decide
      · show (1 : Int) ≠ 0; decide
/-- What a region that lays one Result keeps. -/
def LYr (u : World) (b : Option Nat) (W : World) : Prop := Below u.heap.size u W ∧ ∀ p, b = some p → At5 W p (.int .i64 0) (.bool false) (.int .i64 0) (.string { data := #[] }) (.int .i64 0) ∧ u.heap.size ≤ p
theorem LYr.next {u W W' : World} {b : Option Nat} (h : LYr u b W) (hb : Below W.heap.size W W') : LYr u b W' :=
  ⟨h.1.trans (hb.mono h.1.size), fun p q => ⟨(h.2 p q).1.below hb (h.2 p q).1.lt, (h.2 p q).2⟩⟩
theorem LYr.lay {u W : World} (h : LYr u none W) : LYr u (some W.heap.size) (W.alloc (.cells #[.int .i64 0, .bool false, .int .i64 0, .string { data := #[] }, .int .i64 0] 29)) :=
  ⟨h.1.alloc h.1.size _, fun p q => by cases q; exact ⟨at5_new W _ _ _ _ _, h.1.size⟩⟩
set_option maxRecDepth 100000 in
set_option maxHeartbeats 4000000 in
theorem fnRemainder_any (a0 : Option Addr) (len0 cap0 : Nat) (w : World) (hbig : ¬ 4096 < len0) (hb : Bytes w.heap.size w a0 len0) :
    Calls Tryz.prog 4 #[.slice a0 len0 cap0] w fun e w' => e = .returned (.bool true) ∧ Below w.heap.size w w' := by
  have hB : Hid (Bytes w.heap.size w a0 len0) := hb
  clear hb
  go_enter Tryz.func4, Tryz.ntmps4
  go_wp2_with fail
  refine (big_no _ _ _ _ hbig).mono ?_
  rintro e w' ⟨rfl, hw⟩
  obtain rfl := hw.symm
  go_wp2_with fail
  refine (DrawRemainder_any _ _ _ _ (by omega) hB.out).mono ?_
  rintro e w1 ⟨f, ka, na, ea, sa, kb, nb, eb, sb, rfl, ⟨hsa, hsb⟩, hb1⟩
  have HI : Hid (∀ X, Calls Tryz.prog 17 #[.int .i64 f, numV ka na ea sa, numV kb nb eb sb] X fun x w' => x = .returned (rsD (rmR f ka na ea sa kb nb eb sb).1 (rmR f ka na ea sa kb nb eb sb).2) ∧ Below X.heap.size X w') := fun X => iRemainder_any f ka na ea sa kb nb eb sb X (by omega) (by omega)
  have HS : Hid (∀ X, Calls Tryz.prog 18 #[.int .i64 f, numV ka na ea sa, numV kb nb eb sb] X fun x w' => x = .returned (rsD (rmR f ka na ea sa kb nb eb sb).1 (rmR f ka na ea sa kb nb eb sb).2) ∧ Below X.heap.size X w') := fun X => sRemainder_any f ka na ea sa kb nb eb sb X (by omega) (by omega)
  have HN : Hid (rightB f 1 2 (tw2 ka kb) (tw2 na nb) (tw2 ea eb) (tw2 sa sb) = false → rmR f ka na ea sa kb nb eb sb = (false, (0, 0, { data := #[] }, 0))) := fun h => rm_wrong f ka na ea sa kb nb eb sb h
  have HK : Hid (rightB f 1 2 (tw2 ka kb) (tw2 na nb) (tw2 ea eb) (tw2 sa sb) = true → (rmR f ka na ea sa kb nb eb sb).2.1 ≠ 0) := fun h => rm_kind f ka na ea sa kb nb eb sb h
  have HU : Hid (rightB f 1 2 (tw2 ka kb) (tw2 na nb) (tw2 ea eb) (tw2 sa sb) = true → ka = 1 → kb = 1 → ∀ (R0 : Bool) (F1 F2 : Int) (F3 : ByteArray) (F4 : Int), rmR f ka na ea sa kb nb eb sb = (R0, (F1, F2, F3, F4)) → F1 = 1 →
      F4 = 0 ∧ ∃ (U1 : Int) (U0 : Bool) (U2 : Int) (U3 : ByteArray) (U4 : Int) (c1 : Int),
        (∀ X, Calls Tryz.prog 21 #[.int .i64 f, numV 1 R0 F2 F3] X fun r w' => r = .returned (.bool true) ∧ Below X.heap.size X w')
        ∧ (∀ X, Calls Tryz.prog 19 #[.int .i64 f, .int .i64 3, numV 1 false F2 F3, numV 1 false 0 { data := #[50] }, numV 1 true eb sb] X fun x w' => x = .returned (rsV U1 U0 U2 U3 U4) ∧ Below X.heap.size X w')
        ∧ (∀ X, Calls Tryz.prog 13 #[.int .i64 f, numV U1 U0 U2 U3, numV 1 false 0 { data := #[48] }] X fun x w' => x = .returned (.int .i64 c1) ∧ Below X.heap.size X w')
        ∧ (c1 = 0 ∨ c1 = -1)) := by
    intro hO hka hkb R0 F1 F2 F3 F4 hR hF1
    subst hka hkb hF1
    obtain ⟨hA, hBn⟩ := rm_both hO
    obtain ⟨e4, hNr, r1, k1⟩ := rm_fin f na ea sa nb eb sb hA hBn R0 F2 F3 F4 hR
    have zF := numB_size f 1 R0 F2 F3 hNr
    have q1 : ∀ X, Calls Tryz.prog 19 #[.int .i64 f, .int .i64 3, numV 1 false F2 F3, numV 1 false 0 { data := #[50] }, numV 1 true eb sb] X fun x w' => x = .returned (rsD (fmaR f 3 1 false F2 F3 1 false 0 { data := #[50] } 1 true eb sb).1 (fmaR f 3 1 false F2 F3 1 false 0 { data := #[50] } 1 true eb sb).2) ∧ Below X.heap.size X w' := fun X => iFma_any f 3 1 false F2 F3 1 false 0 { data := #[50] } 1 true eb sb X zF (by decide) (by omega)
    generalize fmaR f 3 1 false F2 F3 1 false 0 { data := #[50] } 1 true eb sb = U at *
    obtain ⟨U0, U1, U2, U3, U4⟩ := U
    unfold Rgr at r1
    dsimp only at q1 r1 k1
    have zU := numB_size f U1 U0 U2 U3 r1
    refine ⟨e4, U1, U0, U2, U3, U4, _, fun X => ?_, q1, fun X => sCompare_any f U1 U0 U2 U3 1 false 0 { data := #[48] } X zU (by decide), k1⟩
    have := iNumOk_any f 1 R0 F2 F3 X zF
    rw [hNr] at this
    exact this
  generalize rmR f ka na ea sa kb nb eb sb = R at *
  obtain ⟨R0, F1, F2, F3, F4⟩ := R
  generalize rightB f 1 2 (tw2 ka kb) (tw2 na nb) (tw2 ea eb) (tw2 sa sb) = O at *
  have HI' : Hid (∀ X, Calls Tryz.prog 17 #[.int .i64 f, numV ka na ea sa, numV kb nb eb sb] X fun x w' => x = .returned (rsV F1 R0 F2 F3 F4) ∧ Below X.heap.size X w') := HI
  have HS' : Hid (∀ X, Calls Tryz.prog 18 #[.int .i64 f, numV ka na ea sa, numV kb nb eb sb] X fun x w' => x = .returned (rsV F1 R0 F2 F3 F4) ∧ Below X.heap.size X w') := HS
  have HNh : Hid (O = false → (R0, F1, F2, F3, F4) = (false, 0, 0, { data := #[] }, 0)) := HN
  have HKh : Hid (O = true → F1 ≠ 0) := HK
  have HUh : Hid (O = true → ka = 1 → kb = 1 → F1 = 1 → F4 = 0 ∧ ∃ (U1 : Int) (U0 : Bool) (U2 : Int) (U3 : ByteArray) (U4 : Int) (c1 : Int),
        (∀ X, Calls Tryz.prog 21 #[.int .i64 f, numV 1 R0 F2 F3] X fun r w' => r = .returned (.bool true) ∧ Below X.heap.size X w')
        ∧ (∀ X, Calls Tryz.prog 19 #[.int .i64 f, .int .i64 3, numV 1 false F2 F3, numV 1 false 0 { data := #[50] }, numV 1 true eb sb] X fun x w' => x = .returned (rsV U1 U0 U2 U3 U4) ∧ Below X.heap.size X w')
        ∧ (∀ X, Calls Tryz.prog 13 #[.int .i64 f, numV U1 U0 U2 U3, numV 1 false 0 { data := #[48] }] X fun x w' => x = .returned (.int .i64 c1) ∧ Below X.heap.size X w')
        ∧ (c1 = 0 ∨ c1 = -1)) := fun h1 h2 h3 h4 => HU.out h1 h2 h3 R0 F1 F2 F3 F4 rfl h4
  clear HI HS HN HK HU
  have HM1 : Hid (MU w w1.heap.size ka na ea sa kb nb eb sb ((w1.alloc (.cells #[.int .i64 ka, .bool na, .int .i64 ea, .string sa] 25)).alloc (.cells #[.int .i64 kb, .bool nb, .int .i64 eb, .string sb] 25))) := mu_new w1 hb1 ka na ea sa kb nb eb sb
  clear hb1 hB hbig hsa hsb
  go_wp2_with fail
  refine (HI'.out _).mono ?_
  rintro x w3 ⟨rfl, hb3⟩
  have HM3 : Hid (MU w w1.heap.size ka na ea sa kb nb eb sb w3) := HM1.out.next hb3
  have hb4 : Below w3.heap.size w3 (w3.alloc (.cells #[.int .i64 F1, .bool R0, .int .i64 F2, .string F3, .int .i64 F4] 29)) := (Below.refl _ _).alloc (Nat.le_refl _) _
  have HM4 : Hid (MU w w1.heap.size ka na ea sa kb nb eb sb (w3.alloc (.cells #[.int .i64 F1, .bool R0, .int .i64 F2, .string F3, .int .i64 F4] 29)) ∧ At5 (w3.alloc (.cells #[.int .i64 F1, .bool R0, .int .i64 F2, .string F3, .int .i64 F4] 29)) w3.heap.size (.int .i64 F1) (.bool R0) (.int .i64 F2) (.string F3) (.int .i64 F4)) := ⟨HM3.out.next hb4, at5_new w3 _ _ _ _ _⟩
  clear hb3 hb4 HM3 HM1 HI'
  go_upto_region 5 with fail
  generalize (w3.alloc (.cells #[.int .i64 F1, .bool R0, .int .i64 F2, .string F3, .int .i64 F4] 29)) = w4 at *
  generalize w1.heap.size = p at *
  generalize w3.heap.size = q at *
  have HX0 : Hid (Below w4.heap.size w4 w4.drew) := (Below.refl _ _).drew
  refine wp_region_class (C := fun W => Below w4.heap.size w4 W) (by kernel_rfl) (by kernel_rfl) HX0.out ?_
  have hne := neq_res_same F1 R0 F2 F3 F4
  repeat (first | go_big_quiet_skip | (refine wpQuiet_step ?_; intro K hK; go_simp; first | go_big_quiet_on | (apply Exists.intro; refine ⟨fun wx hC => ?_, ?_⟩; (first | exact rfl | ((with_reducible refine Calls.class_of (HS'.out wx) ?_); exact fun w' hb => bel1 hC hb) | (obtain ⟨a0, a1, a2, a3, a4⟩ := (HM4.out.1.next hC).1.cells; go_simp; exact rfl) | (obtain ⟨a0, a1, a2, a3, a4⟩ := (HM4.out.1.next hC).2.1.cells; go_simp; exact rfl) | (obtain ⟨a0, a1, a2, a3, a4, a5⟩ := (HM4.out.2.below hC HM4.out.2.lt).cells; go_simp; exact rfl)); go_big_quiet_on)))
  refine wpQuiet_nil ?_
  intro w5 hb5
  have HM5 : Hid (MU w p ka na ea sa kb nb eb sb w5 ∧ At5 w5 q (.int .i64 F1) (.bool R0) (.int .i64 F2) (.string F3) (.int .i64 F4)) := ⟨HM4.out.1.next hb5, HM4.out.2.below hb5 HM4.out.2.lt⟩
  clear hb5 HM4 HX0 HS' hne
  obtain ⟨r0, r1, r2, r3, r4, r5⟩ := HM5.out.2.cells
  obtain ⟨c0, c1, c2, c3, c4⟩ := HM5.out.1.1.cells
  cases O with
  | false =>
    have hN := HNh.out rfl
    obtain ⟨rfl, rfl, rfl, rfl, rfl⟩ := hN
    have heq := eql_res_same 0 false 0 { data := #[] } 0
    have hbd : ∀ w : World, (Instr.build 29 #[]).run Tryz.prog w = .ok (rsV 0 false 0 { data := #[] } 0) w := fun w => run_build w _ _ _ (by kernel_rfl)
    clear HNh HKh HUh
    go_wp2
    go_ret
    exact ⟨rfl, HM5.out.1.2.2⟩
  | true =>
    have hk0 := HKh.out rfl
    have hk0b : (F1 == 0) = false := beq_eq_false_iff_ne.2 hk0
    clear HNh HKh
    go_wp2_with fail
    refine (finite_any ka na ea sa _).mono ?_
    rintro x w6 ⟨rfl, hb6⟩
    have HM6 : Hid (MU w p ka na ea sa kb nb eb sb w6 ∧ At5 w6 q (.int .i64 F1) (.bool R0) (.int .i64 F2) (.string F3) (.int .i64 F4)) := ⟨HM5.out.1.next hb6, HM5.out.2.below hb6 HM5.out.2.lt⟩
    clear hb6 HM5 r0 r1 r2 r3 r4 r5 c0 c1 c2 c3 c4
    obtain ⟨r0, r1, r2, r3, r4, r5⟩ := HM6.out.2.cells
    obtain ⟨c0, c1, c2, c3, c4⟩ := HM6.out.1.2.1.cells
    by_cases hka : ka = 1
    case neg =>
      rw [decide_eq_false hka]
      clear hka HUh
      go_wp2
      go_ret
      exact ⟨rfl, HM6.out.1.2.2⟩
    rw [decide_eq_true hka]
    go_wp2_with fail
    refine (finite_any kb nb eb sb _).mono ?_
    rintro x w7 ⟨rfl, hb7⟩
    have HM7 : Hid (MU w p ka na ea sa kb nb eb sb w7 ∧ At5 w7 q (.int .i64 F1) (.bool R0) (.int .i64 F2) (.string F3) (.int .i64 F4)) := ⟨HM6.out.1.next hb7, HM6.out.2.below hb7 HM6.out.2.lt⟩
    clear hb7 HM6 r0 r1 r2 r3 r4 r5 c0 c1 c2 c3 c4
    obtain ⟨r0, r1, r2, r3, r4, r5⟩ := HM7.out.2.cells
    by_cases hkb : kb = 1
    case neg =>
      rw [decide_eq_false hkb]
      clear hka hkb HUh
      go_wp2
      go_ret
      exact ⟨rfl, HM7.out.1.2.2⟩
    rw [decide_eq_true hkb]
    go_wp2_with fail
    refine (finite_any F1 R0 F2 F3 _).mono ?_
    rintro x w8 ⟨rfl, hb8⟩
    have HM8 : Hid (MU w p ka na ea sa kb nb eb sb w8 ∧ At5 w8 q (.int .i64 F1) (.bool R0) (.int .i64 F2) (.string F3) (.int .i64 F4)) := ⟨HM7.out.1.next hb8, HM7.out.2.below hb8 HM7.out.2.lt⟩
    clear hb8 HM7 r0 r1 r2 r3 r4 r5
    obtain ⟨r0, r1, r2, r3, r4, r5⟩ := HM8.out.2.cells
    by_cases hF : F1 = 1
    case neg =>
      rw [decide_eq_false hF]
      clear hka hkb hF HUh
      go_wp2
      go_ret
      exact ⟨rfl, HM8.out.1.2.2⟩
    rw [decide_eq_true hF]
    obtain ⟨rfl, U1, U0, U2, U3, U4, cc, g1, g2, g3, g4⟩ := HUh.out (by first | exact trivial | exact rfl) hka hkb hF
    subst hka hkb hF
    have HQ1 : Hid (∀ X, Calls Tryz.prog 21 #[.int .i64 f, numV 1 R0 F2 F3] X fun r w' => r = .returned (.bool true) ∧ Below X.heap.size X w') := g1
    have HQ2 : Hid (∀ X, Calls Tryz.prog 19 #[.int .i64 f, .int .i64 3, numV 1 false F2 F3, numV 1 false 0 { data := #[50] }, numV 1 true eb sb] X fun x w' => x = .returned (rsV U1 U0 U2 U3 U4) ∧ Below X.heap.size X w') := g2
    have HQ3 : Hid (∀ X, Calls Tryz.prog 13 #[.int .i64 f, numV U1 U0 U2 U3, numV 1 false 0 { data := #[48] }] X fun x w' => x = .returned (.int .i64 cc) ∧ Below X.heap.size X w') := g3
    have HCc : Hid (cc = 0 ∨ cc = -1) := g4
    have HTu : Hid (∀ X, Calls Tryz.prog 20 #[numV 1 false eb sb] X fun x w' => x = .returned (numV 1 true eb sb) ∧ Below X.heap.size X w') := fun X => turned_any 1 false eb sb X
    clear g1 g2 g3 g4 HUh hk0 hk0b
    obtain ⟨c0, c1, c2, c3, c4⟩ := HM8.out.1.2.1.cells
    have HB8 : Hid (MU w w8.heap.size 1 false F2 F3 1 false eb sb ((w8.alloc (.cells #[.int .i64 1, .bool false, .int .i64 F2, .string F3] 25)).alloc (.cells #[.int .i64 1, .bool false, .int .i64 eb, .string sb] 25))) := mu_new w8 HM8.out.1.2.2 1 false F2 F3 1 false eb sb
    have HR8 : Hid (At5 ((w8.alloc (.cells #[.int .i64 1, .bool false, .int .i64 F2, .string F3] 25)).alloc (.cells #[.int .i64 1, .bool false, .int .i64 eb, .string sb] 25)) q (.int .i64 1) (.bool R0) (.int .i64 F2) (.string F3) (.int .i64 0)) := HM8.out.2.below (((Below.refl _ _).alloc (Nat.le_refl _) _).alloc (by simp) _) HM8.out.2.lt
    have g8 : ∀ o, (w8.alloc o).cell? ⟨p + 1, 0, none⟩ = some (.int .i64 1) ∧ (w8.alloc o).cell? ⟨p + 1, 1, none⟩ = some (.bool nb) ∧ (w8.alloc o).cell? ⟨p + 1, 2, none⟩ = some (.int .i64 eb) ∧ (w8.alloc o).cell? ⟨p + 1, 3, none⟩ = some (.string sb) := fun o => by
      obtain ⟨a, b, c, d, -⟩ := (HM8.out.1.2.1.next ((Below.refl _ _).alloc (Nat.le_refl _) o)).cells
      exact ⟨a, b, c, d⟩
    have i0 := fun o => (g8 o).1
    have i1 := fun o => (g8 o).2.1
    have i2 := fun o => (g8 o).2.2.1
    have i3 := fun o => (g8 o).2.2.2
    clear g8
    have hbn2 : ∀ w : World, (Instr.build 25 #[(0, .int .i64 1), (3, .string { data := #[50] })]).run Tryz.prog w = .ok (numV 1 false 0 { data := #[50] }) w := fun w => run_build w _ _ _ (by kernel_rfl)
    have hbn0 : ∀ w : World, (Instr.build 25 #[(0, .int .i64 1), (3, .string { data := #[48] })]).run Tryz.prog w = .ok (numV 1 false 0 { data := #[48] }) w := fun w => run_build w _ _ _ (by kernel_rfl)
    go_upto_region 13 with fail
    clear r0 r1 r2 r3 r4 r5 c0 c1 c2 c3 c4 i0 i1 i2 i3 HM8
    generalize ((w8.alloc (.cells #[.int .i64 1, .bool false, .int .i64 F2, .string F3] 25)).alloc (.cells #[.int .i64 1, .bool false, .int .i64 eb, .string sb] 25)) = w10 at *
    generalize w8.heap.size = t at *
    have HX8 : Hid (LYr w10 none w10.drew) := ⟨(Below.refl _ _).drew, (fun p h => by cases h)⟩
    refine wp_region_laid (C := LYr w10) 7 6 9 _ (.cells #[.int .i64 0, .bool false, .int .i64 0, .string { data := #[] }, .int .i64 0] 29) rfl rfl rfl rfl ?_ (fun W hW => hW.lay) (by kernel_rfl) (by kernel_rfl) HX8.out ?_
    · intro a W
      go_simp
    simp only [List.take_succ_cons, List.take_zero, List.drop_succ_cons, List.drop_zero]
    repeat (refine wpQuietF_step (fun K hK => ?_); go_simp; first | (refine hK _ ?_; clear hK K) | (apply Exists.intro; refine ⟨fun bb wx hC => ?_, hK _ ?_⟩; (first | exact rfl | ((with_reducible refine Calls.class_of (HTu.out wx) ?_); exact fun w' hb => LYr.next hC hb) | ((with_reducible refine Calls.class_of (HQ2.out wx) ?_); exact fun w' hb => LYr.next hC hb) | (obtain ⟨a0, a1, a2, a3, a4⟩ := (HB8.out.next hC.1).1.cells; go_simp; exact rfl) | (obtain ⟨a0, a1, a2, a3, a4⟩ := (HB8.out.next hC.1).2.1.cells; go_simp; exact rfl)); clear hK K))
    refine wpQuietF_nil ?_
    intro p1 v3 hC3
    obtain ⟨hA3, hp3⟩ := hC3.2 p1 rfl
    have hq := HR8.out.lt
    have HA3 : Hid (At5 v3 p1 (.int .i64 0) (.bool false) (.int .i64 0) (.string { data := #[] }) (.int .i64 0)) := hA3
    have HM11 : Hid (Below w.heap.size w (v3.setRow p1 #[.int .i64 U1, .bool U0, .int .i64 U2, .string U3, .int .i64 U4]) ∧ At5 (v3.setRow p1 #[.int .i64 U1, .bool U0, .int .i64 U2, .string U3, .int .i64 U4]) q (.int .i64 1) (.bool R0) (.int .i64 F2) (.string F3) (.int .i64 0) ∧ At5 (v3.setRow p1 #[.int .i64 U1, .bool U0, .int .i64 U2, .string U3, .int .i64 U4]) p1 (.int .i64 U1) (.bool U0) (.int .i64 U2) (.string U3) (.int .i64 U4)) :=
      ⟨bel_row (HB8.out.next hC3.1).2.2 (Nat.le_trans HB8.out.2.2.size hp3) _, (setRow_other v3 p1 q _ (by omega)).trans (HR8.out.below hC3.1 hq), hA3.row _ _ _ _ _⟩
    clear hC3 hA3 hp3 hq HX8 HB8 HR8 HTu HQ2
    simp only [Act.put]
    go_wp2_with (refine wpList_store_row rfl 29 (.tmp 9) (.tmp 67) rfl p1 #[.int .i64 U1, .bool U0, .int .i64 U2, .string U3, .int .i64 U4] rfl rfl _ _ HA3.out (by kernel_rfl) rfl (one5 _ _ _ _ _) (Hid.out ?_))
    generalize v3.setRow p1 #[.int .i64 U1, .bool U0, .int .i64 U2, .string U3, .int .i64 U4] = v4 at *
    clear HA3
    obtain ⟨r0, r1, r2, r3, r4, r5⟩ := HM11.out.2.1.cells
    unfold Hid
    go_wp2_with fail
    refine (HQ1.out _).mono ?_
    rintro x w12 ⟨rfl, hb12⟩
    have HM12 : Hid (Below w.heap.size w w12 ∧ At5 w12 p1 (.int .i64 U1) (.bool U0) (.int .i64 U2) (.string U3) (.int .i64 U4)) := ⟨HM11.out.1.trans (hb12.mono HM11.out.1.size), HM11.out.2.2.below hb12 HM11.out.2.2.lt⟩
    clear hb12 HM11 r0 r1 r2 r3 r4 r5 HQ1
    obtain ⟨r0, r1, r2, r3, r4, r5⟩ := HM12.out.2.cells
    go_wp2_with fail
    refine (HQ3.out _).mono ?_
    rintro x w13 ⟨rfl, hb13⟩
    have HB := HM12.out.1.trans (hb13.mono HM12.out.1.size)
    clear hb13 HM12 r0 r1 r2 r3 r4 r5 HQ3
    rcases HCc.out with rfl | rfl
    all_goals
      clear HCc
      go_wp2
      go_ret
      exact ⟨rfl, HB⟩
theorem fnRemainder_all (a0 : Option Addr) (len0 cap0 : Nat) (w : World) (hb : Bytes w.heap.size w a0 len0) :
    Calls Tryz.prog 4 #[.slice a0 len0 cap0] w fun e w' => e = .returned (.bool true) ∧ Below w.heap.size w w' := by
  by_cases hbig : 4096 < len0
  · clear hb
    go_enter Tryz.func4, Tryz.ntmps4
    go_wp2_with fail
    refine (big_yes _ _ _ _ hbig).mono ?_
    rintro e w' ⟨rfl, rfl⟩
    go_wp2
    go_ret
    exact ⟨rfl, Below.refl _ _⟩
  exact fnRemainder_any a0 len0 cap0 w hbig hb
end Go.Proofs.YtnkoeidolmiheaaGreatDoor
