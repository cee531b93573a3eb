/-
  FnCohort: the law's own walk.
-/
import Derived.Test.YtnkoeidolmiheaaDoorDrCo
import Derived.Test.YtnkoeidolmiheaaDoorChp
import Derived.Test.YtnkoeidolmiheaaDoorEqN
namespace Go.Proofs.YtnkoeidolmiheaaDoor
open Go.RowKit
set_option linter.unusedVariables false
set_option maxRecDepth 100000
/-- The number in its block. -/
def M1c (w : World) (p : Nat) (ka : Int) (na : Bool) (ea : Int) (sa : ByteArray) (W : World) : Prop := At4rz W p (.int .i64 ka) (.bool na) (.int .i64 ea) (.string sa) ∧ Below w.heap.size w W
theorem m1c_new {w : World} (w0 : World) (hw : Below w.heap.size w w0) (ka : Int) (na : Bool) (ea : Int) (sa : ByteArray) : M1c w w0.heap.size ka na ea sa (w0.alloc (.cells #[.int .i64 ka, .bool na, .int .i64 ea, .string sa] 25)) :=
  ⟨at4r_newz w0 _ _ _ _, hw.alloc hw.size _⟩
theorem M1c.next {w W W' : World} {p : Nat} {ka : Int} {na : Bool} {ea : Int} {sa : ByteArray} (h : M1c w p ka na ea sa W) (hb : Below W.heap.size W W') : M1c w p ka na ea sa W' := ⟨h.1.next hb, h.2.trans (hb.mono h.2.size)⟩
def eqn (x n : Nmt) : Bool := decide (x.1 = n.1 ∧ x.2.1 = n.2.1 ∧ x.2.2.1 = n.2.2.1 ∧ x.2.2.2 = n.2.2.2)
/-- The number is among the first k of them. -/
def fdd (l : List Nmt) (n : Nmt) : Nat → Bool
  | 0 => false
  | k + 1 => fdd l n k || eqn (l.getD k (0, false, 0, { data := #[] })) n
theorem fdd_all (l : List Nmt) (n : Nmt) (k i : Nat) (hi : i < k) (h : l[i]? = some n) : fdd l n k = true := by
  induction k with
  | zero => omega
  | succ k ih =>
    show (fdd l n k || _) = true
    by_cases hk : i = k
    · subst hk
      have : l.getD i (0, false, 0, { data := #[] }) = n := by rw [List.getD_eq_getElem?_getD, h]; rfl
      rw [this, Bool.or_eq_true]
      exact .inr (decide_eq_true ⟨rfl, rfl, rfl, rfl⟩)
    · rw [ih (by omega), Bool.true_or]
theorem fdd_end (f k : Int) (b : Bool) (e : Int) (s : ByteArray) (l : List Nmt) (h : CohP f k b e s l) : fdd l (k, b, e, s) l.length = decide (0 < (l.length : Int)) := by
  by_cases hl : 0 < l.length
  · obtain ⟨-, i, hi⟩ := h.2 hl
    rw [fdd_all l (k, b, e, s) l.length i (List.getElem?_eq_some_iff.1 hi).1 hi, decide_eq_true (by omega)]
  · have : l = [] := List.length_eq_zero_iff.1 (by omega)
    subst this
    rfl
/-- What the law asks of one of the cohort. -/
theorem coh_one (f k : Int) (b : Bool) (e : Int) (s : ByteArray) (l : List Nmt) (h : CohP f k b e s l) (hs : s.size ≤ 4611686018427387904) (i : Nat) (p : Nmt) (hp : l[i]? = some p) :
    ∃ t : Int, (∀ X, Calls Tryd.prog 8 #[.int .i64 f, numV p.1 p.2.1 p.2.2.1 p.2.2.2] X fun r w' => r = .returned (.bool true) ∧ Below X.heap.size X w')
      ∧ (∀ X, KTab X → Calls Tryd.prog 9 #[.int .i64 f, numV p.1 p.2.1 p.2.2.1 p.2.2.2, numV k b e s] X fun x w' => x = .returned (.int .i64 0) ∧ Below X.heap.size X w')
      ∧ (∀ X, KTab X → Calls Tryd.prog 10 #[.int .i64 f, numV p.1 p.2.1 p.2.2.1 p.2.2.2, numV k b e s] X fun x w' => x = .returned (.int .i64 t) ∧ Below X.heap.size X w')
      ∧ (∀ X, (binOp .eql 25 (.agg #[.int .i64 p.1, .bool p.2.1, .int .i64 p.2.2.1, .string p.2.2.2]) (.agg #[.int .i64 k, .bool b, .int .i64 e, .string s])).run Tryd.prog X = .ok (.bool (eqn p (k, b, e, s))) X)
      ∧ (t == 0) = eqn p (k, b, e, s) ∧ (-7000 ≤ p.2.2.1 ∧ p.2.2.1 ≤ 7000) := by
  obtain ⟨hN, hC, -⟩ := h.1 i p hp
  have hO := (h.2 (by have := (List.getElem?_eq_some_iff.1 hp).1; omega)).1
  have zp : p.2.2.2.size ≤ 4611686018427387904 := by have := (numB_bd f p.1 p.2.1 p.2.2.1 p.2.2.2 hN).2.2.1; omega
  refine ⟨ttR f p.1 p.2.1 p.2.2.1 p.2.2.2 k b e s, fun X => ?_, fun X hX => ?_, fun X hX => iTotal_any f p.1 p.2.1 p.2.2.1 p.2.2.2 k b e s X zp hs hX, fun X => eql_num_any _ _ _ _ _ _ _ _ X, ?_, ?_⟩
  · have := iNumOk_any f p.1 p.2.1 p.2.2.1 p.2.2.2 X zp
    rw [hN] at this
    exact this
  · have := iCompare_any f p.1 p.2.1 p.2.2.1 p.2.2.2 k b e s X zp hs hX
    rw [hC] at this
    exact this
  · have := tt_iff f p.1 p.2.1 p.2.2.1 p.2.2.2 k b e s hN hO
    unfold eqn
    by_cases hz : ttR f p.1 p.2.1 p.2.2.1 p.2.2.2 k b e s = 0
    · rw [hz, decide_eq_true (this.1 hz)]; rfl
    · rw [beq_eq_false_iff_ne.2 hz, decide_eq_false (fun q => hz (this.2 q))]
  · obtain ⟨-, -, -, he, -⟩ := numB_bd f p.1 p.2.1 p.2.2.1 p.2.2.2 hN
    omega
set_option maxRecDepth 100000 in
set_option maxHeartbeats 4000000 in
theorem fnCohort_any (a0 : Option Addr) (len0 cap0 : Nat) (w : World) (hbig : ¬ 4096 < len0) (hb : Bytes w.heap.size w a0 len0) (hT : KTab w) :
    Calls Tryd.prog 3 #[.slice a0 len0 cap0] w fun e w' => e = .returned (.bool true) ∧ Below w.heap.size w w' := by
  have hB : Hid (Bytes w.heap.size w a0 len0) := hb
  have HK : Hid (∀ X, Below w.heap.size w X → KTab X) := fun X hX => hT.next hX
  clear hb hT
  go_enter Tryd.func3, Tryd.ntmps3
  go_wp2_with fail
  refine (big_no _ _ _ _ hbig).mono ?_
  rintro e w' ⟨rfl, hw⟩
  obtain rfl := hw.symm
  go_wp2_with fail
  refine (DrawCohort_any _ _ _ _ (by omega) hB.out).mono ?_
  rintro e w1 ⟨f, kn, nn, en, sn, rfl, hsn, hb1⟩
  have zS : sn.size ≤ 4611686018427387904 := by omega
  obtain ⟨l, hl100, hTS, hTI, hP⟩ := cohort_full f kn nn en sn zS
  have HTS : Hid (∀ X, Calls Tryd.prog 7 #[.int .i64 f, numV kn nn en sn] X fun x w' => ∃ v, x = .returned v ∧ HasN w' X.heap.size v l ∧ Below X.heap.size X w') := hTS
  have HTI : Hid (∀ X, Calls Tryd.prog 6 #[.int .i64 f, numV kn nn en sn] X fun x w' => ∃ v, x = .returned v ∧ HasN w' X.heap.size v l ∧ Below X.heap.size X w') := hTI
  have HP : Hid (CohP f kn nn en sn l) := hP
  have HZs : Hid (sn.size ≤ 4611686018427387904) := zS
  have HM1 : Hid (M1c w w1.heap.size kn nn en sn (w1.alloc (.cells #[.int .i64 kn, .bool nn, .int .i64 en, .string sn] 25))) := m1c_new w1 hb1 kn nn en sn
  clear hTS hTI hP zS hsn hb1 hB hbig
  go_wp2_with fail
  refine (HTI.out _).mono ?_
  rintro x w3 ⟨v, rfl, hH, hb3⟩
  have HM3 : Hid (M1c w w1.heap.size kn nn en sn w3) := HM1.out.next hb3
  obtain ⟨aa, ca, rfl, hga⟩ := HasV.form hH (nq_length l)
  have HA : Hid (0 < l.length → ∃ g, aa = some ⟨g, 0, none⟩ ∧ g < w3.heap.size ∧ ∀ i, i < l.length * 4 → w3.cell? ⟨g, i, none⟩ = (nq l)[i]?) := fun h => by
    obtain ⟨g, h1, -, h3, h4⟩ := hga h
    exact ⟨g, h1, h3, h4⟩
  clear hb3 hH hga HM1 HTI
  generalize w1.heap.size = p at *
  obtain ⟨c0, c1, c2, c3, c4⟩ := HM3.out.1.cells
  go_wp2_with fail
  refine (HTS.out _).mono ?_
  rintro x w4 ⟨v2, rfl, hH2, hb4⟩
  obtain ⟨aa2, ca2, rfl, -⟩ := HasV.form hH2 (nq_length l)
  have HM4 : Hid (M1c w p kn nn en sn w4) := HM3.out.next hb4
  have HA4 : Hid (0 < l.length → ∃ g, aa = some ⟨g, 0, none⟩ ∧ g < w4.heap.size ∧ ∀ i, i < l.length * 4 → w4.cell? ⟨g, i, none⟩ = (nq l)[i]?) := fun h => by
    obtain ⟨g, h1, h3, h4⟩ := HA.out h
    exact ⟨g, h1, Nat.lt_of_lt_of_le h3 hb4.size, fun i hi => (hb4.cell (p := ⟨g, i, none⟩) h3).trans (h4 i hi)⟩
  clear hb4 hH2 HM3 HTS HA c0 c1 c2 c3 c4
  have HKc : Hid (∀ W, Below w4.heap.size w4 W → KTab W) := fun W hC => HK.out W (HM4.out.next hC).2
  go_wp2
  go_loopw [6, 7] (fun fo i wr => ∃ k : Nat, k ≤ l.length ∧ i = .int .i64 k ∧ fo = .bool (fdd l (kn, nn, en, sn) k) ∧ Hid (Below w4.heap.size w4 wr)) (fun _ i _ => l.length - (intOf i).toNat)
  case atStart => exact ⟨0, Nat.zero_le _, rfl, rfl, Below.refl _ _⟩
  case round =>
    obtain ⟨k, hk, rfl, rfl, HBe⟩ := hrel
    by_cases hlt : k < l.length
    · obtain ⟨g, rfl, hgl, hca⟩ := HA4.out (by omega)
      have hget : l[k]? = some l[k] := List.getElem?_eq_getElem hlt
      obtain ⟨q1, q2, q3, q4⟩ := nq_at l k _ hget
      have HC1 : Hid (w4.cell? ⟨g, k * 4, none⟩ = some (.int .i64 l[k].1) ∧ w4.cell? ⟨g, k * 4 + 1, none⟩ = some (.bool l[k].2.1) ∧ w4.cell? ⟨g, k * 4 + 2, none⟩ = some (.int .i64 l[k].2.2.1) ∧ w4.cell? ⟨g, k * 4 + 3, none⟩ = some (.string l[k].2.2.2)) := ⟨(hca _ (by omega)).trans q1, (hca _ (by omega)).trans q2, (hca _ (by omega)).trans q3, (hca _ (by omega)).trans q4⟩
      obtain ⟨t, t1, t2, t3, t4, t5, t6⟩ := coh_one f kn nn en sn l HP.out HZs.out k _ hget
      have HF : Hid (fdd l (kn, nn, en, sn) (k + 1) = (fdd l (kn, nn, en, sn) k || eqn l[k] (kn, nn, en, sn))) := by
        show (fdd l (kn, nn, en, sn) k || eqn (l.getD k (0, false, 0, { data := #[] })) (kn, nn, en, sn)) = _
        rw [List.getD_eq_getElem?_getD, hget]; rfl
      have HPr : Hid (∀ m, k = m + 1 → ∃ y : Int, w4.cell? ⟨g, m * 4 + 2, none⟩ = some (.int .i64 y) ∧ l[k].2.2.1 = y + 1) := fun m hm => by
        have hlt2 : m < l.length := by omega
        have hget2 : l[m]? = some l[m] := List.getElem?_eq_getElem hlt2
        refine ⟨l[m].2.2.1, (hca _ (by omega)).trans (nq_at l m _ hget2).2.2.1, ?_⟩
        exact (HP.out.1 k _ hget).2.2 l[m] (by omega) (by rw [show k - 1 = m by omega]; exact hget2)
      have hk1 : (k : Int) < (l.length : Int) := by omega
      clear hca hget q1 q2 q3 q4
      generalize eqn l[k] (kn, nn, en, sn) = dz at *
      generalize l[k].1 = x1 at *
      generalize l[k].2.1 = x2 at *
      generalize l[k].2.2.1 = x3 at *
      generalize l[k].2.2.2 = x4 at *
      have HT1 : Hid (∀ X, Calls Tryd.prog 8 #[.int .i64 f, numV x1 x2 x3 x4] X fun r w' => r = .returned (.bool true) ∧ Below X.heap.size X w') := t1
      have HT2 : Hid (∀ X, KTab X → Calls Tryd.prog 9 #[.int .i64 f, numV x1 x2 x3 x4, numV kn nn en sn] X fun x w' => x = .returned (.int .i64 0) ∧ Below X.heap.size X w') := t2
      have HT3 : Hid (∀ X, KTab X → Calls Tryd.prog 10 #[.int .i64 f, numV x1 x2 x3 x4, numV kn nn en sn] X fun x w' => x = .returned (.int .i64 t) ∧ Below X.heap.size X w') := t3
      have hEq : ∀ X, (binOp .eql 25 (.agg #[.int .i64 x1, .bool x2, .int .i64 x3, .string x4]) (.agg #[.int .i64 kn, .bool nn, .int .i64 en, .string sn])).run Tryd.prog X = .ok (.bool dz) X := t4
      have htz : (t == 0) = dz := t5
      have HB6 : Hid (-7000 ≤ x3 ∧ x3 ≤ 7000) := t6
      clear t1 t2 t3 t4 t5 t6
      generalize fdd l (kn, nn, en, sn) k = fo at *
      have HX0 : Hid (Below w4.heap.size w4 wr.drew) := HBe.out.drew
      rcases Nat.eq_zero_or_pos k with hk0 | hpos
      · subst hk0
        have HC0 : Hid (w4.cell? ⟨g, 0, none⟩ = some (.int .i64 x1) ∧ w4.cell? ⟨g, 1, none⟩ = some (.bool x2) ∧ w4.cell? ⟨g, 2, none⟩ = some (.int .i64 x3) ∧ w4.cell? ⟨g, 3, none⟩ = some (.string x4)) := by
          have := HC1.out
          simp only [Nat.zero_mul, Nat.zero_add] at this
          exact this
        clear HC1 HPr
        have HC1 : Hid (w4.cell? ⟨g, 0, none⟩ = some (.int .i64 x1) ∧ w4.cell? ⟨g, 1, none⟩ = some (.bool x2) ∧ w4.cell? ⟨g, 2, none⟩ = some (.int .i64 x3) ∧ w4.cell? ⟨g, 3, none⟩ = some (.string x4)) := HC0.out
        clear HC0
        go_upto_region 11 with fail
        cases dz
        all_goals
          refine wp_region_class (C := fun W => Below w4.heap.size w4 W) (by kernel_rfl) (by kernel_rfl) HX0.out ?_
          repeat (first | go_big_quiet_skip | (refine wpQuiet_step ?_; intro K hK; go_simp; first | go_big_quiet_on | (apply Exists.intro; refine ⟨fun wx hC => ?_, ?_⟩; (first | exact rfl | ((with_reducible refine Calls.class_of (HT1.out wx) ?_); exact fun w' hb => bel1 hC hb) | ((with_reducible refine Calls.class_of (HT2.out wx (HKc.out wx hC)) ?_); exact fun w' hb => bel1 hC hb) | ((with_reducible refine Calls.class_of (HT3.out wx (HKc.out wx hC)) ?_); exact fun w' hb => bel1 hC hb) | (have q0 := (hC.cell (p := ⟨g, 0, none⟩) hgl).trans HC1.out.1; have q1 := (hC.cell (p := ⟨g, 1, none⟩) hgl).trans HC1.out.2.1; have q2 := (hC.cell (p := ⟨g, 2, none⟩) hgl).trans HC1.out.2.2.1; have q3 := (hC.cell (p := ⟨g, 3, none⟩) hgl).trans HC1.out.2.2.2; go_simp; exact rfl) | (obtain ⟨a0, a1, a2, a3, a4⟩ := (HM4.out.next hC).1.cells; go_simp; exact rfl)); go_big_quiet_on)))
          refine wpQuiet_nil ?_
          intro w5 hb5
          have HX1 : Hid (Below w4.heap.size w4 w5.drew) := Below.drew hb5
          clear hb5 HX0 HT1 HT2 HT3
          go_upto_region 13 with fail
          cases fo
          all_goals
            refine wp_region_class (C := fun W => Below w4.heap.size w4 W) (by kernel_rfl) (by kernel_rfl) HX1.out ?_
            repeat (first | go_big_quiet_skip | (refine wpQuiet_step ?_; intro K hK; go_simp; first | go_big_quiet_on | (apply Exists.intro; refine ⟨fun wx hC => ?_, ?_⟩; (first | exact rfl | (have q0 := (hC.cell (p := ⟨g, 0, none⟩) hgl).trans HC1.out.1; have q1 := (hC.cell (p := ⟨g, 1, none⟩) hgl).trans HC1.out.2.1; have q2 := (hC.cell (p := ⟨g, 2, none⟩) hgl).trans HC1.out.2.2.1; have q3 := (hC.cell (p := ⟨g, 3, none⟩) hgl).trans HC1.out.2.2.2; go_simp; exact rfl) | (obtain ⟨a0, a1, a2, a3, a4⟩ := (HM4.out.next hC).1.cells; go_simp; exact rfl)); go_big_quiet_on)))
            refine wpQuiet_nil ?_
            intro w6 hb6
            have HB6w : Hid (Below w4.heap.size w4 w6) := hb6
            clear hb6 HX1
            go_wp2
            go_roundw
            case rel => exact ⟨0 + 1, by omega, by go_num, by rw [HF.out]; rfl, HB6w⟩
            case measure => simp [intOf]; omega
      · obtain ⟨j, hj⟩ : ∃ j, k = j + 1 := ⟨k - 1, by omega⟩
        obtain ⟨y, hy1, hy2⟩ := HPr.out j hj
        have HPc : Hid (w4.cell? ⟨g, j * 4 + 2, none⟩ = some (.int .i64 y)) := hy1
        have hw3 : IntKind.i64.wrap (y + 1) = x3 := by have := HB6.out; rw [IntKind.wrap_i64]; omega
        have wk : IntKind.i64.wrap ((k : Int) - 1) = (j : Int) := by rw [IntKind.wrap_i64]; omega
        have hj1 : (j : Int) < (l.length : Int) := by omega
        have hkp : (0 : Int) < (k : Int) := by omega
        have hkp2 : decide ((0 : Int) < (k : Int)) = true := decide_eq_true hkp
        have HJ : Hid (k = j + 1) := hj
        clear HPr hy1 hy2 hj HB6
        go_upto_region 11 with fail
        cases dz
        all_goals
          refine wp_region_class (C := fun W => Below w4.heap.size w4 W) (by kernel_rfl) (by kernel_rfl) HX0.out ?_
          repeat (first | go_big_quiet_skip | (refine wpQuiet_step ?_; intro K hK; go_simp; first | go_big_quiet_on | (apply Exists.intro; refine ⟨fun wx hC => ?_, ?_⟩; (first | exact rfl | ((with_reducible refine Calls.class_of (HT1.out wx) ?_); exact fun w' hb => bel1 hC hb) | ((with_reducible refine Calls.class_of (HT2.out wx (HKc.out wx hC)) ?_); exact fun w' hb => bel1 hC hb) | ((with_reducible refine Calls.class_of (HT3.out wx (HKc.out wx hC)) ?_); exact fun w' hb => bel1 hC hb) | (have q0 := (hC.cell (p := ⟨g, k * 4, none⟩) hgl).trans HC1.out.1; have q1 := (hC.cell (p := ⟨g, k * 4 + 1, none⟩) hgl).trans HC1.out.2.1; have q2 := (hC.cell (p := ⟨g, k * 4 + 2, none⟩) hgl).trans HC1.out.2.2.1; have q3 := (hC.cell (p := ⟨g, k * 4 + 3, none⟩) hgl).trans HC1.out.2.2.2; go_simp; exact rfl) | (obtain ⟨a0, a1, a2, a3, a4⟩ := (HM4.out.next hC).1.cells; go_simp; exact rfl) | (have q5 := (hC.cell (p := ⟨g, j * 4 + 2, none⟩) hgl).trans HPc.out; go_simp; exact rfl)); go_big_quiet_on)))
          refine wpQuiet_nil ?_
          intro w5 hb5
          have HX1 : Hid (Below w4.heap.size w4 w5.drew) := Below.drew hb5
          clear hb5 HX0 HT1 HT2 HT3
          go_upto_region 13 with fail
          cases fo
          all_goals
            refine wp_region_class (C := fun W => Below w4.heap.size w4 W) (by kernel_rfl) (by kernel_rfl) HX1.out ?_
            repeat (first | go_big_quiet_skip | (refine wpQuiet_step ?_; intro K hK; go_simp; first | go_big_quiet_on | (apply Exists.intro; refine ⟨fun wx hC => ?_, ?_⟩; (first | exact rfl | (have q0 := (hC.cell (p := ⟨g, k * 4, none⟩) hgl).trans HC1.out.1; have q1 := (hC.cell (p := ⟨g, k * 4 + 1, none⟩) hgl).trans HC1.out.2.1; have q2 := (hC.cell (p := ⟨g, k * 4 + 2, none⟩) hgl).trans HC1.out.2.2.1; have q3 := (hC.cell (p := ⟨g, k * 4 + 3, none⟩) hgl).trans HC1.out.2.2.2; go_simp; exact rfl) | (obtain ⟨a0, a1, a2, a3, a4⟩ := (HM4.out.next hC).1.cells; go_simp; exact rfl) | (have q5 := (hC.cell (p := ⟨g, j * 4 + 2, none⟩) hgl).trans HPc.out; go_simp; exact rfl)); go_big_quiet_on)))
            refine wpQuiet_nil ?_
            intro w6 hb6
            have HB6w : Hid (Below w4.heap.size w4 w6) := hb6
            clear hb6 HX1
            go_wp2
            go_roundw
            case rel => exact ⟨k + 1, by omega, by go_num, by rw [HF.out]; rfl, HB6w⟩
            case measure => simp [intOf]; omega
    · have hk2 : k = l.length := by omega
      subst hk2
      have he := fdd_end f kn nn en sn l HP.out
      have hB := HM4.out.2.trans (HBe.out.mono HM4.out.2.size)
      by_cases hl0 : 0 < l.length
      · rw [decide_eq_true (show 0 < (l.length : Int) by omega)] at he
        have hl2 : decide (0 < l.length) = true := decide_eq_true hl0
        rw [he]
        clear he
        go_wp2
        go_ret
        exact ⟨by first | exact rfl | exact congrArg (fun z => Ending.returned (Value.bool z)) hl2, hB⟩
      · rw [decide_eq_false (show ¬ 0 < (l.length : Int) by omega)] at he
        have hl2 : decide (0 < l.length) = false := decide_eq_false hl0
        have hl3 : l.length = 0 := by omega
        rw [he]
        clear he
        go_wp2
        go_ret
        exact ⟨by first | exact rfl | exact congrArg (fun z => Ending.returned (Value.bool (!z))) hl2 | exact congrArg (fun z => Ending.returned (Value.bool (false == z))) hl2, hB⟩
theorem fnCohort_all (a0 : Option Addr) (len0 cap0 : Nat) (w : World) (hb : Bytes w.heap.size w a0 len0) (hT : KTab w) :
    Calls Tryd.prog 3 #[.slice a0 len0 cap0] w fun e w' => e = .returned (.bool true) ∧ Below w.heap.size w w' := by
  by_cases hbig : 4096 < len0
  · clear hb
    go_enter Tryd.func3, Tryd.ntmps3
    go_wp2_with fail
    refine (big_yes _ _ _ _ hbig).mono ?_
    rintro e w' ⟨rfl, rfl⟩
    go_wp2
    go_ret
    exact ⟨rfl, Below.refl _ _⟩
  exact fnCohort_any a0 len0 cap0 w hbig hb hT
end Go.Proofs.YtnkoeidolmiheaaDoor
