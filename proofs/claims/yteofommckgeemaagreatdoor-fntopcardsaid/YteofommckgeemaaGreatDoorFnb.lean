/-
  Digits with an exponent, brought nearer to a wanted one within a format, walked.
-/
import Derived.Test.YteofommckgeemaaGreatDoorSpb
import Derived.Test.YteofommckgeemaaGreatDoorQtl
import Derived.Test.YteofommckgeemaaGreatDoorSpa
import Derived.Shelf.Abstract
import Derived.Test.YteofommckgeemaaGreatDoorRows
import Derived.WalkKit
import Derived.Test.YteofommckgeemaaGreatDoorRdk
import Derived.Test.YteofommckgeemaaGreatDoorFmt
import Derived.Test.YteofommckgeemaaGreatDoorSl
import Derived.Test.YteofommckgeemaaGreatDoorNatS

namespace Go.Proofs.YteofommckgeemaaGreatDoor
open Go.RowKit
set_option linter.unusedVariables false
set_option maxRecDepth 100000
/-- The sum as the program takes it: the first number's exponent is not below the other's. -/
def sgF (p ex : Int) (y : Int) (ey : Int) : Bool := farB p ex (tn y).size ey
def sgE (p ex : Int) (y ey : Int) : Int := if sgF p ex y ey then ex - p - 1 else ey
def sgY (p ex : Int) (y ey : Int) : Int := if sgF p ex y ey then 1 else y
def sgX (p ex x y ey : Int) : Int := x * 10 ^ (ex - sgE p ex y ey).toNat
set_option maxRecDepth 100000 in
set_option maxHeartbeats 2000000 in
theorem sumFor_far (f : Int) (nx : Bool) (ex x : Int) (ny : Bool) (ey y : Int) (w : World) (hp : 0 ≤ limP f ∧ limP f ≤ 34) (hx : Nok x) (hy : Nok y) (hx0 : x ≠ 0) (hy0 : y ≠ 0) (hex : -20000 ≤ ex ∧ ex ≤ 20000) (hey : -20000 ≤ ey ∧ ey ≤ 20000) (hge : ¬ ex < ey)
    (hE : 0 ≤ ex - sgE (limP f) ex y ey ∧ ex - sgE (limP f) ex y ey ≤ 200) (hX : Nok (sgX (limP f) ex x y ey)) (hS : Nok (sgX (limP f) ex x y ey + sgY (limP f) ex y ey)) :
    Calls Tryz.prog 154 #[.int .i64 f, numV 1 nx ex (tn x), numV 1 ny ey (tn y)] w fun r w' => r = .returned (numV 1 (esN nx (sgX (limP f) ex x y ey) ny (sgY (limP f) ex y ey)) (sgE (limP f) ex y ey) (tn (esV nx (sgX (limP f) ex x y ey) ny (sgY (limP f) ex y ey)))) ∧ Below w.heap.size w w' := by
  have HN : Hid (N3 w 1 nx ex (tn x) 1 ny ey (tn y) (n3W w 1 nx ex (tn x) 1 ny ey (tn y))) := n3_new w 1 nx ex (tn x) 1 ny ey (tn y)
  have HZ1 : Hid (∀ X, Calls Tryz.prog 93 #[numV 1 nx ex (tn x)] X fun r w' => r = .returned (.bool false) ∧ Below X.heap.size X w') := fun X => by
    have := isNought_fin nx ex x X hx
    rwa [decide_eq_false hx0] at this
  have HZ2 : Hid (∀ X, Calls Tryz.prog 93 #[numV 1 ny ey (tn y)] X fun r w' => r = .returned (.bool false) ∧ Below X.heap.size X w') := fun X => by
    have := isNought_fin ny ey y X hy
    rwa [decide_eq_false hy0] at this
  have HW : Hid (∀ X, Calls Tryz.prog 212 #[.int .i64 f, numV 1 nx ex (tn x), numV 1 ny ey (tn y)] X fun r w' => r = .returned (numV 1 ny (sgE (limP f) ex y ey) (tn (sgY (limP f) ex y ey))) ∧ Below X.heap.size X w') := fun X => by
    have := withinReach_any f 1 nx ex (tn x) ny ey (tn y) X hex hey (by rw [show (tn y).size = (nt y).length from tx_size _]; have := nok_len hy; omega) hp
    have e : (if farB (limP f) ex (tn y).size ey then ({ data := #[49] } : ByteArray) else tn y) = tn (sgY (limP f) ex y ey) := by
      unfold sgY sgF
      split
      · have : nt 1 = [1] := (nt_of [1] 1 (canon_one 1 (by decide) (by decide)) rfl (by decide)).symm
        unfold tn; rw [this]; exact tx_1.symm
      · rfl
    rw [e] at this
    exact this
  have hyk : Nok (sgY (limP f) ex y ey) := by
    unfold sgY
    split
    · exact ⟨by decide, Int.lt_of_lt_of_le (by decide : (1 : Int) < 10 ^ 1) (pow_mono 1 200 (by decide))⟩
    · exact hy
  generalize hsy : sgY (limP f) ex y ey = Y at *
  generalize hsx : sgX (limP f) ex x y ey = X1 at *
  generalize hse : sgE (limP f) ex y ey = E1 at *
  have HSh : Hid (∀ X, Calls Tryz.prog 87 #[.string (tn x), .int .i64 (ex - E1)] X fun r w' => r = .returned (.string (tn X1)) ∧ Below X.heap.size X w') := fun X => by
    have := iNatShift_any (tn x) (ex - E1) X (tn_sz x)
    have es : shiftS (tn x) (ex - E1) = tn X1 := by
      unfold shiftS
      have e1 : x * 10 ^ (ex - E1).toNat = X1 := by rw [← hsx]; unfold sgX; rw [hse]
      rw [tn_ok hx, decide_eq_true hE.1, decide_eq_true hE.2, nv_tn hx, e1, fit_tn hX]
      rfl
    rwa [es] at this
  have HES : Hid (∀ X, Calls Tryz.prog 213 #[numV 1 nx E1 (tn X1), numV 1 ny E1 (tn Y)] X fun r w' => r = .returned (numV 1 (esN nx X1 ny Y) E1 (tn (esV nx X1 ny Y))) ∧ Below X.heap.size X w') := fun X => evenSum_any nx ny E1 X1 Y X hX hyk hS
  have hwE : IntKind.i64.wrap (ex - E1) = ex - E1 := by rw [IntKind.wrap_i64]; omega
  generalize esN nx X1 ny Y = RN at *
  generalize tn (esV nx X1 ny Y) = RT at *
  generalize tn X1 = TX at *
  generalize tn Y = TY at *
  generalize tn x = S1 at *
  generalize tn y = S2 at *
  clear hsy hsx hse hx hy hx0 hy0 hex hey hE hX hS hp hyk
  go_enter Tryz.func154, Tryz.ntmps154
  go_wp2_with fail
  refine (HZ1.out _).mono ?_
  rintro r w1 ⟨rfl, hb1⟩
  have HN1 : Hid (N3 w 1 nx ex S1 1 ny ey S2 w1) := HN.out.next hb1
  obtain ⟨c0, c1, c2, c3, c4⟩ := HN1.out.2.1.cells
  clear hb1 HN HZ1
  go_wp2_with fail
  refine (HZ2.out _).mono ?_
  rintro r w2 ⟨rfl, hb2⟩
  have HN2 : Hid (N3 w 1 nx ex S1 1 ny ey S2 w2) := HN1.out.next hb2
  clear hb2 HN1 HZ2 c0 c1 c2 c3 c4
  obtain ⟨a0, a1, a2, a3, a4⟩ := HN2.out.1.cells
  obtain ⟨c0, c1, c2, c3, c4⟩ := HN2.out.2.1.cells
  go_wp2_with fail
  refine (HW.out _).mono ?_
  rintro r w3 ⟨rfl, hb3⟩
  have HN3 : Hid (N3 w 1 nx ex S1 1 ny ey S2 w3) := HN2.out.next hb3
  have HN4 : Hid (N3 w 1 nx ex S1 1 ny E1 TY (w3.setRow (w.heap.size + 1) #[.int .i64 1, .bool ny, .int .i64 E1, .string TY])) := HN3.out.rowy _ _ _ _
  have HA3 : Hid (At4r w3 (w.heap.size + 1) (.int .i64 1) (.bool ny) (.int .i64 ey) (.string S2)) := HN3.out.2.1
  clear hb3 HN2 HN3 HW a0 a1 a2 a3 a4 c0 c1 c2 c3 c4
  go_wp2_with (refine wpList_store_row rfl 78 (.tmp 5) (.tmp 28) rfl (w.heap.size + 1) #[.int .i64 1, .bool ny, .int .i64 E1, .string TY] rfl rfl _ _ HA3.out (by kernel_rfl) rfl (one4 _ _ _ _) ?_)
  generalize w3.setRow (w.heap.size + 1) #[.int .i64 1, .bool ny, .int .i64 E1, .string TY] = w4 at *
  have HX0 : Hid (Below w4.heap.size w4 w4.drew) := (Below.refl _ _).drew
  clear HA3
  refine wp_region_tail (C := fun W => Below w4.heap.size w4 W) 11 (by kernel_rfl) (by kernel_rfl) HX0.out ?_
  simp only [List.take_succ_cons, List.take_zero, List.drop_succ_cons, List.drop_zero]
  repeat (refine wpQuiet_step (fun K hK => ?_); go_simp; first | (refine hK _ ?_; clear hK K) | (apply Exists.intro; refine ⟨fun wx hC => ?_, hK _ ?_⟩; (first | exact rfl | exact Calls.class_of (HSh.out wx) (fun w' hb => bel1 hC hb) | (obtain ⟨a0, a1, a2, a3, a4⟩ := (HN4.out.next hC).1.cells; go_simp; exact rfl) | (obtain ⟨a0, a1, a2, a3, a4⟩ := (HN4.out.next hC).2.1.cells; go_simp; exact rfl)); clear hK K))
  refine wpQuiet_nil ?_
  intro w5 hb5
  have HN5 : Hid (N3 w 1 nx ex S1 1 ny E1 TY w5) := HN4.out.next hb5
  have HN6 : Hid (N3 w 1 nx E1 TX 1 ny E1 TY ((w5.setCell ⟨w.heap.size, 2, none⟩ (.int .i64 E1)).setCell ⟨w.heap.size, 3, none⟩ (.string TX))) := (HN5.out.x2 _).x3 _
  obtain ⟨a0, a1, a2, a3, a4⟩ := HN5.out.1.cells
  obtain ⟨c0, c1, c2, c3, c4⟩ := HN5.out.2.1.cells
  clear hb5 HN4 HSh HX0
  go_wp2_with fail
  refine (HES.out _).mono ?_
  rintro r w6 ⟨rfl, hb6⟩
  have HN7 : Hid (N3 w 1 nx E1 TX 1 ny E1 TY w6) := HN6.out.next hb6
  clear hb6 HN5 HN6 HES a0 a1 a2 a3 a4 c0 c1 c2 c3 c4
  go_wp2_with (refine wpList_store_row rfl 78 (.tmp 6) (.tmp 43) rfl (w.heap.size + 2) #[.int .i64 1, .bool RN, .int .i64 E1, .string RT] rfl rfl _ _ HN7.out.2.2.1 (by kernel_rfl) rfl (one4 _ _ _ _) ?_)
  have hP := (HN7.out.2.2.1.row (.int .i64 1) (.bool RN) (.int .i64 E1) (.string RT)).cells
  refine bodyPost_ret (results_num rfl _ _ rfl hP.1 hP.2.1 hP.2.2.1 hP.2.2.2.1) rfl ?_
  exact ⟨rfl, bel_row HN7.out.2.2.2 (by omega) _⟩
end Go.Proofs.YteofommckgeemaaGreatDoor

namespace Go.Proofs.YteofommckgeemaaGreatDoor
open Go.RowKit
set_option linter.unusedVariables false
set_option maxRecDepth 100000
/-- The last infinity among the first numbers. -/
def tiA (K : Nat → Int) (B : Nat → Bool) (E : Nat → Int) (S : Nat → ByteArray) : Nat → Int × Bool × Int × ByteArray
  | 0 => (0, false, 0, { data := #[] })
  | j + 1 => if K j = 2 then (K j, B j, E j, S j) else tiA K B E S j
/-- Infinities of unlike signs. -/
def tiC (K : Nat → Int) (B : Nat → Bool) (E : Nat → Int) (S : Nat → ByteArray) (j : Nat) : Prop := K j = 2 ∧ (tiA K B E S j).1 = 2 ∧ (tiA K B E S j).2.1 ≠ B j
/-- Are there such ones among the first numbers? -/
def tiX (K : Nat → Int) (B : Nat → Bool) (E : Nat → Int) (S : Nat → ByteArray) : Nat → Bool
  | 0 => false
  | j + 1 => tiX K B E S j || (decide (K j = 2) && (decide ((tiA K B E S j).1 = 2) && !((tiA K B E S j).2.1 == B j)))
theorem tiX_iff (K : Nat → Int) (B : Nat → Bool) (E : Nat → Int) (S : Nat → ByteArray) (n : Nat) : tiX K B E S n = true ↔ ∃ j, j < n ∧ tiC K B E S j := by
  induction n with
  | zero => simp [tiX]
  | succ n ih =>
    unfold tiX
    rw [Bool.or_eq_true, ih]
    constructor
    · rintro (⟨j, hj, hc⟩ | h)
      · exact ⟨j, by omega, hc⟩
      · simp only [Bool.and_eq_true, decide_eq_true_eq, Bool.not_eq_true', beq_eq_false_iff_ne] at h
        exact ⟨n, by omega, h.1, h.2.1, h.2.2⟩
    · rintro ⟨j, hj, hc⟩
      by_cases c : j < n
      · exact .inl ⟨j, c, hc⟩
      · obtain rfl : j = n := by omega
        refine .inr ?_
        simp only [Bool.and_eq_true, decide_eq_true_eq, Bool.not_eq_true', beq_eq_false_iff_ne]
        exact ⟨hc.1, hc.2.1, hc.2.2⟩
/-- How throwInfinity ends. -/
def tiE (n : Nat) (K : Nat → Int) (B : Nat → Bool) (E : Nat → Int) (S : Nat → ByteArray) : Ending :=
  if tiX K B E S n then thrown (rsV 3 false 0 { data := #[] } 1) else if (tiA K B E S n).1 = 2 then thrown (rsV (tiA K B E S n).1 (tiA K B E S n).2.1 (tiA K B E S n).2.2.1 (tiA K B E S n).2.2.2 0) else .returned (.tuple #[])
theorem build_num0 (w : World) : (Instr.build 78 #[]).run Tryz.prog w = .ok (numV 0 false 0 { data := #[] }) w := run_build w _ _ _ (by kernel_rfl)
set_option maxRecDepth 100000 in
set_option maxHeartbeats 2000000 in
theorem throwInfinity_any (n g : Nat) (K : Nat → Int) (B : Nat → Bool) (E : Nat → Int) (S : Nat → ByteArray) (w : World) (hn : n ≤ 3) (hg : g < w.heap.size) (hr : NRw w g n K B E S) :
    Calls Tryz.prog 80 #[.slice (some ⟨g, 0, none⟩) n n] w fun x w' => x = tiE n K B E S ∧ Below w.heap.size w w' := by
  have HR : Hid (NRw w g n K B E S ∧ g < w.heap.size) := ⟨hr, hg⟩
  clear hr hg
  obtain ⟨R, hR⟩ : ∃ R, tiE n K B E S = R := ⟨_, rfl⟩
  have HRe : Hid (tiE n K B E S = R) := hR
  rw [hR]
  clear hR
  have hb0 := build_num0
  have HZ : Hid (At4r (w.alloc (.cells #[.int .i64 0, .bool false, .int .i64 0, .string { data := #[] }] 78)) w.heap.size (.int .i64 0) (.bool false) (.int .i64 0) (.string { data := #[] }) ∧ Below w.heap.size w (w.alloc (.cells #[.int .i64 0, .bool false, .int .i64 0, .string { data := #[] }] 78))) := ⟨at4r_new w _ _ _ _, (Below.refl _ _).alloc (Nat.le_refl _) _⟩
  go_enter Tryz.func80, Tryz.ntmps80
  go_wp2
  go_loopw [8] (fun s wr => ∃ j : Nat, j ≤ n ∧ s = .int .i64 j ∧ Hid (∀ i, i < j → ¬ tiC K B E S i) ∧ Hid (At4r wr w.heap.size (.int .i64 (tiA K B E S j).1) (.bool (tiA K B E S j).2.1) (.int .i64 (tiA K B E S j).2.2.1) (.string (tiA K B E S j).2.2.2) ∧ Below w.heap.size w wr)) (fun s _ => n - (intOf s).toNat)
  case atStart => exact ⟨0, Nat.zero_le _, rfl, fun i hi => by omega, HZ⟩
  case round =>
    obtain ⟨j, hj, rfl, hA, hBw⟩ := hrel
    by_cases hlt : j < n
    · obtain ⟨q0, q1, q2, q3⟩ := (HR.out.1.below hBw.out.2 HR.out.2) j hlt
      have hlt' : (j : Int) < (n : Int) := by omega
      obtain ⟨k0, hk0⟩ : ∃ k0, K j = k0 := ⟨_, rfl⟩
      obtain ⟨b0, hb0'⟩ : ∃ b0, B j = b0 := ⟨_, rfl⟩
      obtain ⟨e0, he0⟩ : ∃ e0, E j = e0 := ⟨_, rfl⟩
      obtain ⟨s0, hs0⟩ : ∃ s0, S j = s0 := ⟨_, rfl⟩
      have HK : Hid (K j = k0 ∧ B j = b0 ∧ E j = e0 ∧ S j = s0) := ⟨hk0, hb0', he0, hs0⟩
      obtain ⟨⟨tk, tb, te, ts⟩, hT⟩ : ∃ T, tiA K B E S j = T := ⟨_, rfl⟩
      have HT : Hid (tiA K B E S j = (tk, tb, te, ts)) := hT
      rw [hT] at hBw
      rw [hk0] at q0
      rw [hb0'] at q1
      rw [he0] at q2
      rw [hs0] at q3
      clear hk0 hb0' he0 hs0 hT
      have HBw : Hid (At4r wr w.heap.size (.int .i64 tk) (.bool tb) (.int .i64 te) (.string ts) ∧ Below w.heap.size w wr) := hBw
      clear hBw
      -- the number's own copy lies in a new block
      have HC : Hid (∀ o, At4r (wr.alloc o) w.heap.size (.int .i64 tk) (.bool tb) (.int .i64 te) (.string ts) ∧ Below w.heap.size w (wr.alloc o)) := fun o => ⟨HBw.out.1.next ((Below.refl _ _).alloc (Nat.le_refl _) _), HBw.out.2.alloc HBw.out.2.size _⟩
      by_cases h2 : k0 = 2
      · subst h2
        obtain ⟨c0, c1, c2, c3, c4⟩ := (HC.out (.cells #[.int .i64 2, .bool b0, .int .i64 e0, .string s0] 78)).1.cells
        have HC2 : Hid (At4r (wr.alloc (.cells #[.int .i64 2, .bool b0, .int .i64 e0, .string s0] 78)) w.heap.size (.int .i64 tk) (.bool tb) (.int .i64 te) (.string ts) ∧ Below w.heap.size w (wr.alloc (.cells #[.int .i64 2, .bool b0, .int .i64 e0, .string s0] 78))) := HC.out _
        have HN2 : Hid (tiA K B E S (j + 1) = (2, b0, e0, s0)) := by show _ = _; unfold tiA; rw [HK.out.1, HK.out.2.1, HK.out.2.2.1, HK.out.2.2.2, if_pos rfl]
        by_cases ht : tk = 2
        · subst ht
          by_cases hbb : tb = b0
          · have hbb' : (tb == b0) = true := by rw [hbb]; exact beq_self_eq_true _
            have HA2 : Hid (∀ i, i < j + 1 → ¬ tiC K B E S i) := fun i hi => by
              by_cases c : i < j
              · exact hA.out i c
              · obtain rfl : i = j := by omega
                rintro ⟨-, -, q⟩
                rw [HT.out, HK.out.2.1] at q
                exact q hbb
            clear hbb hA HC
            go_wp2_with (refine wpList_store_row rfl 78 (.tmp 2) (.tmp 27) rfl w.heap.size #[.int .i64 2, .bool b0, .int .i64 e0, .string s0] rfl rfl _ _ HC2.out.1 (by kernel_rfl) rfl (one4 _ _ _ _) ?_)
            go_roundw
            case rel => exact ⟨j + 1, by omega, by go_num, HA2, by rw [HN2.out]; exact ⟨HC2.out.1.row _ _ _ _, bel_row HC2.out.2 (Nat.le_refl _) _⟩⟩
            case measure => simp [intOf]; omega
          · have hbb' : (tb == b0) = false := beq_eq_false_iff_ne.2 hbb
            have E0 : Hid (R = thrown (rsV 3 false 0 { data := #[] } 1)) := by
              show _ = _
              rw [← HRe.out]
              exact if_pos ((tiX_iff K B E S n).2 ⟨j, hlt, HK.out.1, by rw [HT.out], by rw [HT.out, HK.out.2.1]; exact hbb⟩)
            clear hbb hA HC
            go_wp2_with fail
            refine (iInvalid_any _).mono ?_
            rintro x w4 ⟨rfl, hb4⟩
            go_wp2
            exact ⟨rfl, by rw [E0.out], HC2.out.2.trans (hb4.mono HC2.out.2.size)⟩
        · have ht' : (tk == 2) = false := beq_eq_false_iff_ne.2 ht
          have HA2 : Hid (∀ i, i < j + 1 → ¬ tiC K B E S i) := fun i hi => by
            by_cases c : i < j
            · exact hA.out i c
            · obtain rfl : i = j := by omega
              rintro ⟨-, q, -⟩
              rw [HT.out] at q
              exact ht q
          clear ht hA HC
          go_wp2_with (refine wpList_store_row rfl 78 (.tmp 2) (.tmp 27) rfl w.heap.size #[.int .i64 2, .bool b0, .int .i64 e0, .string s0] rfl rfl _ _ HC2.out.1 (by kernel_rfl) rfl (one4 _ _ _ _) ?_)
          go_roundw
          case rel => exact ⟨j + 1, by omega, by go_num, HA2, by rw [HN2.out]; exact ⟨HC2.out.1.row _ _ _ _, bel_row HC2.out.2 (Nat.le_refl _) _⟩⟩
          case measure => simp [intOf]; omega
      · have h2' : (k0 == 2) = false := beq_eq_false_iff_ne.2 h2
        have HN2 : Hid (tiA K B E S (j + 1) = (tk, tb, te, ts)) := by show _ = _; unfold tiA; rw [HK.out.1, if_neg h2]; exact HT.out
        have HA2 : Hid (∀ i, i < j + 1 → ¬ tiC K B E S i) := fun i hi => by
          by_cases c : i < j
          · exact hA.out i c
          · obtain rfl : i = j := by omega
            rintro ⟨q, -, -⟩
            rw [HK.out.1] at q
            exact h2 q
        clear h2 hA
        go_wp2
        go_roundw
        case rel => exact ⟨j + 1, by omega, by go_num, HA2, by rw [HN2.out]; exact HC.out _⟩
        case measure => simp [intOf]; omega
    · obtain rfl : j = n := by omega
      obtain ⟨⟨tk, tb, te, ts⟩, hT⟩ : ∃ T, tiA K B E S j = T := ⟨_, rfl⟩
      have HT : Hid (tiA K B E S j = (tk, tb, te, ts)) := hT
      rw [hT] at hBw
      clear hT
      have HBw : Hid (At4r wr w.heap.size (.int .i64 tk) (.bool tb) (.int .i64 te) (.string ts) ∧ Below w.heap.size w wr) := hBw
      obtain ⟨c0, c1, c2, c3, c4⟩ := hBw.out.1.cells
      clear hBw
      have hno : ¬ tiX K B E S j = true := by rw [tiX_iff]; rintro ⟨i, hi, hc⟩; exact hA.out i hi hc
      by_cases ht : tk = 2
      · subst ht
        have E0 : Hid (R = thrown (rsV 2 tb te ts 0)) := by
          show _ = _
          rw [← HRe.out]
          unfold tiE
          rw [if_neg hno, HT.out]
          rfl
        clear hno hA
        have b2 := build_res0 2 tb te ts
        have b3 := build_sp 2 tb te ts 0
        go_wp2
        exact ⟨rfl, by rw [E0.out], HBw.out.2⟩
      · have ht' : (tk == 2) = false := beq_eq_false_iff_ne.2 ht
        have E0 : Hid (R = .returned (.tuple #[])) := by
          show _ = _
          rw [← HRe.out]
          unfold tiE
          rw [if_neg hno, HT.out]
          exact if_neg ht
        clear hno hA ht
        go_wp2
        first | go_end0 | refine bodyPost_ret (results_none rfl _ _ _) rfl ?_
        exact ⟨by rw [E0.out], HBw.out.2⟩
end Go.Proofs.YteofommckgeemaaGreatDoor
namespace Go.Proofs.YteofommckgeemaaGreatDoor
open Go.RowKit Go.Shelf
set_option linter.unusedVariables false
set_option maxRecDepth 100000
/-- A mode that is one: its function, and what that tells. -/
theorem rounding_yes (mode : Int) (hm : 1 ≤ mode ∧ mode ≤ 5) : ∃ F : Nat, (∀ args w, (callFunc F args).run Tryz.prog w = .ok (.enter F args) w)
    ∧ (∀ neg od p, (p = 0 ∨ p = 1 ∨ p = 2 ∨ p = 3) → ∀ X, Calls Tryz.prog F #[cutV neg od p] X fun e w' => e = .returned (.bool (grw mode neg od p)) ∧ Below X.heap.size X w')
    ∧ ∀ X, Calls Tryz.prog 149 #[.int .i64 mode] X fun e w' => e = .returned (.tuple #[.agg #[fnV F], .bool true]) ∧ Below X.heap.size X w' := by
  have hc : mode = 1 ∨ mode = 2 ∨ mode = 3 ∨ mode = 4 ∨ mode = 5 := by omega
  rcases hc with rfl | rfl | rfl | rfl | rfl
  · exact ⟨_, enters_of Tryz.func204 (by kernel_rfl) rfl, fun neg od p hp X => grow1 neg od p hp X, roundingOf_1⟩
  · exact ⟨_, enters_of Tryz.func205 (by kernel_rfl) rfl, fun neg od p hp X => grow2 neg od p hp X, roundingOf_2⟩
  · exact ⟨_, enters_of Tryz.func206 (by kernel_rfl) rfl, fun neg od p hp X => grow3 neg od p hp X, roundingOf_3⟩
  · exact ⟨_, enters_of Tryz.func207 (by kernel_rfl) rfl, fun neg od p hp X => grow4 neg od p hp X, roundingOf_4⟩
  · exact ⟨_, enters_of Tryz.func208 (by kernel_rfl) rfl, fun neg od p hp X => grow5 neg od p hp X, roundingOf_5⟩
end Go.Proofs.YteofommckgeemaaGreatDoor

namespace Go.Proofs.YteofommckgeemaaGreatDoor
set_option linter.unusedVariables false
set_option maxRecDepth 100000
/-- Noughts at the end of digits, the last one first (the first digit stays). -/
def tzr : List Int → Nat
  | [] => 0
  | [_] => 0
  | d :: e :: r => if d = 0 then tzr (e :: r) + 1 else 0
def tz (D : List Int) : Nat := tzr D.reverse
theorem tzr_more (l : List Int) (i : Nat) (h : i < tzr l) : i + 1 < l.length ∧ l.getD i 0 = 0 := by
  induction l generalizing i with
  | nil => simp [tzr] at h
  | cons d r ih => cases r with
    | nil => simp [tzr] at h
    | cons e s =>
      simp only [tzr] at h
      split at h
      · rename_i hd
        cases i with
        | zero => exact ⟨by simp, by simp [hd]⟩
        | succ i =>
          obtain ⟨a, b⟩ := ih i (by omega)
          exact ⟨by simp at a ⊢; omega, by simpa using b⟩
      · omega
theorem tzr_stop (l : List Int) : l.length ≤ tzr l + 1 ∨ l.getD (tzr l) 0 ≠ 0 := by
  induction l with
  | nil => exact .inl (by simp)
  | cons d r ih => cases r with
    | nil => exact .inl (by simp)
    | cons e s =>
      simp only [tzr]
      split
      · rename_i hd
        rcases ih with c | c
        · exact .inl (by simp at c ⊢; omega)
        · exact .inr (by simpa using c)
      · rename_i hd
        exact .inr (by simpa using hd)
theorem rev_at (D : List Int) (i : Nat) (h : i < D.length) : D.reverse.getD i 0 = D.getD (D.length - 1 - i) 0 := by
  simp only [List.getD]; rw [List.getElem?_reverse h]
theorem tz_more (D : List Int) (i : Nat) (h : i < tz D) : i + 1 < D.length ∧ D.getD (D.length - 1 - i) 0 = 0 := by
  obtain ⟨a, b⟩ := tzr_more D.reverse i h
  rw [List.length_reverse] at a
  rw [rev_at D i (by omega)] at b
  exact ⟨a, b⟩
theorem tz_stop (D : List Int) (hp : 0 < D.length) : D.length ≤ tz D + 1 ∨ D.getD (D.length - 1 - tz D) 0 ≠ 0 := by
  rcases tzr_stop D.reverse with c | c
  · rw [List.length_reverse] at c; exact .inl c
  · rcases Nat.lt_or_ge (tzr D.reverse) D.length with q | q
    · rw [rev_at D _ q] at c; exact .inr c
    · exact .inl (by unfold tz; omega)
/-- How many noughts go, how many come, how many more come. -/
def fA (D : List Int) (e want high : Int) : Nat := min (min (want - e).toNat (high - e).toNat) (tz D)
def fB (n p : Nat) (e want low : Int) : Nat := min (min (e - want).toNat (p - n)) (e - low).toNat
def fC (n p : Nat) (e high : Int) : Nat := min (e - high).toNat (p - n)
theorem fA_more (D : List Int) (e want high : Int) (i : Nat) (h : i < fA D e want high) : e + i < want ∧ e + i < high ∧ i + 1 < D.length ∧ D.getD (D.length - 1 - i) 0 = 0 := by
  unfold fA at h
  obtain ⟨a, b⟩ := tz_more D i (by omega)
  exact ⟨by omega, by omega, a, b⟩
theorem fA_stop (D : List Int) (e want high : Int) (hp : 0 < D.length) : ¬ e + fA D e want high < want ∨ ¬ e + fA D e want high < high ∨ D.length ≤ fA D e want high + 1 ∨ D.getD (D.length - 1 - fA D e want high) 0 ≠ 0 := by
  have hs := tz_stop D hp
  by_cases h1 : fA D e want high = tz D
  · rw [h1]; rcases hs with c | c
    · exact .inr (.inr (.inl c))
    · exact .inr (.inr (.inr c))
  · unfold fA at h1 ⊢
    by_cases h2 : (want - e).toNat ≤ (high - e).toNat
    · exact .inl (by omega)
    · exact .inr (.inl (by omega))
theorem fA_len (D : List Int) (e want high : Int) (hp : 0 < D.length) : fA D e want high < D.length := by
  rcases Nat.eq_zero_or_pos (fA D e want high) with c | c
  · omega
  · have := (fA_more D e want high (fA D e want high - 1) (by omega)).2.2.1
    omega
/-- Digits and exponent with the exponent as near to the wanted one as it may be, where nothing was rounded off. -/
def fin3D (lost : Bool) (D : List Int) (e want low high : Int) (p : Nat) : List Int :=
  if lost then D else D.take (D.length - fA D e want high) ++ List.replicate (fB (D.length - fA D e want high) p (e + fA D e want high) want low) 0
def fin3E (lost : Bool) (D : List Int) (e want low high : Int) (p : Nat) : Int :=
  if lost then e else e + fA D e want high - fB (D.length - fA D e want high) p (e + fA D e want high) want low
/-- Below the greatest exponent, if there is room. -/
def fin4D (D : List Int) (e high : Int) (p : Nat) : List Int := D ++ List.replicate (fC D.length p e high) 0
def fin4E (D : List Int) (e high : Int) (p : Nat) : Int := e - fC D.length p e high
/-- Is the greatest finite number told where there is no room? -/
def finG (mode : Int) (neg : Bool) : Bool := decide (mode = 2) || ((decide (mode = 3) && !neg) || (decide (mode = 4) && neg))
/-- What is told at the end: kind, exponent, digits, flags. -/
def fin5 (p : Nat) (high mode : Int) (neg : Bool) (D : List Int) (e flags : Int) : Int × Int × ByteArray × Int :=
  if fin4E D e high p ≤ high then (1, fin4E D e high p, tx (fin4D D e high p), flags)
  else if finG mode neg then (1, high, tx (List.replicate p 9), 20) else (2, 0, { data := #[] }, 20)
/-- One digit too many. -/
def finT (p : Nat) (D : List Int) : List Int := if p < D.length then D.take p else D
def finTE (p : Nat) (D : List Int) (e : Int) : Int := if p < D.length then e + 1 else e
def finF (lost : Bool) (size low : Int) (p : Nat) : Int := if lost then (if size ≤ low + p - 1 then 24 else 16) else 0
/-- What is rounded, and whether something was. -/
def finV (mode : Int) (neg : Bool) (v : Int) (drop : Nat) (rest : Bool) : Int := if 200 < drop then rndV mode neg 1 200 true else rndV mode neg v drop rest
def finLs (v : Int) (drop : Nat) (rest : Bool) : Bool := if 200 < drop then rndL 1 200 true else rndL v drop rest
/-- Noughts put behind, and how many digits are dropped. -/
def finJ (p n : Nat) (rest : Bool) : Nat := if rest then p + 1 - n else 0
def finDr (p n : Nat) (low e : Int) : Nat := (max (max 0 ((n : Int) - p)) (low - e)).toNat
/-- The whole, of digits that are not nought. -/
def finN (p : Nat) (low high mode : Int) (neg : Bool) (ds : List Int) (e : Int) (rest : Bool) (want : Int) : Int × Int × ByteArray × Int :=
  let j := finJ p ds.length rest
  let n := ds.length + j
  let e1 := e - j
  let dr := finDr p n low e1
  let D := nt (finV mode neg (vl ds * 10 ^ j) dr rest)
  let lost := finLs (vl ds * 10 ^ j) dr rest
  let D3 := finT p D
  let e3 := finTE p D (e1 + dr)
  fin5 p high mode neg (fin3D lost D3 e3 want low high p) (fin3E lost D3 e3 want low high p) (finF lost (ds.length + e) low p)
end Go.Proofs.YteofommckgeemaaGreatDoor
namespace Go.Proofs.YteofommckgeemaaGreatDoor
open Go.RowKit
set_option linter.unusedVariables false
set_option maxRecDepth 100000
/-- Digits times ten to the exponent. -/
abbrev scV (s : ByteArray) (e : Int) : Value := .agg #[.string s, .int .i64 e]
/-- Two cells in a block, which may be written. -/
def At2r (W : World) (b : Nat) (T : TypeId) (x y : Value) : Prop := W.heap[b]? = some (.cells #[x, y] T (0, 0))
theorem at2r_new (w : World) (T : TypeId) (x y : Value) : At2r (w.alloc (.cells #[x, y] T)) w.heap.size T x y := (MapKept.heap_alloc w (.cells #[x, y] T)).1
theorem At2r.cells {w : World} {b : Nat} {T : TypeId} {x y : Value} (h : At2r w b T x y) : w.cell? ⟨b, 0, none⟩ = some x ∧ w.cell? ⟨b, 1, none⟩ = some y := by
  unfold At2r at h
  exact ⟨by simp [World.cell?, h], by simp [World.cell?, h]⟩
theorem At2r.lt {w : World} {b : Nat} {T : TypeId} {x y : Value} (h : At2r w b T x y) : b < w.heap.size := (Array.getElem?_eq_some_iff.1 h).1
theorem At2r.below {w w' : World} {b B : Nat} {T : TypeId} {x y : Value} (h : At2r w b T x y) (hb : Below B w w') (hB : b < B) : At2r w' b T x y := (hb.block b hB).trans h
theorem At2r.row {w : World} {b : Nat} {T : TypeId} {x y : Value} (h : At2r w b T x y) (x' y' : Value) : At2r (w.setRow b #[x', y']) b T x' y' := setRow_heap w b _ _ _ _ h
theorem At2r.other {w : World} {b c : Nat} {T : TypeId} {x y : Value} (h : At2r w b T x y) (hc : b ≠ c) (cs : Array Value) : At2r (w.setRow c cs) b T x y := (setRow_other w c b cs hc).trans h
theorem one2 (s : ByteArray) (e : Int) : (#[.string s, .int .i64 e] : Array Value).all (·.oneCell') = true := by simp [Value.oneCell']
theorem results_sc {fn : Func} {p : Tmp} {b : Nat} {x y : Value} (h : fn.results = #[.cell p 192]) (tmps : Array Value) (w : World) (hp : tmps[p]?.getD undef = .pointer (some ⟨b, 0, none⟩))
    (q0 : w.cell? ⟨b, 0, none⟩ = some x) (q1 : w.cell? ⟨b, 1, none⟩ = some y) : (results fn tmps).run Tryz.prog w = .ok (.agg #[x, y]) w := by
  simp [results, h, hp, go_sem, q0, q1]
theorem build_sc (s : ByteArray) (e : Int) (w : World) : (Instr.build 192 #[(0, .string s), (1, .int .i64 e)]).run Tryz.prog w = .ok (scV s e) w := run_build w _ _ _ (by kernel_rfl)
theorem scSize_any (s : ByteArray) (e : Int) (w : World) (hs : s.size ≤ 4611686018427387904) :
    Calls Tryz.prog 220 #[scV s e] w fun x w' => x = .returned (.int .i64 s.size) ∧ Below w.heap.size w w' := by
  go_enter Tryz.func220, Tryz.ntmps220
  go_wp2
  go_ret
  exact ⟨rfl, (Below.refl _ _).alloc (Nat.le_refl _) _⟩
/-- The world with a number's box and a result's. -/
abbrev bx2 (w : World) (s : ByteArray) (e : Int) : World := (w.alloc (.cells #[.string s, .int .i64 e] 192)).alloc (.cells #[.string { data := #[] }, .int .i64 0] 192)
theorem bx2_size (w : World) (s : ByteArray) (e : Int) : (bx2 w s e).heap.size = w.heap.size + 1 + 1 := by simp
theorem bx2_at (w : World) (s : ByteArray) (e : Int) : At2r (bx2 w s e) w.heap.size 192 (.string s) (.int .i64 e) ∧ At2r (bx2 w s e) (w.heap.size + 1) 192 (.string { data := #[] }) (.int .i64 0) ∧ Below w.heap.size w (bx2 w s e) := by
  have h1 := at2r_new w 192 (.string s) (.int .i64 e)
  have h2 := at2r_new (w.alloc (.cells #[.string s, .int .i64 e] 192)) 192 (.string { data := #[] }) (.int .i64 0)
  rw [show (w.alloc (.cells #[.string s, .int .i64 e] 192)).heap.size = w.heap.size + 1 by simp] at h2
  exact ⟨h1.below ((Below.refl _ _).alloc (Nat.le_refl _) _) h1.lt, h2, bel_two _ _ _⟩
/-- The class of worlds in such a region: what lay there is as it was. -/
abbrev bxC (w : World) (s : ByteArray) (e : Int) : World → Prop := fun W => Below (w.heap.size + 1 + 1) (bx2 w s e) W
theorem bxC_at {w : World} {s : ByteArray} {e : Int} {W : World} (h : bxC w s e W) : At2r W w.heap.size 192 (.string s) (.int .i64 e) ∧ At2r W (w.heap.size + 1) 192 (.string { data := #[] }) (.int .i64 0) ∧ Below w.heap.size w W := by
  obtain ⟨a, b, c⟩ := bx2_at w s e
  exact ⟨a.below h (by omega), b.below h (by omega), c.trans (h.mono (by omega))⟩
theorem bxC_next {w : World} {s : ByteArray} {e : Int} {W W' : World} (h : bxC w s e W) (hb : Below W.heap.size W W') : bxC w s e W' := h.trans (hb.mono (by have := h.size; rw [bx2_size] at this; exact this))
set_option maxRecDepth 100000 in
theorem followed_any (D : List Int) (e : Int) (n : Nat) (w : World) (hD : D.length ≤ 600) (hn : n ≤ 600) (he : -1000000 ≤ e ∧ e ≤ 1000000) :
    Calls Tryz.prog 221 #[scV (tx D) e, .int .i64 n] w fun x w' => x = .returned (scV (tx (D ++ List.replicate n 0)) (e - n)) ∧ Below w.heap.size w w' := by
  have HR : Hid (∀ X, Calls Tryz.prog 184 #[.string { data := #[48] }, .int .i64 n] X fun e w' => e = .returned (.string (tx (List.replicate n 0))) ∧ Below X.heap.size X w') := fun X => rep0_any n hn X
  have HX0 : Hid (bxC w (tx D) e (bx2 w (tx D) e).drew) := (Below.refl _ _).drew
  have hap := tx_append D (List.replicate n 0)
  have sz1 := tx_size D
  have sz2 : (tx (List.replicate n 0)).size = n := by rw [tx_size, List.length_replicate]
  have hw : IntKind.i64.wrap (e - (n : Int)) = e - n := by rw [IntKind.wrap_i64]; omega
  have hbl := build_sc (tx (D ++ List.replicate n 0)) (e - n)
  have hbig : ¬ 9223372036854775807 < D.length + n := by omega
  go_enter Tryz.func221, Tryz.ntmps221
  go_upto_region 1 with fail
  refine wp_region_tail (C := bxC w (tx D) e) 9 (by kernel_rfl) (by kernel_rfl) HX0.out ?_
  simp only [List.take_succ_cons, List.take_zero, List.drop_succ_cons, List.drop_zero]
  repeat (refine wpQuiet_step (fun K hK => ?_); go_simp; first | (refine hK _ ?_; clear hK K) | (apply Exists.intro; refine ⟨fun wx hC => ?_, hK _ ?_⟩; (first | exact rfl | exact Calls.class_of (HR.out wx) (fun w' hb => bxC_next hC hb) | (obtain ⟨q0, q1⟩ := (bxC_at hC).1.cells; go_simp; exact rfl)); clear hK K))
  refine wpQuiet_nil ?_
  intro w1 hb1
  obtain ⟨-, hA, hB⟩ := bxC_at hb1
  have HA : Hid (At2r w1 (w.heap.size + 1) 192 (.string { data := #[] }) (.int .i64 0) ∧ Below w.heap.size w w1) := ⟨hA, hB⟩
  clear hb1 hA hB
  go_wp2_with (refine wpList_store_row rfl 192 (.tmp 4) (.tmp 14) rfl (w.heap.size + 1) #[.string (tx (D ++ List.replicate n 0)), .int .i64 (e - n)] rfl rfl _ _ HA.out.1 (by kernel_rfl) rfl (one2 _ _) ?_)
  have hP := (HA.out.1.row (.string (tx (D ++ List.replicate n 0))) (.int .i64 (e - n))).cells
  refine bodyPost_ret (results_sc rfl _ _ rfl hP.1 hP.2) rfl ?_
  exact ⟨rfl, bel_row HA.out.2 (by omega) _⟩
end Go.Proofs.YteofommckgeemaaGreatDoor

namespace Go.Proofs.YteofommckgeemaaGreatDoor
open Go.RowKit
set_option linter.unusedVariables false
set_option maxRecDepth 100000
set_option maxRecDepth 100000 in
set_option maxHeartbeats 1000000 in
theorem lowered_64 (D : List Int) (e hi : Int) (w : World) (hD : D.length ≤ 600) (he : -1000000 ≤ e ∧ e ≤ 1000000) (hh : -1000000 ≤ hi ∧ hi ≤ 1000000) :
    Calls Tryz.prog 169 #[scV (tx D) e, .iface 208 (.agg #[]), .int .i64 hi] w fun x w' => x = .returned (scV (tx (D ++ List.replicate (fC D.length 16 e hi) 0)) (e - fC D.length 16 e hi)) ∧ Below w.heap.size w w' := by
  obtain ⟨n, hn⟩ : ∃ n : Nat, fC D.length 16 e hi = n := ⟨_, rfl⟩
  rw [hn]
  have hn34 : n ≤ 34 := by rw [← hn]; unfold fC; omega
  have HN : Hid (fC D.length 16 e hi = n) := hn
  have hmx : max (0 : Int) (min (e - hi) (16 - (D.length : Int))) = (n : Int) := by rw [← hn]; unfold fC; omega
  clear hn
  have HF : Hid (∀ X, Calls Tryz.prog 221 #[scV (tx D) e, .int .i64 n] X fun x w' => x = .returned (scV (tx (D ++ List.replicate n 0)) (e - n)) ∧ Below X.heap.size X w') := fun X => followed_any D e n X hD (by omega) he
  have HSz : Hid (∀ X, Calls Tryz.prog 220 #[scV (tx D) e] X fun x w' => x = .returned (.int .i64 D.length) ∧ Below X.heap.size X w') := fun X => by
    have := scSize_any (tx D) e X (by rw [tx_size]; omega)
    rwa [tx_size] at this
  have HX0 : Hid (bxC w (tx D) e (bx2 w (tx D) e).drew) := (Below.refl _ _).drew
  have hw1 : IntKind.i64.wrap (e - hi) = e - hi := by rw [IntKind.wrap_i64]; omega
  have hw2 : IntKind.i64.wrap (16 - (D.length : Int)) = 16 - (D.length : Int) := by rw [IntKind.wrap_i64]; omega
  clear hh
  go_enter Tryz.func169, Tryz.ntmps169
  go_upto_region 1 with fail
  refine wp_region_tail (C := bxC w (tx D) e) 12 (by kernel_rfl) (by kernel_rfl) HX0.out ?_
  simp only [List.take_succ_cons, List.take_zero, List.drop_succ_cons, List.drop_zero]
  repeat (refine wpQuiet_step (fun K hK => ?_); go_simp; first | (refine hK _ ?_; clear hK K) | (apply Exists.intro; refine ⟨fun wx hC => ?_, hK _ ?_⟩; (first | exact rfl | exact Calls.class_of (HSz.out wx) (fun w' hb => bxC_next hC hb) | (simp only [md_digitCount_64]; go_simp; exact Calls.class_of (digitCount_64 wx) (fun w' hb => bxC_next hC hb)) | (obtain ⟨q0, q1⟩ := (bxC_at hC).1.cells; go_simp; exact rfl)); clear hK K))
  refine wpQuiet_nil ?_
  intro w1 hb1
  obtain ⟨-, hA, hB⟩ := bxC_at hb1
  have HA : Hid (At2r w1 (w.heap.size + 1) 192 (.string { data := #[] }) (.int .i64 0) ∧ Below w.heap.size w w1) := ⟨hA, hB⟩
  clear hb1 hA hB HX0 HSz
  go_wp2_with fail
  refine (HF.out _).mono ?_
  rintro x w2 ⟨rfl, hb2⟩
  have HA2 : Hid (At2r w2 (w.heap.size + 1) 192 (.string { data := #[] }) (.int .i64 0) ∧ Below w.heap.size w w2) := ⟨HA.out.1.below hb2 HA.out.1.lt, HA.out.2.trans (hb2.mono HA.out.2.size)⟩
  clear hb2 HA HF
  go_wp2_with (refine wpList_store_row rfl 192 (.tmp 6) (.tmp 19) rfl (w.heap.size + 1) #[.string (tx (D ++ List.replicate n 0)), .int .i64 (e - n)] rfl rfl _ _ HA2.out.1 (by kernel_rfl) rfl (one2 _ _) ?_)
  have hP := (HA2.out.1.row (.string (tx (D ++ List.replicate n 0))) (.int .i64 (e - n))).cells
  refine bodyPost_ret (results_sc rfl _ _ rfl hP.1 hP.2) rfl ?_
  exact ⟨rfl, bel_row HA2.out.2 (by omega) _⟩
set_option maxRecDepth 100000 in
set_option maxHeartbeats 1000000 in
theorem lowered_128 (D : List Int) (e hi : Int) (w : World) (hD : D.length ≤ 600) (he : -1000000 ≤ e ∧ e ≤ 1000000) (hh : -1000000 ≤ hi ∧ hi ≤ 1000000) :
    Calls Tryz.prog 169 #[scV (tx D) e, .iface 211 (.agg #[]), .int .i64 hi] w fun x w' => x = .returned (scV (tx (D ++ List.replicate (fC D.length 34 e hi) 0)) (e - fC D.length 34 e hi)) ∧ Below w.heap.size w w' := by
  obtain ⟨n, hn⟩ : ∃ n : Nat, fC D.length 34 e hi = n := ⟨_, rfl⟩
  rw [hn]
  have hn34 : n ≤ 34 := by rw [← hn]; unfold fC; omega
  have HN : Hid (fC D.length 34 e hi = n) := hn
  have hmx : max (0 : Int) (min (e - hi) (34 - (D.length : Int))) = (n : Int) := by rw [← hn]; unfold fC; omega
  clear hn
  have HF : Hid (∀ X, Calls Tryz.prog 221 #[scV (tx D) e, .int .i64 n] X fun x w' => x = .returned (scV (tx (D ++ List.replicate n 0)) (e - n)) ∧ Below X.heap.size X w') := fun X => followed_any D e n X hD (by omega) he
  have HSz : Hid (∀ X, Calls Tryz.prog 220 #[scV (tx D) e] X fun x w' => x = .returned (.int .i64 D.length) ∧ Below X.heap.size X w') := fun X => by
    have := scSize_any (tx D) e X (by rw [tx_size]; omega)
    rwa [tx_size] at this
  have HX0 : Hid (bxC w (tx D) e (bx2 w (tx D) e).drew) := (Below.refl _ _).drew
  have hw1 : IntKind.i64.wrap (e - hi) = e - hi := by rw [IntKind.wrap_i64]; omega
  have hw2 : IntKind.i64.wrap (34 - (D.length : Int)) = 34 - (D.length : Int) := by rw [IntKind.wrap_i64]; omega
  clear hh
  go_enter Tryz.func169, Tryz.ntmps169
  go_upto_region 1 with fail
  refine wp_region_tail (C := bxC w (tx D) e) 12 (by kernel_rfl) (by kernel_rfl) HX0.out ?_
  simp only [List.take_succ_cons, List.take_zero, List.drop_succ_cons, List.drop_zero]
  repeat (refine wpQuiet_step (fun K hK => ?_); go_simp; first | (refine hK _ ?_; clear hK K) | (apply Exists.intro; refine ⟨fun wx hC => ?_, hK _ ?_⟩; (first | exact rfl | exact Calls.class_of (HSz.out wx) (fun w' hb => bxC_next hC hb) | (simp only [md_digitCount_128]; go_simp; exact Calls.class_of (digitCount_128 wx) (fun w' hb => bxC_next hC hb)) | (obtain ⟨q0, q1⟩ := (bxC_at hC).1.cells; go_simp; exact rfl)); clear hK K))
  refine wpQuiet_nil ?_
  intro w1 hb1
  obtain ⟨-, hA, hB⟩ := bxC_at hb1
  have HA : Hid (At2r w1 (w.heap.size + 1) 192 (.string { data := #[] }) (.int .i64 0) ∧ Below w.heap.size w w1) := ⟨hA, hB⟩
  clear hb1 hA hB HX0 HSz
  go_wp2_with fail
  refine (HF.out _).mono ?_
  rintro x w2 ⟨rfl, hb2⟩
  have HA2 : Hid (At2r w2 (w.heap.size + 1) 192 (.string { data := #[] }) (.int .i64 0) ∧ Below w.heap.size w w2) := ⟨HA.out.1.below hb2 HA.out.1.lt, HA.out.2.trans (hb2.mono HA.out.2.size)⟩
  clear hb2 HA HF
  go_wp2_with (refine wpList_store_row rfl 192 (.tmp 6) (.tmp 19) rfl (w.heap.size + 1) #[.string (tx (D ++ List.replicate n 0)), .int .i64 (e - n)] rfl rfl _ _ HA2.out.1 (by kernel_rfl) rfl (one2 _ _) ?_)
  have hP := (HA2.out.1.row (.string (tx (D ++ List.replicate n 0))) (.int .i64 (e - n))).cells
  refine bodyPost_ret (results_sc rfl _ _ rfl hP.1 hP.2) rfl ?_
  exact ⟨rfl, bel_row HA2.out.2 (by omega) _⟩
end Go.Proofs.YteofommckgeemaaGreatDoor
