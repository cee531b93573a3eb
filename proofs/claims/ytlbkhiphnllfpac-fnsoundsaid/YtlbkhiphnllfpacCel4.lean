/-
  What the model tells of a cell, walked.
-/
import Derived.Test.YtlbkhiphnllfpacCel3
namespace Go.Proofs.Ytlbkhiphnllfpac
open Go.RowKit
set_option linter.unusedVariables false
set_option maxRecDepth 100000
theorem bd_append (a b : List Pt) (ha : Bd a) (hb : Bd b) : Bd (a ++ b) := fun p hp => by
  rcases List.mem_append.1 hp with h | h
  · exact ha p h
  · exact hb p h
theorem bd_nil : Bd [] := fun p hp => by cases hp
theorem bd_one (p : Pt) (h : (0 ≤ p.1 ∧ p.1 ≤ 1000000000) ∧ (-10000000000 ≤ p.2.1 ∧ p.2.1 ≤ 10000000000)) : Bd [p] := fun x hx => by
  rw [List.mem_singleton] at hx; subst hx; exact h
theorem bd_c1 (p q d y : Int) (hd : 1 ≤ d ∧ d ≤ 100) (hy : -1000000 ≤ y ∧ y ≤ 1000002) : Bd (c1 p q d y) := by
  unfold c1; split
  · exact bd_one _ ⟨⟨by show (0 : Int) ≤ d; omega, by show d ≤ 1000000000; omega⟩, by show -10000000000 ≤ y; omega, by show y ≤ 10000000000; omega⟩
  · exact bd_nil
theorem bd_c2 (p q Y d s : Int) (hp : 90 ≤ p ∧ p ≤ 900) (hq : 0 ≤ q ∧ q ≤ 9000) (hd : 1 ≤ d ∧ d ≤ 100) (hs : -1 ≤ s ∧ s ≤ 1) : Bd (c2 p q Y d s) := by
  unfold c2; split
  · have msq := mulB s q 1 9000 (by omega) (by omega) (by omega) (by omega) (by decide)
    have msqd := mulB (s * q) d 9000 100 (by omega) (by omega) (by omega) (by omega) (by decide)
    have mdp := mulB d p 100 900 (by omega) (by omega) (by omega) (by omega) (by decide)
    have m0 := Int.mul_nonneg (show 0 ≤ d by omega) (show 0 ≤ p by omega)
    exact bd_one _ ⟨⟨by show (0 : Int) ≤ d * p; omega, by show d * p ≤ 1000000000; omega⟩, by show -10000000000 ≤ s * q * d; omega, by show s * q * d ≤ 10000000000; omega⟩
  · exact bd_nil
theorem bd_c3 (p q D y : Int) (hp : 90 ≤ p ∧ p ≤ 900) (hq : 0 ≤ q ∧ q ≤ 9000) (hy : -1000000 ≤ y ∧ y ≤ 1000002) : Bd (c3 p q D y) := by
  unfold c3; split
  · have hab := abI_nn y
    have hab2 := abI_le y 1000002 (by omega) (by omega)
    have myp := mulB (abI y) p 1000002 900 (by omega) (by omega) (by omega) (by omega) (by decide)
    have myq := mulB y q 1000002 9000 (by omega) (by omega) (by omega) (by omega) (by decide)
    have m0 := Int.mul_nonneg hab (show 0 ≤ p by omega)
    exact bd_one _ ⟨⟨by show (0 : Int) ≤ abI y * p; omega, by show abI y * p ≤ 1000000000; omega⟩, by show -10000000000 ≤ y * q; omega, by show y * q ≤ 10000000000; omega⟩
  · exact bd_nil
theorem bd_cnB (p q Y d : Int) (hd : 1 ≤ d ∧ d ≤ 100) (hY : -1000000 ≤ Y ∧ Y ≤ 1000000) (i : Nat) (hi : i ≤ 2) : Bd (cnB p q Y d i) := by
  induction i with
  | zero => exact bd_nil
  | succ i ih => exact bd_append _ _ (ih (by omega)) (bd_c1 p q d _ hd (by omega))
theorem bd_cnS (p q Y d : Int) (hp : 90 ≤ p ∧ p ≤ 900) (hq : 0 ≤ q ∧ q ≤ 9000) (hd : 1 ≤ d ∧ d ≤ 100) (i : Nat) (hi : i ≤ 2) : Bd (cnS p q Y d i) := by
  induction i with
  | zero => exact bd_nil
  | succ i ih => exact bd_append _ _ (ih (by omega)) (bd_c2 p q Y d _ hp hq hd (by omega))
theorem bd_cnD (p q D Y : Int) (hp : 90 ≤ p ∧ p ≤ 900) (hq : 0 ≤ q ∧ q ≤ 9000) (hD : 1 ≤ D ∧ D ≤ 99) (hY : -1000000 ≤ Y ∧ Y ≤ 1000000) (j : Nat) (hj : j ≤ 2) : Bd (cnD p q D Y j) := by
  induction j with
  | zero => exact bd_nil
  | succ j ih => exact bd_append _ _ (bd_append _ _ (ih (by omega)) (bd_cnB p q Y _ (by omega) hY 2 (Nat.le_refl _))) (bd_cnS p q Y _ hp hq (by omega) 2 (Nat.le_refl _))
theorem bd_cnE (p q D Y : Int) (hp : 90 ≤ p ∧ p ≤ 900) (hq : 0 ≤ q ∧ q ≤ 9000) (hD : 1 ≤ D ∧ D ≤ 99) (hY : -1000000 ≤ Y ∧ Y ≤ 1000000) (i : Nat) (hi : i ≤ 2) : Bd (cnE p q D Y i) := by
  induction i with
  | zero => exact bd_cnD p q D Y hp hq hD hY 2 (Nat.le_refl _)
  | succ i ih => exact bd_append _ _ (ih (by omega)) (bd_c3 p q D _ hp hq (by omega))
/-- The digits tried, by their magnitude. -/
def scn (a U T : Int) (l : List Pt) : Nat → Nat → Int × Int
  | 0, _ => (4, 0)
  | f + 1, k => if hlds a U T k l then (0, k) else if hlds a U T (-(k : Int)) l then (0, -(k : Int)) else scn a U T l f (k + 1)
/-- What is told of a cell. -/
def cel (a U T D Y : Int) : Int × Int :=
  if -1000000 ≤ Y ∧ Y ≤ 1000000 then (if cnE (9 * U) (10 * a * T) D Y 2 = [] then (3, 0) else scn a U T (cnE (9 * U) (10 * a * T) D Y 2) (a.toNat + 1) 0) else (3, 0)
set_option maxRecDepth 100000 in
set_option maxHeartbeats 2000000 in
theorem l6Cell_any (a u t D Y U T : Int) (w : World) (ha : 5 ≤ a ∧ a ≤ 9) (hU : 10 ≤ U ∧ U ≤ 100) (hT : 10 ≤ T ∧ T ≤ 100) (hD : 1 ≤ D ∧ D ≤ 99)
    (hu : ∀ W, Calls Try.prog 44 #[.int .i64 u] W fun e w' => e = .returned (.int .i64 U) ∧ w' = W) (ht : ∀ W, Calls Try.prog 44 #[.int .i64 t] W fun e w' => e = .returned (.int .i64 T) ∧ w' = W) :
    Calls Try.prog 41 #[.int .i64 a, .int .i64 u, .int .i64 t, .int .i64 D, .int .i64 Y] w fun e w' => e = .returned (.tuple #[.int .i64 (cel a U T D Y).1, .int .i64 (cel a U T D Y).2]) ∧ Below w.heap.size w w' := by
  by_cases hY : -1000000 ≤ Y ∧ Y ≤ 1000000
  · have hpb : 90 ≤ 9 * U ∧ 9 * U ≤ 900 := by omega
    have hqb : 0 ≤ 10 * a * T ∧ 10 * a * T ≤ 9000 := by
      have := Int.mul_le_mul_of_nonneg_left hT.2 (show 0 ≤ 10 * a by omega)
      have := Int.mul_nonneg (show 0 ≤ 10 * a by omega) (show 0 ≤ T by omega)
      omega
    have hbd := bd_cnE (9 * U) (10 * a * T) D Y hpb hqb hD hY 2 (Nat.le_refl _)
    have hln := cnE_len (9 * U) (10 * a * T) D Y 2
    have hce : cel a U T D Y = if cnE (9 * U) (10 * a * T) D Y 2 = [] then (3, 0) else scn a U T (cnE (9 * U) (10 * a * T) D Y 2) (a.toNat + 1) 0 := by unfold cel; rw [if_pos hY]
    have HC : Hid (∀ W, Calls Try.prog 69 #[.int .i64 a, .int .i64 u, .int .i64 t, .int .i64 D, .int .i64 Y] W fun e w' => ∃ v, e = .returned v ∧ HasP w' W.heap.size v (cnE (9 * U) (10 * a * T) D Y 2) ∧ Below W.heap.size W w') := fun W => l6Corners_any a u t D Y U T W ha hU hT hD hY hu ht
    generalize cnE (9 * U) (10 * a * T) D Y 2 = l at *
    have HH : Hid (∀ W v base k, HasP W base v l → 0 < l.length → -9 ≤ k → k ≤ 9 → Calls Try.prog 70 #[v, .int .i64 a, .int .i64 u, .int .i64 t, .int .i64 k] W fun e w' => e = .returned (.bool (hlds a U T k l)) ∧ Below W.heap.size W w') := fun W v base k hv hp k0 k9 => l6Holds_any v l base a u t k U T W hv hbd hp (by omega) ha ⟨k0, k9⟩ hU hT hu ht
    have Hce : Hid (cel a U T D Y = if l = [] then (3, 0) else scn a U T l (a.toNat + 1) 0) := hce
    clear hbd hce hu ht hpb hqb
    generalize cel a U T D Y = R at *
    go_enter Try.func41, Try.ntmps41
    go_wp2_with fail
    refine (l1In_yes Y (-1000000) 1000000 _ hY.1 hY.2).mono ?_
    rintro e w' ⟨rfl, hw⟩
    obtain rfl := hw.symm
    go_wp2_with fail
    refine (HC.out _).mono ?_
    rintro e w1 ⟨v, rfl, hv, hb1⟩
    have hs1 := hb1.size
    clear HC
    obtain ⟨av, cv, rfl⟩ := hv.len
    by_cases hem : l = []
    · have HR : Hid (R = (3, 0)) := by show _ = _; rw [Hce.out, if_pos hem]
      have hl0 : l.length = 0 := by rw [hem]; rfl
      clear HH Hce hv
      rw [hl0]
      go_wp2
      go_ret2
      exact ⟨by have h := HR.out; subst h; rfl, hb1⟩
    · have HR : Hid (R = scn a U T l (a.toNat + 1) 0) := by show _ = _; rw [Hce.out, if_neg hem]
      have hl0 : 0 < l.length := List.length_pos_iff.2 hem
      have hne : ((l.length : Int) == 0) = false := by simp; exact hem
      clear Hce
      have HV : Hid (HasP w1 w.heap.size (.slice av l.length cv) l) := hv
      clear hv hem
      go_wp2
      go_loopw [13] (fun k wr => ∃ j : Nat, (j : Int) ≤ a + 1 ∧ k = .int .i64 j ∧ Hid (R = scn a U T l (a.toNat + 1 - j) j) ∧ Below w1.heap.size w1 wr) (fun k _ => (a + 1 - intOf k).toNat)
      case atStart => exact ⟨0, by omega, rfl, HR, Below.refl _ _⟩
      case round =>
        clear HR
        obtain ⟨j, hj, rfl, HR, hbel⟩ := hrel
        have hsz := hbel.size
        by_cases hlt : (j : Int) ≤ a
        · have hsc : scn a U T l (a.toNat + 1 - j) j = if hlds a U T j l then (0, (j : Int)) else if hlds a U T (-(j : Int)) l then (0, -(j : Int)) else scn a U T l (a.toNat + 1 - (j + 1)) (j + 1) := by
            rw [show a.toNat + 1 - j = (a.toNat + 1 - (j + 1)) + 1 by omega]; rfl
          have HR2 : Hid (R = if hlds a U T j l then (0, (j : Int)) else if hlds a U T (-(j : Int)) l then (0, -(j : Int)) else scn a U T l (a.toNat + 1 - (j + 1)) (j + 1)) := by show _ = _; rw [HR.out, hsc]
          have H1 := HH.out wr (.slice av l.length cv) w.heap.size j (HV.out.below hbel (Nat.le_refl _)) hl0 (by omega) (by omega)
          have h2 : ∀ W, Below w1.heap.size w1 W → Calls Try.prog 70 #[.slice av l.length cv, .int .i64 a, .int .i64 u, .int .i64 t, .int .i64 (-(j : Int))] W fun e w' => e = .returned (.bool (hlds a U T (-(j : Int)) l)) ∧ Below W.heap.size W w' := fun W hW => HH.out W _ w.heap.size (-(j : Int)) (HV.out.below hW (Nat.le_refl _)) hl0 (by omega) (by omega)
          clear HR hsc
          generalize hlds a U T j l = b1 at *
          generalize hlds a U T (-(j : Int)) l = b2 at *
          have H1' : Hid (Calls Try.prog 70 #[.slice av l.length cv, .int .i64 a, .int .i64 u, .int .i64 t, .int .i64 (j : Int)] wr fun e w' => e = .returned (.bool b1) ∧ Below wr.heap.size wr w') := H1
          have H2' : Hid (∀ W, Below w1.heap.size w1 W → Calls Try.prog 70 #[.slice av l.length cv, .int .i64 a, .int .i64 u, .int .i64 t, .int .i64 (-(j : Int))] W fun e w' => e = .returned (.bool b2) ∧ Below W.heap.size W w') := h2
          clear H1 h2
          cases b1 with
          | true =>
            have HR3 : Hid (R = (0, (j : Int))) := HR2.out
            clear HR2 H2'
            go_wp2_with fail
            refine H1'.out.mono ?_
            rintro e w2 ⟨rfl, hb2⟩
            go_wp2
            go_ret2
            exact ⟨by have h := HR3.out; subst h; rfl, hb1.trans ((hbel.trans (hb2.mono hsz)).mono hs1)⟩
          | false =>
            go_wp2_with fail
            refine H1'.out.mono ?_
            rintro e w2 ⟨rfl, hb2⟩
            have hb12 := hbel.trans (hb2.mono hsz)
            have hs12 := hb12.size
            clear H1'
            go_wp2_with fail
            refine (H2'.out _ hb12).mono ?_
            rintro e w3 ⟨rfl, hb3⟩
            have hb13 := hb12.trans (hb3.mono hs12)
            clear H2'
            cases b2 with
            | true =>
              have HR3 : Hid (R = (0, -(j : Int))) := HR2.out
              clear HR2
              go_wp2
              go_ret2
              exact ⟨by have h := HR3.out; subst h; rfl, hb1.trans (hb13.mono hs1)⟩
            | false =>
              go_wp2
              go_roundw
              case rel => exact ⟨j + 1, by omega, by go_num, HR2.out, hb13⟩
              case measure => simp [intOf]; omega
        · have HR3 : Hid (R = (4, 0)) := by
            show _ = _
            rw [HR.out, show a.toNat + 1 - j = 0 by omega]; rfl
          go_wp2
          go_ret2
          exact ⟨by have h := HR3.out; subst h; rfl, hb1.trans (hbel.mono hs1)⟩
  · have HR : Hid (cel a U T D Y = (3, 0)) := by show _ = _; unfold cel; rw [if_neg hY]
    generalize cel a U T D Y = R at *
    clear hu ht
    go_enter Try.func41, Try.ntmps41
    go_wp2_with fail
    refine (l1In_no Y (-1000000) 1000000 _ (by omega)).mono ?_
    rintro e w' ⟨rfl, hw⟩
    obtain rfl := hw.symm
    go_wp2
    go_ret2
    exact ⟨by have h := HR.out; subst h; rfl, Below.refl _ _⟩
end Go.Proofs.Ytlbkhiphnllfpac
