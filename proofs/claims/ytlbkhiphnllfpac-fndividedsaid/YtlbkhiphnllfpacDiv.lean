/-
  Divide of the model, walked.
-/
import Derived.Deep.DeepCutAuto
import Derived.Test.YtlbkhiphnllfpacTrn
import Derived.Test.YtlbkhiphnllfpacDivP
namespace Go.Proofs.Ytlbkhiphnllfpac
open Go.RowKit
set_option linter.unusedVariables false
set_option maxRecDepth 100000
/-- What Divide takes, and the turns that it gives. -/
def dvo (x d a n : Int) : Bool := decide ((1 ≤ d ∧ d ≤ 100000000) ∧ (0 ≤ x ∧ x ≤ 100000000) ∧ (5 ≤ a ∧ a ≤ 9) ∧ 9 * x ≤ a * d ∧ (0 ≤ n ∧ n ≤ 18))
def dvL (x d a n : Int) : List (Int × Int) := if dvo x d a n then tl a d x n.toNat else []
set_option maxRecDepth 100000 in
set_option maxHeartbeats 4000000 in
theorem sDivide_yes (x d a : Int) (N : Nat) (w : World) (hd : 1 ≤ d ∧ d ≤ 100000000) (hx : 0 ≤ x ∧ x ≤ 100000000) (ha : 5 ≤ a ∧ a ≤ 9) (hs : 9 * x ≤ a * d) (hn : N ≤ 18) :
    Calls Try.prog 18 #[.int .i64 x, .int .i64 d, .int .i64 a, .int .i64 (N : Int)] w fun e w' => ∃ v, e = .returned (.tuple #[v, .bool true]) ∧ HasT w' w.heap.size v (tl a d x N) ∧ Below w.heap.size w w' := by
  obtain ⟨i0, hi, hz0, hz1, hz2⟩ := info_parts infoTurn
  have m0 := mulB a d 9 100000000 (by omega) (by omega) (by omega) (by omega) (by decide)
  have HSm : Hid (∀ j, 9 * ws a d x j ≤ a * d ∧ -(a * d) ≤ 9 * ws a d x j) := fun j => ws_small a d x (by omega) ha.1 ha.2 hx.1 hs j
  have HDg : Hid (∀ y, 9 * y ≤ a * d → -(a * d) ≤ 9 * y → Fits a d y (dgt a d y) ∧ -a ≤ dgt a d y ∧ dgt a d y ≤ a) := fun y h1 h2 => dgt_fits a d y (by omega) ha.1 ha.2 h1 h2
  have HB0 : Below w.heap.size w (w.alloc (.cells #[] 39)) := (Below.refl _ _).alloc (Nat.le_refl _) _
  have HO : Hid (HasT (w.alloc (.cells #[] 39)) w.heap.size (.slice (some ⟨w.heap.size, 0, none⟩) 0 0) []) := World.ownsRow_made w #[] 0 (Nat.le_refl _) (Nat.zero_le _) rfl
  have Hs : Hid (9 * x ≤ a * d) := hs
  have hs' : decide (a * d < 9 * x) = false := decide_eq_false (by omega)
  go_enter Try.func18, Try.ntmps18
  go_wp2_with fail
  refine (l1In_yes d 1 100000000 _ hd.1 hd.2).mono ?_
  rintro e w' ⟨rfl, hw⟩
  obtain rfl := hw.symm
  go_wp2_with fail
  refine (l1In_yes x 0 100000000 _ hx.1 hx.2).mono ?_
  rintro e w' ⟨rfl, hw⟩
  obtain rfl := hw.symm
  go_wp2_with fail
  refine (l1In_yes a 5 9 _ ha.1 ha.2).mono ?_
  rintro e w' ⟨rfl, hw⟩
  obtain rfl := hw.symm
  go_wp2_with fail
  refine (l1In_yes (N : Int) 0 18 _ (by omega) (by omega)).mono ?_
  rintro e w' ⟨rfl, hw⟩
  obtain rfl := hw.symm
  go_wp2
  go_loopw [3, 10, 11] (fun n v y wr => ∃ j : Nat, j ≤ N ∧ n = .int .i64 ((N : Int) - (j : Int)) ∧ y = .int .i64 (ws a d x j) ∧ Hid (HasT wr w.heap.size v (tl a d x j)) ∧ Below w.heap.size w wr) (fun n _ _ _ => (intOf n).toNat)
  case atStart => exact ⟨0, Nat.zero_le _, Ln.val_int (by omega), rfl, HO, HB0⟩
  case round =>
    clear HO HB0
    obtain ⟨j, hj, rfl, rfl, hown, hbel⟩ := hrel
    have hsz := hbel.size
    by_cases hlt : j < N
    · have hc0 : (0 : Int) < (N : Int) - (j : Int) := by omega
      have hsm := HSm.out j
      have hdg := HDg.out (ws a d x j) hsm.1 hsm.2
      have HW : Hid (ws a d x (j + 1) = 10 * ws a d x j - dgt a d (ws a d x j) * d) := rfl
      have HT : Hid (tl a d x (j + 1) = tl a d x j ++ [(dgt a d (ws a d x j), ws a d x (j + 1))]) := rfl
      have hsm1 := HSm.out (j + 1)
      have hln := tl_len a d x j
      have HQ : Hid (dgt a d (ws a d x j) = dsc a d (ws a d x j) (a.toNat + 1) 0) := rfl
      have Hds : Hid (∀ f k, dsc a d (ws a d x j) (f + 1) k = if 9 * abI (10 * ws a d x j - k * d) ≤ a * d then (k : Int) else if 9 * abI (10 * ws a d x j + k * d) ≤ a * d then -(k : Int) else dsc a d (ws a d x j) f (k + 1)) := fun f k => rfl
      have hqb := hdg.2
      have HF : Hid (Fits a d (ws a d x j) (dgt a d (ws a d x j))) := hdg.1
      clear hdg
      rw [HW.out] at HT hsm1
      generalize tl a d x j = P0 at *
      generalize ws a d x j = y at *
      generalize dgt a d y = q at *
      have mq := mulC2 q d 9 100000000 (by omega) (by omega) (by omega) (by omega) (by decide) (by decide)
      go_wp2
      go_loopw [12, 13] (fun qq kk wr' => ∃ k : Nat, (k : Int) ≤ a + 1 ∧ kk = .int .i64 (k : Int) ∧ qq = .int .i64 0 ∧ Hid (q = dsc a d y (a.toNat + 1 - k) k) ∧ Hid (0 < k → a * d < 9 * abI (10 * y)) ∧ wr' = wr) (fun _ kk _ => (a + 1 - intOf kk).toNat)
      case atStart => exact ⟨0, by omega, rfl, rfl, HQ, fun h => by omega, rfl⟩
      case round =>
        clear HQ
        obtain ⟨k, hk, rfl, rfl, HQ, HZ, hwk⟩ := hrel
        subst hwk
        by_cases hka : (k : Int) ≤ a
        · have HQ2 : Hid (q = if 9 * abI (10 * y - k * d) ≤ a * d then (k : Int) else if 9 * abI (10 * y + k * d) ≤ a * d then -(k : Int) else dsc a d y (a.toNat + 1 - (k + 1)) (k + 1)) := by
            show q = _
            rw [HQ.out, show a.toNat + 1 - k = (a.toNat + 1 - (k + 1)) + 1 by omega, Hds.out]
          have mk := mulB (k : Int) d 9 100000000 (by omega) (by omega) (by omega) (by omega) (by decide)
          have A1 : Hid (∀ W, Calls Try.prog 52 #[.int .i64 (10 * y - (k : Int) * d)] W fun e w' => e = .returned (.int .i64 (abI (10 * y - (k : Int) * d))) ∧ w' = W) := fun W => l1Abs_any _ W (by omega) (by omega)
          have A2 : Hid (∀ W, Calls Try.prog 52 #[.int .i64 (10 * y + (k : Int) * d)] W fun e w' => e = .returned (.int .i64 (abI (10 * y + (k : Int) * d))) ∧ w' = W) := fun W => l1Abs_any _ W (by omega) (by omega)
          have n1 := abI_nn (10 * y - (k : Int) * d)
          have n2 := abI_nn (10 * y + (k : Int) * d)
          have u1 := abI_le (10 * y - (k : Int) * d) 10000000000 (by omega) (by omega)
          have u2 := abI_le (10 * y + (k : Int) * d) 10000000000 (by omega) (by omega)
          have HZn : Hid (a * d < 9 * abI (10 * y - (k : Int) * d) → 0 < k + 1 → a * d < 9 * abI (10 * y)) := fun h _ => by
            rcases Nat.eq_zero_or_pos k with e | e
            · subst e; simpa using h
            · exact HZ.out e
          clear HQ HZ
          generalize abI (10 * y - (k : Int) * d) = B1 at *
          generalize abI (10 * y + (k : Int) * d) = B2 at *
          by_cases c1 : 9 * B1 ≤ a * d
          · have He : Hid (q = (k : Int)) := by show q = _; rw [HQ2.out, if_pos c1]
            clear HQ2 A2
            go_wp2_with fail
            refine (A1.out _).mono ?_
            rintro e w' ⟨rfl, hw⟩
            obtain rfl := hw.symm
            go_upto_region 15 with fail
            rw [← He.out]
            have hown0 : wr.ownsRow w.heap.size 39 2 _ P0.length (tq P0) := hown.out
            clear hown
            go_wp2_with (first | (at_builtin; refine wpList_append_own _ rfl _ _ 35 rfl w.heap.size 39 i0 (.agg #[.int .i64 0, .int .i64 0]) 2 16 Try.underlying35 hi hz0 hz1 hz2 rfl (by decide) _ _ _ rfl (hown0.alloc _) ⟨wr.heap.size, 0, none⟩ 1 1 [.int .i64 q, .int .i64 (10 * y - q * d)] rfl rfl ?c1 ?c2 ?c3 ?c4 ?c5 ?_) | go_in)
            case c1 =>
              intro i u hu
              match i, hu with
              | 0, hu => simp at hu; subst hu; simp [Addr.add]
              | 1, hu => simp at hu; subst hu; simp [Addr.add]
            case c2 => intro u hu; simp at hu; rcases hu with rfl | rfl <;> rfl
            case c3 => unfold maxLen; omega
            case c4 => omega
            case c5 => simp; omega
            intro v' w4 hown4 hgrow _
            have hb4 : Below w.heap.size w w4 := Below.grown (hbel.alloc (by omega) _) hgrow (by simp; omega) (fun k hk => (hown0.lt k hk).1)
            have H4 : Hid (HasT w4 w.heap.size v' (tl a d x (j + 1))) := by rw [HT.out]; exact hasT_more hown4 (by omega)
            clear hown4 hgrow hown0
            go_wp2
            go_roundw
            case rel => exact ⟨j + 1, by omega, Ln.val_int (by omega), by rw [HW.out], H4, hb4⟩
            case measure => simp [intOf]; omega
          · by_cases c2 : 9 * B2 ≤ a * d
            · have He : Hid (-(k : Int) = q) := by show _ = _; rw [HQ2.out, if_neg c1, if_pos c2]
              clear HQ2
              go_wp2_with fail
              refine (A1.out _).mono ?_
              rintro e w' ⟨rfl, hw⟩
              obtain rfl := hw.symm
              go_wp2_with fail
              refine (A2.out _).mono ?_
              rintro e w' ⟨rfl, hw⟩
              obtain rfl := hw.symm
              go_upto_region 15 with fail
              rw [He.out]
              have hown0 : wr.ownsRow w.heap.size 39 2 _ P0.length (tq P0) := hown.out
              clear hown
              go_wp2_with (first | (at_builtin; refine wpList_append_own _ rfl _ _ 35 rfl w.heap.size 39 i0 (.agg #[.int .i64 0, .int .i64 0]) 2 16 Try.underlying35 hi hz0 hz1 hz2 rfl (by decide) _ _ _ rfl (hown0.alloc _) ⟨wr.heap.size, 0, none⟩ 1 1 [.int .i64 q, .int .i64 (10 * y - q * d)] rfl rfl ?c1 ?c2 ?c3 ?c4 ?c5 ?_) | go_in)
              case c1 =>
                intro i u hu
                match i, hu with
                | 0, hu => simp at hu; subst hu; simp [Addr.add]
                | 1, hu => simp at hu; subst hu; simp [Addr.add]
              case c2 => intro u hu; simp at hu; rcases hu with rfl | rfl <;> rfl
              case c3 => unfold maxLen; omega
              case c4 => omega
              case c5 => simp; omega
              intro v' w4 hown4 hgrow _
              have hb4 : Below w.heap.size w w4 := Below.grown (hbel.alloc (by omega) _) hgrow (by simp; omega) (fun k hk => (hown0.lt k hk).1)
              have H4 : Hid (HasT w4 w.heap.size v' (tl a d x (j + 1))) := by rw [HT.out]; exact hasT_more hown4 (by omega)
              clear hown4 hgrow hown0
              go_wp2
              go_roundw
              case rel => exact ⟨j + 1, by omega, Ln.val_int (by omega), by rw [HW.out], H4, hb4⟩
              case measure => simp [intOf]; omega
            · have HQ3 : Hid (q = dsc a d y (a.toNat + 1 - (k + 1)) (k + 1)) := by show q = _; rw [HQ2.out, if_neg c1, if_neg c2]
              clear HQ2
              go_wp2_with fail
              refine (A1.out _).mono ?_
              rintro e w' ⟨rfl, hw⟩
              obtain rfl := hw.symm
              go_wp2_with fail
              refine (A2.out _).mono ?_
              rintro e w' ⟨rfl, hw⟩
              obtain rfl := hw.symm
              go_wp2
              go_roundw
              case rel => exact ⟨k + 1, by omega, by go_num, rfl, HQ3, HZn.out (by omega), by first | trivial | rfl⟩
              case measure => simp [intOf]; omega
        · have e : q = 0 := by rw [HQ.out, show a.toNat + 1 - k = 0 by omega]; rfl
          exact absurd ((abI_small _ _).2 (by have h := HF.out; rw [e] at h; unfold Fits at h; rw [Int.zero_mul, Int.sub_zero] at h; exact ⟨h.1, h.2⟩)) (by have := HZ.out (by omega); omega)
    · have e : j = N := by omega
      subst e
      have hd0 : ¬ (0 : Int) < (j : Int) - (j : Int) := by omega
      go_wp2
      go_ret2
      exact ⟨_, rfl, hown.out, hbel⟩
theorem sDivide_no (x d a n : Int) (w : World) (h : dvo x d a n = false) :
    Calls Try.prog 18 #[.int .i64 x, .int .i64 d, .int .i64 a, .int .i64 n] w fun e w' => ∃ v, e = .returned (.tuple #[v, .bool false]) ∧ HasT w' w.heap.size v [] ∧ Below w.heap.size w w' := by
  have HB0 : Hid (Below w.heap.size w (w.alloc (.cells #[] 39))) := (Below.refl _ _).alloc (Nat.le_refl _) _
  have HO : Hid (HasT (w.alloc (.cells #[] 39)) w.heap.size (.slice (some ⟨w.heap.size, 0, none⟩) 0 0) []) := World.ownsRow_made w #[] 0 (Nat.le_refl _) (Nat.zero_le _) rfl
  have hn : ¬ ((1 ≤ d ∧ d ≤ 100000000) ∧ (0 ≤ x ∧ x ≤ 100000000) ∧ (5 ≤ a ∧ a ≤ 9) ∧ 9 * x ≤ a * d ∧ (0 ≤ n ∧ n ≤ 18)) := of_decide_eq_false h
  clear h
  by_cases hd : 1 ≤ d ∧ d ≤ 100000000
  · by_cases hx : 0 ≤ x ∧ x ≤ 100000000
    · by_cases ha : 5 ≤ a ∧ a ≤ 9
      · have m0 := mulB a d 9 100000000 (by omega) (by omega) (by omega) (by omega) (by decide)
        by_cases hs : 9 * x ≤ a * d
        · have hnn : ¬ (0 ≤ n ∧ n ≤ 18) := fun hh => hn ⟨hd, hx, ha, hs, hh⟩
          have hs' : decide (a * d < 9 * x) = false := decide_eq_false (by omega)
          clear hn
          go_enter Try.func18, Try.ntmps18
          go_wp2_with fail
          refine (l1In_yes d 1 100000000 _ hd.1 hd.2).mono ?_
          rintro e w' ⟨rfl, hw⟩
          obtain rfl := hw.symm
          go_wp2_with fail
          refine (l1In_yes x 0 100000000 _ hx.1 hx.2).mono ?_
          rintro e w' ⟨rfl, hw⟩
          obtain rfl := hw.symm
          go_wp2_with fail
          refine (l1In_yes a 5 9 _ ha.1 ha.2).mono ?_
          rintro e w' ⟨rfl, hw⟩
          obtain rfl := hw.symm
          go_wp2_with fail
          refine (l1In_no n 0 18 _ (by omega)).mono ?_
          rintro e w' ⟨rfl, hw⟩
          obtain rfl := hw.symm
          go_wp2
          go_ret2
          exact ⟨_, rfl, HO.out, HB0.out⟩
        · have hs' : decide (a * d < 9 * x) = true := decide_eq_true (by omega)
          clear hn
          go_enter Try.func18, Try.ntmps18
          go_wp2_with fail
          refine (l1In_yes d 1 100000000 _ hd.1 hd.2).mono ?_
          rintro e w' ⟨rfl, hw⟩
          obtain rfl := hw.symm
          go_wp2_with fail
          refine (l1In_yes x 0 100000000 _ hx.1 hx.2).mono ?_
          rintro e w' ⟨rfl, hw⟩
          obtain rfl := hw.symm
          go_wp2_with fail
          refine (l1In_yes a 5 9 _ ha.1 ha.2).mono ?_
          rintro e w' ⟨rfl, hw⟩
          obtain rfl := hw.symm
          go_wp2
          go_ret2
          exact ⟨_, rfl, HO.out, HB0.out⟩
      · clear hn
        go_enter Try.func18, Try.ntmps18
        go_wp2_with fail
        refine (l1In_yes d 1 100000000 _ hd.1 hd.2).mono ?_
        rintro e w' ⟨rfl, hw⟩
        obtain rfl := hw.symm
        go_wp2_with fail
        refine (l1In_yes x 0 100000000 _ hx.1 hx.2).mono ?_
        rintro e w' ⟨rfl, hw⟩
        obtain rfl := hw.symm
        go_wp2_with fail
        refine (l1In_no a 5 9 _ (by omega)).mono ?_
        rintro e w' ⟨rfl, hw⟩
        obtain rfl := hw.symm
        go_wp2
        go_ret2
        exact ⟨_, rfl, HO.out, HB0.out⟩
    · clear hn
      go_enter Try.func18, Try.ntmps18
      go_wp2_with fail
      refine (l1In_yes d 1 100000000 _ hd.1 hd.2).mono ?_
      rintro e w' ⟨rfl, hw⟩
      obtain rfl := hw.symm
      go_wp2_with fail
      refine (l1In_no x 0 100000000 _ (by omega)).mono ?_
      rintro e w' ⟨rfl, hw⟩
      obtain rfl := hw.symm
      go_wp2
      go_ret2
      exact ⟨_, rfl, HO.out, HB0.out⟩
  · clear hn
    go_enter Try.func18, Try.ntmps18
    go_wp2_with fail
    refine (l1In_no d 1 100000000 _ (by omega)).mono ?_
    rintro e w' ⟨rfl, hw⟩
    obtain rfl := hw.symm
    go_wp2
    go_ret2
    exact ⟨_, rfl, HO.out, HB0.out⟩
theorem sDivide_any (x d a n : Int) (w : World) :
    Calls Try.prog 18 #[.int .i64 x, .int .i64 d, .int .i64 a, .int .i64 n] w fun e w' => ∃ v, e = .returned (.tuple #[v, .bool (dvo x d a n)]) ∧ HasT w' w.heap.size v (dvL x d a n) ∧ Below w.heap.size w w' := by
  cases h : dvo x d a n with
  | false =>
    have : dvL x d a n = [] := by unfold dvL; rw [h]; rfl
    rw [this]
    exact sDivide_no x d a n w h
  | true =>
    have hh : (1 ≤ d ∧ d ≤ 100000000) ∧ (0 ≤ x ∧ x ≤ 100000000) ∧ (5 ≤ a ∧ a ≤ 9) ∧ 9 * x ≤ a * d ∧ (0 ≤ n ∧ n ≤ 18) := of_decide_eq_true h
    have : dvL x d a n = tl a d x n.toNat := by unfold dvL; rw [h]; rfl
    rw [this]
    obtain ⟨N, hN⟩ := Int.eq_ofNat_of_zero_le hh.2.2.2.2.1
    subst hN
    exact sDivide_yes x d a N w hh.1 hh.2.1 hh.2.2.1 hh.2.2.2.1 (by omega)
end Go.Proofs.Ytlbkhiphnllfpac
