/-
  Quotient of the model, walked.
-/
import Derived.Test.YtlbkhiphnllfpacApp
import Derived.Test.YtlbkhiphnllfpacDivP
namespace Go.Proofs.Ytlbkhiphnllfpac
open Go.RowKit
set_option linter.unusedVariables false
set_option maxRecDepth 100000
/-- What is left of a plain division behind j digits; the digits. -/
def qx (d x : Int) : Nat → Int
  | 0 => x
  | j + 1 => 10 * qx d x j % d
def ql (d x : Int) : Nat → List Int
  | 0 => []
  | j + 1 => ql d x j ++ [10 * qx d x j / d]
theorem ql_len (d x : Int) (j : Nat) : (ql d x j).length = j := by
  induction j with
  | zero => rfl
  | succ j ih => simp [ql, ih]
theorem qx_bd (d x : Int) (hd : 0 < d) (x0 : 0 ≤ x) (x1 : x < d) (j : Nat) : 0 ≤ qx d x j ∧ qx d x j < d := by
  cases j with
  | zero => exact ⟨x0, x1⟩
  | succ j => exact ⟨Int.emod_nonneg _ (by omega), Int.emod_lt_of_pos _ hd⟩
theorem qd_bd (d y : Int) (hd : 0 < d) (y0 : 0 ≤ y) (y1 : y < d) : 0 ≤ 10 * y / d ∧ 10 * y / d ≤ 9 := by
  refine ⟨Int.ediv_nonneg (by omega) (by omega), ?_⟩
  have := Int.ediv_lt_of_lt_mul hd (show 10 * y < 10 * d by omega)
  omega
theorem ql_dec (d x : Int) (hd : 0 < d) (x0 : 0 ≤ x) (x1 : x < d) (j : Nat) : Dec (ql d x j) := by
  induction j with
  | zero => intro z hz; cases hz
  | succ j ih =>
    intro z hz
    rcases List.mem_append.1 hz with h | h
    · exact ih z h
    · rw [List.mem_singleton] at h
      have := qx_bd d x hd x0 x1 j
      have := qd_bd d (qx d x j) hd this.1 this.2
      subst h; omega
/-- The digits times the divisor, and what is left, are the number with that many noughts. -/
theorem ql_vl (d x : Int) (hd : 0 < d) (x0 : 0 ≤ x) (x1 : x < d) (j : Nat) : vl (ql d x j) * d + qx d x j = x * 10 ^ j := by
  induction j with
  | zero => simp [ql, qx, vl, lv]
  | succ j ih =>
    unfold ql
    rw [vl_snoc]
    simp only [qx]
    have h := Int.emod_add_mul_ediv (10 * qx d x j) d
    rw [Int.pow_succ, ← Int.mul_assoc, ← ih, Int.add_mul, Int.add_mul]
    have e : vl (ql d x j) * 10 * d = vl (ql d x j) * d * 10 := by rw [Int.mul_assoc, Int.mul_comm 10 d, ← Int.mul_assoc]
    have e2 : 10 * qx d x j / d * d = d * (10 * qx d x j / d) := Int.mul_comm _ _
    omega
def quo (x d n : Int) : Bool := decide ((1 ≤ d ∧ d ≤ 100000000) ∧ (0 ≤ x ∧ x ≤ d - 1) ∧ (1 ≤ n ∧ n ≤ 18))
set_option maxHeartbeats 1000000 in
theorem sQuotient_yes (x d : Int) (N : Nat) (w : World) (hd : 1 ≤ d ∧ d ≤ 100000000) (hx : 0 ≤ x ∧ x ≤ d - 1) (hn : 1 ≤ N ∧ N ≤ 18) :
    Calls Try.prog 23 #[.int .i64 x, .int .i64 d, .int .i64 (N : Int)] w fun e w' => ∃ v, e = .returned (.tuple #[v, .int .i64 (qx d x N), .bool true]) ∧ Has w' w.heap.size v (ql d x N) ∧ Below w.heap.size w w' := by
  have HB0 : Below w.heap.size w (w.alloc (.cells #[] 2)) := (Below.refl _ _).alloc (Nat.le_refl _) _
  have HO : Hid (HasN (w.alloc (.cells #[] 2)) w.heap.size (.slice (some ⟨w.heap.size, 0, none⟩) 0 0) []) := none_ownN w
  have HX : Hid (∀ j, 0 ≤ qx d x j ∧ qx d x j < d) := fun j => qx_bd d x (by omega) hx.1 (by omega) j
  have HQ : Hid (∀ y, 0 ≤ y → y < d → 0 ≤ 10 * y / d ∧ 10 * y / d ≤ 9) := fun y h0 h1 => qd_bd d y (by omega) h0 h1
  go_enter Try.func23, Try.ntmps23
  go_wp2_with fail
  refine (l1In_yes d 1 100000000 _ hd.1 hd.2).mono ?_
  rintro e w' ⟨rfl, hw⟩
  obtain rfl := hw.symm
  go_wp2_with fail
  refine (l1In_yes x 0 (d - 1) _ hx.1 hx.2).mono ?_
  rintro e w' ⟨rfl, hw⟩
  obtain rfl := hw.symm
  go_wp2_with fail
  refine (l1In_yes (N : Int) 1 18 _ (by omega) (by omega)).mono ?_
  rintro e w' ⟨rfl, hw⟩
  obtain rfl := hw.symm
  go_wp2
  go_loopw [0, 2, 9] (fun y n v wr => ∃ j : Nat, j ≤ N ∧ n = .int .i64 ((N : Int) - (j : Int)) ∧ y = .int .i64 (qx d x j) ∧ Hid (HasN wr w.heap.size v (ql d x j)) ∧ Below w.heap.size w wr) (fun _ n _ _ => (intOf n).toNat)
  case atStart => exact ⟨0, Nat.zero_le _, Ln.val_int (by omega), rfl, HO, HB0⟩
  case round =>
    clear HO HB0
    obtain ⟨j, hj, rfl, rfl, hown, hbel⟩ := hrel
    have hsz := hbel.size
    by_cases hlt : j < N
    · have hc0 : (0 : Int) < (N : Int) - (j : Int) := by omega
      have hy := HX.out j
      have HW : Hid (qx d x (j + 1) = 10 * qx d x j % d) := rfl
      have HT : Hid (ql d x (j + 1) = ql d x j ++ [10 * qx d x j / d]) := rfl
      have hln := ql_len d x j
      generalize ql d x j = P0 at *
      generalize qx d x j = y at *
      have hdv : Int.tdiv (10 * y) d = 10 * y / d := Int.tdiv_eq_ediv_of_nonneg (by omega)
      have hmd : Int.tmod (10 * y) d = 10 * y % d := Int.tmod_eq_emod_of_nonneg (by omega)
      have hq := HQ.out y hy.1 hy.2
      have hr0 := Int.emod_nonneg (10 * y) (show d ≠ 0 by omega)
      have hr1 := Int.emod_lt_of_pos (10 * y) (show 0 < d by omega)
      have hd0 : ¬ d = 0 := by omega
      have Hdv : Hid (Int.tdiv (10 * y) d = 10 * y / d) := hdv
      go_wp2_with (first | (at_builtin; refine wpList_app rfl _ _ rfl _ _ rfl rfl w.heap.size wr.heap.size P0 [10 * y / d] (hown.out.alloc _) (one_ownN wr _) (by simp; omega) (by simp; omega) ?_; intro v' w4 hown4 hb4) | go_in)
      have hB4 : Below w.heap.size w w4 := hb4.out _ _ (hbel.alloc hsz _) (Nat.le_refl _)
      clear hb4
      go_roundw
      case rel => exact ⟨j + 1, by omega, Ln.val_int (by omega), by rw [HW.out], by rw [HT.out]; exact hown4, hB4⟩
      case measure => simp [intOf]; omega
    · have e : j = N := by omega
      subst e
      have hd0 : ¬ (0 : Int) < (j : Int) - (j : Int) := by omega
      go_wp2
      go_ret3
      exact ⟨_, rfl, hown.out.1, hbel⟩
def quL (x d n : Int) : List Int := if quo x d n then ql d x n.toNat else []
def quR (x d n : Int) : Int := if quo x d n then qx d x n.toNat else 0
theorem sQuotient_no (x d n : Int) (w : World) (h : quo x d n = false) :
    Calls Try.prog 23 #[.int .i64 x, .int .i64 d, .int .i64 n] w fun e w' => ∃ v, e = .returned (.tuple #[v, .int .i64 0, .bool false]) ∧ Has w' w.heap.size v [] ∧ Below w.heap.size w w' := by
  have HB0 : Hid (Below w.heap.size w (w.alloc (.cells #[] 2))) := (Below.refl _ _).alloc (Nat.le_refl _) _
  have HO : Hid (Has (w.alloc (.cells #[] 2)) w.heap.size (.slice (some ⟨w.heap.size, 0, none⟩) 0 0) []) := (none_ownN w).1
  have hn : ¬ ((1 ≤ d ∧ d ≤ 100000000) ∧ (0 ≤ x ∧ x ≤ d - 1) ∧ (1 ≤ n ∧ n ≤ 18)) := of_decide_eq_false h
  clear h
  by_cases hd : 1 ≤ d ∧ d ≤ 100000000
  · by_cases hx : 0 ≤ x ∧ x ≤ d - 1
    · have hnn : ¬ (1 ≤ n ∧ n ≤ 18) := fun hh => hn ⟨hd, hx, hh⟩
      clear hn
      go_enter Try.func23, Try.ntmps23
      go_wp2_with fail
      refine (l1In_yes d 1 100000000 _ hd.1 hd.2).mono ?_
      rintro e w' ⟨rfl, hw⟩
      obtain rfl := hw.symm
      go_wp2_with fail
      refine (l1In_yes x 0 (d - 1) _ hx.1 hx.2).mono ?_
      rintro e w' ⟨rfl, hw⟩
      obtain rfl := hw.symm
      go_wp2_with fail
      refine (l1In_no n 1 18 _ (by omega)).mono ?_
      rintro e w' ⟨rfl, hw⟩
      obtain rfl := hw.symm
      go_wp2
      go_ret3
      exact ⟨_, rfl, HO.out, HB0.out⟩
    · clear hn
      go_enter Try.func23, Try.ntmps23
      go_wp2_with fail
      refine (l1In_yes d 1 100000000 _ hd.1 hd.2).mono ?_
      rintro e w' ⟨rfl, hw⟩
      obtain rfl := hw.symm
      go_wp2_with fail
      refine (l1In_no x 0 (d - 1) _ (by omega)).mono ?_
      rintro e w' ⟨rfl, hw⟩
      obtain rfl := hw.symm
      go_wp2
      go_ret3
      exact ⟨_, rfl, HO.out, HB0.out⟩
  · clear hn
    go_enter Try.func23, Try.ntmps23
    go_wp2_with fail
    refine (l1In_no d 1 100000000 _ (by omega)).mono ?_
    rintro e w' ⟨rfl, hw⟩
    obtain rfl := hw.symm
    go_wp2
    go_ret3
    exact ⟨_, rfl, HO.out, HB0.out⟩
theorem sQuotient_any (x d n : Int) (w : World) :
    Calls Try.prog 23 #[.int .i64 x, .int .i64 d, .int .i64 n] w fun e w' => ∃ v, e = .returned (.tuple #[v, .int .i64 (quR x d n), .bool (quo x d n)]) ∧ Has w' w.heap.size v (quL x d n) ∧ Below w.heap.size w w' := by
  cases h : quo x d n with
  | false =>
    have e1 : quL x d n = [] := by unfold quL; rw [h]; rfl
    have e2 : quR x d n = 0 := by unfold quR; rw [h]; rfl
    rw [e1, e2]
    exact sQuotient_no x d n w h
  | true =>
    have hh : (1 ≤ d ∧ d ≤ 100000000) ∧ (0 ≤ x ∧ x ≤ d - 1) ∧ (1 ≤ n ∧ n ≤ 18) := of_decide_eq_true h
    have e1 : quL x d n = ql d x n.toNat := by unfold quL; rw [h]; rfl
    have e2 : quR x d n = qx d x n.toNat := by unfold quR; rw [h]; rfl
    rw [e1, e2]
    obtain ⟨N, hN⟩ := Int.eq_ofNat_of_zero_le (show 0 ≤ n by omega)
    subst hN
    exact sQuotient_yes x d N w hh.1 hh.2.1 (by omega)
end Go.Proofs.Ytlbkhiphnllfpac
