/-
  The corners of a cell in reach, as the model lists them: what they are, and the model's walk.
-/
import Derived.Deep.RegionWith
import Derived.Test.YtlbkhiphnllfpamCel
import Derived.Test.YtlbkhiphnllfpamSl
namespace Go.Proofs.Ytlbkhiphnllfpam
open Go.RowKit
set_option linter.unusedVariables false
/-- A point: its two numbers, and what they are over. -/
abbrev Pt := Int × Int × Int
def pl : List Pt → List Value
  | [] => []
  | p :: r => .int .i64 p.1 :: .int .i64 p.2.1 :: .int .i64 p.2.2 :: pl r
theorem pl_append (a b : List Pt) : pl (a ++ b) = pl a ++ pl b := by
  induction a with
  | nil => rfl
  | cons p r ih => simp [pl, ih]
theorem pl_length (a : List Pt) : (pl a).length = a.length * 3 := by
  induction a with
  | nil => rfl
  | cons p r ih => simp [pl, ih]; omega
theorem pl_at (a : List Pt) (i : Nat) (p : Pt) (h : a[i]? = some p) : (pl a)[i * 3]? = some (.int .i64 p.1) ∧ (pl a)[i * 3 + 1]? = some (.int .i64 p.2.1) ∧ (pl a)[i * 3 + 2]? = some (.int .i64 p.2.2) := by
  induction a generalizing i with
  | nil => simp at h
  | cons q r ih =>
    cases i with
    | zero => simp at h; subst h; simp [pl]
    | succ i =>
      have h' := ih i (by simpa using h)
      have e : (i + 1) * 3 = i * 3 + 3 := by omega
      rw [e]
      simp only [pl, List.getElem?_cons_succ]
      exact h'
def abI (x : Int) : Int := if x < 0 then -x else x
theorem abI_nn (x : Int) : 0 ≤ abI x := by unfold abI; split <;> omega
theorem abI_le (x m : Int) (h0 : -m ≤ x) (h1 : x ≤ m) : abI x ≤ m := by unfold abI; split <;> omega
theorem l1Abs_any (x : Int) (w : World) (h0 : -9223372036854775807 ≤ x) (h1 : x ≤ 9223372036854775807) :
    Calls Try.prog 36 #[.int .i64 x] w fun e w' => e = .returned (.int .i64 (abI x)) ∧ w' = w := by
  by_cases h : x < 0
  · have E : Hid (abI x = -x) := by show _ = _; unfold abI; rw [if_pos h]
    go_enter Try.func36, Try.ntmps36
    go_wp2
    go_ret
    exact ⟨Ln.ret_int E.out.symm, rfl⟩
  · have E : Hid (abI x = x) := by show _ = _; unfold abI; rw [if_neg h]
    go_enter Try.func36, Try.ntmps36
    go_wp2
    go_ret
    exact ⟨Ln.ret_int E.out.symm, rfl⟩
/-- The corners of the box; where the rays cross its upright sides; where they cross its level ones. -/
def c1 (p q d y : Int) : List Pt := if abI y * p ≤ q * d then [(d, y, 1)] else []
def c2 (p q Y d s : Int) : List Pt := if Y * p ≤ s * q * d ∧ s * q * d ≤ (Y + 2) * p then [(d * p, s * q * d, p)] else []
def c3 (p q D y : Int) : List Pt := if D * q ≤ abI y * p ∧ abI y * p ≤ (D + 1) * q then [(abI y * p, y * q, q)] else []
def cnB (p q Y d : Int) : Nat → List Pt
  | 0 => []
  | i + 1 => cnB p q Y d i ++ c1 p q d (Y + 2 * i)
def cnS (p q Y d : Int) : Nat → List Pt
  | 0 => []
  | i + 1 => cnS p q Y d i ++ c2 p q Y d (2 * i - 1)
def cnD (p q D Y : Int) : Nat → List Pt
  | 0 => []
  | j + 1 => cnD p q D Y j ++ cnB p q Y (D + j) 2 ++ cnS p q Y (D + j) 2
def cnE (p q D Y : Int) : Nat → List Pt
  | 0 => cnD p q D Y 2
  | i + 1 => cnE p q D Y i ++ c3 p q D (Y + 2 * i)
theorem c1_len (p q d y : Int) : (c1 p q d y).length ≤ 1 := by unfold c1; split <;> simp
theorem c2_len (p q Y d s : Int) : (c2 p q Y d s).length ≤ 1 := by unfold c2; split <;> simp
theorem c3_len (p q D y : Int) : (c3 p q D y).length ≤ 1 := by unfold c3; split <;> simp
theorem cnB_len (p q Y d : Int) (i : Nat) : (cnB p q Y d i).length ≤ i := by
  induction i with
  | zero => simp [cnB]
  | succ i ih => simp only [cnB, List.length_append]; have := c1_len p q d (Y + 2 * i); omega
theorem cnS_len (p q Y d : Int) (i : Nat) : (cnS p q Y d i).length ≤ i := by
  induction i with
  | zero => simp [cnS]
  | succ i ih => simp only [cnS, List.length_append]; have := c2_len p q Y d (2 * i - 1); omega
theorem cnD_len (p q D Y : Int) (j : Nat) : (cnD p q D Y j).length ≤ 4 * j := by
  induction j with
  | zero => simp [cnD]
  | succ j ih =>
    simp only [cnD, List.length_append]
    have h1 := cnB_len p q Y (D + j) 2
    have h2 := cnS_len p q Y (D + j) 2
    omega
theorem cnE_len (p q D Y : Int) (i : Nat) : (cnE p q D Y i).length ≤ 8 + i := by
  induction i with
  | zero => exact cnD_len p q D Y 2
  | succ i ih => simp only [cnE, List.length_append]; have := c3_len p q D (Y + 2 * i); omega
theorem mulB (x y m n : Int) (x0 : -m ≤ x) (x1 : x ≤ m) (y0 : 0 ≤ y) (y1 : y ≤ n) (m0 : 0 ≤ m) : -(m * n) ≤ x * y ∧ x * y ≤ m * n := by
  have h1 : x * y ≤ m * y := Int.mul_le_mul_of_nonneg_right x1 y0
  have h2 : m * y ≤ m * n := Int.mul_le_mul_of_nonneg_left y1 m0
  have h3 : -m * y ≤ x * y := Int.mul_le_mul_of_nonneg_right x0 y0
  rw [Int.neg_mul] at h3
  exact ⟨by omega, by omega⟩
theorem mulC2 (x y m n : Int) (x0 : -m ≤ x) (x1 : x ≤ m) (y0 : -n ≤ y) (y1 : y ≤ n) (m0 : 0 ≤ m) (n0 : 0 ≤ n) : -(m * n) ≤ x * y ∧ x * y ≤ m * n := by
  rcases Int.le_total 0 y with h | h
  · exact mulB x y m n x0 x1 h y1 m0
  · have := mulB x (-y) m n x0 x1 (by omega) (by omega) m0
    rw [Int.mul_neg] at this
    omega
theorem pow12 (x : Int) (hx : 1 ≤ x ∧ x ≤ 2) : 10 ≤ (10 : Int) ^ x.toNat ∧ (10 : Int) ^ x.toNat ≤ 100 := by
  rcases (show x = 1 ∨ x = 2 by omega) with rfl | rfl <;> simp
theorem rgd_bd (u d : Int) (hu : 1 ≤ u ∧ u ≤ 2) (h : rgd u d = true) : 1 ≤ d ∧ d ≤ 99 := by
  unfold rgd at h
  simp only [decide_eq_true_eq] at h
  rcases (show u = 1 ∨ u = 2 by omega) with rfl | rfl
  · simp at h; omega
  · simp at h; omega
theorem bnd_bd (a u t d : Int) (hp : prm a u t = true) (hr : rgd u d = true) : 0 ≤ bnd a u t d ∧ bnd a u t d ≤ 900000 := by
  obtain ⟨ha, hu, ht⟩ := prm_parts a u t hp
  have hd := rgd_bd u d hu hr
  have hT := pow12 t ht
  have hU := pow12 u hu
  unfold bnd
  rw [if_pos ⟨hp, hr⟩]
  generalize (10 : Int) ^ t.toNat = T at *
  generalize (10 : Int) ^ u.toNat = U at *
  have m1 : 0 ≤ 10 * a * T ∧ 10 * a * T ≤ 9000 := by
    have := Int.mul_le_mul_of_nonneg_left hT.2 (show 0 ≤ 10 * a by omega)
    have := Int.mul_nonneg (show 0 ≤ 10 * a by omega) (show 0 ≤ T by omega)
    omega
  have m2 : 0 ≤ 10 * a * T * (d + 1) ∧ 10 * a * T * (d + 1) ≤ 900000 := by
    have := Int.mul_le_mul_of_nonneg_left (show d + 1 ≤ 100 by omega) m1.1
    have := Int.mul_nonneg m1.1 (show 0 ≤ d + 1 by omega)
    omega
  exact ⟨Int.ediv_nonneg m2.1 (by omega), Int.le_trans (Int.ediv_le_self _ m2.1) m2.2⟩
end Go.Proofs.Ytlbkhiphnllfpam
