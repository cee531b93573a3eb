/-
  Plain facts on sums of sixteen digits, lane by lane.
-/
import Derived.Test.YtlbkhiphnllfpajDoorRecode
namespace Go.Proofs.YtlbkhiphnllfpajDoor
open Ln
/-- The carry into lane k. -/
def cyF (fa fb : Nat → Int) (c : Int) : Nat → Int
  | 0 => c
  | k + 1 => (fa k + fb k + cyF fa fb c k) / 10
/-- The sum's digit in lane k. -/
def sdF (fa fb : Nat → Int) (c : Int) (k : Nat) : Int := (fa k + fb k + cyF fa fb c k) % 10
theorem cyF_succ (fa fb : Nat → Int) (c : Int) (k : Nat) : cyF fa fb c (k + 1) = (fa k + fb k + cyF fa fb c k) / 10 := rfl
theorem sdF_def (fa fb : Nat → Int) (c : Int) (k : Nat) : sdF fa fb c k = (fa k + fb k + cyF fa fb c k) % 10 := rfl
/-- Digits 0 to 9 in the lanes 0 to 15. -/
def Nine (f : Nat → Int) : Prop := ∀ i, i < 16 → 0 ≤ f i ∧ f i ≤ 9
theorem cyF_bd (fa fb : Nat → Int) (c : Int) (ha : Nine fa) (hb : Nine fb) (h0 : 0 ≤ c) (h1 : c ≤ 1) (k : Nat) (hk : k ≤ 16) : 0 ≤ cyF fa fb c k ∧ cyF fa fb c k ≤ 1 := by
  induction k with
  | zero => exact ⟨h0, h1⟩
  | succ k ih =>
    have a := ha k (by omega)
    have b := hb k (by omega)
    have i := ih (by omega)
    simp only [cyF]
    omega
theorem sdF_bd (fa fb : Nat → Int) (c : Int) (k : Nat) : 0 ≤ sdF fa fb c k ∧ sdF fa fb c k ≤ 9 := by
  unfold sdF; omega
theorem sdF_nine (fa fb : Nat → Int) (c : Int) : Nine (sdF fa fb c) := fun k _ => sdF_bd fa fb c k
/-- What the k low lanes make. -/
def Sm (f : Nat → Int) : Nat → Int
  | 0 => 0
  | k + 1 => Sm f k + f k * 16 ^ k
theorem Sm_bd (f : Nat → Int) (hf : Nine f) (k : Nat) (hk : k ≤ 16) : 0 ≤ Sm f k ∧ Sm f k < 16 ^ k := by
  induction k with
  | zero => exact ⟨Int.le_refl _, show (0 : Int) < 16 ^ 0 by decide⟩
  | succ k ih =>
    have a := hf k (by omega)
    have i := ih (by omega)
    have p := Ln.pow_pos16 k
    simp only [Sm]
    rw [Int.pow_succ]
    have h9 : f k * 16 ^ k ≤ 9 * 16 ^ k := Int.mul_le_mul_of_nonneg_right a.2 (Int.le_of_lt p)
    have h0 : 0 ≤ f k * 16 ^ k := Int.mul_nonneg a.1 (Int.le_of_lt p)
    omega
/-- A digit joined above what the k low lanes make. -/
theorem orK (S d : Int) (k : Nat) (hS : 0 ≤ S) (hS1 : S < 16 ^ k) (hd : 0 ≤ d) (hd9 : d ≤ 9) (hk : k < 16) : bits .or .u64 S (IntKind.u64.wrap (d * 2 ^ (4 * k))) = S + d * 16 ^ k := by
  have p := Ln.pow_pos16 k
  have hle : (16 : Int) ^ k ≤ 16 ^ 15 := by
    rcases Nat.lt_or_ge k 15 with h | h
    · exact Int.le_of_lt (Int.pow_lt_pow_of_lt (by decide) h)
    · rw [show k = 15 by omega]; exact Int.le_refl _
  have c15 : (16 : Int) ^ 15 = 1152921504606846976 := by decide
  have h9 : d * 16 ^ k ≤ 9 * 16 ^ k := Int.mul_le_mul_of_nonneg_right hd9 (Int.le_of_lt p)
  have h0 : 0 ≤ d * 16 ^ k := Int.mul_nonneg hd (Int.le_of_lt p)
  have hw : IntKind.u64.wrap (d * 2 ^ (4 * k)) = d * 16 ^ k := by
    rw [IntKind.wrap_u64, Ln.pow4]; omega
  rw [hw]
  obtain ⟨s, rfl⟩ := Int.eq_ofNat_of_zero_le hS
  obtain ⟨e, rfl⟩ := Int.eq_ofNat_of_zero_le hd
  have hc : ((e : Int) * 16 ^ k) = ((e * 16 ^ k : Nat) : Int) := by simp
  have hs : s < 16 ^ k := by
    have : ((s : Nat) : Int) < ((16 ^ k : Nat) : Int) := by simpa using hS1
    omega
  rw [hc] at h9 h0 ⊢
  rw [bits_or_u64_nat s (e * 16 ^ k) (by omega) (by omega)]
  have hp : (16 : Nat) ^ k = 2 ^ (4 * k) := by rw [Nat.pow_mul]
  have o := Nat.shiftLeft_add_eq_or_of_lt (show s < 2 ^ (4 * k) by rw [← hp]; exact hs) e
  rw [Nat.shiftLeft_eq, ← hp] at o
  rw [Nat.or_comm, ← o]
  omega
theorem dig0_all : ∀ l : Fin 16, dig 0 (l.val : Int) = (l.val : Int) := by decide +kernel
theorem dig0 (l : Int) (h0 : 0 ≤ l) (h1 : l < 16) : dig 0 l = l := by
  obtain ⟨n, rfl⟩ := Int.eq_ofNat_of_zero_le h0
  exact dig0_all ⟨n, by omega⟩
theorem ff0_all : ∀ l : Fin 10, ff 0 (l.val : Int) = l.val := by decide +kernel
theorem ff0 (d : Int) (h0 : 0 ≤ d) (h1 : d ≤ 9) : (ff 0 d : Int) = d := by
  obtain ⟨n, rfl⟩ := Int.eq_ofNat_of_zero_le h0
  rw [ff0_all ⟨n, by omega⟩]
theorem packN_snoc (m : Nat) (ds : List Int) (d : Int) : packN m (ds ++ [d]) = packN m ds * 16 + (ff m d : Int) := by
  unfold packN; rw [List.foldl_append]; rfl
/-- Sixteen digits packed under the plain weighting. -/
theorem pack_highsF (f : Nat → Int) (hf : Nine f) : packN 0 (highsF f 16) = Sm f 16 := by
  have e : ∀ i, i < 16 → (ff 0 (f i) : Int) = f i := fun i hi => ff0 _ (hf i hi).1 (hf i hi).2
  have z : packN 0 (highsF f 0) = 0 := rfl
  simp only [highsF, packN_snoc, Sm]
  rw [show packN 0 ([] : List Int) = 0 from rfl]
  rw [e (15 - 0) (by decide), e (15 - 1) (by decide), e (15 - 2) (by decide), e (15 - 3) (by decide), e (15 - 4) (by decide), e (15 - 5) (by decide), e (15 - 6) (by decide), e (15 - 7) (by decide), e (15 - 8) (by decide), e (15 - 9) (by decide), e (15 - 10) (by decide), e (15 - 11) (by decide), e (15 - 12) (by decide), e (15 - 13) (by decide), e (15 - 14) (by decide), e (15 - 15) (by decide)]
  simp only [Nat.sub_zero, Nat.reduceSub, Int.reducePow]
  omega
theorem highsF_mem (f : Nat → Int) (j : Nat) (hj : j ≤ 16) (d : Int) (hd : d ∈ highsF f j) : ∃ i, i < 16 ∧ d = f i := by
  induction j with
  | zero => simp [highsF] at hd
  | succ j ih =>
    simp only [highsF, List.mem_append, List.mem_singleton] at hd
    rcases hd with hd | hd
    · exact ih (by omega) hd
    · exact ⟨15 - j, by omega, hd⟩
theorem okDs_highsF (f : Nat → Int) (hf : Nine f) : okDs (highsF f 16) = true := by
  refine okDs_yes _ (by rw [highsF_length]; omega) fun i hi => ?_
  rw [highsF_length] at hi
  rw [List.getD, highsF_at f 16 i hi]
  exact hf _ (by omega)
theorem lowsF_length (f : Nat → Int) (k : Nat) : (lowsF f k).length = 16 := by
  induction k with
  | zero => rfl
  | succ k ih => simp [lowsF, ih]
theorem dig_nine (m : Nat) (x : Int) (h : okB m x = true) : Nine (fun i => dig m (ln x i)) := fun i hi => ⟨(dig_bd m _).1, (okB_iff m x).1 h i hi⟩
/-- The lanes of a plain word are its digits. -/
theorem plain_dig (x : Int) : (fun i => dig 0 (ln x i)) = fun i => ln x i := by
  funext i; exact dig0 _ (ln_lo x i) (ln_hi x i)
end Go.Proofs.YtlbkhiphnllfpajDoor
