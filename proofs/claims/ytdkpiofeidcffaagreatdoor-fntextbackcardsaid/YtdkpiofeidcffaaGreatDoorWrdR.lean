/-
  Plain facts: the number that bits stand for; what is packed is read back; what is read is right.
-/
import Derived.WalkKit
import Derived.KernelRfl
import Derived.Test.YtdkpiofeidcffaaGreatDoorTxtM
namespace Go.Proofs.YtdkpiofeidcffaaGreatDoor
set_option linter.unusedVariables false
set_option maxRecDepth 100000
/-- Ten bits by the kind of the three digits and what is left of each. -/
def dcK (k b d f h j m : Int) : Int :=
  if k = 0 then b * 256 + d * 128 + f * 32 + h * 16 + j * 2 + m
  else if k = 1 then b * 256 + d * 128 + f * 32 + h * 16 + 8 + m
  else if k = 2 then b * 256 + d * 128 + j * 32 + h * 16 + 10 + m
  else if k = 4 then j * 256 + d * 128 + f * 32 + h * 16 + 12 + m
  else if k = 6 then j * 256 + d * 128 + h * 16 + 14 + m
  else if k = 5 then f * 256 + d * 128 + 32 + h * 16 + 14 + m
  else if k = 3 then b * 256 + d * 128 + 64 + h * 16 + 14 + m
  else d * 128 + 96 + h * 16 + 14 + m
/-- .. of three digits. -/
def dcD (x y z : Int) : Int := dcK (x / 8 * 4 + y / 8 * 2 + z / 8) (x % 8 / 2) (x % 2) (y % 8 / 2) (y % 2) (z % 8 / 2) (z % 2)
/-- .. of a number from 0 to 999; -1 of any other. -/
def dcl (n : Int) : Int := if 0 ≤ n ∧ n ≤ 999 then dcD (n / 100) (n / 10 % 10) (n % 10) else -1
/-- What is left of the bits that are not looked at. -/
def fold (b : Int) : Int := if b / 2 % 8 = 7 ∧ b / 32 % 4 = 3 then b % 256 else b
/-- The number that ten bits stand for, by their fields. -/
def unK (b : Int) : Int :=
  let p := b / 256; let d := b / 128 % 2; let q := b / 32 % 4; let h := b / 16 % 2; let v := b / 8 % 2; let r := b / 2 % 4; let m := b % 2
  if v = 0 then (p * 2 + d) * 100 + (q * 2 + h) * 10 + (r * 2 + m)
  else if r = 0 then (p * 2 + d) * 100 + (q * 2 + h) * 10 + (8 + m)
  else if r = 1 then (p * 2 + d) * 100 + (8 + h) * 10 + (q * 2 + m)
  else if r = 2 then (8 + d) * 100 + (q * 2 + h) * 10 + (p * 2 + m)
  else if q = 0 then (8 + d) * 100 + (8 + h) * 10 + (p * 2 + m)
  else if q = 1 then (8 + d) * 100 + (p * 2 + h) * 10 + (8 + m)
  else if q = 2 then (p * 2 + d) * 100 + (8 + h) * 10 + (8 + m)
  else (8 + d) * 100 + (8 + h) * 10 + (8 + m)
/-- .. -1 of what is none. -/
def und (b : Int) : Int := if 0 ≤ b ∧ b ≤ 1023 then unK b else -1
/-- The canonical bits. -/
def can (b : Int) : Int := dcl (und b)
theorem tab1 : (List.range 1000).all (fun n => decide (unK (dcl n) = n ∧ 0 ≤ dcl n ∧ dcl n ≤ 1023 ∧ fold (dcl n) = dcl n)) = true := by kernel_rfl
theorem tab2 : (List.range 1024).all (fun b => decide (dcl (unK b) = fold b ∧ 0 ≤ unK b ∧ unK b ≤ 999)) = true := by kernel_rfl
theorem dcl_back (n : Int) (h0 : 0 ≤ n) (h1 : n ≤ 999) : unK (dcl n) = n ∧ 0 ≤ dcl n ∧ dcl n ≤ 1023 ∧ fold (dcl n) = dcl n := by
  obtain ⟨N, rfl⟩ := Int.eq_ofNat_of_zero_le h0
  exact of_decide_eq_true (List.all_eq_true.1 tab1 N (List.mem_range.2 (by omega)))
theorem und_back (b : Int) (h0 : 0 ≤ b) (h1 : b ≤ 1023) : dcl (unK b) = fold b ∧ 0 ≤ unK b ∧ unK b ≤ 999 := by
  obtain ⟨N, rfl⟩ := Int.eq_ofNat_of_zero_le h0
  exact of_decide_eq_true (List.all_eq_true.1 tab2 N (List.mem_range.2 (by omega)))
/-- No two numbers have the same bits. -/
theorem dcl_one (n m : Int) (h0 : 0 ≤ n) (h1 : n ≤ 999) (k0 : 0 ≤ m) (k1 : m ≤ 999) (e : dcl n = dcl m) : n = m := by
  rw [← (dcl_back n h0 h1).1, ← (dcl_back m k0 k1).1, e]
theorem und_dcl (n : Int) (h0 : 0 ≤ n) (h1 : n ≤ 999) : und (dcl n) = n := by
  have h := dcl_back n h0 h1
  unfold und
  rw [if_pos ⟨h.2.1, h.2.2.1⟩]
  exact h.1
theorem und_fits (b : Int) : -1 ≤ und b ∧ und b ≤ 999 := by
  unfold und
  split
  · next h => have := und_back b h.1 h.2; omega
  · omega
theorem dcl_fits (n : Int) : -1 ≤ dcl n ∧ dcl n ≤ 1023 := by
  by_cases h : 0 ≤ n ∧ n ≤ 999
  · have := dcl_back n h.1 h.2; omega
  · unfold dcl; rw [if_neg h]; omega
theorem dcl_none (n : Int) (h : ¬ (0 ≤ n ∧ n ≤ 999)) : dcl n = -1 := by unfold dcl; rw [if_neg h]
theorem und_none (b : Int) (h : ¬ (0 ≤ b ∧ b ≤ 1023)) : und b = -1 := by unfold und; rw [if_neg h]
/-- Canonical bits stand for the same. -/
theorem und_can (b : Int) (h0 : 0 ≤ b) (h1 : b ≤ 1023) : und (can b) = und b := by
  have h := und_back b h0 h1
  have e : und b = unK b := by unfold und; rw [if_pos ⟨h0, h1⟩]
  unfold can
  rw [und_dcl _ (by omega) (by omega)]
end Go.Proofs.YtdkpiofeidcffaaGreatDoor
namespace Go.Proofs.YtdkpiofeidcffaaGreatDoor
set_option linter.unusedVariables false
set_option maxRecDepth 100000
/-- What k bits of a list stand for, from the place i on, the high one first. -/
def hb (b : List Int) (i : Nat) : Nat → Int
  | 0 => 0
  | k + 1 => hb b i k * 2 + b.getD (i + k) 0
/-- What a list of bits stands for. -/
def hbv (b : List Int) : Int := hb b 0 b.length
theorem hb_congr (a b : List Int) (i j k : Nat) (h : ∀ q, q < k → a.getD (i + q) 0 = b.getD (j + q) 0) : hb a i k = hb b j k := by
  induction k with
  | zero => rfl
  | succ k ih => unfold hb; rw [ih fun q hq => h q (by omega), h k (by omega)]
theorem getD_left (a b : List Int) (q : Nat) (h : q < a.length) : (a ++ b).getD q 0 = a.getD q 0 := by
  rw [List.getD, List.getElem?_append_left h]; rfl
theorem getD_right (a b : List Int) (q : Nat) : (a ++ b).getD (a.length + q) 0 = b.getD q 0 := by
  rw [List.getD, List.getElem?_append_right (by omega), Nat.add_sub_cancel_left]; rfl
theorem hb_split (b : List Int) (i k m : Nat) : hb b i (k + m) = hb b i k * 2 ^ m + hb b (i + k) m := by
  induction m with
  | zero => simp [hb]
  | succ m ih =>
    rw [show k + (m + 1) = (k + m) + 1 by omega]
    show hb b i (k + m) * 2 + b.getD (i + (k + m)) 0 = _ + (hb b (i + k) m * 2 + b.getD (i + k + m) 0)
    rw [ih, Int.pow_succ, Int.add_mul, Int.mul_assoc, Nat.add_assoc i k m]
    omega
theorem hbv_append (a b : List Int) : hbv (a ++ b) = hbv a * 2 ^ b.length + hbv b := by
  unfold hbv
  rw [List.length_append, hb_split, Nat.zero_add, hb_congr (a ++ b) a 0 0 a.length fun q hq => by rw [Nat.zero_add]; exact getD_left a b q hq]
  rw [hb_congr (a ++ b) b a.length 0 b.length fun q hq => by rw [Nat.zero_add]; exact getD_right a b q]
theorem pow2_pos (n : Nat) : (0 : Int) < 2 ^ n := Int.pow_pos (by decide)
/-- Each is 0 or 1. -/
def Bit (b : List Int) : Prop := ∀ i, 0 ≤ b.getD i 0 ∧ b.getD i 0 ≤ 1
theorem hb_bd (b : List Int) (h : Bit b) (i k : Nat) : 0 ≤ hb b i k ∧ hb b i k < 2 ^ k := by
  induction k with
  | zero => simp [hb]
  | succ k ih =>
    have := h (i + k)
    unfold hb
    rw [Int.pow_succ]
    omega
theorem bit_append (a b : List Int) (ha : Bit a) (hb : Bit b) : Bit (a ++ b) := fun i => by
  rcases Nat.lt_or_ge i a.length with c | c
  · rw [getD_left a b i c]; exact ha i
  · rw [show i = a.length + (i - a.length) by omega, getD_right]; exact hb _
theorem bit_nil : Bit [] := fun i => by simp
theorem bit_one (x : Int) (h0 : 0 ≤ x) (h1 : x ≤ 1) : Bit [x] := fun i => by
  cases i with
  | zero => simpa using ⟨h0, h1⟩
  | succ i => simp
theorem bit_noughts (n : Nat) : Bit (List.replicate n 0) := fun i => by
  simp only [List.getD, List.getElem?_replicate]
  split <;> simp
theorem hv_noughts (n : Nat) : hbv (List.replicate n 0) = 0 := by
  have : ∀ k, hb (List.replicate n 0) 0 k = 0 := fun k => by
    induction k with
    | zero => rfl
    | succ k ih =>
      unfold hb
      rw [ih]
      simp only [List.getD, List.getElem?_replicate]
      split <;> simp
  exact this _
/-- The first j bits of n of a number. -/
def bl (e : Int) (n : Nat) : Nat → List Int
  | 0 => []
  | j + 1 => bl e n j ++ [e / 2 ^ (n - 1 - j) % 2]
theorem bl_len (e : Int) (n j : Nat) : (bl e n j).length = j := by
  induction j with
  | zero => rfl
  | succ j ih => simp [bl, ih]
theorem bl_at (e : Int) (n j i : Nat) (h : i < j) : (bl e n j).getD i 0 = e / 2 ^ (n - 1 - i) % 2 := by
  induction j with
  | zero => omega
  | succ j ih =>
    simp only [bl]
    by_cases c : i < j
    · rw [getD_left _ _ _ (by rw [bl_len]; exact c)]; exact ih c
    · obtain rfl : i = j := by omega
      have := getD_right (bl e n i) [e / 2 ^ (n - 1 - i) % 2] 0
      rw [bl_len] at this
      exact this
theorem bl_bit (e : Int) (n j : Nat) : Bit (bl e n j) := by
  induction j with
  | zero => exact bit_nil
  | succ j ih => exact bit_append _ _ ih (bit_one _ (by omega) (by omega))
theorem mod_mul2 (q m : Int) (hm : 0 < m) : q % (m * 2) = (q / 2 % m) * 2 + q % 2 := by
  have e1 := Int.mul_ediv_add_emod (q / 2) m
  have b0 := Int.emod_nonneg (q / 2) (show m ≠ 0 by omega)
  have b1 := Int.emod_lt_of_pos (q / 2) hm
  generalize q / 2 % m = r at *
  generalize q / 2 / m = k at *
  have e : q = (r * 2 + q % 2) + (m * 2) * k := by
    rw [Int.mul_assoc, Int.mul_comm 2 k, ← Int.mul_assoc]; omega
  have : q % (m * 2) = ((r * 2 + q % 2) + (m * 2) * k) % (m * 2) := congrArg (· % (m * 2)) e
  rw [Int.add_mul_emod_self_left] at this
  rw [this]
  exact Int.emod_eq_of_lt (by omega) (by omega)
theorem div_pow_succ (e : Int) (k : Nat) : e / 2 ^ (k + 1) = e / 2 ^ k / 2 := by
  rw [Int.pow_succ, Int.ediv_ediv_of_nonneg (Int.le_of_lt (pow2_pos k))]
/-- A field of a number's bits. -/
theorem hb_bl (e : Int) (n i k : Nat) (h : i + k ≤ n) : hb (bl e n n) i k = e / 2 ^ (n - i - k) % 2 ^ k := by
  induction k with
  | zero => simp [hb, Int.emod_one]
  | succ k ih =>
    unfold hb
    rw [ih (by omega), bl_at e n n (i + k) (by omega), Int.pow_succ, mod_mul2 _ _ (pow2_pos k)]
    rw [show n - 1 - (i + k) = n - i - (k + 1) by omega, show n - i - k = (n - i - (k + 1)) + 1 by omega, div_pow_succ]
theorem hbv_bl (e : Int) (n : Nat) : hbv (bl e n n) = e % 2 ^ n := by
  unfold hbv
  rw [bl_len, hb_bl e n 0 n (by omega), Nat.sub_zero, Nat.sub_self, Int.pow_zero, Int.ediv_one]
/-- Two words side by side. -/
theorem bl_two (a b : Int) (n m : Nat) (h0 : 0 ≤ b) (h1 : b < 2 ^ m) : bl a n n ++ bl b m m = bl (a * 2 ^ m + b) (n + m) (n + m) := by
  apply List.ext_getElem
  · simp [bl_len]
  · intro i h2 h3
    rw [bl_len] at h3
    have g : ∀ (L : List Int) (h : i < L.length), L[i] = L.getD i 0 := fun L h => by rw [List.getD, List.getElem?_eq_getElem h]; rfl
    rw [g, g, bl_at _ _ _ _ h3]
    rcases Nat.lt_or_ge i n with c | c
    · rw [getD_left _ _ _ (by rw [bl_len]; exact c), bl_at _ _ _ _ c, show n + m - 1 - i = m + (n - 1 - i) by omega, Int.pow_add, ← Int.ediv_ediv_of_nonneg (Int.le_of_lt (pow2_pos m))]
      congr 2
      rw [Int.add_comm, Int.add_mul_ediv_right _ _ (Int.ne_of_gt (pow2_pos m)), Int.ediv_eq_zero_of_lt h0 h1]; simp
    · have e : i = (bl a n n).length + (i - n) := by rw [bl_len]; omega
      rw [e, getD_right, bl_at _ _ _ _ (by omega), ← e]
      rw [show m - 1 - (i - n) = n + m - 1 - i by omega]
      obtain ⟨d, hd⟩ : ∃ d, m = (n + m - 1 - i) + 1 + d := ⟨m - (n + m - 1 - i) - 1, by omega⟩
      generalize n + m - 1 - i = q at *
      subst hd
      have hq := pow2_pos q
      have e2 : a * 2 ^ (q + 1 + d) + b = b + 2 ^ q * (2 * (a * 2 ^ d)) := by
        rw [Int.pow_add, Int.pow_succ, Int.add_comm]
        congr 1
        rw [Int.mul_left_comm a, Int.mul_assoc]
      rw [e2, Int.add_mul_ediv_left _ _ (Int.ne_of_gt hq)]
      generalize a * 2 ^ d = z
      omega
/-- The sign's bit. -/
def sgb (b : Bool) : Int := if b then 1 else 0
theorem sgb_bd (b : Bool) : 0 ≤ sgb b ∧ sgb b ≤ 1 := by cases b <;> decide
/-- The five bits of the exponent's two highest and the first digit. -/
def fvL (h f : Int) : List Int := if f < 8 then [h / 2, h % 2, f / 4, f / 2 % 2, f % 2] else [1, 1, h / 2, h % 2, f - 8]
def fv (h f : Int) : Int := if f < 8 then h * 8 + f else 24 + h * 2 + (f - 8)
theorem bit_five (a b c d e : Int) (ha : 0 ≤ a ∧ a ≤ 1) (hb : 0 ≤ b ∧ b ≤ 1) (hc : 0 ≤ c ∧ c ≤ 1) (hd : 0 ≤ d ∧ d ≤ 1) (he : 0 ≤ e ∧ e ≤ 1) : Bit [a, b, c, d, e] := fun i => by
  match i with
  | 0 => exact ha
  | 1 => exact hb
  | 2 => exact hc
  | 3 => exact hd
  | 4 => exact he
  | n + 5 => simp
theorem hv_five (a b c d e : Int) : hbv [a, b, c, d, e] = a * 16 + b * 8 + c * 4 + d * 2 + e := by
  simp [hbv, hb]; omega
theorem fvL_len (h f : Int) : (fvL h f).length = 5 := by unfold fvL; split <;> rfl
theorem fvL_bit (h f : Int) (h0 : 0 ≤ h) (h2 : h ≤ 2) (f0 : 0 ≤ f) (f9 : f ≤ 9) : Bit (fvL h f) := by
  unfold fvL
  split
  · exact bit_five _ _ _ _ _ (by omega) (by omega) (by omega) (by omega) (by omega)
  · exact bit_five _ _ _ _ _ (by omega) (by omega) (by omega) (by omega) (by omega)
theorem fvL_hv (h f : Int) (h0 : 0 ≤ h) (h2 : h ≤ 2) (f0 : 0 ≤ f) (f9 : f ≤ 9) : hbv (fvL h f) = fv h f := by
  unfold fvL fv
  split
  · rw [hv_five]; omega
  · rw [hv_five]; omega
theorem fv_bd (h f : Int) (h0 : 0 ≤ h) (h2 : h ≤ 2) (f0 : 0 ≤ f) (f9 : f ≤ 9) : 0 ≤ fv h f ∧ fv h f < 30 := by
  unfold fv
  split <;> omega
/-- Three digits from the place 1 + 3 g on. -/
def tri (s : List Int) (g : Nat) : Int := s.getD (1 + 3 * g) 0 * 100 + s.getD (1 + 3 * g + 1) 0 * 10 + s.getD (1 + 3 * g + 2) 0
theorem tri_bd (s : List Int) (h : Dec s) (g : Nat) : 0 ≤ tri s g ∧ tri s g ≤ 999 := by
  have a := dec_at s h (1 + 3 * g)
  have b := dec_at s h (1 + 3 * g + 1)
  have c := dec_at s h (1 + 3 * g + 2)
  unfold tri; omega
/-- The bits of g declets, and what they stand for. -/
def grp (s : List Int) : Nat → List Int
  | 0 => []
  | g + 1 => grp s g ++ bl (dcl (tri s g)) 10 10
def dcs (s : List Int) : Nat → Int
  | 0 => 0
  | g + 1 => dcs s g * 1024 + dcl (tri s g)
theorem grp_len (s : List Int) (g : Nat) : (grp s g).length = 10 * g := by
  induction g with
  | zero => rfl
  | succ g ih => simp only [grp, List.length_append, ih, bl_len]; omega
theorem grp_bit (s : List Int) (g : Nat) : Bit (grp s g) := by
  induction g with
  | zero => exact bit_nil
  | succ g ih => exact bit_append _ _ ih (bl_bit _ _ _)
theorem dcl_tri (s : List Int) (h : Dec s) (g : Nat) : 0 ≤ dcl (tri s g) ∧ dcl (tri s g) ≤ 1023 := by
  have t := tri_bd s h g
  have := dcl_back _ t.1 t.2
  omega
theorem grp_hv (s : List Int) (h : Dec s) (g : Nat) : hbv (grp s g) = dcs s g := by
  induction g with
  | zero => rfl
  | succ g ih =>
    have d := dcl_tri s h g
    simp only [grp, dcs]
    rw [hbv_append, ih, hbv_bl, bl_len]
    rw [Int.emod_eq_of_lt d.1 (by omega)]
    rfl
theorem dcs_bd (s : List Int) (h : Dec s) (g : Nat) : 0 ≤ dcs s g ∧ dcs s g < 2 ^ (10 * g) := by
  rw [← grp_hv s h g, ← grp_len s g]
  exact hb_bd _ (grp_bit s g) 0 _
theorem dcs_at (s : List Int) (h : Dec s) (X : Int) (g q : Nat) (hq : q < g) : (X * 2 ^ (10 * g) + dcs s g) / 2 ^ (10 * (g - 1 - q)) % 1024 = dcl (tri s q) := by
  induction g with
  | zero => omega
  | succ g ih =>
    have d := dcl_tri s h g
    have e : X * 2 ^ (10 * (g + 1)) + dcs s (g + 1) = (X * 2 ^ (10 * g) + dcs s g) * 1024 + dcl (tri s g) := by
      rw [show 10 * (g + 1) = 10 * g + 10 by omega, Int.pow_add]
      simp only [dcs]
      rw [Int.add_mul, Int.mul_assoc, Int.add_assoc]
      rfl
    rw [e]
    by_cases c : q < g
    · rw [show 10 * (g + 1 - 1 - q) = 10 + 10 * (g - 1 - q) by omega, Int.pow_add, ← Int.ediv_ediv_of_nonneg (by decide)]
      rw [show ((X * 2 ^ (10 * g) + dcs s g) * 1024 + dcl (tri s g)) / 2 ^ 10 = X * 2 ^ (10 * g) + dcs s g by
        generalize X * 2 ^ (10 * g) + dcs s g = z
        rw [show (2 : Int) ^ 10 = 1024 by decide]; omega]
      exact ih c
    · obtain rfl : q = g := by omega
      rw [show 10 * (q + 1 - 1 - q) = 0 by omega, Int.pow_zero, Int.ediv_one]
      generalize X * 2 ^ (10 * q) + dcs s q = z
      omega
/-- The bits of a finite number: its sign, exponent and bias, all digits. -/
def finL (b : Bool) (e : Int) (s : List Int) (r g : Nat) : List Int := [sgb b] ++ fvL (e / 2 ^ r) (s.getD 0 0) ++ bl e r r ++ grp s g
def finW (b : Bool) (e : Int) (s : List Int) (r g : Nat) : Int := ((sgb b * 32 + fv (e / 2 ^ r) (s.getD 0 0)) * 2 ^ r + e % 2 ^ r) * 2 ^ (10 * g) + dcs s g
theorem finL_len (b : Bool) (e : Int) (s : List Int) (r g : Nat) : (finL b e s r g).length = 6 + r + 10 * g := by
  unfold finL
  simp only [List.length_append, fvL_len, bl_len, grp_len, List.length_singleton]
theorem e_hi (e : Int) (r : Nat) (e0 : 0 ≤ e) (e1 : e < 3 * 2 ^ r) : 0 ≤ e / 2 ^ r ∧ e / 2 ^ r ≤ 2 := by
  have hp := pow2_pos r
  refine ⟨Int.ediv_nonneg e0 (Int.le_of_lt hp), ?_⟩
  have : e / 2 ^ r < 3 := Int.ediv_lt_of_lt_mul hp e1
  omega
theorem finL_bit (b : Bool) (e : Int) (s : List Int) (r g : Nat) (hs : Dec s) (e0 : 0 ≤ e) (e1 : e < 3 * 2 ^ r) : Bit (finL b e s r g) := by
  have h := e_hi e r e0 e1
  have d := dec_at s hs 0
  have g0 := sgb_bd b
  exact bit_append _ _ (bit_append _ _ (bit_append _ _ (bit_one _ g0.1 g0.2) (fvL_bit _ _ h.1 h.2 d.1 d.2)) (bl_bit _ _ _)) (grp_bit _ _)
theorem finL_hv (b : Bool) (e : Int) (s : List Int) (r g : Nat) (hs : Dec s) (e0 : 0 ≤ e) (e1 : e < 3 * 2 ^ r) : hbv (finL b e s r g) = finW b e s r g := by
  have h := e_hi e r e0 e1
  have d := dec_at s hs 0
  unfold finL finW
  rw [hbv_append, hbv_append, hbv_append, grp_hv s hs, hbv_bl, fvL_hv _ _ h.1 h.2 d.1 d.2, grp_len, bl_len, fvL_len]
  simp [hbv, hb]
/-- The bits of one that is not finite. -/
def spcH (k : Int) : List Int := if k = 2 then [1, 1, 1, 1, 0] else if k = 3 then [1, 1, 1, 1, 1, 0] else [1, 1, 1, 1, 1, 1]
def spcZ (k : Int) (m : Nat) : Nat := if k = 2 then m else m - 1
def spcL (k : Int) (b : Bool) (r g : Nat) : List Int := [sgb b] ++ spcH k ++ List.replicate (spcZ k (r + 10 * g)) 0
def spcW (k : Int) (b : Bool) (r g : Nat) : Int := (sgb b * 64 + (if k = 2 then 60 else if k = 3 then 62 else 63)) * 2 ^ (r + 10 * g - 1)
theorem spcL_len (k : Int) (b : Bool) (r g : Nat) (hr : 0 < r) : (spcL k b r g).length = 6 + r + 10 * g := by
  unfold spcL spcH spcZ
  simp only [List.length_append, List.length_replicate, List.length_singleton]
  split
  · simp; omega
  · split <;> simp <;> omega
theorem spcL_bit (k : Int) (b : Bool) (r g : Nat) : Bit (spcL k b r g) := by
  have g0 := sgb_bd b
  refine bit_append _ _ (bit_append _ _ (bit_one _ g0.1 g0.2) ?_) (bit_noughts _)
  unfold spcH
  split
  · exact bit_five _ _ _ _ _ (by omega) (by omega) (by omega) (by omega) (by omega)
  · split
    · exact bit_append [1, 1, 1, 1, 1] [0] (bit_five _ _ _ _ _ (by omega) (by omega) (by omega) (by omega) (by omega)) (bit_one _ (by omega) (by omega))
    · exact bit_append [1, 1, 1, 1, 1] [1] (bit_five _ _ _ _ _ (by omega) (by omega) (by omega) (by omega) (by omega)) (bit_one _ (by omega) (by omega))
theorem spcL_hv (k : Int) (b : Bool) (r g : Nat) (hr : 0 < r) : hbv (spcL k b r g) = spcW k b r g := by
  unfold spcL spcW
  rw [hbv_append, hv_noughts, Int.add_zero, List.length_replicate]
  unfold spcH spcZ
  split
  · rw [show r + 10 * g = (r + 10 * g - 1) + 1 by omega, Int.pow_succ]
    rw [show r + 10 * g - 1 + 1 - 1 = r + 10 * g - 1 by omega]
    generalize (2 : Int) ^ (r + 10 * g - 1) = z
    have : hbv ([sgb b] ++ [1, 1, 1, 1, 0]) = sgb b * 32 + 30 := by simp [hbv, hb]; omega
    rw [this, Int.mul_comm z 2, ← Int.mul_assoc]
    congr 1
    omega
  · split
    · have : hbv ([sgb b] ++ [1, 1, 1, 1, 1, 0]) = sgb b * 64 + 62 := by simp [hbv, hb]; omega
      rw [this]
    · have : hbv ([sgb b] ++ [1, 1, 1, 1, 1, 1]) = sgb b * 64 + 63 := by simp [hbv, hb]; omega
      rw [this]
end Go.Proofs.YtdkpiofeidcffaaGreatDoor
namespace Go.Proofs.YtdkpiofeidcffaaGreatDoor
set_option linter.unusedVariables false
set_option maxRecDepth 100000
/-- The five bits behind the sign. -/
def uC (r g : Nat) (W : Int) : Int := W / 2 ^ (r + 10 * g) % 32
def uH (c : Int) : Int := if c / 8 = 3 then c / 2 % 4 else c / 8
def uF (c : Int) : Int := if c / 8 = 3 then 8 + c % 2 else c % 8
def uE (r g : Nat) (W : Int) : Int := uH (uC r g W) * 2 ^ r + W / 2 ^ (10 * g) % 2 ^ r
def thr (v : Int) : List Int := [v / 100, v / 10 % 10, v % 10]
/-- The digits of the first q declets of g. -/
def uD (g : Nat) (W : Int) : Nat → List Int
  | 0 => []
  | q + 1 => uD g W q ++ thr (und (W / 2 ^ (10 * (g - 1 - q)) % 1024))
def uS (r g : Nat) (W : Int) : List Int := uF (uC r g W) :: uD g W g
/-- Kind, sign, exponent and digits of what the bits stand for. -/
def uK (r g : Nat) (W : Int) : Int := if uC r g W = 30 then 2 else if uC r g W = 31 then (if W / 2 ^ (r + 10 * g - 1) % 2 = 1 then 4 else 3) else 1
def uB (r g : Nat) (W : Int) : Bool := if uC r g W = 31 then false else decide (W / 2 ^ (r + 10 * g + 5) % 2 = 1)
def uX (r g : Nat) (bias : Int) (W : Int) : Int := if uC r g W = 30 ∨ uC r g W = 31 then 0 else uE r g W - bias
def uL (r g : Nat) (W : Int) : List Int := if uC r g W = 30 ∨ uC r g W = 31 then [] else strip (uS r g W)
/-- What is right in a format, its digits a list. -/
def Rt (r g : Nat) (bias : Int) (k : Int) (b : Bool) (e : Int) (ds : List Int) : Prop :=
  (k = 1 ∧ Canon ds ∧ ds.length ≤ 3 * g + 1 ∧ 0 ≤ e + bias ∧ e + bias < 3 * 2 ^ r) ∨ (k = 2 ∧ e = 0 ∧ ds = []) ∨ ((k = 3 ∨ k = 4) ∧ e = 0 ∧ ds = [] ∧ b = false)
def npad (m : Nat) (ds : List Int) : List Int := List.replicate (m - ds.length) 0 ++ ds
/-- The bits of what is right. -/
def pkW (r g : Nat) (bias : Int) (k : Int) (b : Bool) (e : Int) (ds : List Int) : Int := if k = 1 then finW b (e + bias) (npad (3 * g + 1) ds) r g else spcW k b r g
theorem npad_len (m : Nat) (ds : List Int) (h : ds.length ≤ m) : (npad m ds).length = m := by
  unfold npad; rw [List.length_append, List.length_replicate]; omega
theorem npad_dec (m : Nat) (ds : List Int) (h : Dec ds) : Dec (npad m ds) := fun d hd => by
  rcases List.mem_append.1 hd with c | c
  · have := (List.mem_replicate.1 c).2; omega
  · exact h d c
theorem strip_self (ds : List Int) (h : Canon ds) : strip ds = ds := by
  obtain ⟨-, hp, hh⟩ := h
  match ds, hp, hh with
  | [d], _, _ => rfl
  | d :: e :: r, _, hh =>
    have : d ≠ 0 := by rcases hh with c | c; simp at c; exact c
    simp only [strip]
    rw [if_neg this]
theorem strip_noughts (n : Nat) (ds : List Int) (h : ds ≠ []) : strip (List.replicate n 0 ++ ds) = strip ds := by
  induction n with
  | zero => rfl
  | succ n ih =>
    rw [List.replicate_succ, List.cons_append]
    cases hq : List.replicate n (0 : Int) ++ ds with
    | nil => exact absurd (List.append_eq_nil_iff.1 hq).2 h
    | cons x y =>
      have : strip (0 :: x :: y) = strip (x :: y) := by simp [strip]
      rw [this, ← hq, ih]
theorem strip_pad (m : Nat) (ds : List Int) (h : Canon ds) : strip (npad m ds) = ds := by
  unfold npad
  rw [strip_noughts _ _ (fun e => by have := h.2.1; rw [e] at this; simp at this), strip_self ds h]
theorem uC_bd (r g : Nat) (W : Int) : 0 ≤ uC r g W ∧ uC r g W ≤ 31 := by unfold uC; omega
theorem thr_dec (v : Int) (h0 : 0 ≤ v) (h1 : v ≤ 999) : Dec (thr v) := fun d hd => by
  unfold thr at hd
  simp at hd
  omega
theorem dec_append (a b : List Int) (ha : Dec a) (hb : Dec b) : Dec (a ++ b) := fun d hd => by
  rcases List.mem_append.1 hd with c | c
  · exact ha d c
  · exact hb d c
theorem uD_dec (g : Nat) (W : Int) (q : Nat) : Dec (uD g W q) := by
  induction q with
  | zero => intro d hd; cases hd
  | succ q ih =>
    have u : 0 ≤ und (W / 2 ^ (10 * (g - 1 - q)) % 1024) ∧ und (W / 2 ^ (10 * (g - 1 - q)) % 1024) ≤ 999 := by
      generalize hx : W / 2 ^ (10 * (g - 1 - q)) % 1024 = x
      have := und_back x (by omega) (by omega)
      unfold und
      rw [if_pos (by omega)]
      exact this.2
    exact dec_append _ _ ih (thr_dec _ u.1 u.2)
theorem uD_len (g : Nat) (W : Int) (q : Nat) : (uD g W q).length = 3 * q := by
  induction q with
  | zero => rfl
  | succ q ih => simp only [uD, List.length_append, ih]; simp [thr]; omega
theorem uF_bd (c : Int) (h0 : 0 ≤ c) (h1 : c ≤ 31) : 0 ≤ uF c ∧ uF c ≤ 9 := by unfold uF; split <;> omega
theorem uS_dec (r g : Nat) (W : Int) : Dec (uS r g W) := fun d hd => by
  rcases List.mem_cons.1 hd with c | c
  · have := uC_bd r g W
    rw [c]; exact uF_bd _ this.1 this.2
  · exact uD_dec g W g d c
theorem uS_len (r g : Nat) (W : Int) : (uS r g W).length = 3 * g + 1 := by unfold uS; rw [List.length_cons, uD_len]
theorem uE_bd (r g : Nat) (W : Int) (h : uC r g W < 30) : 0 ≤ uE r g W ∧ uE r g W < 3 * 2 ^ r := by
  have c := uC_bd r g W
  have hp := pow2_pos r
  have m0 := Int.emod_nonneg (W / 2 ^ (10 * g)) (Int.ne_of_gt hp)
  have m1 := Int.emod_lt_of_pos (W / 2 ^ (10 * g)) hp
  unfold uE
  have : uH (uC r g W) = 0 ∨ uH (uC r g W) = 1 ∨ uH (uC r g W) = 2 := by unfold uH; split <;> omega
  rcases this with e | e | e <;> rw [e] <;> omega
theorem u_inf (r g : Nat) (bias W : Int) (h : uC r g W = 30) : uK r g W = 2 ∧ uB r g W = decide (W / 2 ^ (r + 10 * g + 5) % 2 = 1) ∧ uX r g bias W = 0 ∧ uL r g W = [] := by
  refine ⟨?_, ?_, ?_, ?_⟩
  · unfold uK; rw [if_pos h]
  · unfold uB; rw [if_neg (by omega)]
  · unfold uX; rw [if_pos (.inl h)]
  · unfold uL; rw [if_pos (.inl h)]
theorem u_nan (r g : Nat) (bias W : Int) (h : uC r g W = 31) : uK r g W = (if W / 2 ^ (r + 10 * g - 1) % 2 = 1 then 4 else 3) ∧ uB r g W = false ∧ uX r g bias W = 0 ∧ uL r g W = [] := by
  refine ⟨?_, ?_, ?_, ?_⟩
  · unfold uK; rw [if_neg (by omega), if_pos h]
  · unfold uB; rw [if_pos h]
  · unfold uX; rw [if_pos (.inr h)]
  · unfold uL; rw [if_pos (.inr h)]
theorem u_fin (r g : Nat) (bias W : Int) (h : uC r g W < 30) : uK r g W = 1 ∧ uB r g W = decide (W / 2 ^ (r + 10 * g + 5) % 2 = 1) ∧ uX r g bias W = uE r g W - bias ∧ uL r g W = strip (uS r g W) := by
  refine ⟨?_, ?_, ?_, ?_⟩
  · unfold uK; rw [if_neg (by omega), if_neg (by omega)]
  · unfold uB; rw [if_neg (by omega)]
  · unfold uX; rw [if_neg (by omega)]
  · unfold uL; rw [if_neg (by omega)]
/-- Whatever the bits, what they stand for is right. -/
theorem up_right (r g : Nat) (bias : Int) (W : Int) : Rt r g bias (uK r g W) (uB r g W) (uX r g bias W) (uL r g W) := by
  have c := uC_bd r g W
  by_cases h30 : uC r g W = 30
  · obtain ⟨e1, e2, e3, e4⟩ := u_inf r g bias W h30
    rw [e1, e3, e4]
    exact .inr (.inl ⟨rfl, rfl, rfl⟩)
  · by_cases h31 : uC r g W = 31
    · obtain ⟨e1, e2, e3, e4⟩ := u_nan r g bias W h31
      rw [e1, e2, e3, e4]
      refine .inr (.inr ⟨?_, rfl, rfl, rfl⟩)
      by_cases h : W / 2 ^ (r + 10 * g - 1) % 2 = 1
      · rw [if_pos h]; exact .inr rfl
      · rw [if_neg h]; exact .inl rfl
    · obtain ⟨e1, e2, e3, e4⟩ := u_fin r g bias W (by omega)
      rw [e1, e3, e4]
      have e := uE_bd r g W (by omega)
      refine .inl ⟨rfl, strip_canon _ (uS_dec r g W) (by rw [uS_len]; omega), ?_, by omega, by omega⟩
      have := strip_len (uS r g W)
      rw [uS_len] at this
      exact this
theorem split_at (a b m : Int) (h0 : 0 ≤ b) (h1 : b < m) : (a * m + b) / m = a ∧ (a * m + b) % m = b := by
  have hm : m ≠ 0 := by omega
  rw [Int.add_comm]
  refine ⟨?_, ?_⟩
  · rw [Int.add_mul_ediv_right _ _ hm, Int.ediv_eq_zero_of_lt h0 h1, Int.zero_add]
  · rw [Int.add_mul_emod_self_right, Int.emod_eq_of_lt h0 h1]
theorem fv_back (h f : Int) (h0 : 0 ≤ h) (h2 : h ≤ 2) (f0 : 0 ≤ f) (f9 : f ≤ 9) : uH (fv h f) = h ∧ uF (fv h f) = f := by
  unfold uH uF fv
  by_cases c : f < 8
  · rw [if_pos c, if_neg (by omega), if_neg (by omega)]; omega
  · rw [if_neg c, if_pos (by omega), if_pos (by omega)]; omega
theorem tri_thr (s : List Int) (h : Dec s) (q : Nat) : thr (tri s q) = [s.getD (1 + 3 * q) 0, s.getD (1 + 3 * q + 1) 0, s.getD (1 + 3 * q + 2) 0] := by
  have a := dec_at s h (1 + 3 * q)
  have b := dec_at s h (1 + 3 * q + 1)
  have c := dec_at s h (1 + 3 * q + 2)
  unfold thr tri
  generalize s.getD (1 + 3 * q) 0 = x at *
  generalize s.getD (1 + 3 * q + 1) 0 = y at *
  generalize s.getD (1 + 3 * q + 2) 0 = z at *
  rw [show (x * 100 + y * 10 + z) / 100 = x by omega, show (x * 100 + y * 10 + z) / 10 % 10 = y by omega, show (x * 100 + y * 10 + z) % 10 = z by omega]
theorem take_three (s : List Int) (n : Nat) (h : n + 3 ≤ s.length) : s.take (n + 3) = s.take n ++ [s.getD n 0, s.getD (n + 1) 0, s.getD (n + 2) 0] := by
  have g : ∀ q, q < s.length → s.take (q + 1) = s.take q ++ [s.getD q 0] := fun q hq => by
    rw [List.take_succ_eq_append_getElem hq, List.getD, List.getElem?_eq_getElem hq]; rfl
  rw [g (n + 2) (by omega), g (n + 1) (by omega), g n (by omega)]
  simp
theorem uD_fin (X : Int) (s : List Int) (g : Nat) (h : Dec s) (hl : s.length = 3 * g + 1) (q : Nat) (hq : q ≤ g) : s.getD 0 0 :: uD g (X * 2 ^ (10 * g) + dcs s g) q = s.take (3 * q + 1) := by
  induction q with
  | zero =>
    cases s with
    | nil => simp at hl
    | cons d r => simp [uD]
  | succ q ih =>
    have t := tri_bd s h q
    simp only [uD]
    rw [dcs_at s h X g q (by omega), und_dcl _ t.1 t.2, ← List.cons_append, ih (by omega), tri_thr s h q, show 3 * (q + 1) + 1 = (3 * q + 1) + 3 by omega, take_three s (3 * q + 1) (by omega), Nat.add_comm 1 (3 * q)]
theorem fin_fields (b : Bool) (e : Int) (s : List Int) (r g : Nat) (h : Dec s) (hl : s.length = 3 * g + 1) (e0 : 0 ≤ e) (e1 : e < 3 * 2 ^ r) :
    uC r g (finW b e s r g) = fv (e / 2 ^ r) (s.getD 0 0) ∧ finW b e s r g / 2 ^ (r + 10 * g + 5) % 2 = sgb b ∧ finW b e s r g / 2 ^ (10 * g) % 2 ^ r = e % 2 ^ r ∧ uS r g (finW b e s r g) = s := by
  have hr := pow2_pos r
  have hg := pow2_pos (10 * g)
  have d := dcs_bd s h g
  have hh := e_hi e r e0 e1
  have f := dec_at s h 0
  have v := fv_bd _ _ hh.1 hh.2 f.1 f.2
  have sb := sgb_bd b
  have m0 := Int.emod_nonneg e (Int.ne_of_gt hr)
  have m1 := Int.emod_lt_of_pos e hr
  have q1 : finW b e s r g / 2 ^ (10 * g) = (sgb b * 32 + fv (e / 2 ^ r) (s.getD 0 0)) * 2 ^ r + e % 2 ^ r := (split_at _ _ _ d.1 d.2).1
  have q2 : finW b e s r g / 2 ^ (r + 10 * g) = sgb b * 32 + fv (e / 2 ^ r) (s.getD 0 0) := by
    rw [Nat.add_comm, Int.pow_add, ← Int.ediv_ediv_of_nonneg (Int.le_of_lt hg), q1]
    exact (split_at _ _ _ m0 m1).1
  have c : uC r g (finW b e s r g) = fv (e / 2 ^ r) (s.getD 0 0) := by unfold uC; rw [q2]; omega
  refine ⟨c, ?_, ?_, ?_⟩
  · rw [Int.pow_add, ← Int.ediv_ediv_of_nonneg (Int.le_of_lt (pow2_pos _)), q2]
    rw [show (2 : Int) ^ 5 = 32 by decide]
    omega
  · rw [q1]; exact (split_at _ _ _ m0 m1).2
  · unfold uS
    rw [c, (fv_back _ _ hh.1 hh.2 f.1 f.2).2]
    have := uD_fin ((sgb b * 32 + fv (e / 2 ^ r) (s.getD 0 0)) * 2 ^ r + e % 2 ^ r) s g h hl g (Nat.le_refl _)
    unfold finW
    rw [this, ← hl, List.take_length]
theorem sgb_dec (b : Bool) : decide (sgb b = 1) = b := by cases b <;> decide
theorem spc_fields (k : Int) (b : Bool) (r g : Nat) (hr : 0 < r) (c : Int) (hc : (if k = 2 then (60 : Int) else if k = 3 then 62 else 63) = c) (c0 : 60 ≤ c) (c1 : c ≤ 63) :
    uC r g (spcW k b r g) = c / 2 ∧ spcW k b r g / 2 ^ (r + 10 * g + 5) % 2 = sgb b ∧ spcW k b r g / 2 ^ (r + 10 * g - 1) % 2 = c % 2 := by
  have sb := sgb_bd b
  obtain ⟨m, hm⟩ : ∃ m, r + 10 * g = m + 1 := ⟨r + 10 * g - 1, by omega⟩
  have hp := pow2_pos m
  unfold uC spcW
  rw [hc, hm, Nat.add_sub_cancel]
  have q0 : (sgb b * 64 + c) * 2 ^ m / 2 ^ m = sgb b * 64 + c := Int.mul_ediv_cancel _ (Int.ne_of_gt hp)
  refine ⟨?_, ?_, ?_⟩
  · rw [div_pow_succ, q0]; omega
  · rw [show m + 1 + 5 = m + 6 by omega, Int.pow_add, ← Int.ediv_ediv_of_nonneg (Int.le_of_lt hp), q0]
    rw [show (2 : Int) ^ 6 = 64 by decide]
    omega
  · rw [q0]; omega
/-- What is packed is read back. -/
theorem pk_back (r g : Nat) (bias : Int) (k : Int) (b : Bool) (e : Int) (ds : List Int) (hr : 0 < r) (h : Rt r g bias k b e ds) :
    uK r g (pkW r g bias k b e ds) = k ∧ uB r g (pkW r g bias k b e ds) = b ∧ uX r g bias (pkW r g bias k b e ds) = e ∧ uL r g (pkW r g bias k b e ds) = ds := by
  rcases h with ⟨rfl, hc, hl, e0, e1⟩ | ⟨rfl, rfl, rfl⟩ | ⟨hk, rfl, rfl, rfl⟩
  · have P := fin_fields b (e + bias) (npad (3 * g + 1) ds) r g (npad_dec _ _ hc.1) (npad_len _ _ hl) e0 e1
    have hh := e_hi (e + bias) r e0 e1
    have f := dec_at _ (npad_dec (3 * g + 1) ds hc.1) 0
    have v := fv_bd _ _ hh.1 hh.2 f.1 f.2
    have B := fv_back _ _ hh.1 hh.2 f.1 f.2
    obtain ⟨P1, P2, P3, P4⟩ := P
    have hw : pkW r g bias 1 b e ds = finW b (e + bias) (npad (3 * g + 1) ds) r g := by unfold pkW; rw [if_pos rfl]
    rw [hw]
    obtain ⟨e1, e2, e3, e4⟩ := u_fin r g bias _ (by rw [P1]; exact v.2)
    refine ⟨e1, ?_, ?_, ?_⟩
    · rw [e2, P2]; exact sgb_dec b
    · rw [e3]
      unfold uE
      rw [P1, P3, B.1]
      have := Int.mul_ediv_add_emod (e + bias) (2 ^ r)
      rw [Int.mul_comm] at this
      omega
    · rw [e4, P4]; exact strip_pad _ _ hc
  · have hw : pkW r g bias 2 b 0 [] = spcW 2 b r g := by unfold pkW; rw [if_neg (by decide)]
    obtain ⟨P1, P2, P3⟩ := spc_fields 2 b r g hr 60 (by decide) (by decide) (by decide)
    rw [hw]
    obtain ⟨e1, e2, e3, e4⟩ := u_inf r g bias (spcW 2 b r g) (by rw [P1]; decide)
    exact ⟨e1, by rw [e2, P2]; exact sgb_dec b, e3, e4⟩
  · rcases hk with rfl | rfl
    · have hw : pkW r g bias 3 false 0 [] = spcW 3 false r g := by unfold pkW; rw [if_neg (by decide)]
      obtain ⟨P1, P2, P3⟩ := spc_fields 3 false r g hr 62 (by decide) (by decide) (by decide)
      rw [hw]
      obtain ⟨e1, e2, e3, e4⟩ := u_nan r g bias (spcW 3 false r g) (by rw [P1]; decide)
      exact ⟨by rw [e1, P3]; decide, e2, e3, e4⟩
    · have hw : pkW r g bias 4 false 0 [] = spcW 4 false r g := by unfold pkW; rw [if_neg (by decide)]
      obtain ⟨P1, P2, P3⟩ := spc_fields 4 false r g hr 63 (by decide) (by decide) (by decide)
      rw [hw]
      obtain ⟨e1, e2, e3, e4⟩ := u_nan r g bias (spcW 4 false r g) (by rw [P1]; decide)
      exact ⟨by rw [e1, P3]; decide, e2, e3, e4⟩
/-- The bits of what is right, as a list. -/
def pkL (r g : Nat) (bias : Int) (k : Int) (b : Bool) (e : Int) (ds : List Int) : List Int := if k = 1 then finL b (e + bias) (npad (3 * g + 1) ds) r g else spcL k b r g
theorem pkL_facts (r g : Nat) (bias : Int) (k : Int) (b : Bool) (e : Int) (ds : List Int) (hr : 0 < r) (h : Rt r g bias k b e ds) :
    (pkL r g bias k b e ds).length = 6 + r + 10 * g ∧ Bit (pkL r g bias k b e ds) ∧ hbv (pkL r g bias k b e ds) = pkW r g bias k b e ds := by
  unfold pkL pkW
  by_cases h1 : k = 1
  · rw [if_pos h1, if_pos h1]
    rcases h with ⟨-, hc, hl, e0, e1⟩ | ⟨c, -⟩ | ⟨c, -⟩
    · exact ⟨finL_len _ _ _ _ _, finL_bit _ _ _ _ _ (npad_dec _ _ hc.1) e0 e1, finL_hv _ _ _ _ _ (npad_dec _ _ hc.1) e0 e1⟩
    · omega
    · omega
  · rw [if_neg h1, if_neg h1]
    exact ⟨spcL_len _ _ _ _ hr, spcL_bit _ _ _ _, spcL_hv _ _ _ _ hr⟩
theorem pkW_bd (r g : Nat) (bias : Int) (k : Int) (b : Bool) (e : Int) (ds : List Int) (hr : 0 < r) (h : Rt r g bias k b e ds) : 0 ≤ pkW r g bias k b e ds ∧ pkW r g bias k b e ds < 2 ^ (6 + r + 10 * g) := by
  obtain ⟨h1, h2, h3⟩ := pkL_facts r g bias k b e ds hr h
  rw [← h3, ← h1]
  exact hb_bd _ h2 0 _
end Go.Proofs.YtdkpiofeidcffaaGreatDoor
