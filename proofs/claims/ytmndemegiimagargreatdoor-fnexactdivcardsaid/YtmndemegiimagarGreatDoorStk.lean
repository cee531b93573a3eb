/-
  Plain facts on rounding: what stands far behind the digits matters only by being there.
-/
import Derived.Test.YtmndemegiimagarGreatDoorBx5
import Derived.Test.YtmndemegiimagarGreatDoorNtL
namespace Go.Proofs.YtmndemegiimagarGreatDoor
open Go.RowKit
set_option linter.unusedVariables false
set_option maxRecDepth 100000
/-- How many digits, by the number. -/
theorem len_of (R : List Int) (h : Canon R) (m : Nat) (hm : 1 ≤ m) (h0 : 10 ^ (m - 1) ≤ vl R) (h1 : vl R < 10 ^ m) : R.length = m := by
  have a := canon_le R h m hm h1
  rcases Nat.lt_or_ge R.length m with c | c
  · have b := (vl_bd R h.1).2
    have d := pow_mono R.length (m - 1) (by omega)
    omega
  · omega
theorem canon_lo (R : List Int) (h : Canon R) (hz : R ≠ [0]) : 10 ^ (R.length - 1) ≤ vl R := by
  rcases Nat.lt_or_ge 1 R.length with c | c
  · exact canon_low R h c
  · have : R.length = 1 := by have := h.2.1; omega
    rw [this]
    have b := (vl_bd R h.1).1
    have : vl R ≠ 0 := fun e => hz (canon_nought R h e)
    show (10 : Int) ^ 0 ≤ vl R
    rw [Int.pow_zero]
    omega
/-- Digits, and more behind them. -/
theorem len_more (R R' : List Int) (h : Canon R) (hz : R ≠ [0]) (h' : Canon R') (k : Nat) (r : Int) (hv : vl R' = vl R * 10 ^ k + r) (r0 : 0 ≤ r) (r1 : r < 10 ^ k) : R'.length = R.length + k := by
  have hl := h.2.1
  have a := canon_lo R h hz
  have b := (vl_bd R h.1).2
  have p := ten_pos k
  refine len_of R' h' _ (by omega) ?_ ?_
  · rw [show R.length + k - 1 = R.length - 1 + k by omega, Int.pow_add, hv]
    have := Int.mul_le_mul_of_nonneg_right a (Int.le_of_lt p)
    omega
  · rw [Int.pow_add, hv]
    have : (vl R + 1) * 10 ^ k ≤ 10 ^ R.length * 10 ^ k := Int.mul_le_mul_of_nonneg_right (by omega) (Int.le_of_lt p)
    rw [Int.add_mul] at this
    omega
theorem div_more (v r : Int) (k d : Nat) (r0 : 0 ≤ r) (r1 : r < 10 ^ k) : (v * 10 ^ k + r) / 10 ^ (d + k) = v / 10 ^ d ∧ (v * 10 ^ k + r) % 10 ^ (d + k) = v % 10 ^ d * 10 ^ k + r := by
  have pk := ten_pos k
  have pd := ten_pos d
  have e : (v * 10 ^ k + r) / 10 ^ (d + k) = v / 10 ^ d := by
    rw [Nat.add_comm d k, Int.pow_add, ← Int.ediv_ediv_of_nonneg (Int.le_of_lt pk)]
    congr 1
    rw [Int.add_comm, Int.add_mul_ediv_right _ _ (Int.ne_of_gt pk), Int.ediv_eq_zero_of_lt r0 r1, Int.zero_add]
  refine ⟨e, ?_⟩
  have a := Int.mul_ediv_add_emod (v * 10 ^ k + r) (10 ^ (d + k))
  have b := Int.mul_ediv_add_emod v (10 ^ d)
  rw [e, Int.pow_add] at a
  rw [Int.pow_add]
  have c : v * 10 ^ k = 10 ^ d * (v / 10 ^ d) * 10 ^ k + v % 10 ^ d * 10 ^ k := by rw [← Int.add_mul, b]
  have g : (10 : Int) ^ d * 10 ^ k * (v / 10 ^ d) = 10 ^ d * (v / 10 ^ d) * 10 ^ k := by rw [Int.mul_assoc, Int.mul_comm (10 ^ k) (v / 10 ^ d), ← Int.mul_assoc]
  rw [g] at a
  omega
theorem ten_even (d : Nat) (h : 1 ≤ d) : ∃ m : Int, (10 : Int) ^ d = 10 * m := ⟨10 ^ (d - 1), by rw [← Int.pow_succ', show d - 1 + 1 = d by omega]⟩
/-- What is cut off is seen alike whether its end is there or only said to be there. -/
theorem half_more (ρ r : Int) (k d : Nat) (hd : 1 ≤ d) (rest' : Bool) (r0 : 0 ≤ r) (r1 : r < 10 ^ k) (hs : r ≠ 0 ∨ rest' = true) : halfI (ρ * 10 ^ k + r) (10 ^ (d + k)) rest' (d + k) = halfI ρ (10 ^ d) true d := by
  obtain ⟨m, hm⟩ := ten_even d hd
  have pk := ten_pos k
  unfold halfI
  rw [if_neg (show ¬ d + k = 0 by omega), if_neg (show ¬ d = 0 by omega), Int.pow_add, hm]
  generalize (10 : Int) ^ k = T at *
  by_cases h : 2 * ρ < 10 * m
  · rw [if_pos h, if_pos ?_]
    have h2 : 2 * ρ + 2 ≤ 10 * m := by omega
    have := Int.mul_le_mul_of_nonneg_right h2 (Int.le_of_lt pk)
    rw [Int.add_mul, Int.mul_assoc 2 ρ T] at this
    omega
  · have h2 : 10 * m ≤ 2 * ρ := by omega
    have := Int.mul_le_mul_of_nonneg_right h2 (Int.le_of_lt pk)
    rw [Int.mul_assoc 2 ρ T] at this
    rw [if_neg h, if_neg (by omega : ¬ 2 * (ρ * T + r) < 10 * m * T), if_neg (fun q => Bool.noConfusion q.2 : ¬ (2 * ρ = 10 * m ∧ true = false))]
    refine if_neg ?_
    rintro ⟨q1, q2⟩
    rcases hs with c | c
    · omega
    · rw [c] at q2; cases q2
/-- A number far below all digits. -/
theorem rnd_far (mode : Int) (neg : Bool) (v : Int) (d : Nat) (n : Nat) (h0 : 0 ≤ v) (h1 : v < 10 ^ n) (hn : n + 1 ≤ d) : rndV mode neg v d true = rndV mode neg 1 200 true := by
  have pn := ten_pos n
  have key : ∀ (v : Int) (d n : Nat), 0 ≤ v → v < 10 ^ n → n + 1 ≤ d → v / 10 ^ d = 0 ∧ halfI (v % 10 ^ d) (10 ^ d) true d = -1 := fun v d n h0 h1 hn => by
    have a := pow_mono (n + 1) d hn
    have b : (10 : Int) ^ (n + 1) = 10 ^ n * 10 := Int.pow_succ 10 n
    have pn := ten_pos n
    have hlt : v < 10 ^ d := by omega
    refine ⟨Int.ediv_eq_zero_of_lt h0 hlt, ?_⟩
    rw [Int.emod_eq_of_lt h0 hlt]
    unfold halfI
    rw [if_neg (by omega), if_pos (by omega)]
  obtain ⟨a, b⟩ := key v d n h0 h1 hn
  obtain ⟨a', b'⟩ := key 1 200 1 (by decide) (by decide) (by decide)
  unfold rndV rndU upB rndL
  rw [a, b, a', b']
  simp
/-- THE DIGITS ALONE, OR MORE OF THEM. -/
theorem finN_more (p : Nat) (hp : 1 ≤ p) (low high mode : Int) (neg : Bool) (ds ds' : List Int) (e : Int) (rest' : Bool) (want : Int) (k : Nat) (r : Int) (hc : Canon ds) (hz : ds ≠ [0]) (hc' : Canon ds') (hv : vl ds' = vl ds * 10 ^ k + r) (r0 : 0 ≤ r) (r1 : r < 10 ^ k) (hs : r ≠ 0 ∨ rest' = true)
    (hn : p + 1 ≤ ds.length) (hk : ds.length + k ≤ 198) : finN p low high mode neg ds e true want = finN p low high mode neg ds' (e - k) rest' want := by
  have hl := len_more ds ds' hc hz hc' k r hv r0 r1
  have hj : finJ p ds.length true = 0 := by unfold finJ; rw [if_pos rfl]; omega
  have hj' : finJ p ds'.length rest' = 0 := by unfold finJ; cases rest' <;> simp; omega
  obtain ⟨d, hd⟩ : ∃ d, finDr p ds.length low e = d := ⟨_, rfl⟩
  have hd1 : 1 ≤ d := by rw [← hd]; unfold finDr; omega
  have hd' : finDr p ds'.length low (e - k) = d + k := by rw [← hd, hl]; unfold finDr; omega
  obtain ⟨q1, q2⟩ := div_more (vl ds) r k d r0 r1
  have hL : finLs (vl ds) d true = true := by unfold finLs rndL; split <;> rfl
  have hL' : finLs (vl ds') (d + k) rest' = true := by
    unfold finLs rndL
    split
    · rfl
    · rcases hs with c | c
      · rw [hv, q2]
        have hm := Int.emod_nonneg (vl ds) (Int.ne_of_gt (ten_pos d))
        have := Int.mul_nonneg hm (Int.le_of_lt (ten_pos k))
        rw [decide_eq_true (show vl ds % 10 ^ d * 10 ^ k + r ≠ 0 by omega), Bool.or_true]
      · rw [c, Bool.true_or]
  have hU : rndV mode neg (vl ds') (d + k) rest' = rndV mode neg (vl ds) d true := by
    have e1 : rndL (vl ds') (d + k) rest' = rndL (vl ds) d true := by
      unfold rndL
      rw [Bool.true_or]
      rcases hs with c | c
      · rw [hv, q2]
        have hm := Int.emod_nonneg (vl ds) (Int.ne_of_gt (ten_pos d))
        have := Int.mul_nonneg hm (Int.le_of_lt (ten_pos k))
        rw [decide_eq_true (show vl ds % 10 ^ d * 10 ^ k + r ≠ 0 by omega), Bool.or_true]
      · rw [c, Bool.true_or]
    unfold rndV rndU
    rw [e1, hv, q1, q2, half_more (vl ds % 10 ^ d) r k d hd1 rest' r0 r1 hs]
  have hV : finV mode neg (vl ds') (d + k) rest' = finV mode neg (vl ds) d true := by
    unfold finV
    by_cases c : 200 < d
    · rw [if_pos c, if_pos (by omega)]
    · rw [if_neg c]
      by_cases c2 : 200 < d + k
      · rw [if_pos c2]
        have b := vl_bd ds hc.1
        exact (rnd_far mode neg (vl ds) d ds.length b.1 b.2 (by omega)).symm
      · rw [if_neg c2]; exact hU
  unfold finN
  simp only [hj, hj', Nat.add_zero, Int.pow_zero, Int.mul_one]
  rw [show e - ((0 : Nat) : Int) = e by simp, show e - (k : Int) - ((0 : Nat) : Int) = e - k by simp, hd, hd', hL, hL', hV, hl]
  have x1 : e - (k : Int) + ((d + k : Nat) : Int) = e + (d : Int) := by omega
  have x2 : ((ds.length + k : Nat) : Int) + (e - (k : Int)) = (ds.length : Int) + e := by omega
  rw [x1, x2]
/-- A nine at the end says that something is there. -/
theorem finN_nine (p : Nat) (hp : 1 ≤ p) (low high mode : Int) (neg : Bool) (ds : List Int) (e want : Int) (hc : Canon ds) (h9 : vl ds % 10 = 9) (hn : p + 1 ≤ ds.length) : finN p low high mode neg ds e true want = finN p low high mode neg ds e false want := by
  have hj : finJ p ds.length true = 0 := by unfold finJ; rw [if_pos rfl]; omega
  have hj' : finJ p ds.length false = 0 := by unfold finJ; simp
  obtain ⟨d, hd⟩ : ∃ d, finDr p ds.length low e = d := ⟨_, rfl⟩
  have hd1 : 1 ≤ d := by rw [← hd]; unfold finDr; omega
  obtain ⟨m, hm⟩ := ten_even d hd1
  have b := (vl_bd ds hc.1).1
  have hρ : vl ds % 10 ^ d % 10 = 9 := by
    rw [hm, Int.emod_emod_of_dvd _ (Int.dvd_mul_right 10 m)]; exact h9
  have hne : vl ds % 10 ^ d ≠ 0 := fun c => by rw [c] at hρ; cases hρ
  have hL : rndL (vl ds) d true = rndL (vl ds) d false := by unfold rndL; rw [decide_eq_true hne]; rfl
  have hH : halfI (vl ds % 10 ^ d) (10 ^ d) true d = halfI (vl ds % 10 ^ d) (10 ^ d) false d := by
    unfold halfI
    have n1 : ¬ (2 * (vl ds % 10 ^ d) = 10 ^ d ∧ true = false) := fun q => Bool.noConfusion q.2
    have n2 : ¬ (2 * (vl ds % 10 ^ d) = 10 ^ d ∧ false = false) := fun q => by have := q.1; omega
    rw [if_neg n1, if_neg n2]
  have hV : finV mode neg (vl ds) d true = finV mode neg (vl ds) d false := by
    unfold finV rndV rndU
    rw [hL, hH]
  have hLs : finLs (vl ds) d true = finLs (vl ds) d false := by unfold finLs; rw [hL]
  unfold finN
  simp only [hj, hj', Nat.add_zero, Int.pow_zero, Int.mul_one]
  rw [show e - ((0 : Nat) : Int) = e by simp, hd, hV, hLs]
end Go.Proofs.YtmndemegiimagarGreatDoor
