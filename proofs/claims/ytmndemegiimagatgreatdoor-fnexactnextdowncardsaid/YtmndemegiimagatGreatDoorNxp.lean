/-
  Plain facts on neighbours: a hair more, rounded upward.
-/
import Derived.Test.YtmndemegiimagatGreatDoorSpf
import Derived.Test.YtmndemegiimagatGreatDoorSpt
namespace Go.Proofs.YtmndemegiimagatGreatDoor
set_option linter.unusedVariables false
set_option maxRecDepth 100000
/-- Upward: what is left, and one more above nought, where something goes. -/
theorem rnd_up (neg : Bool) (v : Int) (k : Nat) (h : v % 10 ^ k ≠ 0) : rndV 4 neg v k false = v / 10 ^ k + (if neg then 0 else 1) := by
  have e : rndU 4 neg v k false = !neg := by
    unfold rndU upB upO
    rw [if_neg (show ¬ (4 : Int) = 1 by decide), if_neg (show ¬ (4 : Int) = 3 by decide), if_pos rfl]
    unfold rndL
    rw [decide_eq_true h]
    cases neg <;> rfl
  unfold rndV
  rw [e]
  cases neg <;> rfl
theorem finN_up (P : Nat) (low high : Int) (neg : Bool) (ds : List Int) (e want : Int) (dr : Nat) (hdr : finDr P ds.length low e = dr) (h2 : dr ≤ 200) (hl : vl ds % 10 ^ dr ≠ 0) :
    finN P low high 4 neg ds e false want = fin5 P high 4 neg (finT P (nt (vl ds / 10 ^ dr + (if neg then 0 else 1)))) (finTE P (nt (vl ds / 10 ^ dr + (if neg then 0 else 1))) (e + dr)) (finF true (ds.length + e) low P) := by
  have hj : finJ P ds.length false = 0 := by unfold finJ; simp
  have hL : finLs (vl ds) dr false = true := by
    unfold finLs
    rw [if_neg (by omega)]
    unfold rndL
    rw [decide_eq_true hl]; rfl
  have hV : finV 4 neg (vl ds) dr false = vl ds / 10 ^ dr + (if neg then 0 else 1) := by
    unfold finV
    rw [if_neg (by omega), rnd_up neg (vl ds) dr hl]
  unfold finN
  simp only [hj, Nat.add_zero, Int.pow_zero, Int.mul_one]
  rw [show e - ((0 : Nat) : Int) = e by simp, hdr, hL, hV]
  unfold fin3D fin3E
  rw [if_pos rfl, if_pos rfl]
/-- No noughts come. -/
theorem fin5_in (P : Nat) (high : Int) (neg : Bool) (D : List Int) (e fl : Int) (he : e ≤ high) : fin5 P high 4 neg D e fl = (1, e, tx D, fl) := by
  have hc : fC D.length P e high = 0 := by unfold fC; omega
  unfold fin5 fin4E fin4D
  rw [hc]
  simp only [List.replicate_zero, List.append_nil]
  rw [if_pos (by omega)]
  simp
theorem fin5_out (P : Nat) (high : Int) (D : List Int) (e fl : Int) (he : ¬ e ≤ high) (hl : P ≤ D.length) : fin5 P high 4 false D e fl = (2, 0, { data := #[] }, 20) := by
  have hc : fC D.length P e high = 0 := by unfold fC; omega
  unfold fin5 fin4E fin4D
  rw [hc]
  rw [if_neg (by omega), if_neg (by decide)]
/-- How many noughts come behind the digits of a number for its next one. -/
def nxJ (P L : Nat) (e low : Int) : Nat := min (P - L) (e - low).toNat
/-- The next number upward, of the digits d above nought, below nought. -/
def nxPos (P : Nat) (low high : Int) (d : List Int) (e : Int) : Int × Int × ByteArray :=
  let D := nt (vl d * 10 ^ nxJ P d.length e low + 1)
  if finTE P D (e - nxJ P d.length e low) ≤ high then (1, finTE P D (e - nxJ P d.length e low), tx (finT P D)) else (2, 0, { data := #[] })
def nxNeg (P : Nat) (low : Int) (d : List Int) (e : Int) : Int × Int × ByteArray :=
  let D := nt (vl d * 10 ^ nxJ P d.length e low - 1)
  if D.length < P ∧ low < e - nxJ P d.length e low then (1, e - nxJ P d.length e low - 1, tx (List.replicate P 9)) else (1, e - nxJ P d.length e low, tx D)
theorem div_up (X M : Int) (h : 2 ≤ M) : (X * M + 1) / M = X ∧ (X * M + 1) % M = 1 := by
  have h1 : (X * M + 1) % M = 1 := by
    rw [Int.add_comm, Int.add_mul_emod_self_right]
    exact Int.emod_eq_of_lt (by omega) (by omega)
  refine ⟨?_, h1⟩
  rw [Int.add_comm, Int.add_mul_ediv_right _ _ (by omega), Int.ediv_eq_zero_of_lt (by omega) (by omega)]
  omega
theorem div_dn (X M : Int) (h : 2 ≤ M) : (X * M - 1) / M = X - 1 ∧ (X * M - 1) % M = M - 1 := by
  have e : X * M - 1 = (M - 1) + (X - 1) * M := by rw [Int.sub_mul]; omega
  rw [e]
  refine ⟨?_, ?_⟩
  · rw [Int.add_mul_ediv_right _ _ (by omega), Int.ediv_eq_zero_of_lt (by omega) (by omega)]; omega
  · rw [Int.add_mul_emod_self_right]; exact Int.emod_eq_of_lt (by omega) (by omega)
theorem ten_2 (k : Nat) (h : 1 ≤ k) : (2 : Int) ≤ 10 ^ k := by
  have := pow_mono 1 k h
  rw [Int.pow_one] at this
  omega
theorem pow_pred (n : Nat) (h : 1 ≤ n) : (10 : Int) ^ n = 10 ^ (n - 1) * 10 := by
  obtain ⟨m, rfl⟩ : ∃ m, n = m + 1 := ⟨n - 1, by omega⟩
  rw [show m + 1 - 1 = m by omega]
  exact Int.pow_succ 10 m
section
variable (P : Nat) (low high : Int) (d : List Int) (e : Int) (k : Nat)
theorem fp_pos (hP : 1 ≤ P) (hP2 : P ≤ 34) (hc : Canon d) (hz : d ≠ [0]) (hl : d.length ≤ P) (he : low ≤ e) (hh : e ≤ high) (hk : (k : Int) = (if low ≤ e - P - 1 then (P : Int) + 1 else e - low + 1)) (ds : List Int) (hds : Canon ds) (hv : vl ds = vl d * 10 ^ k + 1) (want : Int) :
    ∃ fl, finN P low high 4 false ds (e - k) false want = ((nxPos P low high d e).1, (nxPos P low high d e).2.1, (nxPos P low high d e).2.2, fl) := by
  have hL1 := hc.2.1
  obtain ⟨j, hj⟩ : ∃ j, nxJ P d.length e low = j := ⟨_, rfl⟩
  have hj1 : j ≤ P - d.length ∧ (j : Int) ≤ e - low ∧ (j = P - d.length ∨ (j : Int) = e - low) := by rw [← hj]; unfold nxJ; omega
  have hk1 : 1 ≤ k ∧ j + 1 ≤ k ∧ k ≤ P + 1 := by
    split at hk <;> omega
  have hlen : ds.length = d.length + k := len_more d ds hc hz hds k 1 hv (by decide) (by have := ten_2 k hk1.1; omega)
  have hdr : finDr P ds.length low (e - k) = k - j := by
    rw [hlen]; unfold finDr
    split at hk <;> omega
  have hp : (10 : Int) ^ k = 10 ^ j * 10 ^ (k - j) := by rw [← Int.pow_add, show j + (k - j) = k by omega]
  obtain ⟨q1, q2⟩ := div_up (vl d * 10 ^ j) (10 ^ (k - j)) (ten_2 _ (by omega))
  have hv2 : vl ds = vl d * 10 ^ j * 10 ^ (k - j) + 1 := by rw [hv, hp, Int.mul_assoc]
  rw [finN_up P low high false ds (e - k) want (k - j) hdr (by omega) (by rw [hv2, q2]; decide), hv2, q1]
  rw [if_neg (by decide)]
  have x1 : e - (k : Int) + ((k - j : Nat) : Int) = e - j := by omega
  rw [x1]
  unfold nxPos
  rw [hj]
  simp only
  obtain ⟨D, hD⟩ : ∃ D, nt (vl d * 10 ^ j + 1) = D := ⟨_, rfl⟩
  rw [hD]
  by_cases hfit : finTE P D (e - j) ≤ high
  · rw [if_pos hfit, fin5_in P high false (finT P D) _ _ hfit]
    exact ⟨_, rfl⟩
  · rw [if_neg hfit, fin5_out P high (finT P D) _ _ hfit (by
      unfold finTE at hfit
      unfold finT
      by_cases c : P < D.length
      · rw [if_pos c, List.length_take]; omega
      · rw [if_neg c] at hfit; omega)]
    exact ⟨_, rfl⟩
theorem nines_is (P : Nat) : Canon (List.replicate (P + 1) 9) ∧ vl (List.replicate (P + 1) 9) = 10 ^ (P + 1) - 1 := by
  have key : ∀ n : Nat, vl (List.replicate n 9) = 10 ^ n - 1 := fun n => by
    induction n with
    | zero => rfl
    | succ n ih =>
      rw [List.replicate_succ', vl_snoc, ih, Int.pow_succ]; omega
  refine ⟨⟨fun x hx => by have := (List.mem_replicate.1 hx).2; omega, by simp, .inr (by simp [List.replicate_succ])⟩, key _⟩
theorem fp_neg (hP : 2 ≤ P) (hP2 : P ≤ 34) (hc : Canon d) (hz : d ≠ [0]) (hl : d.length ≤ P) (he : low ≤ e) (hh : e ≤ high) (hk : (k : Int) = (if low ≤ e - P - 1 then (P : Int) + 1 else e - low + 1)) (ds : List Int) (hds : Canon ds) (hv : vl ds = vl d * 10 ^ k - 1) (want : Int) :
    ∃ fl, finN P low high 4 true ds (e - k) false want = ((nxNeg P low d e).1, (nxNeg P low d e).2.1, (nxNeg P low d e).2.2, fl) := by
  have hL1 := hc.2.1
  obtain ⟨j, hj⟩ : ∃ j, nxJ P d.length e low = j := ⟨_, rfl⟩
  have hj1 : j ≤ P - d.length ∧ (j : Int) ≤ e - low ∧ (j = P - d.length ∨ (j : Int) = e - low) := by rw [← hj]; unfold nxJ; omega
  have hk1 : 1 ≤ k ∧ j + 1 ≤ k ∧ k ≤ P + 1 := by
    split at hk <;> omega
  have lo := canon_lo d hc hz
  have hi := (vl_bd d hc.1).2
  have tk := ten_2 k hk1.1
  have tj := ten_pos j
  have hp : (10 : Int) ^ k = 10 ^ j * 10 ^ (k - j) := by rw [← Int.pow_add, show j + (k - j) = k by omega]
  -- the digits of the difference made plain
  have hq0 : 0 ≤ vl d * 10 ^ j - 1 := by
    have h1 : (1 : Int) ≤ vl d := by have := ten_pos (d.length - 1); omega
    have : 1 * 10 ^ j ≤ vl d * 10 ^ j := Int.mul_le_mul_of_nonneg_right h1 (Int.le_of_lt tj)
    omega
  have hq1 : vl d * 10 ^ j - 1 < 10 ^ (d.length + j) := by
    have : vl d * 10 ^ j < 10 ^ d.length * 10 ^ j := Int.mul_lt_mul_of_pos_right hi tj
    rw [← Int.pow_add] at this
    omega
  obtain ⟨cq, vq⟩ := nt_spec (vl d * 10 ^ j - 1) hq0 (Int.lt_of_lt_of_le hq1 (pow_mono _ _ (by omega)))
  obtain ⟨D, hD⟩ : ∃ D, nt (vl d * 10 ^ j - 1) = D := ⟨_, rfl⟩
  rw [hD] at cq vq
  have hDl : D.length ≤ d.length + j := canon_le D cq _ (by omega) (by rw [vq]; exact hq1)
  unfold nxNeg
  rw [hj]
  simp only
  rw [hD]
  by_cases hpw : vl d = 10 ^ (d.length - 1) ∧ low < e - j
  · -- one and noughts, and there is room below
    obtain ⟨hpw, hlow⟩ := hpw
    have hjP : j = P - d.length := by omega
    have hlen : ds.length = d.length + k - 1 := by
      refine len_of ds hds _ (by omega) ?_ ?_
      · have e1 := pow_pred (d.length + k - 1) (by omega)
        have e2 : vl d * 10 ^ k = 10 ^ (d.length + k - 1) := by rw [hpw, ← Int.pow_add, show d.length - 1 + k = d.length + k - 1 by omega]
        have := ten_pos (d.length + k - 1 - 1)
        rw [hv, e2, e1]; omega
      · have e2 : vl d * 10 ^ k = 10 ^ (d.length + k - 1) := by rw [hpw, ← Int.pow_add, show d.length - 1 + k = d.length + k - 1 by omega]
        rw [hv, e2]; omega
    have hdr : finDr P ds.length low (e - k) = k - j - 1 := by
      rw [hlen]; unfold finDr
      split at hk <;> omega
    have hk2 : 1 ≤ k - j - 1 := by
      split at hk <;> omega
    have hv2 : vl ds = 10 ^ P * 10 ^ (k - j - 1) - 1 := by
      rw [hv, hpw, ← Int.pow_add, ← Int.pow_add, show d.length - 1 + k = P + (k - j - 1) by omega]
    obtain ⟨q1, q2⟩ := div_dn (10 ^ P) (10 ^ (k - j - 1)) (ten_2 _ hk2)
    have t2 := ten_2 _ hk2
    rw [finN_up P low high true ds (e - k) want (k - j - 1) hdr (by omega) (by rw [hv2, q2]; omega), hv2, q1, if_pos rfl, Int.add_zero]
    obtain ⟨P', rfl⟩ : ∃ P', P = P' + 1 := ⟨P - 1, by omega⟩
    have hN : nt (10 ^ (P' + 1) - 1) = List.replicate (P' + 1) 9 := (nt_of _ _ (nines_is P').1 (nines_is P').2 (by rw [List.length_replicate]; omega)).symm
    rw [hN]
    have hT : finT (P' + 1) (List.replicate (P' + 1) 9) = List.replicate (P' + 1) 9 := by unfold finT; rw [if_neg (by rw [List.length_replicate]; omega)]
    have hTE : finTE (P' + 1) (List.replicate (P' + 1) 9) (e - (k : Int) + ((k - j - 1 : Nat) : Int)) = e - j - 1 := by unfold finTE; rw [if_neg (by rw [List.length_replicate]; omega)]; omega
    rw [hT, hTE, fin5_in _ _ _ _ _ _ (by omega)]
    have hcond : D.length < P' + 1 ∧ low < e - (j : Int) := by
      refine ⟨?_, hlow⟩
      have hb : vl D < 10 ^ P' := by
        rw [vq, hpw, ← Int.pow_add, show d.length - 1 + j = P' by omega]; omega
      have := canon_le D cq P' (by omega) hb
      omega
    rw [if_pos hcond]
    exact ⟨_, rfl⟩
  · -- all others
    have hlen : ds.length = d.length + k ∨ (ds.length = d.length + k - 1 ∧ ¬ low < e - j) := by
      by_cases hp1 : vl d = 10 ^ (d.length - 1)
      · right
        refine ⟨?_, fun h => hpw ⟨hp1, h⟩⟩
        refine len_of ds hds _ (by omega) ?_ ?_
        · have e1 := pow_pred (d.length + k - 1) (by omega)
          have e2 : vl d * 10 ^ k = 10 ^ (d.length + k - 1) := by rw [hp1, ← Int.pow_add, show d.length - 1 + k = d.length + k - 1 by omega]
          have := ten_pos (d.length + k - 1 - 1)
          rw [hv, e2, e1]; omega
        · have e2 : vl d * 10 ^ k = 10 ^ (d.length + k - 1) := by rw [hp1, ← Int.pow_add, show d.length - 1 + k = d.length + k - 1 by omega]
          rw [hv, e2]; omega
      · left
        refine len_of ds hds _ (by omega) ?_ ?_
        · have : (10 ^ (d.length - 1) + 1) * 10 ^ k ≤ vl d * 10 ^ k := Int.mul_le_mul_of_nonneg_right (by omega) (by omega)
          rw [Int.add_mul, ← Int.pow_add, show d.length - 1 + k = d.length + k - 1 by omega] at this
          rw [hv]; omega
        · have : vl d * 10 ^ k < 10 ^ d.length * 10 ^ k := Int.mul_lt_mul_of_pos_right hi (by omega)
          rw [← Int.pow_add] at this
          rw [hv]; omega
    have hdr : finDr P ds.length low (e - k) = k - j := by
      unfold finDr
      rcases hlen with h | ⟨h, h2⟩ <;> rw [h] <;> split at hk <;> omega
    have hv2 : vl ds = vl d * 10 ^ j * 10 ^ (k - j) - 1 := by rw [hv, hp, Int.mul_assoc]
    obtain ⟨q1, q2⟩ := div_dn (vl d * 10 ^ j) (10 ^ (k - j)) (ten_2 _ (by omega))
    have t2 := ten_2 (k - j) (by omega)
    rw [finN_up P low high true ds (e - k) want (k - j) hdr (by omega) (by rw [hv2, q2]; omega), hv2, q1, if_pos rfl, Int.add_zero, hD]
    have hT : finT P D = D := by unfold finT; rw [if_neg (by omega)]
    have hTE : finTE P D (e - (k : Int) + ((k - j : Nat) : Int)) = e - j := by unfold finTE; rw [if_neg (by omega)]; omega
    rw [hT, hTE, fin5_in _ _ _ _ _ _ (by omega)]
    have hcond : ¬ (D.length < P ∧ low < e - (j : Int)) := by
      rintro ⟨h1, h2⟩
      have hp1 : vl d ≠ 10 ^ (d.length - 1) := fun h => hpw ⟨h, h2⟩
      have hjP : j = P - d.length := by omega
      have : (10 ^ (d.length - 1) + 1) * 10 ^ j ≤ vl d * 10 ^ j := Int.mul_le_mul_of_nonneg_right (by omega) (by omega)
      rw [Int.add_mul, ← Int.pow_add, show d.length - 1 + j = P - 1 by omega] at this
      have hb := (vl_bd D cq.1).2
      have := pow_mono D.length (P - 1) (by omega)
      omega
    rw [if_neg hcond]
    exact ⟨_, rfl⟩
end
end Go.Proofs.YtmndemegiimagatGreatDoor
