/-
  What Sqrt tells: plain facts.
-/
import Derived.Test.YtmndemegiimagarGreatDoorDvp
namespace Go.Proofs.YtmndemegiimagarGreatDoor
open Go.RowKit
set_option linter.unusedVariables false
set_option maxRecDepth 100000
/-- A root, and what is left. -/
def Rt (M S R : Int) : Prop := S * S + R = M ∧ 0 ≤ S ∧ 0 ≤ R ∧ R ≤ 2 * S
theorem sq_le {a b : Int} (ha : 0 ≤ a) (h : a ≤ b) : a * a ≤ b * b := Int.mul_le_mul h h ha (Int.le_trans ha h)
/-- The root of a number with more noughts behind it. -/
theorem root_more (S R M T S2 R2 : Int) (hT : 0 < T) (h : Rt M S R) (h2 : Rt (M * (T * T)) S2 R2) : S * T ≤ S2 ∧ S2 < S * T + T ∧ (R = 0 → S2 = S * T ∧ R2 = 0) ∧ (R ≠ 0 → S2 - S * T ≠ 0 ∨ R2 ≠ 0) := by
  obtain ⟨e, s0, r0, r1⟩ := h
  obtain ⟨e2, s20, r20, r21⟩ := h2
  have tt : 0 < T * T := Int.mul_pos hT hT
  have st0 : 0 ≤ S * T := Int.mul_nonneg s0 (Int.le_of_lt hT)
  have hM : M * (T * T) = S * T * (S * T) + R * (T * T) := by rw [← e]; grind
  have hR : 0 ≤ R * (T * T) := Int.mul_nonneg r0 (Int.le_of_lt tt)
  have a1 : S * T ≤ S2 := by
    refine Int.not_lt.1 fun c => ?_
    have q := sq_le (show 0 ≤ S2 + 1 by omega) (show S2 + 1 ≤ S * T by omega)
    have x : (S2 + 1) * (S2 + 1) = S2 * S2 + 2 * S2 + 1 := by grind
    omega
  have a2 : S2 < S * T + T := by
    refine Int.not_le.1 fun c => ?_
    have q := sq_le (show 0 ≤ S * T + T by omega) c
    have x : (S * T + T) * (S * T + T) = S * T * (S * T) + (2 * S + 1) * (T * T) := by grind
    have y : R * (T * T) + (T * T) ≤ (2 * S + 1) * (T * T) := by
      have := Int.mul_le_mul_of_nonneg_right (show R + 1 ≤ 2 * S + 1 by omega) (Int.le_of_lt tt)
      rw [Int.add_mul, Int.one_mul] at this
      exact this
    omega
  refine ⟨a1, a2, fun c => ?_, fun c => ?_⟩
  · rw [c, Int.zero_mul, Int.add_zero] at hM
    have up : S2 ≤ S * T := by
      refine Int.not_lt.1 fun d => ?_
      have q := sq_le (show 0 ≤ S * T + 1 by omega) (show S * T + 1 ≤ S2 by omega)
      have x : (S * T + 1) * (S * T + 1) = S * T * (S * T) + 2 * (S * T) + 1 := by grind
      omega
    have e3 : S2 = S * T := by omega
    rw [e3] at e2
    exact ⟨e3, by omega⟩
  · rcases Int.lt_trichotomy (S2 - S * T) 0 with q | q | q
    · exact .inl (by omega)
    · refine .inr fun z => ?_
      have e3 : S2 = S * T := by omega
      rw [e3, z] at e2
      have hz : R * (T * T) = 0 := by omega
      rcases Int.mul_eq_zero.1 hz with k | k
      · exact c k
      · omega
    · exact .inl (by omega)
/-- How many noughts stand behind a number. -/
def sqK (f ea : Int) (la : Nat) : Nat := (2 * limP f - la + 1 + (if (ea - (2 * limP f - la + 1)) % 2 = 0 then 0 else 1)).toNat
/-- What Sqrt tells of a right number that is no NaN: S the root's digits, zz: nothing is left. -/
def sqX (f mode : Int) (ka : Int) (na : Bool) (ea : Int) (sa : ByteArray) (S : Int) (zz : Bool) : R5o :=
  if na = true ∧ zB ka sa = false then (false, (3, 0, { data := #[] }, 1))
  else if ka = 2 then (na, (2, 0, { data := #[] }, 0))
  else (na, finD f mode na (nt S) ((ea - sqK f ea (dl sa).length) / 2) (!zz) (ea / 2))
/-- What Sqrt tells. -/
def sqR (f mode : Int) (ka : Int) (na : Bool) (ea : Int) (sa : ByteArray) (S : Int) (zz : Bool) : R5o := ofR f mode 1 (fun _ => ka) (fun _ => na) (fun _ => ea) (fun _ => sa) (sqX f mode ka na ea sa S zz)
/-- That S is the root. -/
def SqH (f : Int) (ea : Int) (sa : ByteArray) (S : Int) (zz : Bool) : Prop := 0 ≤ vl (dl sa) → ∃ R, Rt (vl (dl sa) * 10 ^ sqK f ea (dl sa).length) S R ∧ decide (R = 0) = zz
theorem sq_some (f : Int) (ea : Int) (sa : ByteArray) : ∃ S zz, SqH f ea sa S zz := by
  by_cases h : 0 ≤ vl (dl sa)
  · have h0 : 0 ≤ vl (dl sa) * 10 ^ sqK f ea (dl sa).length := Int.mul_nonneg h (Int.le_of_lt (ten_pos _))
    obtain ⟨S, R, e, a, b, c⟩ := root_is (vl (dl sa) * 10 ^ sqK f ea (dl sa).length).toNat
    rw [show (((vl (dl sa) * 10 ^ sqK f ea (dl sa).length).toNat : Nat) : Int) = vl (dl sa) * 10 ^ sqK f ea (dl sa).length by omega] at e
    exact ⟨S, decide (R = 0), fun _ => ⟨R, ⟨e, a, b, c⟩, rfl⟩⟩
  · exact ⟨0, false, fun c => absurd c h⟩
/-- The root's digits: one more than the format has. -/
theorem sq_size (f : Int) (hf : f = 64 ∨ f = 128) (da : List Int) (ca : Canon da) (la : (da.length : Int) ≤ limP f) (ea : Int) (S R : Int) (h : Rt (vl da * 10 ^ sqK f ea da.length) S R) :
    Nok (vl da * 10 ^ sqK f ea da.length) ∧ Nok S ∧ Nok R ∧ S < 10 ^ ((limP f).toNat + 1) ∧ (vl da ≠ 0 → 10 ^ (limP f).toNat ≤ S) ∧ (vl da = 0 → S = 0 ∧ R = 0) ∧ (ea - sqK f ea da.length) % 2 = 0 := by
  have hP : 1 ≤ limP f ∧ limP f ≤ 34 := by rcases hf with rfl | rfl <;> decide
  have a := vl_bd da ca.1
  have pa := ca.2.1
  obtain ⟨k, hk⟩ : ∃ k, sqK f ea da.length = k := ⟨_, rfl⟩
  have hk1 : (da.length : Int) + k = 2 * limP f + 1 ∨ (da.length : Int) + k = 2 * limP f + 2 := by rw [← hk]; unfold sqK; split <;> omega
  have hpar : (ea - k) % 2 = 0 := by rw [← hk]; unfold sqK; split <;> omega
  rw [hk] at h ⊢
  obtain ⟨e, s0, r0, r1⟩ := h
  have h0 : 0 ≤ vl da * 10 ^ k := Int.mul_nonneg a.1 (Int.le_of_lt (ten_pos k))
  have h1 : vl da * 10 ^ k < 10 ^ (2 * (limP f).toNat + 2) := by
    have := Int.mul_lt_mul_of_pos_right a.2 (ten_pos k)
    rw [← Int.pow_add] at this
    exact Int.lt_of_lt_of_le this (pow_mono _ _ (by omega))
  have ss : 0 ≤ S * S := Int.mul_nonneg s0 s0
  have p1 : (10 : Int) ^ (2 * (limP f).toNat + 2) = 10 ^ ((limP f).toNat + 1) * 10 ^ ((limP f).toNat + 1) := by rw [← Int.pow_add]; congr 1; omega
  have p0 : (10 : Int) ^ (2 * (limP f).toNat) = 10 ^ (limP f).toNat * 10 ^ (limP f).toNat := by rw [← Int.pow_add]; congr 1; omega
  have hS1 : S < 10 ^ ((limP f).toNat + 1) := by
    refine Int.not_le.1 fun c => ?_
    have q := sq_le (Int.le_of_lt (ten_pos ((limP f).toNat + 1))) c
    omega
  have h7 := pow_mono (2 * (limP f).toNat + 2) 200 (by omega)
  have h8 := pow_mono ((limP f).toNat + 1) 200 (by omega)
  refine ⟨⟨h0, by omega⟩, ⟨s0, by omega⟩, ⟨r0, by omega⟩, hS1, fun hz => ?_, fun hz => ?_, hpar⟩
  · refine Int.not_lt.1 fun c => ?_
    have hlo := canon_lo da ca (fun q => hz (by rw [q]; rfl))
    have h2 := Int.mul_le_mul_of_nonneg_right hlo (Int.le_of_lt (ten_pos k))
    rw [← Int.pow_add] at h2
    have h3 := pow_mono (2 * (limP f).toNat) (da.length - 1 + k) (by omega)
    have q := sq_le (show 0 ≤ S + 1 by omega) (show S + 1 ≤ 10 ^ (limP f).toNat by omega)
    have x : (S + 1) * (S + 1) = S * S + 2 * S + 1 := by grind
    omega
  · rw [hz, Int.zero_mul] at e
    have hs : S * S = 0 := by omega
    rcases Int.mul_eq_zero.1 hs with c | c <;> exact ⟨c, by omega⟩
set_option maxHeartbeats 1000000 in
/-- More noughts behind the number give the same. -/
theorem sq_same (f mode : Int) (hf : f = 64 ∨ f = 128) (neg : Bool) (da : List Int) (ca : Canon da) (la : (da.length : Int) ≤ limP f) (hz : vl da ≠ 0) (ea : Int) (S R S2 R2 : Int) (h : Rt (vl da * 10 ^ sqK f ea da.length) S R) (n2 : Nat) (hn : n2 = (limP f).toNat * 2 + 6 + (ea - 2 * (ea / 2)).toNat) (h2 : Rt (vl da * 10 ^ n2) S2 R2) :
    finD f mode neg (nt S2) (ea / 2 - (limP f + 3)) (!decide (R2 = 0)) (ea / 2) = finD f mode neg (nt S) ((ea - sqK f ea da.length) / 2) (!decide (R = 0)) (ea / 2) ∧ Nok S2 ∧ Nok R2 := by
  have hP : 1 ≤ limP f ∧ limP f ≤ 34 := by rcases hf with rfl | rfl <;> decide
  obtain ⟨n1, nS, nR, hhi, hlo, -, hpar⟩ := sq_size f hf da ca la ea S R h
  have pa := ca.2.1
  have a := vl_bd da ca.1
  obtain ⟨k, hk⟩ : ∃ k, sqK f ea da.length = k := ⟨_, rfl⟩
  have hk1 : (da.length : Int) + k = 2 * limP f + 1 ∨ (da.length : Int) + k = 2 * limP f + 2 := by rw [← hk]; unfold sqK; split <;> omega
  rw [hk] at h hpar n1 ⊢
  obtain ⟨j, hj⟩ : ∃ j : Nat, n2 = k + (j + j) := ⟨(n2 - k) / 2, by omega⟩
  have hM : vl da * 10 ^ n2 = vl da * 10 ^ k * (10 ^ j * 10 ^ j) := by rw [hj, Int.pow_add, Int.pow_add, ← Int.mul_assoc]
  rw [hM] at h2
  obtain ⟨q1, q2, q3, q4⟩ := root_more S R _ (10 ^ j) S2 R2 (ten_pos j) h h2
  have hq := hlo hz
  have hq1 : 1 ≤ S := Int.le_trans (by have := ten_pos (limP f).toNat; omega) hq
  have hS2 : S2 < 10 ^ ((limP f).toNat + 1 + j) := by
    have x : (S + 1) * 10 ^ j ≤ 10 ^ ((limP f).toNat + 1) * 10 ^ j := Int.mul_le_mul_of_nonneg_right (by omega) (Int.le_of_lt (ten_pos j))
    rw [← Int.pow_add, Int.add_mul, Int.one_mul] at x
    omega
  have p9 := pow_mono ((limP f).toNat + 1 + j) 100 (by omega)
  have p8 := pow_mono 101 200 (by decide)
  have p7 : (10 : Int) ^ 101 = 10 ^ 100 * 10 := Int.pow_succ 10 100
  have N2 : Nok S2 := ⟨h2.2.1, by omega⟩
  have N3 : Nok R2 := ⟨h2.2.2.1, by have := h2.2.2.2; omega⟩
  refine ⟨?_, N2, N3⟩
  obtain ⟨c1, v1⟩ := nok_spec nS
  obtain ⟨c2, v2⟩ := nok_spec N2
  have s2p : 0 < S2 := Int.lt_of_lt_of_le (Int.mul_pos (by omega) (ten_pos j)) q1
  have z1 : nt S ≠ [0] := fun c => by rw [c] at v1; have : vl [0] = 0 := rfl; omega
  have z2 : nt S2 ≠ [0] := fun c => by rw [c] at v2; have : vl [0] = 0 := rfl; omega
  have l1 := len_lo _ c1 (limP f).toNat (by rw [v1]; exact hq)
  have l2 := canon_le _ c1 ((limP f).toNat + 1) (by omega) (by rw [v1]; exact hhi)
  have hex : (ea - (k : Int)) / 2 - (j : Int) = ea / 2 - (limP f + 3) := by omega
  have hfin := finN_scale (limP f).toNat (by omega) (limL f) (limH f) mode neg (nt S) (nt S2) ((ea - k) / 2) (!decide (R = 0)) (!decide (R2 = 0)) (ea / 2) j (S2 - S * 10 ^ j) c1 z1 c2 (by rw [v1, v2]; omega) (by omega) (by omega)
    (fun c => by
      have hr : R ≠ 0 := by simpa using c
      rcases q4 hr with d | d
      · exact .inl d
      · exact .inr (by simpa using d))
    (fun c => by
      have hr : R = 0 := by simpa using c
      obtain ⟨d1, d2⟩ := q3 hr
      exact ⟨by omega, by rw [d2]; rfl⟩) (by omega) (by omega)
  unfold finD
  rw [if_neg z1, if_neg z2, hfin, hex]
end Go.Proofs.YtmndemegiimagarGreatDoor
