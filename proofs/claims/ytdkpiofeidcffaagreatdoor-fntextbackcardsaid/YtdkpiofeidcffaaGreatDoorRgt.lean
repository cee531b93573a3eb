/-
  Plain facts: what is finished is right in its format.
-/
import Derived.Test.YtdkpiofeidcffaaGreatDoorIsR2
import Derived.Test.YtdkpiofeidcffaaGreatDoorNatS
import Derived.Test.YtdkpiofeidcffaaGreatDoorFinP
import Derived.Test.YtdkpiofeidcffaaGreatDoorNtL
namespace Go.Proofs.YtdkpiofeidcffaaGreatDoor
set_option linter.unusedVariables false
set_option maxRecDepth 100000
/-- Right digits with a right exponent that is wanted stay. -/
theorem finD_self (f : Int) (hf : f = 64 ∨ f = 128) (mode : Int) (neg : Bool) (ds : List Int) (e : Int) (hc : Canon ds) (hl : (ds.length : Int) ≤ limP f) (h0 : limL f ≤ e) (h1 : e ≤ limH f) : finD f mode neg ds e false e = (1, e, tx ds, 0) := by
  unfold finD
  by_cases hz : ds = [0]
  · rw [if_pos hz]
    subst hz
    have et : tx [0] = { data := #[48] } := by apply ByteArray.ext; rw [tx_data]; rfl
    rw [et, show min (limH f) (max (limL f) e) = e by omega]
  · rw [if_neg hz]
    have hp : limP f ≤ 34 := (lims f hf).1
    have hj : finJ (limP f).toNat ds.length false = 0 := rfl
    have hdr : finDr (limP f).toNat ds.length (limL f) e = 0 := by unfold finDr; omega
    have hV : finV mode neg (vl ds) 0 false = vl ds := by
      unfold finV rndV rndU
      rw [if_neg (by decide)]
      have hm : vl ds % 10 ^ 0 = 0 := by rw [Int.pow_zero]; exact Int.emod_one _
      have hL : rndL (vl ds) 0 false = false := by unfold rndL; rw [hm]; rfl
      have hu : upB mode neg (halfI (vl ds % 10 ^ 0) (10 ^ 0) false 0) (rndL (vl ds) 0 false) (vl ds / 10 ^ 0) = false := by
        rw [hL]; simp [upB, halfI, upO]
      rw [hu, Int.pow_zero, Int.ediv_one]
      simp
    have hL : finLs (vl ds) 0 false = false := by
      unfold finLs
      rw [if_neg (by decide)]
      have hm : vl ds % 10 ^ 0 = 0 := by rw [Int.pow_zero]; exact Int.emod_one _
      unfold rndL; rw [hm]; rfl
    unfold finN
    simp only [hj, Nat.add_zero, Int.pow_zero, Int.mul_one]
    have e0 : e - ((0 : Nat) : Int) = e := by omega
    rw [e0, hdr, hV, hL, ← nt_of ds (vl ds) hc rfl (by omega)]
    have hT : finT (limP f).toNat ds = ds := by unfold finT; rw [if_neg (by omega)]
    have hTE : finTE (limP f).toNat ds (e + ((0 : Nat) : Int)) = e := by unfold finTE; rw [if_neg (by omega)]; omega
    have hA : fA ds e e (limH f) = 0 := by unfold fA; omega
    have hB : fB (ds.length - 0) (limP f).toNat (e + ((0 : Nat) : Int)) e (limL f) = 0 := by unfold fB; omega
    have h3D : fin3D false ds e e (limL f) (limH f) (limP f).toNat = ds := by unfold fin3D; rw [hA, hB]; simp
    have h3E : fin3E false ds e e (limL f) (limH f) (limP f).toNat = e := by unfold fin3E; rw [hA, hB]; simp
    rw [hT, hTE, h3D, h3E]
    have hC : fC ds.length (limP f).toNat e (limH f) = 0 := by unfold fC; omega
    unfold fin5
    have h4E : fin4E ds e (limH f) (limP f).toNat = e := by unfold fin4E; rw [hC]; omega
    have h4D : fin4D ds e (limH f) (limP f).toNat = ds := by unfold fin4D; rw [hC]; simp
    rw [h4E, h4D, if_pos h1]
    rfl
end Go.Proofs.YtdkpiofeidcffaaGreatDoor
namespace Go.Proofs.YtdkpiofeidcffaaGreatDoor
open Go.RowKit
set_option linter.unusedVariables false
set_option maxRecDepth 100000
/-- How many digits, by the number. -/
theorem len_of (R : List Int) (h : Canon R) (m : Nat) (hm : 1 ≤ m) (h0 : 10 ^ (m - 1) ≤ vl R) (h1 : vl R < 10 ^ m) : R.length = m := by
  have a := canon_le R h m hm h1
  rcases Nat.lt_or_ge R.length m with c | c
  · have b := (vl_bd R h.1).2
    have d := pow_mono R.length (m - 1) (by omega)
    omega
  · omega
theorem canon_lo (R : List Int) (h : Canon R) (hz : R ≠ [0]) : 10 ^ (R.length - 1) ≤ vl R := by
  rcases Nat.lt_or_ge 1 R.length with c | c
  · exact canon_low R h c
  · have : R.length = 1 := by have := h.2.1; omega
    rw [this]
    have b := (vl_bd R h.1).1
    have : vl R ≠ 0 := fun e => hz (canon_nought R h e)
    show (10 : Int) ^ 0 ≤ vl R
    rw [Int.pow_zero]
    omega
/-- Digits, and more behind them. -/
theorem len_more (R R' : List Int) (h : Canon R) (hz : R ≠ [0]) (h' : Canon R') (k : Nat) (r : Int) (hv : vl R' = vl R * 10 ^ k + r) (r0 : 0 ≤ r) (r1 : r < 10 ^ k) : R'.length = R.length + k := by
  have hl := h.2.1
  have a := canon_lo R h hz
  have b := (vl_bd R h.1).2
  have p := ten_pos k
  refine len_of R' h' _ (by omega) ?_ ?_
  · rw [show R.length + k - 1 = R.length - 1 + k by omega, Int.pow_add, hv]
    have := Int.mul_le_mul_of_nonneg_right a (Int.le_of_lt p)
    omega
  · rw [Int.pow_add, hv]
    have : (vl R + 1) * 10 ^ k ≤ 10 ^ R.length * 10 ^ k := Int.mul_le_mul_of_nonneg_right (by omega) (Int.le_of_lt p)
    rw [Int.add_mul] at this
    omega
theorem div_more (v r : Int) (k d : Nat) (r0 : 0 ≤ r) (r1 : r < 10 ^ k) : (v * 10 ^ k + r) / 10 ^ (d + k) = v / 10 ^ d ∧ (v * 10 ^ k + r) % 10 ^ (d + k) = v % 10 ^ d * 10 ^ k + r := by
  have pk := ten_pos k
  have pd := ten_pos d
  have e : (v * 10 ^ k + r) / 10 ^ (d + k) = v / 10 ^ d := by
    rw [Nat.add_comm d k, Int.pow_add, ← Int.ediv_ediv_of_nonneg (Int.le_of_lt pk)]
    congr 1
    rw [Int.add_comm, Int.add_mul_ediv_right _ _ (Int.ne_of_gt pk), Int.ediv_eq_zero_of_lt r0 r1, Int.zero_add]
  refine ⟨e, ?_⟩
  have a := Int.mul_ediv_add_emod (v * 10 ^ k + r) (10 ^ (d + k))
  have b := Int.mul_ediv_add_emod v (10 ^ d)
  rw [e, Int.pow_add] at a
  rw [Int.pow_add]
  have c : v * 10 ^ k = 10 ^ d * (v / 10 ^ d) * 10 ^ k + v % 10 ^ d * 10 ^ k := by rw [← Int.add_mul, b]
  have g : (10 : Int) ^ d * 10 ^ k * (v / 10 ^ d) = 10 ^ d * (v / 10 ^ d) * 10 ^ k := by rw [Int.mul_assoc, Int.mul_comm (10 ^ k) (v / 10 ^ d), ← Int.mul_assoc]
  rw [g] at a
  omega
theorem ten_even (d : Nat) (h : 1 ≤ d) : ∃ m : Int, (10 : Int) ^ d = 10 * m := ⟨10 ^ (d - 1), by rw [← Int.pow_succ', show d - 1 + 1 = d by omega]⟩
/-- What is cut off is seen alike whether its end is there or only said to be there. -/
theorem half_more (ρ r : Int) (k d : Nat) (hd : 1 ≤ d) (rest' : Bool) (r0 : 0 ≤ r) (r1 : r < 10 ^ k) (hs : r ≠ 0 ∨ rest' = true) : halfI (ρ * 10 ^ k + r) (10 ^ (d + k)) rest' (d + k) = halfI ρ (10 ^ d) true d := by
  obtain ⟨m, hm⟩ := ten_even d hd
  have pk := ten_pos k
  unfold halfI
  rw [if_neg (show ¬ d + k = 0 by omega), if_neg (show ¬ d = 0 by omega), Int.pow_add, hm]
  generalize (10 : Int) ^ k = T at *
  by_cases h : 2 * ρ < 10 * m
  · rw [if_pos h, if_pos ?_]
    have h2 : 2 * ρ + 2 ≤ 10 * m := by omega
    have := Int.mul_le_mul_of_nonneg_right h2 (Int.le_of_lt pk)
    rw [Int.add_mul, Int.mul_assoc 2 ρ T] at this
    omega
  · have h2 : 10 * m ≤ 2 * ρ := by omega
    have := Int.mul_le_mul_of_nonneg_right h2 (Int.le_of_lt pk)
    rw [Int.mul_assoc 2 ρ T] at this
    rw [if_neg h, if_neg (by omega : ¬ 2 * (ρ * T + r) < 10 * m * T), if_neg (fun q => Bool.noConfusion q.2 : ¬ (2 * ρ = 10 * m ∧ true = false))]
    refine if_neg ?_
    rintro ⟨q1, q2⟩
    rcases hs with c | c
    · omega
    · rw [c] at q2; cases q2
/-- A number far below all digits. -/
theorem rnd_far (mode : Int) (neg : Bool) (v : Int) (d : Nat) (n : Nat) (h0 : 0 ≤ v) (h1 : v < 10 ^ n) (hn : n + 1 ≤ d) : rndV mode neg v d true = rndV mode neg 1 200 true := by
  have pn := ten_pos n
  have key : ∀ (v : Int) (d n : Nat), 0 ≤ v → v < 10 ^ n → n + 1 ≤ d → v / 10 ^ d = 0 ∧ halfI (v % 10 ^ d) (10 ^ d) true d = -1 := fun v d n h0 h1 hn => by
    have a := pow_mono (n + 1) d hn
    have b : (10 : Int) ^ (n + 1) = 10 ^ n * 10 := Int.pow_succ 10 n
    have pn := ten_pos n
    have hlt : v < 10 ^ d := by omega
    refine ⟨Int.ediv_eq_zero_of_lt h0 hlt, ?_⟩
    rw [Int.emod_eq_of_lt h0 hlt]
    unfold halfI
    rw [if_neg (by omega), if_pos (by omega)]
  obtain ⟨a, b⟩ := key v d n h0 h1 hn
  obtain ⟨a', b'⟩ := key 1 200 1 (by decide) (by decide) (by decide)
  unfold rndV rndU upB rndL
  rw [a, b, a', b']
  simp
/-- THE DIGITS ALONE, OR MORE OF THEM. -/
theorem finN_more (p : Nat) (hp : 1 ≤ p) (low high mode : Int) (neg : Bool) (ds ds' : List Int) (e : Int) (rest' : Bool) (want : Int) (k : Nat) (r : Int) (hc : Canon ds) (hz : ds ≠ [0]) (hc' : Canon ds') (hv : vl ds' = vl ds * 10 ^ k + r) (r0 : 0 ≤ r) (r1 : r < 10 ^ k) (hs : r ≠ 0 ∨ rest' = true)
    (hn : p + 1 ≤ ds.length) (hk : ds.length + k ≤ 198) : finN p low high mode neg ds e true want = finN p low high mode neg ds' (e - k) rest' want := by
  have hl := len_more ds ds' hc hz hc' k r hv r0 r1
  have hj : finJ p ds.length true = 0 := by unfold finJ; rw [if_pos rfl]; omega
  have hj' : finJ p ds'.length rest' = 0 := by unfold finJ; cases rest' <;> simp; omega
  obtain ⟨d, hd⟩ : ∃ d, finDr p ds.length low e = d := ⟨_, rfl⟩
  have hd1 : 1 ≤ d := by rw [← hd]; unfold finDr; omega
  have hd' : finDr p ds'.length low (e - k) = d + k := by rw [← hd, hl]; unfold finDr; omega
  obtain ⟨q1, q2⟩ := div_more (vl ds) r k d r0 r1
  have hL : finLs (vl ds) d true = true := by unfold finLs rndL; split <;> rfl
  have hL' : finLs (vl ds') (d + k) rest' = true := by
    unfold finLs rndL
    split
    · rfl
    · rcases hs with c | c
      · rw [hv, q2]
        have hm := Int.emod_nonneg (vl ds) (Int.ne_of_gt (ten_pos d))
        have := Int.mul_nonneg hm (Int.le_of_lt (ten_pos k))
        rw [decide_eq_true (show vl ds % 10 ^ d * 10 ^ k + r ≠ 0 by omega), Bool.or_true]
      · rw [c, Bool.true_or]
  have hU : rndV mode neg (vl ds') (d + k) rest' = rndV mode neg (vl ds) d true := by
    have e1 : rndL (vl ds') (d + k) rest' = rndL (vl ds) d true := by
      unfold rndL
      rw [Bool.true_or]
      rcases hs with c | c
      · rw [hv, q2]
        have hm := Int.emod_nonneg (vl ds) (Int.ne_of_gt (ten_pos d))
        have := Int.mul_nonneg hm (Int.le_of_lt (ten_pos k))
        rw [decide_eq_true (show vl ds % 10 ^ d * 10 ^ k + r ≠ 0 by omega), Bool.or_true]
      · rw [c, Bool.true_or]
    unfold rndV rndU
    rw [e1, hv, q1, q2, half_more (vl ds % 10 ^ d) r k d hd1 rest' r0 r1 hs]
  have hV : finV mode neg (vl ds') (d + k) rest' = finV mode neg (vl ds) d true := by
    unfold finV
    by_cases c : 200 < d
    · rw [if_pos c, if_pos (by omega)]
    · rw [if_neg c]
      by_cases c2 : 200 < d + k
      · rw [if_pos c2]
        have b := vl_bd ds hc.1
        exact (rnd_far mode neg (vl ds) d ds.length b.1 b.2 (by omega)).symm
      · rw [if_neg c2]; exact hU
  unfold finN
  simp only [hj, hj', Nat.add_zero, Int.pow_zero, Int.mul_one]
  rw [show e - ((0 : Nat) : Int) = e by simp, show e - (k : Int) - ((0 : Nat) : Int) = e - k by simp, hd, hd', hL, hL', hV, hl]
  have x1 : e - (k : Int) + ((d + k : Nat) : Int) = e + (d : Int) := by omega
  have x2 : ((ds.length + k : Nat) : Int) + (e - (k : Int)) = (ds.length : Int) + e := by omega
  rw [x1, x2]
/-- A nine at the end says that something is there. -/
theorem finN_nine (p : Nat) (hp : 1 ≤ p) (low high mode : Int) (neg : Bool) (ds : List Int) (e want : Int) (hc : Canon ds) (h9 : vl ds % 10 = 9) (hn : p + 1 ≤ ds.length) : finN p low high mode neg ds e true want = finN p low high mode neg ds e false want := by
  have hj : finJ p ds.length true = 0 := by unfold finJ; rw [if_pos rfl]; omega
  have hj' : finJ p ds.length false = 0 := by unfold finJ; simp
  obtain ⟨d, hd⟩ : ∃ d, finDr p ds.length low e = d := ⟨_, rfl⟩
  have hd1 : 1 ≤ d := by rw [← hd]; unfold finDr; omega
  obtain ⟨m, hm⟩ := ten_even d hd1
  have b := (vl_bd ds hc.1).1
  have hρ : vl ds % 10 ^ d % 10 = 9 := by
    rw [hm, Int.emod_emod_of_dvd _ (Int.dvd_mul_right 10 m)]; exact h9
  have hne : vl ds % 10 ^ d ≠ 0 := fun c => by rw [c] at hρ; cases hρ
  have hL : rndL (vl ds) d true = rndL (vl ds) d false := by unfold rndL; rw [decide_eq_true hne]; rfl
  have hH : halfI (vl ds % 10 ^ d) (10 ^ d) true d = halfI (vl ds % 10 ^ d) (10 ^ d) false d := by
    unfold halfI
    have n1 : ¬ (2 * (vl ds % 10 ^ d) = 10 ^ d ∧ true = false) := fun q => Bool.noConfusion q.2
    have n2 : ¬ (2 * (vl ds % 10 ^ d) = 10 ^ d ∧ false = false) := fun q => by have := q.1; omega
    rw [if_neg n1, if_neg n2]
  have hV : finV mode neg (vl ds) d true = finV mode neg (vl ds) d false := by
    unfold finV rndV rndU
    rw [hL, hH]
  have hLs : finLs (vl ds) d true = finLs (vl ds) d false := by unfold finLs; rw [hL]
  unfold finN
  simp only [hj, hj', Nat.add_zero, Int.pow_zero, Int.mul_one]
  rw [show e - ((0 : Nat) : Int) = e by simp, hd, hV, hLs]
theorem vl_pos (d : List Int) (h : Canon d) (hz : d ≠ [0]) : 1 ≤ vl d := by
  have b := (vl_bd d h.1).1
  have : vl d ≠ 0 := fun e => hz (canon_nought d h e)
  omega
end Go.Proofs.YtdkpiofeidcffaaGreatDoor
namespace Go.Proofs.YtdkpiofeidcffaaGreatDoor
set_option linter.unusedVariables false
set_option maxRecDepth 100000
/-- Digits with no nought ahead. -/
def Hdg (D : List Int) : Prop := Dec D ∧ 0 < D.length ∧ D.headD 0 ≠ 0
theorem Hdg.canon {D : List Int} (h : Hdg D) : Canon D := ⟨h.1, h.2.1, .inr h.2.2⟩
theorem Hdg.take {D : List Int} (h : Hdg D) (k : Nat) (hk : 0 < k) : Hdg (D.take k) := by
  refine ⟨fun d hd => h.1 d (List.mem_of_mem_take hd), by have := h.2.1; simp; omega, ?_⟩
  cases D with
  | nil => exact absurd h.2.1 (by simp)
  | cons x r => cases k with
    | zero => omega
    | succ k => simpa using h.2.2
theorem Hdg.zeros {D : List Int} (h : Hdg D) (k : Nat) : Hdg (D ++ List.replicate k 0) := by
  refine ⟨fun d hd => ?_, by have := h.2.1; simp; omega, ?_⟩
  · rcases List.mem_append.1 hd with q | q
    · exact h.1 d q
    · rw [List.mem_replicate] at q; omega
  · cases D with
    | nil => exact absurd h.2.1 (by simp)
    | cons x r => simpa using h.2.2
theorem hdg_of (D : List Int) (h : Canon D) (hv : vl D ≠ 0) : Hdg D := by
  refine ⟨h.1, h.2.1, ?_⟩
  rcases h.2.2 with q | q
  · match D, q with
    | [x], _ =>
      show x ≠ 0
      intro h
      subst h
      exact hv (by rfl)
  · exact q
/-- What fin5 tells of digits that are right up to their exponent. -/
theorem fin5_right (f : Int) (hf : f = 64 ∨ f = 128) (mode : Int) (neg : Bool) (D : List Int) (e fl : Int) (hC : Canon D) (hl : D.length ≤ (limP f).toNat) (he : limL f ≤ e) (hH : Hdg D ∨ e ≤ limH f) :
    numB f (fin5 (limP f).toNat (limH f) mode neg D e fl).1 neg (fin5 (limP f).toNat (limH f) mode neg D e fl).2.1 (fin5 (limP f).toNat (limH f) mode neg D e fl).2.2.1 = true := by
  have hp0 : limP f ≠ 0 ∧ 0 < limP f ∧ limL f ≤ limH f := by rcases hf with rfl | rfl <;> decide
  unfold fin5
  split
  · rename_i h1
    show numB f 1 neg (fin4E D e (limH f) (limP f).toNat) (tx (fin4D D e (limH f) (limP f).toNat)) = true
    unfold numB
    rw [if_neg hp0.1, if_pos rfl]
    have hfc : fC D.length (limP f).toNat e (limH f) ≤ (limP f).toNat - D.length ∧ (fC D.length (limP f).toNat e (limH f) : Int) ≤ (e - limH f).toNat := by unfold fC; omega
    have hlen : (fin4D D e (limH f) (limP f).toNat).length = D.length + fC D.length (limP f).toNat e (limH f) := by unfold fin4D; simp
    have hc4 : Canon (fin4D D e (limH f) (limP f).toNat) := by
      unfold fin4D
      rcases hH with q | q
      · exact (q.zeros _).canon
      · have : fC D.length (limP f).toNat e (limH f) = 0 := by unfold fC; omega
        rw [this]; simpa using hC
    have hn := natB_tx (limP f) _ hc4 (by rw [hlen]; omega)
    rw [hn]
    have hlo : limL f ≤ fin4E D e (limH f) (limP f).toNat := by unfold fin4E; omega
    simp [hlo, h1]
  · split
    · show numB f 1 neg (limH f) (tx (List.replicate (limP f).toNat 9)) = true
      unfold numB
      rw [if_neg hp0.1, if_pos rfl]
      have hc9 : Canon (List.replicate (limP f).toNat (9 : Int)) := by
        refine ⟨fun d hd => by rw [List.mem_replicate] at hd; omega, by simp; omega, .inr ?_⟩
        cases hq : (limP f).toNat with
        | zero => omega
        | succ q => simp [List.replicate_succ]
      rw [natB_tx (limP f) _ hc9 (by simp; omega)]
      simp [hp0.2.2]
    · show numB f 2 neg 0 { data := #[] } = true
      unfold numB
      rw [if_neg hp0.1, if_neg (by decide), if_pos rfl, ByteArray.toList_eq]
      rfl
/-- What fin3 makes of digits that are right. -/
theorem fin3_right (lost : Bool) (D : List Int) (e want low high : Int) (p : Nat) (hC : Canon D) (hl : D.length ≤ p) (he : low ≤ e) (hH : lost = false → Hdg D) :
    Canon (fin3D lost D e want low high p) ∧ (fin3D lost D e want low high p).length ≤ p ∧ low ≤ fin3E lost D e want low high p ∧ (lost = false → Hdg (fin3D lost D e want low high p)) := by
  unfold fin3D fin3E
  cases lost with
  | true => exact ⟨hC, hl, he, fun h => by cases h⟩
  | false =>
    have hd := hH rfl
    have hA := fA_len D e want high hC.2.1
    have hB : fB (D.length - fA D e want high) p (e + fA D e want high) want low ≤ p - (D.length - fA D e want high) ∧ fB (D.length - fA D e want high) p (e + fA D e want high) want low ≤ (e + fA D e want high - low).toNat := by unfold fB; omega
    simp only [Bool.false_eq_true, if_false]
    have q := (hd.take (D.length - fA D e want high) (by omega)).zeros (fB (D.length - fA D e want high) p (e + fA D e want high) want low)
    refine ⟨q.canon, ?_, by omega, fun _ => q⟩
    simp
    omega
theorem finT_right (p : Nat) (hp : 1 ≤ p) (D : List Int) (hC : Canon D) (hl : D.length ≤ p + 1) : Canon (finT p D) ∧ (finT p D).length ≤ p ∧ (Hdg D → Hdg (finT p D)) := by
  unfold finT
  split
  · rename_i h
    have hd : Hdg D := ⟨hC.1, hC.2.1, by rcases hC.2.2 with q | q; · omega
                                         · exact q⟩
    have q := hd.take p (by omega)
    exact ⟨q.canon, by simp; omega, fun _ => q⟩
  · exact ⟨hC, by omega, id⟩
/-- What Finish tells of digits with nothing behind them is right. -/
theorem finN_right (f : Int) (hf : f = 64 ∨ f = 128) (mode : Int) (neg : Bool) (ds : List Int) (e want : Int) (hc : Canon ds) (hz : ds ≠ [0]) (hl : ds.length ≤ 200) :
    numB f (finN (limP f).toNat (limL f) (limH f) mode neg ds e false want).1 neg (finN (limP f).toNat (limL f) (limH f) mode neg ds e false want).2.1 (finN (limP f).toNat (limL f) (limH f) mode neg ds e false want).2.2.1 = true := by
  have hp : 1 ≤ (limP f).toNat ∧ (limP f).toNat ≤ 34 ∧ limL f ≤ limH f := by rcases hf with rfl | rfl <;> decide
  have hv := vl_bd ds hc.1
  have hv0 := vl_pos ds hc hz
  have hj : finJ (limP f).toNat ds.length false = 0 := rfl
  unfold finN
  simp only [hj, Nat.add_zero, Int.pow_zero, Int.mul_one]
  have hdr : finDr (limP f).toNat ds.length (limL f) (e - (0 : Nat)) = (max (max 0 ((ds.length : Int) - (limP f).toNat)) (limL f - e)).toNat := by unfold finDr; simp
  rw [hdr]
  generalize hd0 : (max (max 0 ((ds.length : Int) - (limP f).toNat)) (limL f - e)).toNat = dr
  have hep : limL f ≤ e + dr := by omega
  have hdn : (ds.length : Int) - (limP f).toNat ≤ dr := by omega
  have heL : (ds.length : Int) - (limP f).toNat < dr → 0 < dr → e + dr = limL f := by omega
  clear hd0 hdr hj
  generalize hP : (limP f).toNat = p at *
  generalize hq : finV mode neg (vl ds) dr false = q
  generalize hls : finLs (vl ds) dr false = lost
  -- what is rounded
  have hQ : 0 ≤ q ∧ q < 10 ^ (p + 1) ∧ (lost = false → q ≠ 0) ∧ (q = 0 → e + dr = limL f) := by
    have hp1 : (1 : Int) ≤ 10 ^ p := Int.add_one_le_of_lt (ten_pos p)
    have hpp : (10 : Int) ^ (p + 1) = 10 ^ p * 10 := Int.pow_succ ..
    by_cases h2 : 200 < dr
    · unfold finV at hq
      unfold finLs at hls
      rw [if_pos h2] at hq hls
      have hl2 : lost = true := by rw [← hls]; rfl
      have hone : (1 : Int) / 10 ^ 200 = 0 := by decide
      unfold rndV at hq
      rw [hone] at hq
      have h01 : q = 0 ∨ q = 1 := by rw [← hq]; split <;> simp
      refine ⟨by omega, by omega, fun h => (by rw [hl2] at h; cases h), fun _ => heL (by omega) (by omega)⟩
    · unfold finV at hq
      unfold finLs at hls
      rw [if_neg h2] at hq hls
      unfold rndV at hq
      have ht := ten_pos dr
      have hd1 : 0 ≤ vl ds / 10 ^ dr := Int.ediv_nonneg (by omega) (by omega)
      have hd2 : vl ds / 10 ^ dr < 10 ^ p := by
        refine Int.ediv_lt_of_lt_mul ht ?_
        rw [← Int.pow_add]
        exact Int.lt_of_lt_of_le hv.2 (pow_mono _ _ (by omega))
      have h01 : q = vl ds / 10 ^ dr ∨ q = vl ds / 10 ^ dr + 1 := by rw [← hq]; split <;> simp
      refine ⟨by omega, by omega, fun h hq0 => ?_, fun hq0 => ?_⟩
      · rw [← hls] at h
        have hm : vl ds % 10 ^ dr = 0 := by simpa [rndL] using h
        have hz0 : vl ds / 10 ^ dr = 0 := by omega
        have := Int.emod_add_mul_ediv (vl ds) (10 ^ dr)
        rw [hm, hz0] at this
        simp at this
        omega
      · have hz0 : vl ds / 10 ^ dr = 0 := by omega
        have hlt : vl ds < 10 ^ dr := by
          have := Int.emod_add_mul_ediv (vl ds) (10 ^ dr)
          rw [hz0] at this
          have := Int.emod_lt_of_pos (vl ds) ht
          simp at *
          omega
        have hlo := canon_lo ds hc hz
        have : ¬ dr ≤ ds.length - 1 := fun h => by
          have := pow_mono dr (ds.length - 1) h
          omega
        have := hc.2.1
        exact heL (by omega) (by omega)
  obtain ⟨q0, q1, q2, q3⟩ := hQ
  have hq5 : q < 10 ^ 500 := Int.lt_of_lt_of_le q1 (pow_mono _ _ (by omega))
  obtain ⟨cq, vq⟩ := nt_spec q q0 hq5
  have lq : (nt q).length ≤ p + 1 := canon_le _ cq (p + 1) (by omega) (by rw [vq]; exact q1)
  have hH0 : q ≠ 0 → Hdg (nt q) := fun h => hdg_of _ cq (by rw [vq]; exact h)
  obtain ⟨t1, t2, t3⟩ := finT_right p hp.1 (nt q) cq lq
  have te : limL f ≤ finTE p (nt q) (e - (0 : Nat) + dr) := by unfold finTE; split <;> omega
  have tzh : q = 0 → finTE p (nt q) (e - (0 : Nat) + dr) ≤ limH f := fun h => by
    have hn0 : (nt q).length ≤ 1 := canon_le _ cq 1 (by omega) (by rw [vq, h]; decide)
    have := q3 h
    unfold finTE
    rw [if_neg (by omega)]
    omega
  generalize finT p (nt q) = D3 at *
  generalize finTE p (nt q) (e - (0 : Nat) + dr) = e3 at *
  obtain ⟨r1, r2, r3, r4⟩ := fin3_right lost D3 e3 want (limL f) (limH f) p t1 t2 te (fun h => t3 (hH0 (q2 h)))
  have hE : Hdg (fin3D lost D3 e3 want (limL f) (limH f) p) ∨ fin3E lost D3 e3 want (limL f) (limH f) p ≤ limH f := by
    cases lost with
    | false => exact .inl (r4 rfl)
    | true =>
      by_cases h : q = 0
      · exact .inr (tzh h)
      · exact .inl (t3 (hH0 h))
  have := fin5_right f hf mode neg _ _ (finF lost (ds.length + e) (limL f) p) r1 (by rw [hP]; exact r2) r3 hE
  rw [hP] at this
  exact this
/-- What Finish tells is right, nought or not. -/
theorem finD_right (f : Int) (hf : f = 64 ∨ f = 128) (mode : Int) (neg : Bool) (ds : List Int) (e want : Int) (hc : Canon ds) (hl : ds.length ≤ 200) :
    numB f (finD f mode neg ds e false want).1 neg (finD f mode neg ds e false want).2.1 (finD f mode neg ds e false want).2.2.1 = true := by
  unfold finD
  by_cases h : ds = [0]
  · rw [if_pos h]
    have hp : limP f ≠ 0 ∧ 1 ≤ limP f ∧ limL f ≤ limH f := by rcases hf with rfl | rfl <;> decide
    have hn : natB (limP f) { data := #[48] } = true := by
      have := natB_tx (limP f) [0] ⟨fun d hd => by simp at hd; omega, by simp, .inl rfl⟩ (by simp; omega)
      have et : tx [0] = { data := #[48] } := by apply ByteArray.ext; rw [tx_data]; rfl
      rw [et] at this
      exact this
    show numB f 1 neg (min (limH f) (max (limL f) want)) { data := #[48] } = true
    unfold numB
    rw [if_neg hp.1, if_pos rfl, hn]
    have h1 : limL f ≤ min (limH f) (max (limL f) want) := by omega
    have h2 : min (limH f) (max (limL f) want) ≤ limH f := by omega
    simp [h1, h2]
  · rw [if_neg h]
    exact finN_right f hf mode neg ds e want hc h hl
end Go.Proofs.YtdkpiofeidcffaaGreatDoor
