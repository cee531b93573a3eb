/-
  FnSquareRoot: the law's own walk.
-/
import Derived.Test.YtnkoeidolmiheaaGreatDoorNxv
import Derived.Test.YtnkoeidolmiheaaGreatDoorSdr
import Derived.Test.YtnkoeidolmiheaaGreatDoorExj
import Derived.Test.YtnkoeidolmiheaaGreatDoorSqs
import Derived.Test.YtnkoeidolmiheaaGreatDoorDrRm
import Derived.Test.YtnkoeidolmiheaaGreatDoorDrSq
import Derived.Test.YtnkoeidolmiheaaGreatDoorSpr
import Derived.Test.YtnkoeidolmiheaaGreatDoorOrt
namespace Go.Proofs.YtnkoeidolmiheaaGreatDoor
set_option linter.unusedVariables false
set_option maxRecDepth 100000
theorem sv_mul {a e b e' : Int} (h : SV a e b e') : SV (a * a) (e + e) (b * b) (e' + e') := by
  have sq : ∀ x : Int, ∀ k : Nat, x * x * 10 ^ (k + k) = x * 10 ^ k * (x * 10 ^ k) := fun x k => by rw [Int.pow_add]; grind
  rcases h with ⟨h1, h2⟩ | ⟨h1, h2⟩
  · refine .inl ⟨by omega, ?_⟩
    rw [show (e' + e' - (e + e)).toNat = (e' - e).toNat + (e' - e).toNat by omega, sq, ← h2]
  · refine .inr ⟨by omega, ?_⟩
    rw [show (e + e - (e' + e')).toNat = (e - e').toNat + (e - e').toNat by omega, sq, ← h2]
/-- One digit more than the format has, away from its bounds. -/
theorem finN_one (f : Int) (hf : f = 64 ∨ f = 128) (mode : Int) (neg : Bool) (ds : List Int) (e : Int) (rest : Bool) (want : Int) (hc : Canon ds) (hl : ds.length = (limP f).toNat + 1) (h1 : limL f ≤ e) (h2 : e + 2 ≤ limH f) :
    ∃ E R, finN (limP f).toNat (limL f) (limH f) mode neg ds e rest want = (1, E, tx R, if rndL (vl ds) 1 rest then 16 else 0) ∧ Canon R ∧ SV (vl R) E (rndV mode neg (vl ds) 1 rest) (e + 1) := by
  obtain ⟨P2, P34, hP, hLH, -, -⟩ := lims3 f hf
  generalize (limP f).toNat = p at *
  have hz : ds ≠ [0] := fun q => by rw [q] at hl; simp at hl; omega
  have hlo := canon_lo ds hc hz
  have hhi := (vl_bd ds hc.1).2
  rw [hl, show p + 1 - 1 = p by omega] at hlo
  rw [hl] at hhi
  have hj : finJ p ds.length rest = 0 := by
    unfold finJ
    cases rest with
    | false => rfl
    | true => rw [if_pos rfl]; omega
  unfold finN
  simp only [hj, Nat.add_zero, Int.pow_zero, Int.mul_one]
  have hdr : finDr p ds.length (limL f) (e - (0 : Nat)) = 1 := by unfold finDr; rw [hl]; omega
  rw [hdr]
  have hV : finV mode neg (vl ds) 1 rest = rndV mode neg (vl ds) 1 rest := by unfold finV; rw [if_neg (by omega)]
  have hLs : finLs (vl ds) 1 rest = rndL (vl ds) 1 rest := by unfold finLs; rw [if_neg (by omega)]
  rw [hV, hLs]
  have hq : 10 ^ (p - 1) ≤ rndV mode neg (vl ds) 1 rest ∧ rndV mode neg (vl ds) 1 rest ≤ 10 ^ p := by
    have e1 : (10 : Int) ^ p = 10 ^ (p - 1) * 10 := pow_pred p (by omega)
    have e2 : (10 : Int) ^ (p + 1) = 10 ^ p * 10 := Int.pow_succ ..
    unfold rndV
    rw [Int.pow_one] 
    generalize (10 : Int) ^ (p + 1) = X at *
    generalize (10 : Int) ^ p = Y at *
    generalize (10 : Int) ^ (p - 1) = Z at *
    split <;> omega
  generalize rndL (vl ds) 1 rest = lost
  generalize rndV mode neg (vl ds) 1 rest = q at *
  have hp1 := ten_pos (p - 1)
  obtain ⟨cq, vq⟩ := nt_spec q (by omega) (Int.lt_of_le_of_lt hq.2 (Int.lt_of_lt_of_le (show (10 : Int) ^ p < 10 ^ (p + 1) by rw [Int.pow_succ]; have := ten_pos p; omega) (pow_mono _ _ (by omega))))
  have lq : (nt q).length ≤ p + 1 := canon_le _ cq (p + 1) (by omega) (by rw [vq, Int.pow_succ]; have := ten_pos p; omega)
  have hH0 : Hdg (nt q) := hdg_of _ cq (by rw [vq]; omega)
  obtain ⟨t1, t2, t3⟩ := finT_right p (by omega) (nt q) cq lq
  have te : e + 1 ≤ finTE p (nt q) (e - (0 : Nat) + ((1 : Nat) : Int)) ∧ finTE p (nt q) (e - (0 : Nat) + ((1 : Nat) : Int)) ≤ e + 2 := by unfold finTE; split <;> omega
  have svT := finT_value p q (e - (0 : Nat) + ((1 : Nat) : Int)) (by omega) hq.2 (by omega) P34
  rw [show e - ((0 : Nat) : Int) + ((1 : Nat) : Int) = e + 1 by omega] at svT te ⊢
  generalize finT p (nt q) = D3 at *
  generalize finTE p (nt q) (e + 1) = e3 at *
  obtain ⟨r1, r2, r3, r4⟩ := fin3_right lost D3 e3 want (limL f) (limH f) p t1 t2 (by omega) (fun h => t3 hH0)
  have sv3 := (fin3_valueL lost D3 e3 want (limL f) (limH f) p t1.2.1).trans svT
  have hE : fin3E lost D3 e3 want (limL f) (limH f) p ≤ limH f := by
    unfold fin3E
    cases lost with
    | true => rw [if_pos rfl]; omega
    | false =>
      rw [if_neg (by decide)]
      have : e3 + (fA D3 e3 want (limH f) : Int) ≤ limH f := by unfold fA; omega
      omega
  have hF : finF lost ((ds.length : Int) + e) (limL f) p = if lost then 16 else 0 := by
    unfold finF
    cases lost with
    | false => rfl
    | true => rw [if_pos rfl, if_pos rfl, if_neg (by omega)]
  rw [hF]
  generalize fin3D lost D3 e3 want (limL f) (limH f) p = D at *
  generalize fin3E lost D3 e3 want (limL f) (limH f) p = E at *
  have hC0 : fC D.length p E (limH f) = 0 := by unfold fC; omega
  refine ⟨E, D, ?_, r1, sv3⟩
  unfold fin5 fin4E fin4D
  rw [hC0, if_pos (by omega), show E - ((0 : Nat) : Int) = E by omega, List.replicate_zero, List.append_nil]
theorem rnd_2 (v : Int) (rest : Bool) : rndV 2 false v 1 rest = v / 10 := by
  unfold rndV rndU upB upO
  rw [Int.pow_one]
  simp
theorem rnd_4 (v : Int) (rest : Bool) (h : rndL v 1 rest = true) : rndV 4 false v 1 rest = v / 10 + 1 := by
  unfold rndV rndU upB upO
  rw [Int.pow_one, h]
  simp
/-- What Sqrt tells of a right finite number that is not below nought. -/
theorem sqR_fin (f m : Int) (hm : 1 ≤ m ∧ m ≤ 5) (na : Bool) (ea : Int) (sa : ByteArray) (S : Int) (zz : Bool) (hA : numB f 1 na ea sa = true) (hn : ¬ (na = true ∧ zB 1 sa = false)) : sqR f m 1 na ea sa S zz = (na, finD f m na (nt S) ((ea - sqK f ea (dl sa).length) / 2) (!zz) (ea / 2)) := by
  have hR : rightB f m 1 (fun _ => 1) (fun _ => na) (fun _ => ea) (fun _ => sa) = true := by
    unfold rightB
    rw [decide_eq_true hm, Bool.true_and]
    exact decide_eq_true fun i hi => hA
  unfold sqR ofR
  rw [hR, if_pos rfl, if_neg (by unfold spB; simp)]
  unfold sqX
  rw [if_neg hn, if_neg (by decide)]
theorem sq_nan (f m : Int) (na : Bool) (ea : Int) (sa : ByteArray) (S : Int) (zz : Bool) (hn : na = true ∧ zB 1 sa = false) (R : R5o) (h : sqR f m 1 na ea sa S zz = R) : R.2.1 ≠ 1 := by
  rw [← h]
  unfold sqR ofR sqX
  rw [if_pos hn]
  split
  · split <;> simp
  · simp
/-- The root of a number above nought. -/
theorem sq_pos (f : Int) (hf : f = 64 ∨ f = 128) (ea : Int) (da : List Int) (hF : Fi f ea da) (hz : da ≠ [0]) (S : Int) (zz : Bool) (hS : SqH f ea (tx da) S zz) (e0 : Int) (he0 : (ea - sqK f ea da.length) / 2 = e0) (m : Int) (hm : 1 ≤ m ∧ m ≤ 5) :
    ∃ E R, sqR f m 1 false ea (tx da) S zz = (false, (1, E, tx R, if rndL S 1 (!zz) then 16 else 0)) ∧ Fi f E R ∧ SV (vl R) E (rndV m false S 1 (!zz)) (e0 + 1) ∧ limL f ≤ e0 ∧ 10 ^ (limP f).toNat ≤ S ∧ S < 10 ^ ((limP f).toNat + 1) ∧ LV (S * S) (e0 + e0) (vl da) ea ∧ (zz = true → SV (S * S) (e0 + e0) (vl da) ea) := by
  obtain ⟨P2, P34, hP, hLH, hL1, hH1⟩ := lims3 f hf
  obtain ⟨cd, ld, e1, e2⟩ := hF
  have hA : numB f 1 false ea (tx da) = true := fi_num f hf false ea da ⟨cd, ld, e1, e2⟩
  have dd : dl (tx da) = da := dl_tx da cd.1
  have v1 := vl_pos da cd hz
  obtain ⟨R, hR, hRz⟩ := hS (by rw [dd]; omega)
  rw [dd] at hR
  obtain ⟨-, nS, -, s1, s2, -, hev⟩ := sq_size f hf da cd (by omega) ea S R hR
  have s2' := s2 (by omega)
  obtain ⟨cS, vS⟩ := nt_spec S nS.1 (Int.lt_of_lt_of_le s1 (pow_mono _ _ (by omega)))
  have lS : (nt S).length = (limP f).toNat + 1 := by
    have a1 := canon_le _ cS ((limP f).toNat + 1) (by omega) (by rw [vS]; exact s1)
    have a2 : ¬ (nt S).length ≤ (limP f).toNat := fun q => by
      have b1 := (vl_bd _ cS.1).2
      rw [vS] at b1
      have := pow_mono _ _ q
      omega
    omega
  have hK : (sqK f ea da.length : Int) ≤ 2 * limP f + 1 := by
    have := cd.2.1
    unfold sqK
    split <;> omega
  have hlim : (f = 64 ∧ limP f = 16 ∧ limL f = -398 ∧ limH f = 369) ∨ (f = 128 ∧ limP f = 34 ∧ limL f = -6176 ∧ limH f = 6111) := by rcases hf with rfl | rfl <;> decide
  have h2e : e0 + e0 = ea - sqK f ea da.length := by omega
  have b1 : limL f ≤ e0 := by omega
  have b2 : e0 + 2 ≤ limH f := by omega
  obtain ⟨E, Q, hN, cQ, sv⟩ := finN_one f hf m false (nt S) e0 (!zz) (ea / 2) cS lS b1 b2
  have hz2 : nt S ≠ [0] := fun q => by rw [q] at lS; simp at lS; omega
  have hq : sqR f m 1 false ea (tx da) S zz = (false, (1, E, tx Q, if rndL S 1 (!zz) then 16 else 0)) := by
    rw [sqR_fin f m hm false ea (tx da) S zz hA (by simp), dd, he0]
    unfold finD
    rw [if_neg hz2, hN, vS]
  have hrt := finD_rightR f hf m false (nt S) e0 (!zz) (ea / 2) cS (by omega) (fun _ => by omega)
  unfold finD at hrt
  rw [if_neg hz2, hN] at hrt
  dsimp only at hrt
  obtain ⟨-, -, hFQ⟩ := fi_of f false E (tx Q) hrt
  rw [dl_tx Q cQ.1] at hFQ
  rw [vS] at sv
  refine ⟨E, Q, hq, hFQ, sv, b1, s2', s1, ?_, fun hzz => ?_⟩
  · rw [h2e, lv_at (ea - sqK f ea da.length) (Int.le_refl _) (by omega), show (ea - (sqK f ea da.length : Int) - (ea - sqK f ea da.length)).toNat = 0 by omega, show (ea - (ea - (sqK f ea da.length : Int))).toNat = sqK f ea da.length by omega, Int.pow_zero, Int.mul_one]
    have := hR.1
    have := hR.2.2.1
    omega
  · refine sv_of (ea - sqK f ea da.length) (by omega) (by omega) ?_
    rw [show (e0 + e0 - (ea - (sqK f ea da.length : Int))).toNat = 0 by omega, show (ea - (ea - (sqK f ea da.length : Int))).toNat = sqK f ea da.length by omega, Int.pow_zero, Int.mul_one]
    have h3 := hR.1
    rw [hzz] at hRz
    have h4 : R = 0 := of_decide_eq_true hRz
    omega
/-- ALL THAT FnSquareRoot WANTS of a finite root. -/
theorem sq_all (f m : Int) (hm : 1 ≤ m ∧ m ≤ 5) (na : Bool) (ea : Int) (sa : ByteArray) (S : Int) (zz : Bool) (hA : numB f 1 na ea sa = true) (hS : SqH f ea sa S zz) (R0 : Bool) (F2 : Int) (F3 : ByteArray) (F4 : Int) (h : sqR f m 1 na ea sa S zz = (R0, (1, F2, F3, F4))) :
    numB f 1 R0 F2 F3 = true ∧
    ((F4 = 0 ∧ ∃ X0 X1 X2 X3 X4, mulR f 1 1 R0 F2 F3 1 R0 F2 F3 = (X0, (X1, X2, X3, X4)) ∧ numB f X1 X0 X2 X3 = true ∧ cpR f X1 X0 X2 X3 1 na ea sa = 0)
    ∨ (F4 = 16 ∧ ∃ D0 D2 D3 D4 U0 U2 U3 U4 N0 N1 N2 N3 N4 X0 X1 X2 X3 X4, sqR f 2 1 na ea sa S zz = (D0, (1, D2, D3, D4)) ∧ numB f 1 D0 D2 D3 = true ∧ sqR f 4 1 na ea sa S zz = (U0, (1, U2, U3, U4)) ∧ numB f 1 U0 U2 U3 = true
      ∧ nuR f 1 D0 D2 D3 = (N0, (N1, N2, N3, N4)) ∧ numB f N1 N0 N2 N3 = true ∧ cpR f N1 N0 N2 N3 1 U0 U2 U3 = 0
      ∧ mulR f 2 1 D0 D2 D3 1 D0 D2 D3 = (X0, (X1, X2, X3, X4)) ∧ numB f X1 X0 X2 X3 = true ∧ (cpR f X1 X0 X2 X3 1 na ea sa = 0 ∨ cpR f X1 X0 X2 X3 1 na ea sa = -1))) := by
  obtain ⟨hf, hs, hF⟩ := fi_of f na ea sa hA
  obtain ⟨P2, P34, hP, hLH, hL1, hH1⟩ := lims3 f hf
  have hz0 : ∀ da : List Int, Canon da → (vl da = 0 ↔ da = [0]) := fun da c => ⟨fun q => by
    by_cases z : da = [0]
    · exact z
    · have := vl_pos da c z; omega, fun q => by rw [q]; rfl⟩
  by_cases hn : na = true ∧ zB 1 sa = false
  · exact absurd rfl (sq_nan f m na ea sa S zz hn _ h)
  -- a product of two finite ones
  have mul2 : ∀ (mode : Int), (1 ≤ mode ∧ mode ≤ 5) → ∀ (E : Int) (R : List Int), Fi f E R → ∀ g : Bool, ∃ X0 X1 X2 X3 X4, mulR f mode 1 g E (tx R) 1 g E (tx R) = (X0, (X1, X2, X3, X4)) ∧ numB f X1 X0 X2 X3 = true ∧ X0 = false ∧ finD f mode false (nt (vl R * vl R)) (E + E) false (E + E) = (X1, X2, X3, X4) := fun mode hmo E R hR g => by
    have hN := fi_num f hf g E R hR
    have hO : addO f mode 1 g E (tx R) 1 g E (tx R) = true := by
      unfold addO
      rw [hN, decide_eq_true hmo]
      rfl
    have hrt := mulR_right f mode 1 g E (tx R) 1 g E (tx R) hO
    rw [mulR_fin f mode hmo g E (tx R) g E (tx R) hN hN, dl_tx R hR.1.1, show (!(g == g)) = false by cases g <;> rfl] at hrt ⊢
    generalize finD f mode false (nt (vl R * vl R)) (E + E) false (E + E) = X at *
    obtain ⟨X1, X2, X3, X4⟩ := X
    exact ⟨false, X1, X2, X3, X4, rfl, hrt, rfl, rfl⟩
  generalize hda : dl sa = da at *
  subst hs
  by_cases hz : da = [0]
  · -- nought
    subst hz
    have hS0 : S = 0 := by
      obtain ⟨R, hR, -⟩ := hS (by rw [hda]; decide)
      rw [hda] at hR
      exact ((sq_size f hf [0] hF.1 (by simp; omega) ea S R hR).2.2.2.2.2.1 rfl).1
    subst hS0
    rw [sqR_fin f m hm na ea _ 0 zz hA hn] at h
    have hnt : nt 0 = [0] := (nt_of [0] 0 canon_zero rfl (by decide)).symm
    unfold finD at h
    rw [hnt, if_pos rfl] at h
    obtain ⟨rfl, -, rfl, rfl, rfl⟩ : na = R0 ∧ (1 : Int) = 1 ∧ min (limH f) (max (limL f) (ea / 2)) = F2 ∧ { data := #[48] } = F3 ∧ 0 = F4 := by simpa only [Prod.mk.injEq] using h
    have hFi : Fi f (min (limH f) (max (limL f) (ea / 2))) [0] := ⟨canon_zero, by simp; omega, by omega, by omega⟩
    rw [← tx_0]
    refine ⟨fi_num f hf na _ _ hFi, .inl ⟨rfl, ?_⟩⟩
    obtain ⟨X0, X1, X2, X3, X4, hX, hXr, rfl, hXf⟩ := mul2 1 (by decide) _ _ hFi na
    refine ⟨false, X1, X2, X3, X4, hX, hXr, ?_⟩
    rw [show vl [0] * vl [0] = 0 from rfl, hnt] at hXf
    unfold finD at hXf
    rw [if_pos rfl] at hXf
    obtain ⟨rfl, rfl, rfl, rfl⟩ : 1 = X1 ∧ min (limH f) (max (limL f) (min (limH f) (max (limL f) (ea / 2)) + min (limH f) (max (limL f) (ea / 2)))) = X2 ∧ { data := #[48] } = X3 ∧ 0 = X4 := by simpa only [Prod.mk.injEq] using hXf
    rw [← tx_0]
    rw [cp_nv f hf false _ [0] na ea [0] ⟨canon_zero, by simp; omega, by omega, by omega⟩ hF]
    unfold NV
    rw [show vl [0] = 0 from rfl, sgv_0, sgv_0, Int.zero_mul, Int.zero_mul]
    rfl
  · have v1 := vl_pos da hF.1 hz
    have hna : na = false := by
      cases na with
      | false => rfl
      | true => exact absurd ⟨rfl, by unfold zB; rw [hda]; simp; omega⟩ hn
    subst hna
    obtain ⟨e0, he0⟩ : ∃ e0, (ea - sqK f ea da.length) / 2 = e0 := ⟨_, rfl⟩
    obtain ⟨E, R, hr, hFR, sv, b1, s1, s2, hLV, hSV⟩ := sq_pos f hf ea da hF hz S zz hS e0 he0 m hm
    rw [h] at hr
    obtain ⟨rfl, -, rfl, rfl, rfl⟩ : R0 = false ∧ (1 : Int) = 1 ∧ F2 = E ∧ F3 = tx R ∧ F4 = (if rndL S 1 (!zz) then 16 else 0) := by simpa only [Prod.mk.injEq] using hr
    clear hr
    refine ⟨fi_num f hf false F2 R hFR, ?_⟩
    cases hlost : rndL S 1 (!zz) with
    | false =>
      left
      refine ⟨rfl, ?_⟩
      obtain ⟨hzz, hmod⟩ : zz = true ∧ S % 10 = 0 := by
        unfold rndL at hlost
        rw [Int.pow_one] at hlost
        simpa using hlost
      have hq : rndV m false S 1 (!zz) = S / 10 := by
        have h0 : ∀ od, upO m false (-1) false od = false := fun od => by unfold upO; simp
        have hh : halfI (S % 10) 10 (!zz) 1 = -1 := by rw [hmod, hzz]; rfl
        unfold rndV rndU upB
        rw [Int.pow_one, hh, hlost, h0]
        simp
      rw [hq] at sv
      have svR : SV (vl R) F2 S e0 := sv.trans (sv_of e0 (by omega) (Int.le_refl _) (by rw [show (e0 + 1 - e0).toNat = 1 by omega, show (e0 - e0).toNat = 0 by omega, Int.pow_one, Int.pow_zero]; omega))
      have svM := (sv_mul svR).trans (hSV hzz)
      have vR : 1 ≤ vl R := by
        by_cases z : R = [0]
        · rw [z, show vl [0] = 0 from rfl] at svR
          have := sv_zero_of svR.symm
          have := ten_pos (limP f).toNat
          omega
        · exact vl_pos R hFR.1 z
      obtain ⟨X0, X1, X2, X3, X4, hX, hXr, rfl, hXf⟩ := mul2 1 (by decide) _ _ hFR false
      refine ⟨false, X1, X2, X3, X4, hX, hXr, ?_⟩
      have hRb := (vl_bd R hFR.1.1).2
      have hRP := pow_mono R.length 34 (by have := hFR.2.1; omega)
      have hmm : vl R * vl R < 10 ^ 68 := by
        have a1 := Int.mul_lt_mul_of_pos_right (show vl R < 10 ^ 34 by omega) (show 0 < vl R by omega)
        have a2 := Int.mul_le_mul_of_nonneg_left (show vl R ≤ 10 ^ 34 by omega) (Int.le_of_lt (ten_pos 34))
        have a3 : (10 : Int) ^ 34 * 10 ^ 34 = 10 ^ 68 := by rw [← Int.pow_add]
        omega
      have hm0 : 0 < vl R * vl R := Int.mul_pos (by omega) (by omega)
      obtain ⟨cM, vM⟩ := nt_spec (vl R * vl R) (by omega) (Int.lt_of_lt_of_le hmm (pow_mono _ _ (by omega)))
      have lM := canon_le _ cM 68 (by omega) (by rw [vM]; exact hmm)
      have zM : nt (vl R * vl R) ≠ [0] := fun q => by rw [q, show vl [0] = 0 from rfl] at vM; omega
      unfold finD at hXf
      rw [if_neg zM] at hXf
      obtain ⟨D, E', hN, cD, svD, -⟩ := finN_exact f hf 1 false (nt (vl R * vl R)) (F2 + F2) (F2 + F2) cM zM (by omega) da ea hF.1 hz hF.2.1 hF.2.2.1 hF.2.2.2 (by rw [vM]; exact svM)
      rw [hN] at hXf
      obtain ⟨rfl, rfl, rfl, rfl⟩ : 1 = X1 ∧ E' = X2 ∧ tx D = X3 ∧ 0 = X4 := by simpa only [Prod.mk.injEq] using hXf
      rw [vM] at svD
      exact alike_any f hf false E' D ea da hXr hA cD hF.1 (svD.trans svM)
    | true =>
      right
      refine ⟨rfl, ?_⟩
      obtain ⟨dE, dR, hd, dF, dsv, -, -, -, -, -⟩ := sq_pos f hf ea da hF hz S zz hS e0 he0 2 (by decide)
      obtain ⟨uE, uR, hu, uF, usv, -, -, -, -, -⟩ := sq_pos f hf ea da hF hz S zz hS e0 he0 4 (by decide)
      rw [rnd_2] at dsv
      rw [rnd_4 S (!zz) hlost] at usv
      have tenP : (10 : Int) ^ (limP f).toNat = 10 ^ ((limP f).toNat - 1) * 10 := pow_pred _ (by omega)
      have hq1 : 10 ^ ((limP f).toNat - 1) ≤ S / 10 := by
        generalize (10 : Int) ^ (limP f).toNat = X at *
        generalize (10 : Int) ^ ((limP f).toNat - 1) = Y at *
        omega
      have tp := ten_pos ((limP f).toNat - 1)
      obtain ⟨k, hk⟩ : ∃ k, (e0 + 1 - limL f).toNat = k := ⟨_, rfl⟩
      have nvd : NV f false dE dR = S / 10 * 10 ^ k := by
        have := sv_at dsv (limL f) dF.2.2.1 (by omega)
        rw [hk] at this
        exact this
      have nvu : NV f false uE uR = (S / 10 + 1) * 10 ^ k := by
        have := sv_at usv (limL f) uF.2.2.1 (by omega)
        rw [hk] at this
        exact this
      have hdu : NV f false dE dR < NV f false uE uR := by
        rw [nvd, nvu]
        exact Int.mul_lt_mul_of_pos_right (by omega) (ten_pos k)
      have hd0 := (nvF_bd f dE dR dF).1
      obtain ⟨X0, X1, X2, X3, X4, hX, hXr, rfl, hXf⟩ := mul2 2 (by decide) _ _ dF false
      have hmul : cpR f X1 false X2 X3 1 false ea (tx da) = 0 ∨ cpR f X1 false X2 X3 1 false ea (tx da) = -1 := by
        have hRb := (vl_bd dR dF.1.1)
        have hRP := pow_mono dR.length 34 (by have := dF.2.1; omega)
        have hmm : vl dR * vl dR < 10 ^ 68 := by
          have a1 := Int.mul_le_mul_of_nonneg_right (show vl dR ≤ 10 ^ 34 - 1 by omega) hRb.1
          have a2 := Int.mul_le_mul_of_nonneg_left (show vl dR ≤ 10 ^ 34 - 1 by omega) (show (0 : Int) ≤ 10 ^ 34 - 1 by decide)
          have a3 : ((10 : Int) ^ 34 - 1) * (10 ^ 34 - 1) < 10 ^ 68 := by decide
          omega
        have hm0 : 0 ≤ vl dR * vl dR := Int.mul_nonneg hRb.1 hRb.1
        obtain ⟨cM, vM⟩ := nt_spec (vl dR * vl dR) hm0 (Int.lt_of_lt_of_le hmm (pow_mono _ _ (by omega)))
        have lM := canon_le _ cM 68 (by omega) (by rw [vM]; exact hmm)
        obtain ⟨rfl, R', rfl, dR', hl'⟩ := finD_dn f hf 2 false (nt (vl dR * vl dR)) (dE + dE) false (dE + dE) cM (by omega) (fun q => by cases q) rfl X1 X2 X3 X4 hXf
        rw [vM] at hl'
        obtain ⟨-, -, hFX⟩ := fi_of f false X2 (tx R') hXr
        rw [dl_tx R' dR'] at hFX
        refine cp_le f false X2 R' false ea da hXr hA hFX.1 hF.1 ?_
        refine hl'.trans (LV.trans (sv_mul dsv).lv (LV.trans ?_ hLV))
        rw [lv_at (e0 + e0) (by omega) (Int.le_refl _), show (e0 + 1 + (e0 + 1) - (e0 + e0)).toNat = 2 by omega, show (e0 + e0 - (e0 + e0)).toNat = 0 by omega, Int.pow_zero, Int.mul_one]
        have a1 : S / 10 * 10 ≤ S := by omega
        have a2 : 0 ≤ S / 10 * 10 := by omega
        have a3 := Int.mul_le_mul a1 a1 a2 (by omega)
        have a4 : S / 10 * (S / 10) * 10 ^ 2 = S / 10 * 10 * (S / 10 * 10) := by grind
        omega
      rcases up_any f hf false dE dR dF with ⟨n', e', d', hr, hF', g1, g2⟩ | ⟨hr, g2⟩
      · refine ⟨false, dE, tx dR, _, false, uE, tx uR, _, n', 1, e', tx d', 0, false, X1, X2, X3, X4, hd, fi_num f hf _ _ _ dF, hu, fi_num f hf _ _ _ uF, hr, fi_num f hf _ _ _ hF', ?_, hX, hXr, hmul⟩
        rw [cp_nv f hf n' e' d' false uE uR hF' uF]
        have a1 := g2 false uE uR uF hdu
        have hn' : n' = false := by
          cases n' with
          | false => rfl
          | true =>
            have := nvF_neg f false e' d'
            rw [show (!false) = true from rfl] at this
            have := (nvF_bd f e' d' hF').1
            omega
        subst hn'
        obtain ⟨-, k2, c1, c2, c3, -⟩ := nvF_bd f e' d' hF'
        have a2 : NV f false uE uR ≤ NV f false e' d' := by
          rw [nvu, c1]
          rw [nvd, c1] at g1
          exact lat_up (limP f).toNat k k2 (S / 10) (vl d') (by omega) c2 c3 (.inl hq1) g1
        rw [show NV f false e' d' = NV f false uE uR by omega]
        exact cI_same _
      · have := g2 false uE uR uF
        omega
end Go.Proofs.YtnkoeidolmiheaaGreatDoor
namespace Go.Proofs.YtnkoeidolmiheaaGreatDoor
open Go.RowKit
set_option linter.unusedVariables false
set_option maxRecDepth 100000
/-- The number in its block. -/
def M1 (w : World) (p : Nat) (ka : Int) (na : Bool) (ea : Int) (sa : ByteArray) (W : World) : Prop := At4r W p (.int .i64 ka) (.bool na) (.int .i64 ea) (.string sa) ∧ Below w.heap.size w W
theorem m1_new {w : World} (w0 : World) (hw : Below w.heap.size w w0) (ka : Int) (na : Bool) (ea : Int) (sa : ByteArray) : M1 w w0.heap.size ka na ea sa (w0.alloc (.cells #[.int .i64 ka, .bool na, .int .i64 ea, .string sa] 25)) :=
  ⟨at4r_new w0 _ _ _ _, hw.alloc hw.size _⟩
theorem M1.next {w W W' : World} {p : Nat} {ka : Int} {na : Bool} {ea : Int} {sa : ByteArray} (h : M1 w p ka na ea sa W) (hb : Below W.heap.size W W') : M1 w p ka na ea sa W' := ⟨h.1.next hb, h.2.trans (hb.mono h.2.size)⟩
theorem sq_right {f m : Int} {ka : Int} {na : Bool} {ea : Int} {sa : ByteArray} (h : rightB f m 1 (fun _ => ka) (fun _ => na) (fun _ => ea) (fun _ => sa) = true) : (1 ≤ m ∧ m ≤ 5) ∧ numB f ka na ea sa = true := by
  unfold rightB at h
  have h2 := Bool.and_eq_true_iff.1 h
  exact ⟨of_decide_eq_true h2.1, of_decide_eq_true h2.2 0 (by decide)⟩
theorem sq_wrong (f m : Int) (ka : Int) (na : Bool) (ea : Int) (sa : ByteArray) (S : Int) (zz : Bool) (h : rightB f m 1 (fun _ => ka) (fun _ => na) (fun _ => ea) (fun _ => sa) = false) : sqR f m ka na ea sa S zz = (false, (0, 0, { data := #[] }, 0)) := by
  unfold sqR ofR
  rw [h]
  rfl
theorem sq_kind (f m : Int) (ka : Int) (na : Bool) (ea : Int) (sa : ByteArray) (S : Int) (zz : Bool) (h : rightB f m 1 (fun _ => ka) (fun _ => na) (fun _ => ea) (fun _ => sa) = true) (hS : SqH f ea sa S zz) : (sqR f m ka na ea sa S zz).2.1 ≠ 0 ∧ ((sqR f m ka na ea sa S zz).2.1 = 1 → ka = 1 ∧ (1 ≤ m ∧ m ≤ 5) ∧ numB f 1 na ea sa = true) := by
  obtain ⟨hm, hA⟩ := sq_right h
  by_cases hs : spB 1 (fun _ => ka) = true
  · have e : sqR f m ka na ea sa S zz = (false, (3, 0, { data := #[] }, spF 1 (fun _ => ka))) := by
      unfold sqR ofR
      rw [h, if_pos rfl, if_pos hs]
    rw [e]
    exact ⟨show (3 : Int) ≠ 0 by decide, fun q => absurd (show (3 : Int) = 1 from q) (by decide)⟩
  have h34 : ka ≠ 3 ∧ ka ≠ 4 := ⟨fun q => hs (by unfold spB; exact decide_eq_true ⟨0, by decide, .inl q⟩), fun q => hs (by unfold spB; exact decide_eq_true ⟨0, by decide, .inr q⟩)⟩
  obtain ⟨hf, -, hk, -⟩ := right_two f ka na ea sa hA h34.1 h34.2
  rcases hk with rfl | rfl
  · refine ⟨?_, fun _ => ⟨rfl, hm, hA⟩⟩
    by_cases hn : na = true ∧ zB 1 sa = false
    · have e : sqR f m 1 na ea sa S zz = (false, (3, 0, { data := #[] }, 1)) := by
        unfold sqR ofR
        rw [h, if_pos rfl, if_neg hs]
        unfold sqX
        rw [if_pos hn]
      rw [e]
      decide
    · obtain ⟨-, hs1, hF⟩ := fi_of f na ea sa hA
      by_cases hz : dl sa = [0]
      · have hS0 : S = 0 := by
          obtain ⟨R, hR, -⟩ := hS (by rw [hz]; decide)
          rw [hz] at hR hF
          have hP := (lims3 f hf).2.2.1
          exact ((sq_size f hf [0] hF.1 (by have := hF.2.1; omega) ea S R hR).2.2.2.2.2.1 rfl).1
        rw [sqR_fin f m hm na ea sa S zz hA hn, hS0, show nt 0 = [0] from (nt_of [0] 0 canon_zero rfl (by decide)).symm]
        unfold finD
        rw [if_pos rfl]
        show (1 : Int) ≠ 0
        decide
      · have hna : na = false := by
          cases na with
          | false => rfl
          | true => exact absurd ⟨rfl, by unfold zB; have := vl_pos _ hF.1 hz; simp; omega⟩ hn
        subst hna
        generalize hda : dl sa = da at *
        subst hs1
        obtain ⟨E, R, hr, -⟩ := sq_pos f hf ea da hF hz S zz hS _ rfl m hm
        rw [hr]
        show (1 : Int) ≠ 0
        decide
  · have e : sqR f m 2 na ea sa S zz = (na, (2, 0, { data := #[] }, 0)) ∨ sqR f m 2 na ea sa S zz = (false, (3, 0, { data := #[] }, 1)) := by
      unfold sqR ofR
      rw [h, if_pos rfl, if_neg hs]
      unfold sqX
      split
      · exact .inr rfl
      · exact .inl rfl
    rcases e with e | e
    · rw [e]
      exact ⟨show (2 : Int) ≠ 0 by decide, fun q => absurd (show (2 : Int) = 1 from q) (by decide)⟩
    · rw [e]
      exact ⟨show (3 : Int) ≠ 0 by decide, fun q => absurd (show (3 : Int) = 1 from q) (by decide)⟩
set_option maxRecDepth 100000 in
set_option maxHeartbeats 4000000 in
theorem fnSquareRoot_any (a0 : Option Addr) (len0 cap0 : Nat) (w : World) (hbig : ¬ 4096 < len0) (hb : Bytes w.heap.size w a0 len0) :
    Calls Tryz.prog 3 #[.slice a0 len0 cap0] w fun e w' => e = .returned (.bool true) ∧ Below w.heap.size w w' := by
  have hB : Hid (Bytes w.heap.size w a0 len0) := hb
  clear hb
  go_enter Tryz.func3, Tryz.ntmps3
  go_wp2_with fail
  refine (big_no _ _ _ _ hbig).mono ?_
  rintro e w' ⟨rfl, hw⟩
  obtain rfl := hw.symm
  go_wp2_with fail
  refine (DrawSqrt_any _ _ _ _ (by omega) hB.out).mono ?_
  rintro e w1 ⟨f, m, ka, na, ea, sa, rfl, hsa, hb1⟩
  obtain ⟨S, zz, hSq⟩ := sq_some f ea sa
  have HI : Hid (∀ X, Calls Tryz.prog 10 #[.int .i64 f, .int .i64 m, numV ka na ea sa] X fun x w' => x = .returned (rsD (sqR f m ka na ea sa S zz).1 (sqR f m ka na ea sa S zz).2) ∧ Below X.heap.size X w') := fun X => iSqrt_any f m ka na ea sa S zz X (by omega) hSq
  have HS : Hid (∀ X, Calls Tryz.prog 11 #[.int .i64 f, .int .i64 m, numV ka na ea sa] X fun x w' => x = .returned (rsD (sqR f m ka na ea sa S zz).1 (sqR f m ka na ea sa S zz).2) ∧ Below X.heap.size X w') := fun X => sSqrt_any f m ka na ea sa S zz X (by omega) hSq
  have HN : Hid (rightB f m 1 (fun _ => ka) (fun _ => na) (fun _ => ea) (fun _ => sa) = false → sqR f m ka na ea sa S zz = (false, (0, 0, { data := #[] }, 0))) := fun h => sq_wrong f m ka na ea sa S zz h
  have HK : Hid (rightB f m 1 (fun _ => ka) (fun _ => na) (fun _ => ea) (fun _ => sa) = true → (sqR f m ka na ea sa S zz).2.1 ≠ 0) := fun h => (sq_kind f m ka na ea sa S zz h hSq).1
  have HU : Hid (rightB f m 1 (fun _ => ka) (fun _ => na) (fun _ => ea) (fun _ => sa) = true → ∀ (R0 : Bool) (F1 F2 : Int) (F3 : ByteArray) (F4 : Int), sqR f m ka na ea sa S zz = (R0, (F1, F2, F3, F4)) → F1 = 1 →
      ka = 1 ∧
      ((F4 = 0 ∧ ∃ (X1 : Int) (X0 : Bool) (X2 : Int) (X3 : ByteArray) (X4 : Int),
        (∀ X, Calls Tryz.prog 14 #[.int .i64 f, .int .i64 1, numV 1 R0 F2 F3, numV 1 R0 F2 F3] X fun x w' => x = .returned (rsV X1 X0 X2 X3 X4) ∧ Below X.heap.size X w')
        ∧ (∀ X, Calls Tryz.prog 13 #[.int .i64 f, numV X1 X0 X2 X3, numV 1 na ea sa] X fun x w' => x = .returned (.int .i64 0) ∧ Below X.heap.size X w'))
      ∨ (F4 = 16 ∧ ∃ (D0 : Bool) (D2 : Int) (D3 : ByteArray) (D4 : Int) (U0 : Bool) (U2 : Int) (U3 : ByteArray) (U4 : Int) (N0 : Bool) (N1 N2 : Int) (N3 : ByteArray) (N4 : Int) (X0 : Bool) (X1 X2 : Int) (X3 : ByteArray) (X4 : Int) (cc : Int),
        (∀ X, Calls Tryz.prog 10 #[.int .i64 f, .int .i64 2, numV 1 na ea sa] X fun x w' => x = .returned (rsV 1 D0 D2 D3 D4) ∧ Below X.heap.size X w')
        ∧ (∀ X, Calls Tryz.prog 10 #[.int .i64 f, .int .i64 4, numV 1 na ea sa] X fun x w' => x = .returned (rsV 1 U0 U2 U3 U4) ∧ Below X.heap.size X w')
        ∧ (∀ X, Calls Tryz.prog 14 #[.int .i64 f, .int .i64 2, numV 1 D0 D2 D3, numV 1 D0 D2 D3] X fun x w' => x = .returned (rsV X1 X0 X2 X3 X4) ∧ Below X.heap.size X w')
        ∧ (∀ X, Calls Tryz.prog 13 #[.int .i64 f, numV X1 X0 X2 X3, numV 1 na ea sa] X fun x w' => x = .returned (.int .i64 cc) ∧ Below X.heap.size X w')
        ∧ (∀ X, Calls Tryz.prog 15 #[.int .i64 f, numV 1 D0 D2 D3] X fun x w' => x = .returned (rsV N1 N0 N2 N3 N4) ∧ Below X.heap.size X w')
        ∧ (∀ X, Calls Tryz.prog 13 #[.int .i64 f, numV N1 N0 N2 N3, numV 1 U0 U2 U3] X fun x w' => x = .returned (.int .i64 0) ∧ Below X.heap.size X w')
        ∧ (cc = 0 ∨ cc = -1)))) := by
    intro hO R0 F1 F2 F3 F4 hR hF1
    obtain ⟨hk, hm, hA⟩ := (sq_kind f m ka na ea sa S zz hO hSq).2 (by rw [hR]; exact hF1)
    subst hk hF1
    refine ⟨rfl, ?_⟩
    obtain ⟨hNr, hall⟩ := sq_all f m hm na ea sa S zz hA hSq R0 F2 F3 F4 hR
    have zF := numB_size f 1 R0 F2 F3 hNr
    have zA : sa.size ≤ 4611686018427387904 := by omega
    rcases hall with ⟨e4, X0, X1, X2, X3, X4, hX, hXr, hXc⟩ | ⟨e4, D0, D2, D3, D4, U0, U2, U3, U4, N0, N1, N2, N3, N4, X0, X1, X2, X3, X4, hd, hdr, hu, hur, hn, hnr, hnc, hX, hXr, hXc⟩
    · refine .inl ⟨e4, X1, X0, X2, X3, X4, fun X => ?_, fun X => ?_⟩
      · have := iMul_any f 1 1 R0 F2 F3 1 R0 F2 F3 X zF zF
        rw [hX] at this
        exact this
      · have := sCompare_any f X1 X0 X2 X3 1 na ea sa X (numB_size f X1 X0 X2 X3 hXr) zA
        rw [hXc] at this
        exact this
    · have zD := numB_size f 1 D0 D2 D3 hdr
      have zU := numB_size f 1 U0 U2 U3 hur
      refine .inr ⟨e4, D0, D2, D3, D4, U0, U2, U3, U4, N0, N1, N2, N3, N4, X0, X1, X2, X3, X4, _, fun X => ?_, fun X => ?_, fun X => ?_, fun X => sCompare_any f X1 X0 X2 X3 1 na ea sa X (numB_size f X1 X0 X2 X3 hXr) zA, fun X => ?_, fun X => ?_, hXc⟩
      · have := iSqrt_any f 2 1 na ea sa S zz X zA hSq
        rw [hd] at this
        exact this
      · have := iSqrt_any f 4 1 na ea sa S zz X zA hSq
        rw [hu] at this
        exact this
      · have := iMul_any f 2 1 D0 D2 D3 1 D0 D2 D3 X zD zD
        rw [hX] at this
        exact this
      · have := sNextUp_any f 1 D0 D2 D3 X zD
        rw [hn] at this
        exact this
      · have := sCompare_any f N1 N0 N2 N3 1 U0 U2 U3 X (numB_size f N1 N0 N2 N3 hnr) zU
        rw [hnc] at this
        exact this
  clear hSq
  generalize sqR f m ka na ea sa S zz = R at *
  obtain ⟨R0, F1, F2, F3, F4⟩ := R
  generalize rightB f m 1 (fun _ => ka) (fun _ => na) (fun _ => ea) (fun _ => sa) = O at *
  have HI' : Hid (∀ X, Calls Tryz.prog 10 #[.int .i64 f, .int .i64 m, numV ka na ea sa] X fun x w' => x = .returned (rsV F1 R0 F2 F3 F4) ∧ Below X.heap.size X w') := HI
  have HS' : Hid (∀ X, Calls Tryz.prog 11 #[.int .i64 f, .int .i64 m, numV ka na ea sa] X fun x w' => x = .returned (rsV F1 R0 F2 F3 F4) ∧ Below X.heap.size X w') := HS
  have HNh : Hid (O = false → (R0, F1, F2, F3, F4) = (false, 0, 0, { data := #[] }, 0)) := HN
  have HKh : Hid (O = true → F1 ≠ 0) := HK
  have HUh := HU.out
  have HUg : Hid (O = true → F1 = 1 → _) := fun h1 h2 => HUh h1 R0 F1 F2 F3 F4 rfl h2
  clear HI HS HN HK HU HUh
  have HM1 : Hid (M1 w w1.heap.size ka na ea sa (w1.alloc (.cells #[.int .i64 ka, .bool na, .int .i64 ea, .string sa] 25))) := m1_new w1 hb1 ka na ea sa
  clear hb1 hB hbig hsa
  go_wp2_with fail
  refine (HI'.out _).mono ?_
  rintro x w3 ⟨rfl, hb3⟩
  have HM3 : Hid (M1 w w1.heap.size ka na ea sa w3) := HM1.out.next hb3
  have hb4 : Below w3.heap.size w3 (w3.alloc (.cells #[.int .i64 F1, .bool R0, .int .i64 F2, .string F3, .int .i64 F4] 29)) := (Below.refl _ _).alloc (Nat.le_refl _) _
  have HM4 : Hid (M1 w w1.heap.size ka na ea sa (w3.alloc (.cells #[.int .i64 F1, .bool R0, .int .i64 F2, .string F3, .int .i64 F4] 29)) ∧ At5 (w3.alloc (.cells #[.int .i64 F1, .bool R0, .int .i64 F2, .string F3, .int .i64 F4] 29)) w3.heap.size (.int .i64 F1) (.bool R0) (.int .i64 F2) (.string F3) (.int .i64 F4)) := ⟨HM3.out.next hb4, at5_new w3 _ _ _ _ _⟩
  clear hb3 hb4 HM3 HM1 HI'
  go_upto_region 5 with fail
  generalize (w3.alloc (.cells #[.int .i64 F1, .bool R0, .int .i64 F2, .string F3, .int .i64 F4] 29)) = w4 at *
  generalize w1.heap.size = p at *
  generalize w3.heap.size = q at *
  have HX0 : Hid (Below w4.heap.size w4 w4.drew) := (Below.refl _ _).drew
  refine wp_region_class (C := fun W => Below w4.heap.size w4 W) (by kernel_rfl) (by kernel_rfl) HX0.out ?_
  have hne := neq_res_same F1 R0 F2 F3 F4
  repeat (first | go_big_quiet_skip | (refine wpQuiet_step ?_; intro K hK; go_simp; first | go_big_quiet_on | (apply Exists.intro; refine ⟨fun wx hC => ?_, ?_⟩; (first | exact rfl | ((with_reducible refine Calls.class_of (HS'.out wx) ?_); exact fun w' hb => bel1 hC hb) | (obtain ⟨a0, a1, a2, a3, a4⟩ := (HM4.out.1.next hC).1.cells; go_simp; exact rfl) | (obtain ⟨a0, a1, a2, a3, a4, a5⟩ := (HM4.out.2.below hC HM4.out.2.lt).cells; go_simp; exact rfl)); go_big_quiet_on)))
  refine wpQuiet_nil ?_
  intro w5 hb5
  have HM5 : Hid (M1 w p ka na ea sa w5 ∧ At5 w5 q (.int .i64 F1) (.bool R0) (.int .i64 F2) (.string F3) (.int .i64 F4)) := ⟨HM4.out.1.next hb5, HM4.out.2.below hb5 HM4.out.2.lt⟩
  clear hb5 HM4 HX0 HS' hne
  obtain ⟨r0, r1, r2, r3, r4, r5⟩ := HM5.out.2.cells
  obtain ⟨c0, c1, c2, c3, c4⟩ := HM5.out.1.1.cells
  cases O with
  | false =>
    have hN := HNh.out rfl
    obtain ⟨rfl, rfl, rfl, rfl, rfl⟩ := hN
    have heq := eql_res_same 0 false 0 { data := #[] } 0
    have hbd : ∀ w : World, (Instr.build 29 #[]).run Tryz.prog w = .ok (rsV 0 false 0 { data := #[] } 0) w := fun w => run_build w _ _ _ (by kernel_rfl)
    clear HNh HKh HUg
    go_wp2
    go_ret
    exact ⟨rfl, HM5.out.1.2⟩
  | true =>
    have hk0 := HKh.out rfl
    have hk0b : (F1 == 0) = false := beq_eq_false_iff_ne.2 hk0
    clear HNh HKh
    go_wp2_with fail
    refine (finite_any F1 R0 F2 F3 _).mono ?_
    rintro x w6 ⟨rfl, hb6⟩
    have HM6 : Hid (M1 w p ka na ea sa w6 ∧ At5 w6 q (.int .i64 F1) (.bool R0) (.int .i64 F2) (.string F3) (.int .i64 F4)) := ⟨HM5.out.1.next hb6, HM5.out.2.below hb6 HM5.out.2.lt⟩
    clear hb6 HM5 r0 r1 r2 r3 r4 r5 c0 c1 c2 c3 c4
    obtain ⟨r0, r1, r2, r3, r4, r5⟩ := HM6.out.2.cells
    by_cases hF : F1 = 1
    case neg =>
      rw [decide_eq_false hF]
      clear hF HUg
      go_wp2
      go_ret
      exact ⟨rfl, HM6.out.1.2⟩
    rw [decide_eq_true hF]
    have hall := HUg.out (by first | exact trivial | exact rfl) hF
    clear HUg
    obtain ⟨hka, hall⟩ := hall
    subst hka hF
    rcases hall with ⟨rfl, X1, X0, X2, X3, X4, g1, g2⟩ | ⟨rfl, D0, D2, D3, D4, U0, U2, U3, U4, N0, N1, N2, N3, N4, X0, X1, X2, X3, X4, cc, g1, g2, g3, g4, g5, g6, g7⟩
    · have HQ1 : Hid (∀ X, Calls Tryz.prog 14 #[.int .i64 f, .int .i64 1, numV 1 R0 F2 F3, numV 1 R0 F2 F3] X fun x w' => x = .returned (rsV X1 X0 X2 X3 X4) ∧ Below X.heap.size X w') := g1
      have HQ2 : Hid (∀ X, Calls Tryz.prog 13 #[.int .i64 f, numV X1 X0 X2 X3, numV 1 na ea sa] X fun x w' => x = .returned (.int .i64 0) ∧ Below X.heap.size X w') := g2
      have hfld := field_res X1 X0 X2 X3 X4
      clear g1 g2 hk0 hk0b
      go_upto_region 10 with fail
      clear r0 r1 r2 r3 r4 r5
      have HX5 : Hid (Below w6.heap.size w6 w6.drew) := (Below.refl _ _).drew
      refine wp_region_class (C := fun W => Below w6.heap.size w6 W) (by kernel_rfl) (by kernel_rfl) HX5.out ?_
      repeat (first | go_big_quiet_skip | (refine wpQuiet_step ?_; intro K hK; go_simp; first | go_big_quiet_on | (apply Exists.intro; refine ⟨fun wx hC => ?_, ?_⟩; (first | exact rfl | ((with_reducible refine Calls.class_of (HQ1.out wx) ?_); exact fun w' hb => bel1 hC hb) | ((with_reducible refine Calls.class_of (HQ2.out wx) ?_); exact fun w' hb => bel1 hC hb) | (obtain ⟨a0, a1, a2, a3, a4⟩ := (HM6.out.1.next hC).1.cells; go_simp; exact rfl) | (obtain ⟨a0, a1, a2, a3, a4, a5⟩ := (HM6.out.2.below hC HM6.out.2.lt).cells; go_simp; exact rfl)); go_big_quiet_on)))
      refine wpQuiet_nil ?_
      intro w7 hb7
      have hbe := HM6.out.1.2.trans (hb7.mono HM6.out.1.2.size)
      clear HM6 HQ1 HQ2 hb7
      go_wp2
      go_ret
      exact ⟨rfl, hbe⟩
    · have HQ1 : Hid (∀ X, Calls Tryz.prog 10 #[.int .i64 f, .int .i64 2, numV 1 na ea sa] X fun x w' => x = .returned (rsV 1 D0 D2 D3 D4) ∧ Below X.heap.size X w') := g1
      have HQ2 : Hid (∀ X, Calls Tryz.prog 10 #[.int .i64 f, .int .i64 4, numV 1 na ea sa] X fun x w' => x = .returned (rsV 1 U0 U2 U3 U4) ∧ Below X.heap.size X w') := g2
      have HQ3 : Hid (∀ X, Calls Tryz.prog 14 #[.int .i64 f, .int .i64 2, numV 1 D0 D2 D3, numV 1 D0 D2 D3] X fun x w' => x = .returned (rsV X1 X0 X2 X3 X4) ∧ Below X.heap.size X w') := g3
      have HQ4 : Hid (∀ X, Calls Tryz.prog 13 #[.int .i64 f, numV X1 X0 X2 X3, numV 1 na ea sa] X fun x w' => x = .returned (.int .i64 cc) ∧ Below X.heap.size X w') := g4
      have HQ5 : Hid (∀ X, Calls Tryz.prog 15 #[.int .i64 f, numV 1 D0 D2 D3] X fun x w' => x = .returned (rsV N1 N0 N2 N3 N4) ∧ Below X.heap.size X w') := g5
      have HQ6 : Hid (∀ X, Calls Tryz.prog 13 #[.int .i64 f, numV N1 N0 N2 N3, numV 1 U0 U2 U3] X fun x w' => x = .returned (.int .i64 0) ∧ Below X.heap.size X w') := g6
      have HCc : Hid (cc = 0 ∨ cc = -1) := g7
      have hfl1 := field_res X1 X0 X2 X3 X4
      have hfl2 := field_res N1 N0 N2 N3 N4
      clear g1 g2 g3 g4 g5 g6 g7 hk0 hk0b
      obtain ⟨c0, c1, c2, c3, c4⟩ := HM6.out.1.1.cells
      go_wp2_with fail
      refine (HQ1.out _).mono ?_
      rintro x w8 ⟨rfl, hb8⟩
      have HM8 : Hid (M1 w p 1 na ea sa w8 ∧ At5 w8 q (.int .i64 1) (.bool R0) (.int .i64 F2) (.string F3) (.int .i64 16)) := ⟨HM6.out.1.next hb8, HM6.out.2.below hb8 HM6.out.2.lt⟩
      have hb9 : Below w8.heap.size w8 (w8.alloc (.cells #[.int .i64 1, .bool D0, .int .i64 D2, .string D3, .int .i64 D4] 29)) := (Below.refl _ _).alloc (Nat.le_refl _) _
      have HM9 : Hid ((M1 w p 1 na ea sa (w8.alloc (.cells #[.int .i64 1, .bool D0, .int .i64 D2, .string D3, .int .i64 D4] 29)) ∧ At5 (w8.alloc (.cells #[.int .i64 1, .bool D0, .int .i64 D2, .string D3, .int .i64 D4] 29)) q (.int .i64 1) (.bool R0) (.int .i64 F2) (.string F3) (.int .i64 16)) ∧ At5 (w8.alloc (.cells #[.int .i64 1, .bool D0, .int .i64 D2, .string D3, .int .i64 D4] 29)) w8.heap.size (.int .i64 1) (.bool D0) (.int .i64 D2) (.string D3) (.int .i64 D4)) := ⟨⟨HM8.out.1.next hb9, HM8.out.2.below hb9 HM8.out.2.lt⟩, at5_new w8 _ _ _ _ _⟩
      clear hb8 hb9 HM8 HM6 HQ1 c0 c1 c2 c3 c4 r0 r1 r2 r3 r4 r5
      go_upto_region 12 with fail
      generalize (w8.alloc (.cells #[.int .i64 1, .bool D0, .int .i64 D2, .string D3, .int .i64 D4] 29)) = w9 at *
      generalize w8.heap.size = u at *
      obtain ⟨c0, c1, c2, c3, c4⟩ := HM9.out.1.1.1.cells
      go_wp2_with fail
      refine (HQ2.out _).mono ?_
      rintro x w10 ⟨rfl, hb10⟩
      have HM10 : Hid ((M1 w p 1 na ea sa w10 ∧ At5 w10 q (.int .i64 1) (.bool R0) (.int .i64 F2) (.string F3) (.int .i64 16)) ∧ At5 w10 u (.int .i64 1) (.bool D0) (.int .i64 D2) (.string D3) (.int .i64 D4)) := ⟨⟨HM9.out.1.1.next hb10, HM9.out.1.2.below hb10 HM9.out.1.2.lt⟩, HM9.out.2.below hb10 HM9.out.2.lt⟩
      have hb11 : Below w10.heap.size w10 (w10.alloc (.cells #[.int .i64 1, .bool U0, .int .i64 U2, .string U3, .int .i64 U4] 29)) := (Below.refl _ _).alloc (Nat.le_refl _) _
      have HM11 : Hid (((M1 w p 1 na ea sa (w10.alloc (.cells #[.int .i64 1, .bool U0, .int .i64 U2, .string U3, .int .i64 U4] 29)) ∧ At5 (w10.alloc (.cells #[.int .i64 1, .bool U0, .int .i64 U2, .string U3, .int .i64 U4] 29)) q (.int .i64 1) (.bool R0) (.int .i64 F2) (.string F3) (.int .i64 16)) ∧ At5 (w10.alloc (.cells #[.int .i64 1, .bool U0, .int .i64 U2, .string U3, .int .i64 U4] 29)) u (.int .i64 1) (.bool D0) (.int .i64 D2) (.string D3) (.int .i64 D4)) ∧ At5 (w10.alloc (.cells #[.int .i64 1, .bool U0, .int .i64 U2, .string U3, .int .i64 U4] 29)) w10.heap.size (.int .i64 1) (.bool U0) (.int .i64 U2) (.string U3) (.int .i64 U4)) := ⟨⟨⟨HM10.out.1.1.next hb11, HM10.out.1.2.below hb11 HM10.out.1.2.lt⟩, HM10.out.2.below hb11 HM10.out.2.lt⟩, at5_new w10 _ _ _ _ _⟩
      clear hb10 hb11 HM10 HM9 HQ2 c0 c1 c2 c3 c4
      go_upto_region 13 with fail
      generalize (w10.alloc (.cells #[.int .i64 1, .bool U0, .int .i64 U2, .string U3, .int .i64 U4] 29)) = w11 at *
      generalize w10.heap.size = v at *
      have HX5 : Hid (Below w11.heap.size w11 w11.drew) := (Below.refl _ _).drew
      rcases HCc.out with rfl | rfl
      all_goals
        refine wp_region_class (C := fun W => Below w11.heap.size w11 W) (by kernel_rfl) (by kernel_rfl) HX5.out ?_
        repeat (first | go_big_quiet_skip | (refine wpQuiet_step ?_; intro K hK; go_simp; first | go_big_quiet_on | (apply Exists.intro; refine ⟨fun wx hC => ?_, ?_⟩; (first | exact rfl | ((with_reducible refine Calls.class_of (HQ3.out wx) ?_); exact fun w' hb => bel1 hC hb) | ((with_reducible refine Calls.class_of (HQ4.out wx) ?_); exact fun w' hb => bel1 hC hb) | ((with_reducible refine Calls.class_of (HQ5.out wx) ?_); exact fun w' hb => bel1 hC hb) | ((with_reducible refine Calls.class_of (HQ6.out wx) ?_); exact fun w' hb => bel1 hC hb) | (obtain ⟨a0, a1, a2, a3, a4⟩ := (HM11.out.1.1.1.next hC).1.cells; go_simp; exact rfl) | (obtain ⟨a0, a1, a2, a3, a4, a5⟩ := (HM11.out.1.1.2.below hC HM11.out.1.1.2.lt).cells; go_simp; exact rfl) | (obtain ⟨a0, a1, a2, a3, a4, a5⟩ := (HM11.out.1.2.below hC HM11.out.1.2.lt).cells; go_simp; exact rfl) | (obtain ⟨a0, a1, a2, a3, a4, a5⟩ := (HM11.out.2.below hC HM11.out.2.lt).cells; go_simp; exact rfl)); go_big_quiet_on)))
        refine wpQuiet_nil ?_
        intro w12 hb12
        have hbe := HM11.out.1.1.1.2.trans (hb12.mono HM11.out.1.1.1.2.size)
        clear HM11 HQ3 HQ4 HQ5 HQ6 hb12
        go_wp2
        go_ret
        exact ⟨rfl, hbe⟩
theorem fnSquareRoot_all (a0 : Option Addr) (len0 cap0 : Nat) (w : World) (hb : Bytes w.heap.size w a0 len0) :
    Calls Tryz.prog 3 #[.slice a0 len0 cap0] w fun e w' => e = .returned (.bool true) ∧ Below w.heap.size w w' := by
  by_cases hbig : 4096 < len0
  · clear hb
    go_enter Tryz.func3, Tryz.ntmps3
    go_wp2_with fail
    refine (big_yes _ _ _ _ hbig).mono ?_
    rintro e w' ⟨rfl, rfl⟩
    go_wp2
    go_ret
    exact ⟨rfl, Below.refl _ _⟩
  exact fnSquareRoot_any a0 len0 cap0 w hbig hb
end Go.Proofs.YtnkoeidolmiheaaGreatDoor
