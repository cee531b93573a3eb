/-
  Plain facts: sums of any two finite numbers by value, and a difference taken back.
-/
import Derived.Test.YtnkoeidolmiheaaGreatDoorExc
import Derived.Test.YtnkoeidolmiheaaGreatDoorOrq
import Derived.Test.YtnkoeidolmiheaaGreatDoorSmL
import Derived.Test.YtnkoeidolmiheaaGreatDoorSpt
namespace Go.Proofs.YtnkoeidolmiheaaGreatDoor
set_option linter.unusedVariables false
set_option maxRecDepth 100000
theorem finF_lost (size low : Int) (p : Nat) : finF true size low p ≠ 0 := by
  unfold finF
  rw [if_pos rfl]
  split <;> decide
/-- No flag: nothing was lost, and the value stayed. -/
theorem finN_flag0 (P : Nat) (hP : 1 ≤ P) (low high mode : Int) (neg : Bool) (ds : List Int) (e : Int) (rest : Bool) (want : Int) (hc : Canon ds) (hz : ds ≠ [0]) (hl : ds.length ≤ 200) (k E : Int) (S : ByteArray) (h : finN P low high mode neg ds e rest want = (k, E, S, 0)) :
    k = 1 ∧ rest = false ∧ ∃ D, S = tx D ∧ Dec D ∧ SV (vl D) E (vl ds) e := by
  have lo := canon_lo ds hc hz
  have hi := (vl_bd ds hc.1).2
  have n1 := hc.2.1
  unfold finN at h
  simp only at h
  obtain ⟨j, hj⟩ : ∃ j, finJ P ds.length rest = j := ⟨_, rfl⟩
  rw [hj] at h
  obtain ⟨dr, hdr⟩ : ∃ dr, finDr P (ds.length + j) low (e - j) = dr := ⟨_, rfl⟩
  rw [hdr] at h
  cases hL : finLs (vl ds * 10 ^ j) dr rest with
  | true =>
    exfalso
    rw [hL] at h
    unfold fin5 at h
    split at h
    · exact finF_lost _ _ _ (congrArg (fun t : Int × Int × ByteArray × Int => t.2.2.2) h)
    · split at h
      · exact absurd (congrArg (fun t : Int × Int × ByteArray × Int => t.2.2.2) h) (show ¬ (20 : Int) = 0 by decide)
      · exact absurd (congrArg (fun t : Int × Int × ByteArray × Int => t.2.2.2) h) (show ¬ (20 : Int) = 0 by decide)
  | false =>
    have hr : rest = false := by
      unfold finLs at hL
      split at hL
      · unfold rndL at hL; cases hL
      · unfold rndL at hL
        cases rest
        · rfl
        · cases hL
    subst hr
    have hj0 : j = 0 := by rw [← hj]; unfold finJ; rw [if_neg (by decide)]
    subst hj0
    simp only [Int.pow_zero, Int.mul_one, Nat.add_zero] at h hL hdr
    rw [show e - ((0 : Nat) : Int) = e by simp] at h hdr
    have hdr2 : dr ≤ 200 := by
      unfold finLs at hL
      by_cases c : 200 < dr
      · rw [if_pos c] at hL; unfold rndL at hL; cases hL
      · omega
    have hmod : vl ds % 10 ^ dr = 0 := by
      unfold finLs at hL
      rw [if_neg (by omega)] at hL
      unfold rndL at hL
      simpa using hL
    have hV : finV mode neg (vl ds) dr false = vl ds / 10 ^ dr := by
      unfold finV
      rw [if_neg (by omega)]
      unfold rndV rndU
      have hU : upB mode neg (halfI (vl ds % 10 ^ dr) (10 ^ dr) false dr) (rndL (vl ds) dr false) (vl ds / 10 ^ dr) = false := by
        have hr : rndL (vl ds) dr false = false := by unfold rndL; rw [hmod]; rfl
        have hh : halfI (vl ds % 10 ^ dr) (10 ^ dr) false dr = -1 := by
          unfold halfI
          rw [hmod]
          by_cases c : dr = 0
          · rw [if_pos c]
          · rw [if_neg c, if_pos (by have := ten_pos dr; omega)]
        rw [hr, hh]
        unfold upB upO
        by_cases m1 : mode = 1
        · rw [if_pos m1]; rfl
        · rw [if_neg m1]
          by_cases m3 : mode = 3
          · rw [if_pos m3]; rfl
          · rw [if_neg m3]
            by_cases m4 : mode = 4
            · rw [if_pos m4]; rfl
            · rw [if_neg m4]
              by_cases m5 : mode = 5
              · rw [if_pos m5]; rfl
              · rw [if_neg m5]
      rw [hU]; simp
    rw [hL, hV] at h
    have hdm := Int.mul_ediv_add_emod (vl ds) (10 ^ dr)
    rw [hmod, Int.add_zero, Int.mul_comm] at hdm
    have v1 : 1 ≤ vl ds := by have := ten_pos (ds.length - 1); omega
    have q1 : 1 ≤ vl ds / 10 ^ dr := by
      have hp := ten_pos dr
      rcases Int.lt_or_le (vl ds / 10 ^ dr) 1 with c | c
      · exfalso
        have h0 : 0 ≤ vl ds / 10 ^ dr := Int.ediv_nonneg (by omega) (by omega)
        have : vl ds / 10 ^ dr = 0 := by omega
        rw [this] at hdm; omega
      · exact c
    have qb : vl ds / 10 ^ dr ≤ vl ds := Int.ediv_le_self _ (by omega)
    obtain ⟨cD, vD⟩ := nt_spec (vl ds / 10 ^ dr) (by omega) (Int.lt_of_le_of_lt qb (Int.lt_of_lt_of_le hi (pow_mono _ _ (by omega))))
    obtain ⟨D, hD⟩ : ∃ D, nt (vl ds / 10 ^ dr) = D := ⟨_, rfl⟩
    rw [hD] at cD vD h
    have hlD : D.length ≤ P := by
      have hb : vl D < 10 ^ P := by
        rw [vD]
        have hn : ds.length ≤ P + dr := by rw [← hdr]; unfold finDr; omega
        have : vl ds / 10 ^ dr * 10 ^ dr < 10 ^ P * 10 ^ dr := by
          rw [hdm, ← Int.pow_add]
          exact Int.lt_of_lt_of_le hi (pow_mono _ _ hn)
        exact Int.lt_of_mul_lt_mul_right this (Int.le_of_lt (ten_pos dr))
      exact canon_le D cD P hP hb
    have hT : finT P D = D := by unfold finT; rw [if_neg (by omega)]
    have hTE : finTE P D (e + dr) = e + dr := by unfold finTE; rw [if_neg (by omega)]
    rw [hT, hTE] at h
    have sv0 : SV (vl D) (e + dr) (vl ds) e := by
      rw [vD]
      have s := sv_shift (vl ds / 10 ^ dr) e dr
      rw [hdm] at s
      exact s.symm
    have sv3 := (fin3_value D (e + dr) want low high P cD.2.1).trans sv0
    have dc3 : Dec (fin3D false D (e + dr) want low high P) := by
      unfold fin3D
      rw [if_neg (by decide)]
      intro d hd
      rcases List.mem_append.1 hd with q | q
      · exact cD.1 d (List.mem_of_mem_take q)
      · have := (List.mem_replicate.1 q).2; omega
    generalize fin3D false D (e + dr) want low high P = D3 at *
    generalize fin3E false D (e + dr) want low high P = e3 at *
    unfold fin5 at h
    split at h
    · have h1 : (1 : Int) = k := congrArg (fun t : Int × Int × ByteArray × Int => t.1) h
      have h2 : fin4E D3 e3 high P = E := congrArg (fun t : Int × Int × ByteArray × Int => t.2.1) h
      have h3 : tx (fin4D D3 e3 high P) = S := congrArg (fun t : Int × Int × ByteArray × Int => t.2.2.1) h
      refine ⟨h1.symm, rfl, fin4D D3 e3 high P, h3.symm, ?_, ?_⟩
      · unfold fin4D
        intro d hd
        rcases List.mem_append.1 hd with q | q
        · exact dc3 d q
        · have := (List.mem_replicate.1 q).2; omega
      rw [← h2]
      unfold fin4D fin4E
      rw [vl_noughts]
      have s1 := sv_shift (vl D3) (e3 - (fC D3.length P e3 high : Int)) (fC D3.length P e3 high)
      rw [show e3 - (fC D3.length P e3 high : Int) + (fC D3.length P e3 high : Int) = e3 by omega] at s1
      exact s1.trans sv3
    · exfalso
      split at h
      · exact absurd (congrArg (fun t : Int × Int × ByteArray × Int => t.2.2.2) h) (show ¬ (20 : Int) = 0 by decide)
      · exact absurd (congrArg (fun t : Int × Int × ByteArray × Int => t.2.2.2) h) (show ¬ (20 : Int) = 0 by decide)
/-- Of one value and sign: alike. -/
theorem alike_fin (f : Int) (n : Bool) (ea : Int) (da : List Int) (eb : Int) (db : List Int) (hA : numB f 1 n ea (tx da) = true) (hB : numB f 1 n eb (tx db) = true) (ca : Canon da) (cb : Canon db) (za : da ≠ [0]) (zb : db ≠ [0]) (h : SV (vl da) ea (vl db) eb) : cpR f 1 n ea (tx da) 1 n eb (tx db) = 0 := by
  have n1 := ca.2.1
  have n2 := cb.2.1
  have hz : ∀ (d : List Int), Canon d → d ≠ [0] → nouB 1 (tx d) = false := fun d hc hz => by
    unfold nouB
    rw [tx_is0 d hc.1 hz, Bool.and_false]
  have key : ∀ (e1 : Int) (d1 : List Int) (e2 : Int) (d2 : List Int), Canon d1 → Canon d2 → d1 ≠ [0] → d2 ≠ [0] → SV (vl d1) e1 (vl d2) e2 → cmpU false 1 e1 (tx d1) 1 e2 (tx d2) = 0 := fun e1 d1 e2 d2 c1 c2 z1 z2 hs => by
    have m1 := c1.2.1
    have m2 := c2.2.1
    have hlen : (d1.length : Int) + e1 = d2.length + e2 := by
      rcases hs with ⟨h, hv⟩ | ⟨h, hv⟩
      · have := len_more d2 d1 c2 z2 c1 (e2 - e1).toNat 0 (by rw [hv]; omega) (by decide) (ten_pos _)
        omega
      · have := len_more d1 d2 c1 z1 c2 (e1 - e2).toNat 0 (by rw [hv]; omega) (by decide) (ten_pos _)
        omega
    rw [cu_fin e1 (tx d1) e2 (tx d2) (hz d1 c1 z1) (hz d2 c2 z2), tx_size, tx_size, show e1 + (d1.length : Int) = e2 + (d2.length : Int) by omega, cI_same]
    show Lib.compareBytes _ _ = 0
    rw [cmp_trS d1 d2 c1.1 c2.1 (e1 - min e1 e2).toNat (e2 - min e1 e2).toNat (by omega), sv_at hs (min e1 e2) (by omega) (by omega), cI_same]
  unfold cpR
  rw [hA, hB, Bool.and_self, if_pos rfl, if_neg (by decide), hz da ca za, hz db cb zb, if_neg (by decide)]
  unfold cmpR
  cases n
  · exact key ea da eb db ca cb za zb h
  · exact key eb db ea da cb ca zb za h.symm
end Go.Proofs.YtnkoeidolmiheaaGreatDoor
namespace Go.Proofs.YtnkoeidolmiheaaGreatDoor
set_option linter.unusedVariables false
set_option maxRecDepth 100000
/-- A number with its sign. -/
def sgv (n : Bool) (v : Int) : Int := if n then -v else v
theorem sgv_0 (n : Bool) : sgv n 0 = 0 := by cases n <;> rfl
theorem sgv_mul (n : Bool) (v k : Int) : sgv n v * k = sgv n (v * k) := by
  cases n
  · rfl
  · show -v * k = -(v * k); rw [Int.neg_mul]
theorem SV.sg {v e v' e' : Int} (h : SV v e v' e') (n : Bool) : SV (sgv n v) e (sgv n v') e' := by
  rcases h with ⟨h, rfl⟩ | ⟨h, rfl⟩
  · exact .inl ⟨h, by rw [sgv_mul]⟩
  · exact .inr ⟨h, by rw [sgv_mul]⟩
theorem sv_zero (e e' : Int) : SV 0 e 0 e' := by
  by_cases h : e ≤ e'
  · exact .inl ⟨h, by simp⟩
  · exact .inr ⟨by omega, by simp⟩
/-- What two numbers stand for together, with the exponent M. -/
def sumS (na : Bool) (ea : Int) (da : List Int) (nb : Bool) (eb : Int) (db : List Int) (M : Int) : Int := sgv na (vl da) * 10 ^ (ea - M).toNat + sgv nb (vl db) * 10 ^ (eb - M).toNat
theorem sumS_comm (na : Bool) (ea : Int) (da : List Int) (nb : Bool) (eb : Int) (db : List Int) (M : Int) : sumS na ea da nb eb db M = sumS nb eb db na ea da M := Int.add_comm _ _
theorem nt_ok (v : Int) (h0 : 1 ≤ v) (h1 : v < 10 ^ 181) : Canon (nt v) ∧ vl (nt v) = v ∧ nt v ≠ [0] ∧ (nt v).length ≤ 200 := by
  obtain ⟨c, e⟩ := nt_spec v (by omega) (Int.lt_of_lt_of_le h1 (pow_mono _ _ (by decide)))
  refine ⟨c, e, fun q => by rw [q] at e; have : vl [0] = 0 := rfl; omega, ?_⟩
  have := canon_le (nt v) c 181 (by decide) (by rw [e]; exact h1)
  omega
theorem near_ok (d : List Int) (e M : Int) (hc : Canon d) (hz : d ≠ [0]) (hM : M ≤ e) (hn : (d.length : Int) + e - M ≤ 180) : 1 ≤ vl d * 10 ^ (e - M).toNat ∧ vl d * 10 ^ (e - M).toNat < 10 ^ 180 := by
  have lo := canon_lo d hc hz
  have hi := (vl_bd d hc.1).2
  have n1 := hc.2.1
  have p1 := ten_pos (d.length - 1)
  have pk := ten_pos (e - M).toNat
  refine ⟨?_, ?_⟩
  · have : 1 * 10 ^ (e - M).toNat ≤ vl d * 10 ^ (e - M).toNat := Int.mul_le_mul_of_nonneg_right (by omega) (Int.le_of_lt pk)
    omega
  · have : vl d * 10 ^ (e - M).toNat < 10 ^ d.length * 10 ^ (e - M).toNat := Int.mul_lt_mul_of_pos_right hi pk
    rw [← Int.pow_add] at this
    exact Int.lt_of_lt_of_le this (pow_mono _ _ (by omega))
theorem sgv_sgv (n : Bool) (v : Int) : sgv n (sgv n v) = v := by cases n <;> simp [sgv]
theorem far_no (n1 n2 n' : Bool) (x Q Y y : Int) (hQ : Y < Q) (hY : 1 ≤ Y) (h : sgv n1 (x * Q) + sgv n2 Y = sgv n' (y * Q)) : False := by
  rw [← sgv_mul, ← sgv_mul] at h
  have h2 : sgv n2 Y = (sgv n' y - sgv n1 x) * Q := by rw [Int.sub_mul]; omega
  have h3 : Y = sgv n2 (sgv n' y - sgv n1 x) * Q := by rw [sgv_mul, ← h2, sgv_sgv]
  have h4 : Y % Q = 0 := by rw [h3]; exact Int.mul_emod_left _ _
  rw [Int.emod_eq_of_lt (by omega) hQ] at h4
  omega
theorem sgv_big (n1 n2 n' : Bool) (X Y W B : Int) (hX : 2 * B ≤ X) (hY : 1 ≤ Y ∧ Y < B) (hW : 0 ≤ W ∧ W < B) (h : sgv n1 X + sgv n2 Y = sgv n' W) : False := by
  cases n1 <;> cases n2 <;> cases n' <;> simp [sgv] at h <;> omega
theorem sgv_inj {a b : Bool} {v e v' e' : Int} (h : SV (sgv a v) e (sgv b v') e') (h1 : 1 ≤ v) (h2 : 1 ≤ v') : a = b ∧ SV v e v' e' := by
  have hab : a = b := by
    rcases h with ⟨h, hv⟩ | ⟨h, hv⟩
    · rw [sgv_mul] at hv
      have hp := ten_pos (e' - e).toNat
      have : 1 * 10 ^ (e' - e).toNat ≤ v' * 10 ^ (e' - e).toNat := Int.mul_le_mul_of_nonneg_right h2 (Int.le_of_lt hp)
      cases a <;> cases b <;> first | rfl | (exfalso; simp [sgv] at hv; omega)
    · rw [sgv_mul] at hv
      have hp := ten_pos (e - e').toNat
      have : 1 * 10 ^ (e - e').toNat ≤ v * 10 ^ (e - e').toNat := Int.mul_le_mul_of_nonneg_right h1 (Int.le_of_lt hp)
      cases a <;> cases b <;> first | rfl | (exfalso; simp [sgv] at hv; omega)
  subst hab
  refine ⟨rfl, ?_⟩
  have := h.sg a
  rwa [sgv_sgv, sgv_sgv] at this
section
variable (f : Int) (hf : f = 64 ∨ f = 128) (mode : Int) (n1 : Bool) (e1 : Int) (d1 : List Int) (n2 : Bool) (e2 : Int) (d2 : List Int) (M : Int)
theorem sumY_flag0 (hf : f = 64 ∨ f = 128) (c1 : Canon d1) (z1 : d1 ≠ [0]) (c2 : Canon d2) (z2 : d2 ≠ [0]) (l1 : d1.length ≤ 34) (hM1 : M ≤ e1) (hM2 : M ≤ e2) (hge : (d2.length : Int) + e2 ≤ d1.length + e1)
    (ns : Bool) (k E : Int) (S : ByteArray) (h : sumY f mode n1 e1 d1 n2 e2 d2 M = (ns, (k, E, S, 0))) : k = 1 ∧ ∃ D, S = tx D ∧ Dec D ∧ SV (sgv ns (vl D)) E (sumS n1 e1 d1 n2 e2 d2 M) M := by
  have hP : 1 ≤ (limP f).toNat := by rcases hf with rfl | rfl <;> decide
  have p181 : (10 : Int) ^ 181 = 10 ^ 180 * 10 := Int.pow_succ 10 180
  have p180 := ten_pos 180
  unfold sumY at h
  by_cases hfar : 180 < (d1.length : Int) + e1 - M
  · exfalso
    rw [if_pos hfar] at h
    have hb := (vl_bd d1 c1.1).2
    have hlo := canon_lo d1 c1 z1
    have hp := ten_pos (d1.length - 1)
    have p40 : (2 : Int) ≤ 10 ^ 40 := by decide
    have v1 : 1 ≤ vl d1 := by omega
    have w1 : 1 * 10 ^ 40 ≤ vl d1 * 10 ^ 40 := Int.mul_le_mul_of_nonneg_right v1 (by omega)
    have w2 : vl d1 * 10 ^ 40 < 10 ^ d1.length * 10 ^ 40 := Int.mul_lt_mul_of_pos_right hb (by omega)
    rw [← Int.pow_add] at w2
    have w3 : (10 : Int) ^ (d1.length + 40) ≤ 10 ^ 180 := pow_mono _ _ (by omega)
    obtain ⟨t, ht, ht2⟩ : ∃ t : Int, (vl d1 * 10 ^ 40 - if n1 = n2 then 0 else 1) = t ∧ (1 ≤ t ∧ t < 10 ^ 181) := ⟨_, rfl, by split <;> omega⟩
    rw [ht] at h
    obtain ⟨cN, vN, zN, lN⟩ := nt_ok t ht2.1 ht2.2
    have h2 := congrArg Prod.snd h
    dsimp only at h2
    rw [finD_ne _ _ _ _ _ _ _ zN] at h2
    have := (finN_flag0 _ hP _ _ _ _ _ _ _ _ cN zN lN _ _ _ h2).2.1
    cases this
  · rw [if_neg hfar] at h
    obtain ⟨a1, b1⟩ := near_ok d1 e1 M c1 z1 hM1 (by omega)
    obtain ⟨a2, b2⟩ := near_ok d2 e2 M c2 z2 hM2 (by omega)
    unfold sumS
    rw [sgv_mul, sgv_mul]
    generalize vl d1 * 10 ^ (e1 - M).toNat = X at *
    generalize vl d2 * 10 ^ (e2 - M).toNat = Y at *
    have fin : ∀ (g : Bool) (v : Int), 1 ≤ v → v < 10 ^ 181 → (g, finD f mode g (nt v) M false M) = (ns, (k, E, S, 0)) → k = 1 ∧ ∃ D, S = tx D ∧ Dec D ∧ SV (sgv ns (vl D)) E (sgv g v) M := fun g v h0 h1 hh => by
      obtain ⟨cN, vN, zN, lN⟩ := nt_ok v h0 h1
      have hg : g = ns := congrArg Prod.fst hh
      have h2 := congrArg Prod.snd hh
      dsimp only at h2
      rw [finD_ne _ _ _ _ _ _ _ zN] at h2
      obtain ⟨hk, -, D, hS, dD, hsv⟩ := finN_flag0 _ hP _ _ _ _ _ _ _ _ cN zN lN _ _ _ h2
      rw [vN] at hsv
      exact ⟨hk, D, hS, dD, hg ▸ hsv.sg g⟩
    by_cases hn : n1 = n2
    · rw [if_pos hn] at h
      obtain ⟨hk, D, hS, dD, hsv⟩ := fin n1 (X + Y) (by omega) (by omega) h
      refine ⟨hk, D, hS, dD, ?_⟩
      rw [show sgv n1 X + sgv n2 Y = sgv n1 (X + Y) by subst hn; cases n1 <;> simp [sgv] <;> omega]
      exact hsv
    · rw [if_neg hn] at h
      have hn2 : n2 = !n1 := by cases n1 <;> cases n2 <;> first | rfl | exact absurd rfl hn
      by_cases hxy : X = Y
      · rw [if_pos hxy] at h
        unfold finD at h
        rw [if_pos rfl] at h
        have hk : (1 : Int) = k := congrArg (fun t : Bool × Int × Int × ByteArray × Int => t.2.1) h
        have hS : ({ data := #[48] } : ByteArray) = S := congrArg (fun t : Bool × Int × Int × ByteArray × Int => t.2.2.2.1) h
        refine ⟨hk.symm, [0], by rw [← hS]; apply ByteArray.ext; rw [tx_data]; rfl, canon_zero.1, ?_⟩
        rw [show vl [0] = 0 from rfl, sgv_0, show sgv n1 X + sgv n2 Y = 0 by subst hn2 hxy; cases n1 <;> simp [sgv] <;> omega]
        exact sv_zero _ _
      · rw [if_neg hxy] at h
        by_cases hlt : Y < X
        · rw [if_pos hlt] at h
          obtain ⟨hk, D, hS, dD, hsv⟩ := fin n1 (X - Y) (by omega) (by omega) h
          refine ⟨hk, D, hS, dD, ?_⟩
          rw [show sgv n1 X + sgv n2 Y = sgv n1 (X - Y) by subst hn2; cases n1 <;> simp [sgv] <;> omega]
          exact hsv
        · rw [if_neg hlt] at h
          obtain ⟨hk, D, hS, dD, hsv⟩ := fin n2 (Y - X) (by omega) (by omega) h
          refine ⟨hk, D, hS, dD, ?_⟩
          rw [show sgv n1 X + sgv n2 Y = sgv n2 (Y - X) by subst hn2; cases n1 <;> simp [sgv] <;> omega]
          exact hsv
theorem sumY_exact (hf : f = 64 ∨ f = 128) (c1 : Canon d1) (z1 : d1 ≠ [0]) (c2 : Canon d2) (z2 : d2 ≠ [0]) (l1 : d1.length ≤ 34) (l2 : d2.length ≤ 34) (hM1 : M ≤ e1) (hM2 : M ≤ e2) (hM : M = e1 ∨ M = e2) (hge : (d2.length : Int) + e2 ≤ d1.length + e1)
    (n' : Bool) (e' : Int) (d' : List Int) (c' : Canon d') (z' : d' ≠ [0]) (l' : d'.length ≤ (limP f).toNat) (he' : limL f ≤ e') (hh' : e' ≤ limH f) (hs : SV (sumS n1 e1 d1 n2 e2 d2 M) M (sgv n' (vl d')) e') :
    ∃ D E, sumY f mode n1 e1 d1 n2 e2 d2 M = (n', (1, E, tx D, 0)) ∧ Canon D ∧ SV (vl D) E (vl d') e' := by
  have hP : 1 ≤ (limP f).toNat ∧ (limP f).toNat ≤ 34 := by rcases hf with rfl | rfl <;> decide
  have p181 : (10 : Int) ^ 181 = 10 ^ 180 * 10 := Int.pow_succ 10 180
  have p180 := ten_pos 180
  have lo1 := canon_lo d1 c1 z1
  have hi1 := (vl_bd d1 c1.1).2
  have lo2 := canon_lo d2 c2 z2
  have hi2 := (vl_bd d2 c2.1).2
  have lo' := canon_lo d' c' z'
  have hi' := (vl_bd d' c'.1).2
  have q1 := ten_pos (d1.length - 1)
  have q2 := ten_pos (d2.length - 1)
  have q' := ten_pos (d'.length - 1)
  unfold sumS at hs
  rw [sgv_mul, sgv_mul] at hs
  -- the sum is not far: it would have too many digits
  have hfar : ¬ 180 < (d1.length : Int) + e1 - M := by
    intro hfar
    have hMe : M = e2 := by rcases hM with h | h <;> omega
    obtain ⟨k, hk2⟩ : ∃ k, (e1 - M).toNat = 145 + k := ⟨(e1 - M).toNat - 145, by omega⟩
    have h0 : (e2 - M).toNat = 0 := by omega
    have hY : 1 ≤ vl d2 ∧ vl d2 < 10 ^ 34 := ⟨by omega, Int.lt_of_lt_of_le hi2 (pow_mono _ _ l2)⟩
    have hV' : 1 ≤ vl d' ∧ vl d' < 10 ^ 34 := ⟨by omega, Int.lt_of_lt_of_le hi' (pow_mono _ _ (by omega))⟩
    have hX : 10 ^ 180 ≤ vl d1 * 10 ^ (e1 - M).toNat := by
      have : 10 ^ (d1.length - 1) * 10 ^ (e1 - M).toNat ≤ vl d1 * 10 ^ (e1 - M).toNat := Int.mul_le_mul_of_nonneg_right lo1 (Int.le_of_lt (ten_pos _))
      rw [← Int.pow_add] at this
      exact Int.le_trans (pow_mono _ _ (by omega)) this
    have e35 : (10 : Int) ^ 34 ≤ 10 ^ 179 := pow_mono _ _ (by decide)
    have e80 : (10 : Int) ^ 180 = 10 ^ 179 * 10 := Int.pow_succ 10 179
    have e34 : (10 : Int) ^ 34 ≤ 10 ^ 145 := pow_mono _ _ (by decide)
    rw [h0, Int.pow_zero, Int.mul_one] at hs
    rcases hs with ⟨h, hv⟩ | ⟨h, hv⟩
    · rw [sgv_mul] at hv
      rcases Nat.lt_or_ge 145 (e' - M).toNat with c | c
      · obtain ⟨t, ht⟩ : ∃ t, (e' - M).toNat = t + 145 := ⟨(e' - M).toNat - 145, by omega⟩
        rw [ht, hk2, Nat.add_comm 145 k, Int.pow_add, Int.pow_add, ← Int.mul_assoc, ← Int.mul_assoc] at hv
        exact far_no n1 n2 n' _ (10 ^ 145) (vl d2) _ (by omega) hY.1 hv
      · have hb : vl d' * 10 ^ (e' - M).toNat < 10 ^ 34 * 10 ^ (e' - M).toNat := Int.mul_lt_mul_of_pos_right hV'.2 (ten_pos _)
        rw [← Int.pow_add] at hb
        have hb2 : (10 : Int) ^ (34 + (e' - M).toNat) ≤ 10 ^ 179 := pow_mono _ _ (by omega)
        have hw0 : 0 ≤ vl d' * 10 ^ (e' - M).toNat := Int.mul_nonneg (by omega) (Int.le_of_lt (ten_pos _))
        exact sgv_big n1 n2 n' _ _ _ (10 ^ 179) (by omega) ⟨hY.1, by omega⟩ ⟨hw0, by omega⟩ hv
    · have hk0 : (1 : Int) ≤ 10 ^ (M - e').toNat := by have := ten_pos (M - e').toNat; omega
      rw [Int.add_mul, sgv_mul, sgv_mul] at hv
      have hX2 : vl d1 * 10 ^ (e1 - M).toNat * 10 ^ (M - e').toNat = vl d1 * 10 ^ (e1 - M).toNat * 10 ^ (M - e').toNat := rfl
      -- both sides are too far apart
      have hvb := sgv_mul n' (vl d') 1
      rw [Int.mul_one, Int.mul_one] at hvb
      have ka : 10 ^ 180 * 10 ^ (M - e').toNat ≤ vl d1 * 10 ^ (e1 - M).toNat * 10 ^ (M - e').toNat := Int.mul_le_mul_of_nonneg_right hX (by omega)
      have kb : vl d2 * 10 ^ (M - e').toNat < 10 ^ 34 * 10 ^ (M - e').toNat := Int.mul_lt_mul_of_pos_right hY.2 (by omega)
      have kc : 1 * 10 ^ (M - e').toNat ≤ vl d2 * 10 ^ (M - e').toNat := Int.mul_le_mul_of_nonneg_right hY.1 (by omega)
      have kd : (10 : Int) ^ 34 * 10 ^ (M - e').toNat ≤ 10 ^ 179 * 10 ^ (M - e').toNat := Int.mul_le_mul_of_nonneg_right e35 (by omega)
      have ke : (10 : Int) ^ 180 * 10 ^ (M - e').toNat = 10 ^ 179 * 10 ^ (M - e').toNat * 10 := by rw [e80, Int.mul_assoc, Int.mul_assoc, Int.mul_comm 10]
      have kf : (10 : Int) ^ 179 * 1 ≤ 10 ^ 179 * 10 ^ (M - e').toNat := Int.mul_le_mul_of_nonneg_left hk0 (by have := ten_pos 179; omega)
      rw [Int.mul_one] at kf
      exact sgv_big n1 n2 n' _ _ _ (10 ^ 179 * 10 ^ (M - e').toNat) (by omega) ⟨by omega, by omega⟩ ⟨by omega, by omega⟩ hv.symm
  have v1' : 1 ≤ vl d' := by omega
  unfold sumY
  rw [if_neg hfar]
  obtain ⟨a1, b1⟩ := near_ok d1 e1 M c1 z1 hM1 (by omega)
  obtain ⟨a2, b2⟩ := near_ok d2 e2 M c2 z2 hM2 (by omega)
  generalize vl d1 * 10 ^ (e1 - M).toNat = X at *
  generalize vl d2 * 10 ^ (e2 - M).toNat = Y at *
  have fin : ∀ (g : Bool) (v : Int), 1 ≤ v → v < 10 ^ 181 → SV (sgv g v) M (sgv n' (vl d')) e' → ∃ D E, (g, finD f mode g (nt v) M false M) = (n', (1, E, tx D, 0)) ∧ Canon D ∧ SV (vl D) E (vl d') e' := fun g v h0 h1 hh => by
    obtain ⟨cN, vN, zN, lN⟩ := nt_ok v h0 h1
    obtain ⟨hg, hv⟩ := sgv_inj hh h0 v1'
    subst hg
    rw [finD_ne _ _ _ _ _ _ _ zN]
    obtain ⟨D, E, h1, h2, h3, -⟩ := finN_exact f hf mode g (nt v) M M cN zN lN d' e' c' z' l' he' hh' (by rw [vN]; exact hv)
    rw [vN] at h3
    exact ⟨D, E, by rw [h1], h2, h3.trans hv⟩
  by_cases hn : n1 = n2
  · rw [if_pos hn]
    rw [show sgv n1 X + sgv n2 Y = sgv n1 (X + Y) by subst hn; cases n1 <;> simp [sgv] <;> omega] at hs
    exact fin n1 (X + Y) (by omega) (by omega) hs
  · rw [if_neg hn]
    have hn2 : n2 = !n1 := by cases n1 <;> cases n2 <;> first | rfl | exact absurd rfl hn
    by_cases hxy : X = Y
    · exfalso
      rw [show sgv n1 X + sgv n2 Y = 0 by subst hn2 hxy; cases n1 <;> simp [sgv] <;> omega] at hs
      rcases hs with ⟨h, hv⟩ | ⟨h, hv⟩
      · rw [sgv_mul] at hv
        have : 1 * 10 ^ (e' - M).toNat ≤ vl d' * 10 ^ (e' - M).toNat := Int.mul_le_mul_of_nonneg_right v1' (Int.le_of_lt (ten_pos _))
        have := ten_pos (e' - M).toNat
        cases n' <;> simp only [sgv] at hv <;> simp at hv <;> omega
      · rw [Int.zero_mul] at hv
        cases n' <;> simp [sgv] at hv <;> omega
    · rw [if_neg hxy]
      by_cases hlt : Y < X
      · rw [if_pos hlt]
        rw [show sgv n1 X + sgv n2 Y = sgv n1 (X - Y) by subst hn2; cases n1 <;> simp [sgv] <;> omega] at hs
        exact fin n1 (X - Y) (by omega) (by omega) hs
      · rw [if_neg hlt]
        rw [show sgv n1 X + sgv n2 Y = sgv n2 (Y - X) by subst hn2; cases n1 <;> simp [sgv] <;> omega] at hs
        exact fin n2 (Y - X) (by omega) (by omega) hs
end
end Go.Proofs.YtnkoeidolmiheaaGreatDoor
namespace Go.Proofs.YtnkoeidolmiheaaGreatDoor
set_option linter.unusedVariables false
set_option maxRecDepth 100000
theorem sumS_at (na : Bool) (ea : Int) (da : List Int) (nb : Bool) (eb : Int) (db : List Int) (M K : Int) (h : K ≤ M) (ha : M ≤ ea) (hb : M ≤ eb) : sumS na ea da nb eb db M * 10 ^ (M - K).toNat = sumS na ea da nb eb db K := by
  unfold sumS
  rw [Int.add_mul, Int.mul_assoc, Int.mul_assoc, ← Int.pow_add, ← Int.pow_add, show (ea - M).toNat + (M - K).toNat = (ea - K).toNat by omega, show (eb - M).toNat + (M - K).toNat = (eb - K).toNat by omega]
theorem sumS_0l (na : Bool) (ea : Int) (nb : Bool) (eb : Int) (db : List Int) (M : Int) (hb : M ≤ eb) : SV (sgv nb (vl db)) eb (sumS na ea [0] nb eb db M) M := by
  refine .inr ⟨hb, ?_⟩
  unfold sumS
  rw [show vl [0] = 0 from rfl, sgv_0, Int.zero_mul, Int.zero_add]
theorem sumS_0r (na : Bool) (ea : Int) (da : List Int) (nb : Bool) (eb : Int) (M : Int) (ha : M ≤ ea) : SV (sgv na (vl da)) ea (sumS na ea da nb eb [0] M) M := by
  rw [sumS_comm]
  exact sumS_0l nb eb na ea da M ha
theorem finD_zero (f mode : Int) (g : Bool) (e : Int) (rest : Bool) (want : Int) (k E : Int) (S : ByteArray) (F : Int) (h : finD f mode g [0] e rest want = (k, E, S, F)) : k = 1 ∧ S = tx [0] ∧ F = 0 := by
  unfold finD at h
  rw [if_pos rfl] at h
  have hk : (1 : Int) = k := congrArg (fun t : Int × Int × ByteArray × Int => t.1) h
  have hS : ({ data := #[48] } : ByteArray) = S := congrArg (fun t : Int × Int × ByteArray × Int => t.2.2.1) h
  have hF : (0 : Int) = F := congrArg (fun t : Int × Int × ByteArray × Int => t.2.2.2) h
  exact ⟨hk.symm, by rw [← hS]; apply ByteArray.ext; rw [tx_data]; rfl, hF.symm⟩
theorem finD_zero' (f mode : Int) (g : Bool) (e : Int) (rest : Bool) (want : Int) : ∃ E, finD f mode g [0] e rest want = (1, E, tx [0], 0) := by
  obtain ⟨⟨k, E, S, F⟩, h⟩ : ∃ t, finD f mode g [0] e rest want = t := ⟨_, rfl⟩
  obtain ⟨rfl, rfl, rfl⟩ := finD_zero _ _ _ _ _ _ _ _ _ _ h
  exact ⟨E, h⟩
theorem sv_zero_of {v e e' : Int} (h : SV v e 0 e') : v = 0 := by
  rcases h with ⟨-, h⟩ | ⟨-, h⟩
  · rw [Int.zero_mul] at h; exact h
  · have hp := ten_pos (e - e').toNat
    rcases Int.mul_eq_zero.mp h.symm with q | q
    · exact q
    · omega
theorem sgv_eq0 {n : Bool} {v : Int} (h : sgv n v = 0) : v = 0 := by cases n <;> simp [sgv] at h <;> omega
section
variable (f : Int) (mode : Int) (na : Bool) (ea : Int) (da : List Int) (nb : Bool) (eb : Int) (db : List Int)
/-- A sum without a flag is exact. -/
theorem sumX_flag0 (hf : f = 64 ∨ f = 128) (ca : Canon da) (cb : Canon db) (la : da.length ≤ 34) (lb : db.length ≤ 34)
    (ns : Bool) (k E : Int) (S : ByteArray) (h : sumX f mode na ea da nb eb db = (ns, (k, E, S, 0))) : k = 1 ∧ ∃ D, S = tx D ∧ Dec D ∧ SV (sgv ns (vl D)) E (sumS na ea da nb eb db (min ea eb)) (min ea eb) := by
  have hP : 1 ≤ (limP f).toNat := by rcases hf with rfl | rfl <;> decide
  have one : ∀ (g : Bool) (e : Int) (d : List Int), Canon d → d ≠ [0] → d.length ≤ 34 → (g, finD f mode g d e false (min ea eb)) = (ns, (k, E, S, 0)) → k = 1 ∧ ∃ D, S = tx D ∧ Dec D ∧ SV (sgv ns (vl D)) E (sgv g (vl d)) e := fun g e d c z l hh => by
    have hg : g = ns := congrArg Prod.fst hh
    have h2 := congrArg Prod.snd hh
    dsimp only at h2
    rw [finD_ne _ _ _ _ _ _ _ z] at h2
    obtain ⟨hk, -, D, hS, dD, hsv⟩ := finN_flag0 _ hP _ _ _ _ _ _ _ _ c z (by omega) _ _ _ h2
    exact ⟨hk, D, hS, dD, hg ▸ hsv.sg g⟩
  unfold sumX at h
  by_cases h1 : da = [0] ∧ db = [0]
  · rw [if_pos h1] at h
    obtain ⟨rfl, rfl⟩ := h1
    have h2 := congrArg Prod.snd h
    dsimp only at h2
    obtain ⟨hk, hS, -⟩ := finD_zero _ _ _ _ _ _ _ _ _ _ h2
    refine ⟨hk, [0], hS, canon_zero.1, ?_⟩
    rw [show vl [0] = 0 from rfl, sgv_0, show sumS na ea [0] nb eb [0] (min ea eb) = 0 by unfold sumS; rw [show vl [0] = 0 from rfl, sgv_0, sgv_0, Int.zero_mul, Int.zero_mul]; rfl]
    exact sv_zero _ _
  · rw [if_neg h1] at h
    by_cases h2 : da = [0]
    · rw [if_pos h2] at h
      obtain ⟨hk, D, hS, dD, hsv⟩ := one nb eb db cb (fun q => h1 ⟨h2, q⟩) lb h
      subst h2
      exact ⟨hk, D, hS, dD, hsv.trans (sumS_0l _ _ _ _ _ _ (Int.min_le_right _ _))⟩
    · rw [if_neg h2] at h
      by_cases h3 : db = [0]
      · rw [if_pos h3] at h
        obtain ⟨hk, D, hS, dD, hsv⟩ := one na ea da ca h2 la h
        subst h3
        exact ⟨hk, D, hS, dD, hsv.trans (sumS_0r _ _ _ _ _ _ (Int.min_le_left _ _))⟩
      · rw [if_neg h3] at h
        by_cases h4 : (da.length : Int) + ea < (db.length : Int) + eb
        · rw [if_pos h4] at h
          have := sumY_flag0 f mode nb eb db na ea da (min ea eb) hf cb h3 ca h2 lb (Int.min_le_right _ _) (Int.min_le_left _ _) (Int.le_of_lt h4) ns k E S h
          rw [sumS_comm] at this
          exact this
        · rw [if_neg h4] at h
          exact sumY_flag0 f mode na ea da nb eb db (min ea eb) hf ca h2 cb h3 la (Int.min_le_left _ _) (Int.min_le_right _ _) (by omega) ns k E S h
/-- A sum that the format can tell is told, with no flag. -/
theorem sumX_exact (hf : f = 64 ∨ f = 128) (ca : Canon da) (cb : Canon db) (la : da.length ≤ 34) (lb : db.length ≤ 34)
    (n' : Bool) (e' : Int) (d' : List Int) (c' : Canon d') (z' : d' ≠ [0]) (l' : d'.length ≤ (limP f).toNat) (he' : limL f ≤ e') (hh' : e' ≤ limH f) (hs : SV (sumS na ea da nb eb db (min ea eb)) (min ea eb) (sgv n' (vl d')) e') :
    ∃ D E, sumX f mode na ea da nb eb db = (n', (1, E, tx D, 0)) ∧ Canon D ∧ SV (vl D) E (vl d') e' := by
  have hP : 1 ≤ (limP f).toNat ∧ (limP f).toNat ≤ 34 := by rcases hf with rfl | rfl <;> decide
  have v' := vl_pos d' c' z'
  have one : ∀ (g : Bool) (e : Int) (d : List Int), Canon d → d ≠ [0] → d.length ≤ 34 → SV (sgv g (vl d)) e (sgv n' (vl d')) e' → ∃ D E, (g, finD f mode g d e false (min ea eb)) = (n', (1, E, tx D, 0)) ∧ Canon D ∧ SV (vl D) E (vl d') e' := fun g e d c z l hv => by
    obtain ⟨hg, hw⟩ := sgv_inj hv (vl_pos d c z) v'
    subst hg
    rw [finD_ne _ _ _ _ _ _ _ z]
    obtain ⟨D, E, h1, h2, h3, -⟩ := finN_exact f hf mode g d e (min ea eb) c z (by omega) d' e' c' z' l' he' hh' hw
    exact ⟨D, E, by rw [h1], h2, h3.trans hw⟩
  unfold sumX
  by_cases h1 : da = [0] ∧ db = [0]
  · exfalso
    obtain ⟨rfl, rfl⟩ := h1
    rw [show sumS na ea [0] nb eb [0] (min ea eb) = 0 by unfold sumS; rw [show vl [0] = 0 from rfl, sgv_0, sgv_0, Int.zero_mul, Int.zero_mul]; rfl] at hs
    have := sgv_eq0 (sv_zero_of hs.symm)
    omega
  · rw [if_neg h1]
    by_cases h2 : da = [0]
    · rw [if_pos h2]
      subst h2
      exact one nb eb db cb (fun q => h1 ⟨rfl, q⟩) lb ((sumS_0l _ _ _ _ _ _ (Int.min_le_right _ _)).trans hs)
    · rw [if_neg h2]
      by_cases h3 : db = [0]
      · rw [if_pos h3]
        subst h3
        exact one na ea da ca h2 la ((sumS_0r _ _ _ _ _ _ (Int.min_le_left _ _)).trans hs)
      · rw [if_neg h3]
        by_cases h4 : (da.length : Int) + ea < (db.length : Int) + eb
        · rw [if_pos h4]
          exact sumY_exact f mode nb eb db na ea da (min ea eb) hf cb h3 ca h2 lb la (Int.min_le_right _ _) (Int.min_le_left _ _) (by omega) (Int.le_of_lt h4) n' e' d' c' z' l' he' hh' (by rw [sumS_comm]; exact hs)
        · rw [if_neg h4]
          exact sumY_exact f mode na ea da nb eb db (min ea eb) hf ca h2 cb h3 la lb (Int.min_le_left _ _) (Int.min_le_right _ _) (by omega) (by omega) n' e' d' c' z' l' he' hh' hs
/-- Two numbers that are nothing together. -/
theorem sumX_none (ca : Canon da) (cb : Canon db) (la : da.length ≤ 100) (lb : db.length ≤ 100) (hs : sumS na ea da nb eb db (min ea eb) = 0) :
    ∃ g E, sumX f mode na ea da nb eb db = (g, (1, E, tx [0], 0)) := by
  have nY : ∀ (n1 : Bool) (e1 : Int) (d1 : List Int) (n2 : Bool) (e2 : Int) (d2 : List Int), Canon d1 → Canon d2 → d1 ≠ [0] → d2 ≠ [0] → d1.length ≤ 100 → d2.length ≤ 100 → min ea eb ≤ e1 → min ea eb ≤ e2 → (min ea eb = e1 ∨ min ea eb = e2) → (d2.length : Int) + e2 ≤ d1.length + e1 → sumS n1 e1 d1 n2 e2 d2 (min ea eb) = 0 → ∃ g E, sumY f mode n1 e1 d1 n2 e2 d2 (min ea eb) = (g, (1, E, tx [0], 0)) := fun n1 e1 d1 n2 e2 d2 c1 c2 z1 z2 l1 l2 m1 m2 hm hge h0 => by
    generalize min ea eb = M at *
    unfold sumS at h0
    rw [sgv_mul, sgv_mul] at h0
    have v1 := vl_pos d1 c1 z1
    have v2 := vl_pos d2 c2 z2
    have lo1 := canon_lo d1 c1 z1
    have hi2 := (vl_bd d2 c2.1).2
    have hfar : ¬ 180 < (d1.length : Int) + e1 - M := by
      intro hfar
      have hMe : M = e2 := by rcases hm with h | h <;> omega
      have hx : (e2 - M).toNat = 0 := by omega
      have hX : 10 ^ 180 ≤ vl d1 * 10 ^ (e1 - M).toNat := by
        have : 10 ^ (d1.length - 1) * 10 ^ (e1 - M).toNat ≤ vl d1 * 10 ^ (e1 - M).toNat := Int.mul_le_mul_of_nonneg_right lo1 (Int.le_of_lt (ten_pos _))
        rw [← Int.pow_add] at this
        exact Int.le_trans (pow_mono _ _ (by omega)) this
      have hY : vl d2 < 10 ^ 180 := Int.lt_of_lt_of_le hi2 (pow_mono _ _ (by omega))
      rw [hx, Int.pow_zero, Int.mul_one] at h0
      cases n1 <;> cases n2 <;> simp [sgv] at h0 <;> omega
    have p1 : 1 ≤ vl d1 * 10 ^ (e1 - M).toNat := (near_ok d1 e1 M c1 z1 m1 (by omega)).1
    have p2 : 1 ≤ vl d2 * 10 ^ (e2 - M).toNat := (near_ok d2 e2 M c2 z2 m2 (by omega)).1
    unfold sumY
    rw [if_neg hfar]
    generalize vl d1 * 10 ^ (e1 - M).toNat = X at *
    generalize vl d2 * 10 ^ (e2 - M).toNat = Y at *
    have hn : n1 ≠ n2 := by
      intro hn
      subst hn
      cases n1 <;> simp [sgv] at h0 <;> omega
    have hxy : X = Y := by
      have hn2 : n2 = !n1 := by cases n1 <;> cases n2 <;> first | rfl | exact absurd rfl hn
      subst hn2
      cases n1 <;> simp [sgv] at h0 <;> omega
    rw [if_neg hn, if_pos hxy]
    obtain ⟨E, hE⟩ := finD_zero' f mode (decide (mode = 3)) M false M
    exact ⟨_, E, by rw [hE]⟩
  unfold sumX
  by_cases h1 : da = [0] ∧ db = [0]
  · rw [if_pos h1]
    obtain ⟨E, hE⟩ := finD_zero' f mode (if na = nb then na else decide (mode = 3)) (min ea eb) false (min ea eb)
    exact ⟨_, E, by rw [hE]⟩
  · rw [if_neg h1]
    by_cases h2 : da = [0]
    · exfalso
      subst h2
      have := sumS_0l na ea nb eb db (min ea eb) (Int.min_le_right _ _)
      rw [hs] at this
      have q := sgv_eq0 (sv_zero_of this)
      have := vl_pos db cb (fun q => h1 ⟨rfl, q⟩)
      omega
    · rw [if_neg h2]
      by_cases h3 : db = [0]
      · exfalso
        subst h3
        have := sumS_0r na ea da nb eb (min ea eb) (Int.min_le_left _ _)
        rw [hs] at this
        have q := sgv_eq0 (sv_zero_of this)
        have := vl_pos da ca h2
        omega
      · rw [if_neg h3]
        by_cases h4 : (da.length : Int) + ea < (db.length : Int) + eb
        · rw [if_pos h4]
          exact nY nb eb db na ea da cb ca h3 h2 lb la (Int.min_le_right _ _) (Int.min_le_left _ _) (by omega) (Int.le_of_lt h4) (by rw [sumS_comm]; exact hs)
        · rw [if_neg h4]
          exact nY na ea da nb eb db ca cb h2 h3 la lb (Int.min_le_left _ _) (Int.min_le_right _ _) (by omega) (by omega) hs
end
/-- What is left of a less b, and b put to it again. -/
theorem back_value (na : Bool) (ea : Int) (da : List Int) (nb : Bool) (eb : Int) (db : List Int) (ns : Bool) (E : Int) (D : List Int)
    (h : SV (sgv ns (vl D)) E (sumS na ea da (!nb) eb db (min ea eb)) (min ea eb)) : SV (sumS ns E D nb eb db (min E eb)) (min E eb) (sgv na (vl da)) ea := by
  obtain ⟨K, hK⟩ : ∃ K, min E (min ea eb) = K := ⟨_, rfl⟩
  have h1 := sv_at h K (by omega) (by omega)
  rw [sumS_at na ea da (!nb) eb db (min ea eb) K (by omega) (by omega) (by omega)] at h1
  refine sv_of K (by omega) (by omega) ?_
  rw [sumS_at ns E D nb eb db (min E eb) K (by omega) (by omega) (by omega)]
  unfold sumS at h1 ⊢
  rw [h1, Int.add_assoc, ← Int.add_mul, show sgv (!nb) (vl db) + sgv nb (vl db) = 0 by cases nb <;> simp [sgv] <;> omega, Int.zero_mul, Int.add_zero]
end Go.Proofs.YtnkoeidolmiheaaGreatDoor
