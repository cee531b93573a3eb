/-
  FnNatDiv, FnNatRoot and FnNatShift, walked.
-/
import Derived.Test.YtmjkpjmccdjkjaeNtL
import Derived.Test.YtmjkpjmccdjkjaeNaz
import Derived.Test.YtmjkpjmccdjkjaeDrawNt
namespace Go.Proofs.Ytmjkpjmccdjkjae
open Go.RowKit
set_option linter.unusedVariables false
theorem divQ_no (s t : ByteArray) (h : ok2 s t = false ∨ nv t = 0) : divQ s t = { data := #[] } ∧ divR s t = { data := #[] } := by
  unfold divQ divR
  rcases h with h | h
  · rw [h]; exact ⟨rfl, rfl⟩
  · rw [if_pos h, if_pos h]
    exact ⟨by split <;> rfl, by split <;> rfl⟩
theorem root_small (S R A : Int) (h : S * S + R = A) (s0 : 0 ≤ S) (r0 : 0 ≤ R) (r1 : R ≤ 2 * S) (k : Nok A) : Nok S ∧ Nok R ∧ Nok (S * S) ∧ Nok (S + S) := by
  have q0 : 0 ≤ S * S := Int.mul_nonneg s0 s0
  have kq : Nok (S * S) := k.le q0 (by omega)
  have kr : Nok R := k.le r0 (by omega)
  rcases Int.lt_or_le 1 S with c | c
  · have h2 : 2 * S ≤ S * S := Int.mul_le_mul_of_nonneg_right (by omega) s0
    exact ⟨kq.le s0 (by omega), kr, kq, kq.le (by omega) (by omega)⟩
  · have k2 : Nok 2 := ⟨by decide, Int.lt_of_lt_of_le (show (2 : Int) < 10 ^ 1 by decide) (pow_mono 1 200 (by decide))⟩
    exact ⟨k2.le s0 (by omega), kr, kq, k2.le (by omega) (by omega)⟩
set_option maxHeartbeats 2000000 in
theorem fnNatRoot_any (a0 : Option Addr) (len0 cap0 : Nat) (w : World) (hbig : ¬ 4096 < len0) (hb : Bytes w.heap.size w a0 len0) :
    Calls Try.prog 3 #[.slice a0 len0 cap0] w fun e w' => e = .returned (.bool true) ∧ Below w.heap.size w w' := by
  have hB : Hid (Bytes w.heap.size w a0 len0) := hb
  clear hb
  go_enter Try.func3, Try.ntmps3
  go_wp2_with fail
  refine (big_no _ _ _ _ hbig).mono ?_
  rintro e w' ⟨rfl, hw⟩
  obtain rfl := hw.symm
  go_wp2_with fail
  refine (DrawNatRoot_any _ _ _ _ (by omega) hB.out).mono ?_
  rintro e w1 ⟨s, rfl, hs, hb1⟩
  cases h : natB 200 s with
  | false =>
    have HI : Hid (∀ X, Calls Try.prog 7 #[.string s] X fun r w' => r = .returned (.tuple #[.string { data := #[] }, .string { data := #[] }]) ∧ Below X.heap.size X w') := fun X => iNatRoot_no s X (by omega) h
    have HS : Hid (∀ X, Calls Try.prog 8 #[.string s] X fun r w' => r = .returned (.tuple #[.string { data := #[] }, .string { data := #[] }]) ∧ Below X.heap.size X w') := fun X => sNatRoot_no s X (by omega) h
    clear h
    go_wp2_with fail
    refine (HI.out _).mono ?_
    rintro e w2 ⟨rfl, hb2⟩
    have hb12 : Below w.heap.size w w2 := hb1.trans (hb2.mono hb1.size)
    clear hb1 hb2
    go_wp2_with fail
    refine (HS.out _).mono ?_
    rintro e w3 ⟨rfl, hb3⟩
    have HB : Hid (Below w.heap.size w w3) := hb12.trans (hb3.mono hb12.size)
    clear hb12 hb3
    go_wp2
    go_ret
    exact ⟨rfl, HB.out⟩
  | true =>
    have h0 := (nv_bd 200 s h).1
    obtain ⟨S, R, h1, h2, h3, h4⟩ := root_is (nv s).toNat
    rw [Int.toNat_of_nonneg h0] at h1
    have HI : Hid (∀ X, Calls Try.prog 7 #[.string s] X fun r w' => r = .returned (.tuple #[.string (tn S), .string (tn R)]) ∧ Below X.heap.size X w') := fun X => (iNatRoot_yes s X (by omega) h).mono (by
      rintro e w' ⟨S', R', rfl, g1, g2, g3, g4, hb⟩
      obtain ⟨rfl, rfl⟩ := root_one S R S' R' (by rw [h1, g1]) h2 h3 h4 g2 g3 g4
      exact ⟨rfl, hb⟩)
    have HS : Hid (∀ X, Calls Try.prog 8 #[.string s] X fun r w' => r = .returned (.tuple #[.string (tn S), .string (tn R)]) ∧ Below X.heap.size X w') := fun X => (sNatRoot_yes s X (by omega) h).mono (by
      rintro e w' ⟨S', R', rfl, g1, g2, g3, g4, hb⟩
      obtain ⟨rfl, rfl⟩ := root_one S R S' R' (by rw [h1, g1]) h2 h3 h4 g2 g3 g4
      exact ⟨rfl, hb⟩)
    have es := tn_nv h
    have kA := nok_nv h
    generalize nv s = A at *
    subst es
    obtain ⟨kS, kR, kQ, k2⟩ := root_small S R A h1 h2 h3 h4 kA
    have HM : Hid (∀ X, Calls Try.prog 10 #[.string (tn S), .string (tn S)] X fun e w' => e = .returned (.string (tn (S * S))) ∧ Below X.heap.size X w') := fun X => by
      have := iNatMul_any (tn S) (tn S) X (by have := tn_size S; omega) (by have := tn_size S; omega)
      rw [mul_tn kS kS, fit_tn kQ] at this
      exact this
    have HA : Hid (∀ X, Calls Try.prog 9 #[.string (tn (S * S)), .string (tn R)] X fun e w' => e = .returned (.string (tn A)) ∧ Below X.heap.size X w') := fun X => by
      have := iNatAdd_any (tn (S * S)) (tn R) X (by have := tn_size (S * S); omega) (by have := tn_size R; omega)
      rw [add_tn kQ kR, h1, fit_tn kA] at this
      exact this
    have HA2 : Hid (∀ X, Calls Try.prog 9 #[.string (tn S), .string (tn S)] X fun e w' => e = .returned (.string (tn (S + S))) ∧ Below X.heap.size X w') := fun X => by
      have := iNatAdd_any (tn S) (tn S) X (by have := tn_size S; omega) (by have := tn_size S; omega)
      rw [add_tn kS kS, fit_tn k2] at this
      exact this
    have HC : Hid (∀ X, Calls Try.prog 11 #[.string (tn R), .string (tn (S + S))] X fun e w' => e = .returned (.int .i64 (cmpI R (S + S))) ∧ Below X.heap.size X w') := fun X => by
      have := iNatCmp_any (tn R) (tn (S + S)) X (by have := tn_size R; omega) (by have := tn_size (S + S); omega)
      rw [cmp_tn kR k2] at this
      exact this
    have hc : cmpI R (S + S) ≤ 0 := by
      unfold cmpI; split
      · decide
      · rw [if_neg (by omega)]; decide
    have hqe := tn_some kS
    clear h1 h2 h3 h4 kS kR kQ k2 kA h0 h
    generalize cmpI R (S + S) = C at *
    generalize tn (S * S) = M at *
    generalize tn (S + S) = D at *
    generalize tn S = Q at *
    generalize tn R = E at *
    generalize tn A = a at *
    go_wp2_with fail
    refine (HI.out _).mono ?_
    rintro e w2 ⟨rfl, hb2⟩
    have hb12 : Below w.heap.size w w2 := hb1.trans (hb2.mono hb1.size)
    clear hb1 hb2
    go_wp2_with fail
    refine (HS.out _).mono ?_
    rintro e w3 ⟨rfl, hb3⟩
    have hb13 : Below w.heap.size w w3 := hb12.trans (hb3.mono hb12.size)
    clear hb12 hb3
    go_wp2_with fail
    refine (HM.out _).mono ?_
    rintro e w4 ⟨rfl, hb4⟩
    have hb14 : Below w.heap.size w w4 := hb13.trans (hb4.mono hb13.size)
    clear hb13 hb4
    go_wp2_with fail
    refine (HA.out _).mono ?_
    rintro e w5 ⟨rfl, hb5⟩
    have hb15 : Below w.heap.size w w5 := hb14.trans (hb5.mono hb14.size)
    clear hb14 hb5
    go_wp2_with fail
    refine (HA2.out _).mono ?_
    rintro e w6 ⟨rfl, hb6⟩
    have hb16 : Below w.heap.size w w6 := hb15.trans (hb6.mono hb15.size)
    clear hb15 hb6
    go_wp2_with fail
    refine (HC.out _).mono ?_
    rintro e w7 ⟨rfl, hb7⟩
    have HB : Hid (Below w.heap.size w w7) := hb16.trans (hb7.mono hb16.size)
    clear hb16 hb7
    go_wp2
    go_ret
    exact ⟨rfl, HB.out⟩
theorem shift_two (s : ByteArray) (n : Int) (h : natB 200 s = true) (h0 : 0 ≤ n) (h1 : n ≤ 200) : (Nok (nv s * 10 ^ n.toNat) ∧ shiftS s n = tn (nv s * 10 ^ n.toNat)) ∨ shiftS s n = { data := #[] } := by
  have e : shiftS s n = fitS (nt (nv s * 10 ^ n.toNat)) := by unfold shiftS; rw [h, decide_eq_true h0, decide_eq_true h1]; exact if_pos (by decide)
  rw [e]
  have k := nok_nv h
  have hn0 : 0 ≤ nv s * 10 ^ n.toNat := Int.mul_nonneg k.1 (Int.le_of_lt (ten_pos _))
  have hn1 : nv s * 10 ^ n.toNat < 10 ^ 500 := by
    have h4 : nv s * 10 ^ n.toNat < 10 ^ 200 * 10 ^ n.toNat := Int.mul_lt_mul_of_pos_right k.2 (ten_pos _)
    rw [← Int.pow_add] at h4
    exact Int.lt_of_lt_of_le h4 (pow_mono _ _ (by omega))
  rcases fit_two _ hn0 hn1 with ⟨a, b⟩ | ⟨a, b⟩
  · exact .inl ⟨a, b⟩
  · exact .inr b
theorem shift_no (s : ByteArray) (n : Int) (h : ¬ (natB 200 s = true ∧ 0 ≤ n ∧ n ≤ 200)) : shiftS s n = { data := #[] } := by
  unfold shiftS
  rw [if_neg]
  intro c
  apply h
  simp at c
  exact c
theorem tn_10 : tn 10 = { data := #[49, 48] } := by
  have hc : Canon [1, 0] := canon_cons 1 [0] (by decide) (by decide) (fun d hd => by simp at hd; omega)
  have : nt 10 = [1, 0] := (nt_of [1, 0] 10 hc rfl (by decide)).symm
  unfold tn; rw [this]; rfl
theorem nok_10 : Nok 10 := ⟨by decide, Int.lt_of_lt_of_le (show (10 : Int) < 10 ^ 2 by decide) (pow_mono 2 200 (by decide))⟩
set_option maxHeartbeats 2000000 in
theorem fnNatShift_any (a0 : Option Addr) (len0 cap0 : Nat) (w : World) (hbig : ¬ 4096 < len0) (hb : Bytes w.heap.size w a0 len0) :
    Calls Try.prog 4 #[.slice a0 len0 cap0] w fun e w' => e = .returned (.bool true) ∧ Below w.heap.size w w' := by
  have hB : Hid (Bytes w.heap.size w a0 len0) := hb
  clear hb
  go_enter Try.func4, Try.ntmps4
  go_wp2_with fail
  refine (big_no _ _ _ _ hbig).mono ?_
  rintro e w' ⟨rfl, hw⟩
  obtain rfl := hw.symm
  go_wp2_with fail
  refine (DrawNatShift_any _ _ _ _ (by omega) hB.out).mono ?_
  rintro e w1 ⟨s, n, rfl, hs, hn, hb1⟩
  have HN : Hid (I64 n) := hn
  clear hn
  go_wp2_with fail
  refine (iNatShift_any s n _ (by omega)).mono ?_
  rintro e w2 ⟨rfl, hb2⟩
  have hb12 : Below w.heap.size w w2 := hb1.trans (hb2.mono hb1.size)
  clear hb1 hb2
  go_wp2_with fail
  refine (sNatShift_all s n _ (by omega)).mono ?_
  rintro e w3 ⟨rfl, hb3⟩
  have hb13 : Below w.heap.size w w3 := hb12.trans (hb3.mono hb12.size)
  have HB : Hid (Below w.heap.size w w3) := hb13
  clear hb12 hb3 hb13
  by_cases hE : shiftS s n = { data := #[] }
  · rw [hE]
    clear hE
    go_wp2
    go_ret
    exact ⟨rfl, HB.out⟩
  by_cases hok : natB 200 s = true ∧ 0 ≤ n ∧ n ≤ 200
  case neg => exact absurd (shift_no s n hok) hE
  obtain ⟨h, n0, n1⟩ := hok
  rcases shift_two s n h n0 n1 with ⟨kN, eN⟩ | eN
  case inr => exact absurd eN hE
  rw [eN]
  have he := tn_some kN
  by_cases h6 : 60 < n
  · clear hE eN
    generalize tn (nv s * 10 ^ n.toNat) = T at *
    go_wp2
    go_ret
    exact ⟨rfl, HB.out⟩
  have h6' : decide (60 < n) = false := decide_eq_false h6
  obtain ⟨N, rfl⟩ := Int.eq_ofNat_of_zero_le n0
  rw [Int.toNat_natCast] at kN eN he ⊢
  have es := tn_nv h
  have kA := nok_nv h
  generalize nv s = A at *
  subst es
  have HK : Hid (∀ i, i ≤ N → Nok (A * 10 ^ i)) := fun i hi => kN.le (Int.mul_nonneg kA.1 (Int.le_of_lt (ten_pos _))) (Int.mul_le_mul_of_nonneg_left (pow_mono i N hi) kA.1)
  have HM : Hid (∀ X i, i < N → Calls Try.prog 10 #[.string (tn (A * 10 ^ i)), .string { data := #[49, 48] }] X fun e w' => e = .returned (.string (tn (A * 10 ^ (i + 1)))) ∧ Below X.heap.size X w') := fun X i hi => by
    have := iNatMul_any (tn (A * 10 ^ i)) (tn 10) X (by have := tn_size (A * 10 ^ i); omega) (by have := tn_size 10; omega)
    rw [mul_tn (HK.out i (by omega)) nok_10, Int.mul_assoc, ← Int.pow_succ, fit_tn (HK.out (i + 1) hi), tn_10] at this
    exact this
  have H0 : Hid (tn A = tn (A * 10 ^ 0)) := by show _ = _; rw [Int.pow_zero, Int.mul_one]
  clear hE eN kN kA h HK
  obtain ⟨f, hf⟩ : ∃ f : Nat → ByteArray, f = fun i => tn (A * 10 ^ i) := ⟨_, rfl⟩
  have HM' : Hid (∀ X i, i < N → Calls Try.prog 10 #[.string (f i), .string { data := #[49, 48] }] X fun e w' => e = .returned (.string (f (i + 1))) ∧ Below X.heap.size X w') := by rw [hf]; exact HM
  have H0' : Hid (tn A = f 0) := by rw [hf]; exact H0
  have he' : (f N).toList.isEmpty = false := by rw [hf]; exact he
  have eT : tn (A * 10 ^ N) = f N := by rw [hf]
  rw [eT]
  clear HM H0 he hf eT
  have hN60 : N ≤ 60 := by omega
  go_wp2
  go_loopw [6, 7] (fun p i wr => ∃ k : Nat, k ≤ N ∧ p = .string (f k) ∧ i = .int .i64 (k : Int) ∧ Hid (Below w.heap.size w wr)) (fun _ i _ => N - (intOf i).toNat)
  case atStart => exact ⟨0, Nat.zero_le _, by rw [H0'.out], rfl, HB⟩
  case round =>
    obtain ⟨k, hk, rfl, rfl, HB2⟩ := hrel
    by_cases hlt : k < N
    · have hlt' : (k : Int) < (N : Int) := by omega
      go_wp2_with fail
      refine (HM'.out _ k hlt).mono ?_
      rintro e w4 ⟨rfl, hb4⟩
      have HB4 : Hid (Below w.heap.size w w4) := HB2.out.trans (hb4.mono HB2.out.size)
      clear hb4 HB2
      go_wp2
      go_roundw
      case rel => exact ⟨k + 1, by omega, rfl, by go_num, HB4⟩
      case measure => simp [intOf]; omega
    · have e : k = N := by omega
      subst e
      go_wp2
      go_ret
      exact ⟨rfl, HB2.out⟩
end Go.Proofs.Ytmjkpjmccdjkjae
