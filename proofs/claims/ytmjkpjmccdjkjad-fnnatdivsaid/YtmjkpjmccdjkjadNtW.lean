/-
  FnNatDiv, FnNatRoot and FnNatShift, walked.
-/
import Derived.Test.YtmjkpjmccdjkjadNtL
import Derived.Test.YtmjkpjmccdjkjadNaz
import Derived.Test.YtmjkpjmccdjkjadDrawNt
namespace Go.Proofs.Ytmjkpjmccdjkjad
open Go.RowKit
set_option linter.unusedVariables false
theorem divQ_no (s t : ByteArray) (h : ok2 s t = false ∨ nv t = 0) : divQ s t = { data := #[] } ∧ divR s t = { data := #[] } := by
  unfold divQ divR
  rcases h with h | h
  · rw [h]; exact ⟨rfl, rfl⟩
  · rw [if_pos h, if_pos h]
    exact ⟨by split <;> rfl, by split <;> rfl⟩
set_option maxHeartbeats 2000000 in
theorem fnNatDiv_any (a0 : Option Addr) (len0 cap0 : Nat) (w : World) (hbig : ¬ 4096 < len0) (hb : Bytes w.heap.size w a0 len0) :
    Calls Try.prog 5 #[.slice a0 len0 cap0] w fun e w' => e = .returned (.bool true) ∧ Below w.heap.size w w' := by
  have hB : Hid (Bytes w.heap.size w a0 len0) := hb
  clear hb
  go_enter Try.func5, Try.ntmps5
  go_wp2_with fail
  refine (big_no _ _ _ _ hbig).mono ?_
  rintro e w' ⟨rfl, hw⟩
  obtain rfl := hw.symm
  go_wp2_with fail
  refine (DrawNatDiv_any _ _ _ _ (by omega) hB.out).mono ?_
  rintro e w1 ⟨s, t, rfl, hs, ht, hb1⟩
  go_wp2_with fail
  refine (iNatDiv_any s t _ (by omega) (by omega)).mono ?_
  rintro e w2 ⟨rfl, hb2⟩
  have hb12 : Below w.heap.size w w2 := hb1.trans (hb2.mono hb1.size)
  clear hb1 hb2
  go_wp2_with fail
  refine (sNatDiv_all s t _ (by omega) (by omega)).mono ?_
  rintro e w3 ⟨rfl, hb3⟩
  have hb13 : Below w.heap.size w w3 := hb12.trans (hb3.mono hb12.size)
  clear hb12 hb3
  by_cases hno : ok2 s t = false ∨ nv t = 0
  · obtain ⟨e1, e2⟩ := divQ_no s t hno
    rw [e1, e2]
    clear e1 e2 hno
    have HB : Hid (Below w.heap.size w w3) := hb13
    clear hb13
    go_wp2
    go_ret
    exact ⟨rfl, HB.out⟩
  · have hok : ok2 s t = true := by
      cases h : ok2 s t with
      | false => exact absurd (.inl h) hno
      | true => rfl
    have hz : nv t ≠ 0 := fun h => hno (.inr h)
    obtain ⟨h1, h2⟩ := ok2_yes hok
    have es := tn_nv h1
    have et := tn_nv h2
    have kA := nok_nv h1
    have kB := nok_nv h2
    generalize nv s = A at *
    generalize nv t = B at *
    subst es et
    obtain ⟨e1, e2⟩ := div_tn kA kB hz
    rw [e1, e2]
    have hq0 : 0 ≤ A / B := Int.ediv_nonneg kA.1 kB.1
    have hq1 : A / B ≤ A := Int.ediv_le_self _ kA.1
    have hr0 : 0 ≤ A % B := Int.emod_nonneg _ hz
    have hr1 : A % B < B := Int.emod_lt_of_pos _ (by have := kB.1; omega)
    have kQ : Nok (A / B) := kA.le hq0 hq1
    have kR : Nok (A % B) := kB.le hr0 (Int.le_of_lt hr1)
    have hab : A / B * B + A % B = A := by rw [Int.mul_comm]; exact Int.mul_ediv_add_emod A B
    have hm0 : 0 ≤ A / B * B := Int.mul_nonneg hq0 kB.1
    have kM : Nok (A / B * B) := kA.le hm0 (by omega)
    have HC : Hid (∀ X, Calls Try.prog 22 #[.string (tn (A % B)), .string (tn B)] X fun e w' => e = .returned (.int .i64 (-1)) ∧ Below X.heap.size X w') := fun X => by
      have := iNatCmp_any (tn (A % B)) (tn B) X (by have := tn_size (A % B); omega) (by have := tn_size B; omega)
      rw [cmp_tn kR kB, cmpI_lt _ _ hr1] at this
      exact this
    have HM : Hid (∀ X, Calls Try.prog 20 #[.string (tn (A / B)), .string (tn B)] X fun e w' => e = .returned (.string (tn (A / B * B))) ∧ Below X.heap.size X w') := fun X => by
      have := iNatMul_any (tn (A / B)) (tn B) X (by have := tn_size (A / B); omega) (by have := tn_size B; omega)
      rw [mul_tn kQ kB, fit_tn kM] at this
      exact this
    have HA : Hid (∀ X, Calls Try.prog 19 #[.string (tn (A / B * B)), .string (tn (A % B))] X fun e w' => e = .returned (.string (tn A)) ∧ Below X.heap.size X w') := fun X => by
      have := iNatAdd_any (tn (A / B * B)) (tn (A % B)) X (by have := tn_size (A / B * B); omega) (by have := tn_size (A % B); omega)
      rw [add_tn kM kR, hab, fit_tn kA] at this
      exact this
    have hqe := tn_some kQ
    clear e1 e2 hab hm0 kM kQ kR kA kB h1 h2 hok hno hz hq0 hq1 hr0 hr1
    generalize tn (A / B * B) = M at *
    generalize tn (A / B) = Q at *
    generalize tn (A % B) = R at *
    generalize tn A = a at *
    generalize tn B = b at *
    go_wp2_with fail
    refine (HC.out _).mono ?_
    rintro e w4 ⟨rfl, hb4⟩
    have hb14 : Below w.heap.size w w4 := hb13.trans (hb4.mono hb13.size)
    clear hb13 hb4
    go_wp2_with fail
    refine (HM.out _).mono ?_
    rintro e w5 ⟨rfl, hb5⟩
    have hb15 : Below w.heap.size w w5 := hb14.trans (hb5.mono hb14.size)
    clear hb14 hb5
    go_wp2_with fail
    refine (HA.out _).mono ?_
    rintro e w6 ⟨rfl, hb6⟩
    have HB : Hid (Below w.heap.size w w6) := hb15.trans (hb6.mono hb15.size)
    clear hb15 hb6
    go_wp2
    go_ret
    exact ⟨rfl, HB.out⟩
theorem root_small (S R A : Int) (h : S * S + R = A) (s0 : 0 ≤ S) (r0 : 0 ≤ R) (r1 : R ≤ 2 * S) (k : Nok A) : Nok S ∧ Nok R ∧ Nok (S * S) ∧ Nok (S + S) := by
  have q0 : 0 ≤ S * S := Int.mul_nonneg s0 s0
  have kq : Nok (S * S) := k.le q0 (by omega)
  have kr : Nok R := k.le r0 (by omega)
  rcases Int.lt_or_le 1 S with c | c
  · have h2 : 2 * S ≤ S * S := Int.mul_le_mul_of_nonneg_right (by omega) s0
    exact ⟨kq.le s0 (by omega), kr, kq, kq.le (by omega) (by omega)⟩
  · have k2 : Nok 2 := ⟨by decide, Int.lt_of_lt_of_le (show (2 : Int) < 10 ^ 1 by decide) (pow_mono 1 200 (by decide))⟩
    exact ⟨k2.le s0 (by omega), kr, kq, k2.le (by omega) (by omega)⟩
theorem shift_two (s : ByteArray) (n : Int) (h : natB 200 s = true) (h0 : 0 ≤ n) (h1 : n ≤ 200) : (Nok (nv s * 10 ^ n.toNat) ∧ shiftS s n = tn (nv s * 10 ^ n.toNat)) ∨ shiftS s n = { data := #[] } := by
  have e : shiftS s n = fitS (nt (nv s * 10 ^ n.toNat)) := by unfold shiftS; rw [h, decide_eq_true h0, decide_eq_true h1]; exact if_pos (by decide)
  rw [e]
  have k := nok_nv h
  have hn0 : 0 ≤ nv s * 10 ^ n.toNat := Int.mul_nonneg k.1 (Int.le_of_lt (ten_pos _))
  have hn1 : nv s * 10 ^ n.toNat < 10 ^ 500 := by
    have h4 : nv s * 10 ^ n.toNat < 10 ^ 200 * 10 ^ n.toNat := Int.mul_lt_mul_of_pos_right k.2 (ten_pos _)
    rw [← Int.pow_add] at h4
    exact Int.lt_of_lt_of_le h4 (pow_mono _ _ (by omega))
  rcases fit_two _ hn0 hn1 with ⟨a, b⟩ | ⟨a, b⟩
  · exact .inl ⟨a, b⟩
  · exact .inr b
theorem shift_no (s : ByteArray) (n : Int) (h : ¬ (natB 200 s = true ∧ 0 ≤ n ∧ n ≤ 200)) : shiftS s n = { data := #[] } := by
  unfold shiftS
  rw [if_neg]
  intro c
  apply h
  simp at c
  exact c
theorem tn_10 : tn 10 = { data := #[49, 48] } := by
  have hc : Canon [1, 0] := canon_cons 1 [0] (by decide) (by decide) (fun d hd => by simp at hd; omega)
  have : nt 10 = [1, 0] := (nt_of [1, 0] 10 hc rfl (by decide)).symm
  unfold tn; rw [this]; rfl
theorem nok_10 : Nok 10 := ⟨by decide, Int.lt_of_lt_of_le (show (10 : Int) < 10 ^ 2 by decide) (pow_mono 2 200 (by decide))⟩
end Go.Proofs.Ytmjkpjmccdjkjad
