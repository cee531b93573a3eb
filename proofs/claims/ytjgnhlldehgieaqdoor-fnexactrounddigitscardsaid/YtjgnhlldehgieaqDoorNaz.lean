/-
  Naturals of the program: what is a natural, texts into two naturals, and what the functions on texts answer; walked.
-/
import Derived.Test.YtjgnhlldehgieaqDoorNatS
import Derived.Test.YtjgnhlldehgieaqDoorNau
import Derived.Test.YtjgnhlldehgieaqDoorNatS2
namespace Go.Proofs.YtjgnhlldehgieaqDoor
open Go.RowKit
set_option linter.unusedVariables false
set_option maxRecDepth 100000
set_option maxHeartbeats 4000000 in
theorem iNat_any (s : ByteArray) (n : Int) (w : World) (hs : s.size ≤ 4611686018427387904) :
    Calls Tryd.prog 21 #[.string s, .int .i64 n] w fun e w' => e = .returned (.bool (natB n s)) ∧ w' = w := by
  by_cases hA : s.size < 1
  · have E : Hid (natB n s = false) := natB_empty n s hA
    have h1 : (s.size : Int) = 0 := by omega
    clear hA
    go_enter Tryd.func21, Tryd.ntmps21
    go_wp2
    go_ret
    exact ⟨Ln.ret_bool E.out.symm, rfl⟩
  have h1 : ((s.size : Int) == 0) = false := beq_eq_false_iff_ne.2 (by omega)
  have h0 : 0 < s.size := by omega
  by_cases hB : n < (s.size : Int)
  · have E : Hid (natB n s = false) := natB_long n s hB
    go_enter Tryd.func21, Tryd.ntmps21
    go_wp2
    go_ret
    exact ⟨Ln.ret_bool E.out.symm, rfl⟩
  have h2' : decide (n < (s.size : Int)) = false := by simpa using hB
  have HG : Hid ((∀ k (hk : k < s.size), 48 ≤ (s[k]'hk).toNat ∧ (s[k]'hk).toNat ≤ 57) → (s.size ≤ 1 ∨ (s[0]'h0).toNat ≠ 48) → natB n s = true) := fun h hc => natB_good n s h0 (by omega) hc h
  have HZ : Hid (1 < s.size → (s[0]'h0).toNat = 48 → natB n s = false) := fun h hz => natB_zero n s h hz
  have HB : Hid (∀ k (hk : k < s.size), ((s[k]'hk).toNat < 48 ∨ 57 < (s[k]'hk).toNat) → natB n s = false) := fun k hk h => natB_bad n s k hk h
  clear hA hB
  generalize natB n s = r at *
  go_enter Tryd.func21, Tryd.ntmps21
  go_wp2
  go_loop [17] (fun i => ∃ k : Nat, k ≤ s.size ∧ i = .int .i64 k ∧ Hid (∀ q (hq : q < s.size), q < k → 48 ≤ (s[q]'hq).toNat ∧ (s[q]'hq).toNat ≤ 57)) (fun i => s.size - (intOf i).toNat)
  case atStart => exact ⟨0, Nat.zero_le _, rfl, fun q hq h => absurd h (Nat.not_lt_zero q)⟩
  case round =>
    obtain ⟨k, hk, rfl, hz⟩ := hrel
    by_cases hlt : k < s.size
    · have hlt' : (k : Int) < (s.size : Int) := by omega
      by_cases hlo : (s[k]'hlt).toNat < 48
      · have hl' : ((s[k]'hlt).toNat : Int) < 48 := by omega
        go_wp2
        go_ret
        exact ⟨Ln.ret_bool (HB.out k hlt (.inl hlo)).symm, rfl⟩
      · have hl' : ¬ ((s[k]'hlt).toNat : Int) < 48 := by omega
        have hl'' : decide (((s[k]'hlt).toNat : Int) < 48) = false := decide_eq_false hl'
        by_cases hhi : 57 < (s[k]'hlt).toNat
        · have hh' : (57 : Int) < ((s[k]'hlt).toNat : Int) := by omega
          go_wp2
          go_ret
          exact ⟨Ln.ret_bool (HB.out k hlt (.inr hhi)).symm, rfl⟩
        · have hh' : ¬ (57 : Int) < ((s[k]'hlt).toNat : Int) := by omega
          go_wp2
          go_round
          case rel => exact ⟨k + 1, by omega, by go_num, fun q hq h => by rcases Nat.lt_or_ge q k with c | c; exact hz.out q hq c; obtain rfl : q = k := (by omega); omega⟩
          case measure => simp [intOf]; omega
    · have hkk : ¬ (k : Int) < (s.size : Int) := by omega
      have HA : Hid (∀ q (hq : q < s.size), 48 ≤ (s[q]'hq).toNat ∧ (s[q]'hq).toNat ≤ 57) := fun q hq => hz.out q hq (by omega)
      clear hz
      by_cases h3 : s.size ≤ 1
      · have h3' : (s.size : Int) = 1 := by omega
        have E : Hid (r = true) := HG.out HA.out (.inl h3)
        clear h3
        go_wp2
        go_ret
        exact ⟨Ln.ret_bool E.out.symm, rfl⟩
      · have h3' : ((s.size : Int) == 1) = false := beq_eq_false_iff_ne.2 (by omega)
        by_cases h4 : (s[0]'h0).toNat = 48
        · have h4' : ((s[0]'h0).toNat : Int) = 48 := by omega
          have E : Hid (r = false) := HZ.out (by omega) h4
          clear h4
          go_wp2
          go_ret
          exact ⟨Ln.ret_bool E.out.symm, rfl⟩
        · have h4' : (((s[0]'h0).toNat : Int) == 48) = false := beq_eq_false_iff_ne.2 (by omega)
          have E : Hid (r = true) := HG.out HA.out (.inr h4)
          have h4'' : Hid ((((s[0]'h0).toNat : Int) != 48) = true) := by show _ = _; rw [bne, h4']; rfl
          go_wp2
          go_ret
          exact ⟨Ln.ret_bool (by rw [h4''.out, E.out]), rfl⟩
theorem iNatOk_any (s : ByteArray) (w : World) (hs : s.size ≤ 4611686018427387904) :
    Calls Tryd.prog 11 #[.string s] w fun e w' => e = .returned (.bool (natB 200 s)) ∧ w' = w := by
  go_enter Tryd.func11, Tryd.ntmps11
  go_wp2_with fail
  refine (iNat_any s 200 _ hs).mono ?_
  rintro e w' ⟨rfl, rfl⟩
  go_wp2
  go_ret
  exact ⟨rfl, rfl⟩
theorem nv_fit (s : ByteArray) (h : natB 200 s = true) : NFit (nv s) 200 := (nv_bd 200 s h).2
theorem nt_len (n : Int) (k : Nat) (h0 : 0 ≤ n) (hf : NFit n k) (hk : 1 ≤ k) (hk5 : k ≤ 500) : (nt n).length ≤ k := by
  have hf5 : NFit n 500 := by unfold NFit at *; have := pow_mono k 500 hk5; omega
  obtain ⟨hc, hv⟩ := nt_spec n h0 hf5
  rcases Nat.lt_or_ge k (nt n).length with c | c
  · exfalso
    have l := canon_low (nt n) hc (by omega)
    have m := pow_mono k ((nt n).length - 1) (by omega)
    unfold NFit at hf
    omega
  · exact c
theorem fit_nt (n : Int) (h0 : 0 ≤ n) (hf : NFit n 200) : fitS (nt n) = tx (nt n) := by
  unfold fitS; rw [if_pos (nt_len n 200 h0 hf (by decide) (by decide))]
theorem nOf_text (s : ByteArray) (w : World) (h : natB 200 s = true) :
    Calls Tryd.prog 61 #[.string s] w fun e w' => ∃ u, e = .returned u ∧ NIsF w' w.heap.size u (nv s) ∧ Below w.heap.size w w' := by
  obtain ⟨hc, hl, e⟩ := natB_dl 200 s h
  have := nOf_any (dl s) w hc.1 (by omega)
  rw [← e] at this
  exact this
theorem nsOf_no (s t : ByteArray) (w : World) (hs : s.size ≤ 4611686018427387904) (ht : t.size ≤ 4611686018427387904) (h : ok2 s t = false) :
    Calls Tryd.prog 48 #[.string s, .string t] w fun e w' => e = .returned (.tuple #[.slice none 0 0, .slice none 0 0, .bool false]) ∧ Below w.heap.size w w' := by
  rcases ok2_no h with h1 | ⟨h1, h2⟩
  · have H1 : Hid (natB 200 s = false) := h1
    clear h h1
    go_enter Tryd.func48, Tryd.ntmps48
    go_wp2_with fail
    refine (iNatOk_any s _ hs).mono ?_
    rintro e w' ⟨rfl, rfl⟩
    rw [H1.out]
    go_wp2
    refine bodyPost_ret (results_tmp3 rfl _ _ _) rfl ?_
    exact ⟨rfl, Below.refl _ _⟩
  · have H1 : Hid (natB 200 s = true ∧ natB 200 t = false) := ⟨h1, h2⟩
    clear h h1 h2
    go_enter Tryd.func48, Tryd.ntmps48
    go_wp2_with fail
    refine (iNatOk_any s _ hs).mono ?_
    rintro e w' ⟨rfl, rfl⟩
    rw [H1.out.1]
    go_wp2_with fail
    refine (iNatOk_any t _ ht).mono ?_
    rintro e w' ⟨rfl, rfl⟩
    rw [H1.out.2]
    go_wp2
    refine bodyPost_ret (results_tmp3 rfl _ _ _) rfl ?_
    exact ⟨rfl, Below.refl _ _⟩
theorem nsOf_yes (s t : ByteArray) (w : World) (hs : s.size ≤ 4611686018427387904) (ht : t.size ≤ 4611686018427387904) (h : ok2 s t = true) :
    Calls Tryd.prog 48 #[.string s, .string t] w fun e w' => ∃ u v, e = .returned (.tuple #[u, v, .bool true]) ∧ NIs w' u (nv s) ∧ NIs w' v (nv t) ∧ Below w.heap.size w w' := by
  obtain ⟨h1, h2⟩ := ok2_yes h
  have H1 : Hid (natB 200 s = true ∧ natB 200 t = true) := ⟨h1, h2⟩
  clear h h1 h2
  go_enter Tryd.func48, Tryd.ntmps48
  go_wp2_with fail
  refine (iNatOk_any s _ hs).mono ?_
  rintro e w' ⟨rfl, rfl⟩
  rw [H1.out.1]
  go_wp2_with fail
  refine (iNatOk_any t _ ht).mono ?_
  rintro e w' ⟨rfl, rfl⟩
  rw [H1.out.2]
  go_wp2_with fail
  refine (nOf_text s _ H1.out.1).mono ?_
  rintro e w1 ⟨u, rfl, hu, hb1⟩
  have HU : Hid (NIs w1 u (nv s)) := hu.1
  clear hu
  go_wp2_with fail
  refine (nOf_text t _ H1.out.2).mono ?_
  rintro e w2 ⟨v, rfl, hv, hb2⟩
  have HV : Hid (NIs w2 v (nv t)) := hv.1
  have HU2 : Hid (NIs w2 u (nv s)) := HU.out.below hb2 (Nat.le_refl _)
  have HB : Hid (Below w'.heap.size w' w2) := hb1.trans (hb2.mono hb1.size)
  clear hv hb1 hb2 HU
  go_wp2
  refine bodyPost_ret (results_tmp3 rfl _ _ _) rfl ?_
  exact ⟨u, v, rfl, HU2.out, HV.out, HB.out⟩
theorem fit_add (a b : Int) (ha : NFit a 200) (hb : NFit b 200) : NFit (a + b) 500 := by
  unfold NFit at *
  have h1 := pow_mono 201 500 (by decide)
  have h2 : (10 : Int) ^ 201 = 10 ^ 200 * 10 := Int.pow_succ 10 200
  have p0 : (0 : Int) < 10 ^ 200 := Int.pow_pos (by decide)
  generalize (10 : Int) ^ 200 = e at *
  generalize (10 : Int) ^ 201 = f at *
  generalize (10 : Int) ^ 500 = g at *
  omega
theorem fit_mul (a b : Int) (ha : NFit a 200) (hb : NFit b 200) (a0 : 0 ≤ a) (b0 : 0 ≤ b) : NFit (a * b) 500 := by
  unfold NFit at *
  have h1 := pow_mono 400 500 (by decide)
  have h2 : (10 : Int) ^ 400 = 10 ^ 200 * 10 ^ 200 := Int.pow_add 10 200 200
  have p0 : (0 : Int) < 10 ^ 200 := Int.pow_pos (by decide)
  generalize (10 : Int) ^ 200 = e at *
  generalize (10 : Int) ^ 400 = f at *
  generalize (10 : Int) ^ 500 = g at *
  have h3 : a * b ≤ a * e := Int.mul_le_mul_of_nonneg_left (Int.le_of_lt hb) a0
  have h4 : a * e < e * e := Int.mul_lt_mul_of_pos_right ha p0
  omega
theorem iNatAdd_any (s t : ByteArray) (w : World) (hs : s.size ≤ 4611686018427387904) (ht : t.size ≤ 4611686018427387904) :
    Calls Tryd.prog 32 #[.string s, .string t] w fun e w' => e = .returned (.string (addS s t)) ∧ Below w.heap.size w w' := by
  cases h : ok2 s t with
  | false =>
    have HE : Hid (addS s t = { data := #[] }) := by unfold addS; rw [h]; rfl
    rw [HE.out]
    have HC : Hid (∀ W, Calls Tryd.prog 48 #[.string s, .string t] W fun e w' => e = .returned (.tuple #[.slice none 0 0, .slice none 0 0, .bool false]) ∧ Below W.heap.size W w') := fun W => nsOf_no s t W hs ht h
    clear h
    go_enter Tryd.func32, Tryd.ntmps32
    go_wp2_with fail
    refine (HC.out _).mono ?_
    rintro e w1 ⟨rfl, hb1⟩
    have HB : Hid (Below w.heap.size w w1) := hb1
    clear hb1
    go_wp2
    go_ret
    exact ⟨rfl, HB.out⟩
  | true =>
    obtain ⟨h1, h2⟩ := ok2_yes h
    have fs := nv_fit s h1
    have ft := nv_fit t h2
    have ns := (nv_bd 200 s h1).1
    have nt' := (nv_bd 200 t h2).1
    have HC : Hid (∀ W, Calls Tryd.prog 48 #[.string s, .string t] W fun e w' => ∃ u v, e = .returned (.tuple #[u, v, .bool true]) ∧ NIs w' u (nv s) ∧ NIs w' v (nv t) ∧ Below W.heap.size W w') := fun W => nsOf_yes s t W hs ht h
    have HE : Hid (addS s t = fitS (nt (nv s + nv t))) := by show addS s t = _; unfold addS; rw [h, if_pos rfl]
    rw [HE.out]
    have FS : Hid (NFit (nv s) 1000 ∧ NFit (nv t) 1000) := ⟨by unfold NFit at *; have := pow_mono 200 1000 (by decide); omega, by unfold NFit at *; have := pow_mono 200 1000 (by decide); omega⟩
    have FO : Hid (NFit (nv s + nv t) 500) := fit_add _ _ fs ft
    clear fs ft ns nt'
    clear h h1 h2
    go_enter Tryd.func32, Tryd.ntmps32
    go_wp2_with fail
    refine (HC.out _).mono ?_
    rintro e w1 ⟨u, v, rfl, hu, hv, hb1⟩
    have HU : Hid (NIs w1 u (nv s)) := hu
    have HV : Hid (NIs w1 v (nv t)) := hv
    clear hu hv
    go_wp2_with fail
    refine (nPlus_any _ _ _ _ _ HU.out HV.out FS.out.1 FS.out.2).mono ?_
    rintro e w2 ⟨x, rfl, hx, hb2⟩
    have HX : Hid (NIs w2 x (nv s + nv t)) := hx.1
    have hb12 : Below w.heap.size w w2 := hb1.trans (hb2.mono hb1.size)
    clear hb1 hb2 hx HU HV
    go_wp2_with fail
    refine (nText_any _ _ _ HX.out FO.out).mono ?_
    rintro e w3 ⟨rfl, hb3⟩
    have HB : Hid (Below w.heap.size w w3) := hb12.trans (hb3.mono hb12.size)
    clear hb12 hb3
    go_wp2
    go_ret
    exact ⟨rfl, HB.out⟩
/-- Each number has a root, and what is left. -/
theorem root_is (n : Nat) : ∃ S R : Int, S * S + R = (n : Int) ∧ 0 ≤ S ∧ 0 ≤ R ∧ R ≤ 2 * S := by
  induction n with
  | zero => exact ⟨0, 0, by decide, by decide, by decide, by decide⟩
  | succ n ih =>
    obtain ⟨S, R, h1, h2, h3, h4⟩ := ih
    by_cases h : R + 1 ≤ 2 * S
    · exact ⟨S, R + 1, by omega, h2, by omega, h⟩
    · refine ⟨S + 1, 0, ?_, by omega, by decide, by omega⟩
      have e : (S + 1) * (S + 1) = S * S + 2 * S + 1 := by rw [Int.add_mul, Int.mul_add]; omega
      omega
theorem fit_shift (a : Int) (n : Nat) (ha : NFit a 200) (hn : n ≤ 200) : NFit (a * 10 ^ n) 500 := by
  unfold NFit at *
  have h1 := pow_mono (200 + n) 500 (by omega)
  rw [Int.pow_add] at h1
  have p0 : (0 : Int) < 10 ^ n := Int.pow_pos (by decide)
  have h4 : a * 10 ^ n < 10 ^ 200 * 10 ^ n := Int.mul_lt_mul_of_pos_right ha p0
  exact Int.lt_of_lt_of_le h4 h1
end Go.Proofs.YtjgnhlldehgieaqDoor
