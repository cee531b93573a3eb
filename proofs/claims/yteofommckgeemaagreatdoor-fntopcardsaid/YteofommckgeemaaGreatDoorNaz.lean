/-
  Naturals of the program: what is a natural, texts into two naturals, and what the functions on texts answer; walked.
-/
import Derived.Test.YteofommckgeemaaGreatDoorNatS
import Derived.Test.YteofommckgeemaaGreatDoorNav
import Derived.Test.YteofommckgeemaaGreatDoorNatS2

namespace Go.Proofs.YteofommckgeemaaGreatDoor
open Go.RowKit
set_option linter.unusedVariables false
set_option maxRecDepth 100000
set_option maxHeartbeats 4000000 in
theorem iNat_any (s : ByteArray) (n : Int) (w : World) (hs : s.size ≤ 4611686018427387904) :
    Calls Tryz.prog 219 #[.string s, .int .i64 n] w fun e w' => e = .returned (.bool (natB n s)) ∧ w' = w := by
  by_cases hA : s.size < 1
  · have E : Hid (natB n s = false) := natB_empty n s hA
    have h1 : (s.size : Int) = 0 := by omega
    clear hA
    go_enter Tryz.func219, Tryz.ntmps219
    go_wp2
    go_ret
    exact ⟨Ln.ret_bool E.out.symm, rfl⟩
  have h1 : ((s.size : Int) == 0) = false := beq_eq_false_iff_ne.2 (by omega)
  have h0 : 0 < s.size := by omega
  by_cases hB : n < (s.size : Int)
  · have E : Hid (natB n s = false) := natB_long n s hB
    go_enter Tryz.func219, Tryz.ntmps219
    go_wp2
    go_ret
    exact ⟨Ln.ret_bool E.out.symm, rfl⟩
  have h2' : decide (n < (s.size : Int)) = false := by simpa using hB
  have HG : Hid ((∀ k (hk : k < s.size), 48 ≤ (s[k]'hk).toNat ∧ (s[k]'hk).toNat ≤ 57) → (s.size ≤ 1 ∨ (s[0]'h0).toNat ≠ 48) → natB n s = true) := fun h hc => natB_good n s h0 (by omega) hc h
  have HZ : Hid (1 < s.size → (s[0]'h0).toNat = 48 → natB n s = false) := fun h hz => natB_zero n s h hz
  have HB : Hid (∀ k (hk : k < s.size), ((s[k]'hk).toNat < 48 ∨ 57 < (s[k]'hk).toNat) → natB n s = false) := fun k hk h => natB_bad n s k hk h
  clear hA hB
  generalize natB n s = r at *
  go_enter Tryz.func219, Tryz.ntmps219
  go_wp2
  go_loop [17] (fun i => ∃ k : Nat, k ≤ s.size ∧ i = .int .i64 k ∧ Hid (∀ q (hq : q < s.size), q < k → 48 ≤ (s[q]'hq).toNat ∧ (s[q]'hq).toNat ≤ 57)) (fun i => s.size - (intOf i).toNat)
  case atStart => exact ⟨0, Nat.zero_le _, rfl, fun q hq h => absurd h (Nat.not_lt_zero q)⟩
  case round =>
    obtain ⟨k, hk, rfl, hz⟩ := hrel
    by_cases hlt : k < s.size
    · have hlt' : (k : Int) < (s.size : Int) := by omega
      by_cases hlo : (s[k]'hlt).toNat < 48
      · have hl' : ((s[k]'hlt).toNat : Int) < 48 := by omega
        go_wp2
        go_ret
        exact ⟨Ln.ret_bool (HB.out k hlt (.inl hlo)).symm, rfl⟩
      · have hl' : ¬ ((s[k]'hlt).toNat : Int) < 48 := by omega
        have hl'' : decide (((s[k]'hlt).toNat : Int) < 48) = false := decide_eq_false hl'
        by_cases hhi : 57 < (s[k]'hlt).toNat
        · have hh' : (57 : Int) < ((s[k]'hlt).toNat : Int) := by omega
          go_wp2
          go_ret
          exact ⟨Ln.ret_bool (HB.out k hlt (.inr hhi)).symm, rfl⟩
        · have hh' : ¬ (57 : Int) < ((s[k]'hlt).toNat : Int) := by omega
          go_wp2
          go_round
          case rel => exact ⟨k + 1, by omega, by go_num, fun q hq h => by rcases Nat.lt_or_ge q k with c | c; exact hz.out q hq c; obtain rfl : q = k := (by omega); omega⟩
          case measure => simp [intOf]; omega
    · have hkk : ¬ (k : Int) < (s.size : Int) := by omega
      have HA : Hid (∀ q (hq : q < s.size), 48 ≤ (s[q]'hq).toNat ∧ (s[q]'hq).toNat ≤ 57) := fun q hq => hz.out q hq (by omega)
      clear hz
      by_cases h3 : s.size ≤ 1
      · have h3' : (s.size : Int) = 1 := by omega
        have E : Hid (r = true) := HG.out HA.out (.inl h3)
        clear h3
        go_wp2
        go_ret
        exact ⟨Ln.ret_bool E.out.symm, rfl⟩
      · have h3' : ((s.size : Int) == 1) = false := beq_eq_false_iff_ne.2 (by omega)
        by_cases h4 : (s[0]'h0).toNat = 48
        · have h4' : ((s[0]'h0).toNat : Int) = 48 := by omega
          have E : Hid (r = false) := HZ.out (by omega) h4
          clear h4
          go_wp2
          go_ret
          exact ⟨Ln.ret_bool E.out.symm, rfl⟩
        · have h4' : (((s[0]'h0).toNat : Int) == 48) = false := beq_eq_false_iff_ne.2 (by omega)
          have E : Hid (r = true) := HG.out HA.out (.inr h4)
          have h4'' : Hid ((((s[0]'h0).toNat : Int) != 48) = true) := by show _ = _; rw [bne, h4']; rfl
          go_wp2
          go_ret
          exact ⟨Ln.ret_bool (by rw [h4''.out, E.out]), rfl⟩
theorem iNatOk_any (s : ByteArray) (w : World) (hs : s.size ≤ 4611686018427387904) :
    Calls Tryz.prog 162 #[.string s] w fun e w' => e = .returned (.bool (natB 200 s)) ∧ w' = w := by
  go_enter Tryz.func162, Tryz.ntmps162
  go_wp2_with fail
  refine (iNat_any s 200 _ hs).mono ?_
  rintro e w' ⟨rfl, rfl⟩
  go_wp2
  go_ret
  exact ⟨rfl, rfl⟩
theorem nv_fit (s : ByteArray) (h : natB 200 s = true) : NFit (nv s) 200 := (nv_bd 200 s h).2
theorem nt_len (n : Int) (k : Nat) (h0 : 0 ≤ n) (hf : NFit n k) (hk : 1 ≤ k) (hk5 : k ≤ 500) : (nt n).length ≤ k := by
  have hf5 : NFit n 500 := by unfold NFit at *; have := pow_mono k 500 hk5; omega
  obtain ⟨hc, hv⟩ := nt_spec n h0 hf5
  rcases Nat.lt_or_ge k (nt n).length with c | c
  · exfalso
    have l := canon_low (nt n) hc (by omega)
    have m := pow_mono k ((nt n).length - 1) (by omega)
    unfold NFit at hf
    omega
  · exact c
theorem fit_nt (n : Int) (h0 : 0 ≤ n) (hf : NFit n 200) : fitS (nt n) = tx (nt n) := by
  unfold fitS; rw [if_pos (nt_len n 200 h0 hf (by decide) (by decide))]
theorem nOf_text (s : ByteArray) (w : World) (h : natB 200 s = true) :
    Calls Tryz.prog 163 #[.string s] w fun e w' => ∃ u, e = .returned u ∧ NIsF w' w.heap.size u (nv s) ∧ Below w.heap.size w w' := by
  obtain ⟨hc, hl, e⟩ := natB_dl 200 s h
  have := nOf_any (dl s) w hc.1 (by omega)
  rw [← e] at this
  exact this
theorem nsOf_no (s t : ByteArray) (w : World) (hs : s.size ≤ 4611686018427387904) (ht : t.size ≤ 4611686018427387904) (h : ok2 s t = false) :
    Calls Tryz.prog 159 #[.string s, .string t] w fun e w' => e = .returned (.tuple #[.slice none 0 0, .slice none 0 0, .bool false]) ∧ Below w.heap.size w w' := by
  rcases ok2_no h with h1 | ⟨h1, h2⟩
  · have H1 : Hid (natB 200 s = false) := h1
    clear h h1
    go_enter Tryz.func159, Tryz.ntmps159
    go_wp2_with fail
    refine (iNatOk_any s _ hs).mono ?_
    rintro e w' ⟨rfl, rfl⟩
    rw [H1.out]
    go_wp2
    refine bodyPost_ret (results_tmp3 rfl _ _ _) rfl ?_
    exact ⟨rfl, Below.refl _ _⟩
  · have H1 : Hid (natB 200 s = true ∧ natB 200 t = false) := ⟨h1, h2⟩
    clear h h1 h2
    go_enter Tryz.func159, Tryz.ntmps159
    go_wp2_with fail
    refine (iNatOk_any s _ hs).mono ?_
    rintro e w' ⟨rfl, rfl⟩
    rw [H1.out.1]
    go_wp2_with fail
    refine (iNatOk_any t _ ht).mono ?_
    rintro e w' ⟨rfl, rfl⟩
    rw [H1.out.2]
    go_wp2
    refine bodyPost_ret (results_tmp3 rfl _ _ _) rfl ?_
    exact ⟨rfl, Below.refl _ _⟩
theorem nsOf_yes (s t : ByteArray) (w : World) (hs : s.size ≤ 4611686018427387904) (ht : t.size ≤ 4611686018427387904) (h : ok2 s t = true) :
    Calls Tryz.prog 159 #[.string s, .string t] w fun e w' => ∃ u v, e = .returned (.tuple #[u, v, .bool true]) ∧ NIs w' u (nv s) ∧ NIs w' v (nv t) ∧ Below w.heap.size w w' := by
  obtain ⟨h1, h2⟩ := ok2_yes h
  have H1 : Hid (natB 200 s = true ∧ natB 200 t = true) := ⟨h1, h2⟩
  clear h h1 h2
  go_enter Tryz.func159, Tryz.ntmps159
  go_wp2_with fail
  refine (iNatOk_any s _ hs).mono ?_
  rintro e w' ⟨rfl, rfl⟩
  rw [H1.out.1]
  go_wp2_with fail
  refine (iNatOk_any t _ ht).mono ?_
  rintro e w' ⟨rfl, rfl⟩
  rw [H1.out.2]
  go_wp2_with fail
  refine (nOf_text s _ H1.out.1).mono ?_
  rintro e w1 ⟨u, rfl, hu, hb1⟩
  have HU : Hid (NIs w1 u (nv s)) := hu.1
  clear hu
  go_wp2_with fail
  refine (nOf_text t _ H1.out.2).mono ?_
  rintro e w2 ⟨v, rfl, hv, hb2⟩
  have HV : Hid (NIs w2 v (nv t)) := hv.1
  have HU2 : Hid (NIs w2 u (nv s)) := HU.out.below hb2 (Nat.le_refl _)
  have HB : Hid (Below w'.heap.size w' w2) := hb1.trans (hb2.mono hb1.size)
  clear hv hb1 hb2 HU
  go_wp2
  refine bodyPost_ret (results_tmp3 rfl _ _ _) rfl ?_
  exact ⟨u, v, rfl, HU2.out, HV.out, HB.out⟩
theorem iNatCmp_any (s t : ByteArray) (w : World) (hs : s.size ≤ 4611686018427387904) (ht : t.size ≤ 4611686018427387904) :
    Calls Tryz.prog 256 #[.string s, .string t] w fun e w' => e = .returned (.int .i64 (cmpS s t)) ∧ Below w.heap.size w w' := by
  cases h : ok2 s t with
  | false =>
    have HE : Hid (cmpS s t = 2) := by unfold cmpS; rw [h]; rfl
    rw [HE.out]
    have HC : Hid (∀ W, Calls Tryz.prog 159 #[.string s, .string t] W fun e w' => e = .returned (.tuple #[.slice none 0 0, .slice none 0 0, .bool false]) ∧ Below W.heap.size W w') := fun W => nsOf_no s t W hs ht h
    clear h
    go_enter Tryz.func256, Tryz.ntmps256
    go_wp2_with fail
    refine (HC.out _).mono ?_
    rintro e w1 ⟨rfl, hb1⟩
    have HB : Hid (Below w.heap.size w w1) := hb1
    clear hb1
    go_wp2
    go_ret
    exact ⟨rfl, HB.out⟩
  | true =>
    obtain ⟨h1, h2⟩ := ok2_yes h
    have fs := nv_fit s h1
    have ft := nv_fit t h2
    have ns := (nv_bd 200 s h1).1
    have nt' := (nv_bd 200 t h2).1
    have HC : Hid (∀ W, Calls Tryz.prog 159 #[.string s, .string t] W fun e w' => ∃ u v, e = .returned (.tuple #[u, v, .bool true]) ∧ NIs w' u (nv s) ∧ NIs w' v (nv t) ∧ Below W.heap.size W w') := fun W => nsOf_yes s t W hs ht h
    have HE : Hid (cmpS s t = cmpI (nv s) (nv t)) := by unfold cmpS; rw [h]; rfl
    rw [HE.out]
    have FS : Hid (NFit (nv s) 1000 ∧ NFit (nv t) 1000) := ⟨by unfold NFit at *; have := pow_mono 200 1000 (by decide); omega, by unfold NFit at *; have := pow_mono 200 1000 (by decide); omega⟩
    clear fs ft ns nt'
    clear h h1 h2
    go_enter Tryz.func256, Tryz.ntmps256
    go_wp2_with fail
    refine (HC.out _).mono ?_
    rintro e w1 ⟨u, v, rfl, hu, hv, hb1⟩
    have HU : Hid (NIs w1 u (nv s)) := hu
    have HV : Hid (NIs w1 v (nv t)) := hv
    clear hu hv
    go_wp2_with fail
    refine (nCompare_any _ _ _ _ _ HU.out HV.out FS.out.1 FS.out.2).mono ?_
    rintro e w2 ⟨rfl, hb2⟩
    have HB : Hid (Below w.heap.size w w2) := hb1.trans (hb2.mono hb1.size)
    clear hb1 hb2
    go_wp2
    go_ret
    exact ⟨rfl, HB.out⟩
theorem fit_add (a b : Int) (ha : NFit a 200) (hb : NFit b 200) : NFit (a + b) 500 := by
  unfold NFit at *
  have h1 := pow_mono 201 500 (by decide)
  have h2 : (10 : Int) ^ 201 = 10 ^ 200 * 10 := Int.pow_succ 10 200
  have p0 : (0 : Int) < 10 ^ 200 := Int.pow_pos (by decide)
  generalize (10 : Int) ^ 200 = e at *
  generalize (10 : Int) ^ 201 = f at *
  generalize (10 : Int) ^ 500 = g at *
  omega
theorem fit_mul (a b : Int) (ha : NFit a 200) (hb : NFit b 200) (a0 : 0 ≤ a) (b0 : 0 ≤ b) : NFit (a * b) 500 := by
  unfold NFit at *
  have h1 := pow_mono 400 500 (by decide)
  have h2 : (10 : Int) ^ 400 = 10 ^ 200 * 10 ^ 200 := Int.pow_add 10 200 200
  have p0 : (0 : Int) < 10 ^ 200 := Int.pow_pos (by decide)
  generalize (10 : Int) ^ 200 = e at *
  generalize (10 : Int) ^ 400 = f at *
  generalize (10 : Int) ^ 500 = g at *
  have h3 : a * b ≤ a * e := Int.mul_le_mul_of_nonneg_left (Int.le_of_lt hb) a0
  have h4 : a * e < e * e := Int.mul_lt_mul_of_pos_right ha p0
  omega
theorem iNatAdd_any (s t : ByteArray) (w : World) (hs : s.size ≤ 4611686018427387904) (ht : t.size ≤ 4611686018427387904) :
    Calls Tryz.prog 255 #[.string s, .string t] w fun e w' => e = .returned (.string (addS s t)) ∧ Below w.heap.size w w' := by
  cases h : ok2 s t with
  | false =>
    have HE : Hid (addS s t = { data := #[] }) := by unfold addS; rw [h]; rfl
    rw [HE.out]
    have HC : Hid (∀ W, Calls Tryz.prog 159 #[.string s, .string t] W fun e w' => e = .returned (.tuple #[.slice none 0 0, .slice none 0 0, .bool false]) ∧ Below W.heap.size W w') := fun W => nsOf_no s t W hs ht h
    clear h
    go_enter Tryz.func255, Tryz.ntmps255
    go_wp2_with fail
    refine (HC.out _).mono ?_
    rintro e w1 ⟨rfl, hb1⟩
    have HB : Hid (Below w.heap.size w w1) := hb1
    clear hb1
    go_wp2
    go_ret
    exact ⟨rfl, HB.out⟩
  | true =>
    obtain ⟨h1, h2⟩ := ok2_yes h
    have fs := nv_fit s h1
    have ft := nv_fit t h2
    have ns := (nv_bd 200 s h1).1
    have nt' := (nv_bd 200 t h2).1
    have HC : Hid (∀ W, Calls Tryz.prog 159 #[.string s, .string t] W fun e w' => ∃ u v, e = .returned (.tuple #[u, v, .bool true]) ∧ NIs w' u (nv s) ∧ NIs w' v (nv t) ∧ Below W.heap.size W w') := fun W => nsOf_yes s t W hs ht h
    have HE : Hid (addS s t = fitS (nt (nv s + nv t))) := by show addS s t = _; unfold addS; rw [h, if_pos rfl]
    rw [HE.out]
    have FS : Hid (NFit (nv s) 1000 ∧ NFit (nv t) 1000) := ⟨by unfold NFit at *; have := pow_mono 200 1000 (by decide); omega, by unfold NFit at *; have := pow_mono 200 1000 (by decide); omega⟩
    have FO : Hid (NFit (nv s + nv t) 500) := fit_add _ _ fs ft
    clear fs ft ns nt'
    clear h h1 h2
    go_enter Tryz.func255, Tryz.ntmps255
    go_wp2_with fail
    refine (HC.out _).mono ?_
    rintro e w1 ⟨u, v, rfl, hu, hv, hb1⟩
    have HU : Hid (NIs w1 u (nv s)) := hu
    have HV : Hid (NIs w1 v (nv t)) := hv
    clear hu hv
    go_wp2_with fail
    refine (nPlus_any _ _ _ _ _ HU.out HV.out FS.out.1 FS.out.2).mono ?_
    rintro e w2 ⟨x, rfl, hx, hb2⟩
    have HX : Hid (NIs w2 x (nv s + nv t)) := hx.1
    have hb12 : Below w.heap.size w w2 := hb1.trans (hb2.mono hb1.size)
    clear hb1 hb2 hx HU HV
    go_wp2_with fail
    refine (nText_any _ _ _ HX.out FO.out).mono ?_
    rintro e w3 ⟨rfl, hb3⟩
    have HB : Hid (Below w.heap.size w w3) := hb12.trans (hb3.mono hb12.size)
    clear hb12 hb3
    go_wp2
    go_ret
    exact ⟨rfl, HB.out⟩
theorem iNatMul_any (s t : ByteArray) (w : World) (hs : s.size ≤ 4611686018427387904) (ht : t.size ≤ 4611686018427387904) :
    Calls Tryz.prog 155 #[.string s, .string t] w fun e w' => e = .returned (.string (mulS s t)) ∧ Below w.heap.size w w' := by
  cases h : ok2 s t with
  | false =>
    have HE : Hid (mulS s t = { data := #[] }) := by unfold mulS; rw [h]; rfl
    rw [HE.out]
    have HC : Hid (∀ W, Calls Tryz.prog 159 #[.string s, .string t] W fun e w' => e = .returned (.tuple #[.slice none 0 0, .slice none 0 0, .bool false]) ∧ Below W.heap.size W w') := fun W => nsOf_no s t W hs ht h
    clear h
    go_enter Tryz.func155, Tryz.ntmps155
    go_wp2_with fail
    refine (HC.out _).mono ?_
    rintro e w1 ⟨rfl, hb1⟩
    have HB : Hid (Below w.heap.size w w1) := hb1
    clear hb1
    go_wp2
    go_ret
    exact ⟨rfl, HB.out⟩
  | true =>
    obtain ⟨h1, h2⟩ := ok2_yes h
    have fs := nv_fit s h1
    have ft := nv_fit t h2
    have ns := (nv_bd 200 s h1).1
    have nt' := (nv_bd 200 t h2).1
    have HC : Hid (∀ W, Calls Tryz.prog 159 #[.string s, .string t] W fun e w' => ∃ u v, e = .returned (.tuple #[u, v, .bool true]) ∧ NIs w' u (nv s) ∧ NIs w' v (nv t) ∧ Below W.heap.size W w') := fun W => nsOf_yes s t W hs ht h
    have HE : Hid (mulS s t = fitS (nt (nv s * nv t))) := by show mulS s t = _; unfold mulS; rw [h, if_pos rfl]
    rw [HE.out]
    have FS : Hid (NFit (nv s) 1000 ∧ NFit (nv t) 1000) := ⟨by unfold NFit at *; have := pow_mono 200 1000 (by decide); omega, by unfold NFit at *; have := pow_mono 200 1000 (by decide); omega⟩
    have FO : Hid (NFit (nv s * nv t) 500) := fit_mul _ _ fs ft ns nt'
    clear fs ft ns nt'
    clear h h1 h2
    go_enter Tryz.func155, Tryz.ntmps155
    go_wp2_with fail
    refine (HC.out _).mono ?_
    rintro e w1 ⟨u, v, rfl, hu, hv, hb1⟩
    have HU : Hid (NIs w1 u (nv s)) := hu
    have HV : Hid (NIs w1 v (nv t)) := hv
    clear hu hv
    go_wp2_with fail
    refine (nTimes_any _ _ _ _ _ HU.out HV.out FS.out.1 FS.out.2).mono ?_
    rintro e w2 ⟨x, rfl, hx, hb2⟩
    have HX : Hid (NIs w2 x (nv s * nv t)) := hx.1
    have hb12 : Below w.heap.size w w2 := hb1.trans (hb2.mono hb1.size)
    clear hb1 hb2 hx HU HV
    go_wp2_with fail
    refine (nText_any _ _ _ HX.out FO.out).mono ?_
    rintro e w3 ⟨rfl, hb3⟩
    have HB : Hid (Below w.heap.size w w3) := hb12.trans (hb3.mono hb12.size)
    clear hb12 hb3
    go_wp2
    go_ret
    exact ⟨rfl, HB.out⟩
theorem iNatSub_any (s t : ByteArray) (w : World) (hs : s.size ≤ 4611686018427387904) (ht : t.size ≤ 4611686018427387904) :
    Calls Tryz.prog 257 #[.string s, .string t] w fun e w' => e = .returned (.string (subS s t)) ∧ Below w.heap.size w w' := by
  cases h : ok2 s t with
  | false =>
    have HE : Hid (subS s t = { data := #[] }) := by unfold subS; rw [h]; rfl
    rw [HE.out]
    have HC : Hid (∀ W, Calls Tryz.prog 159 #[.string s, .string t] W fun e w' => e = .returned (.tuple #[.slice none 0 0, .slice none 0 0, .bool false]) ∧ Below W.heap.size W w') := fun W => nsOf_no s t W hs ht h
    clear h
    go_enter Tryz.func257, Tryz.ntmps257
    go_wp2_with fail
    refine (HC.out _).mono ?_
    rintro e w1 ⟨rfl, hb1⟩
    have HB : Hid (Below w.heap.size w w1) := hb1
    clear hb1
    go_wp2
    go_ret
    exact ⟨rfl, HB.out⟩
  | true =>
    obtain ⟨h1, h2⟩ := ok2_yes h
    have fs := nv_fit s h1
    have ft := nv_fit t h2
    have ns := (nv_bd 200 s h1).1
    have nt' := (nv_bd 200 t h2).1
    have HC : Hid (∀ W, Calls Tryz.prog 159 #[.string s, .string t] W fun e w' => ∃ u v, e = .returned (.tuple #[u, v, .bool true]) ∧ NIs w' u (nv s) ∧ NIs w' v (nv t) ∧ Below W.heap.size W w') := fun W => nsOf_yes s t W hs ht h
    have FS : Hid (NFit (nv s) 1000 ∧ NFit (nv t) 1000) := ⟨by unfold NFit at *; have := pow_mono 200 1000 (by decide); omega, by unfold NFit at *; have := pow_mono 200 1000 (by decide); omega⟩
    by_cases hlt : nv s < nv t
    · have HE : Hid (subS s t = { data := #[] }) := by show subS s t = _; unfold subS; rw [h, if_pos rfl, if_pos hlt]
      rw [HE.out]
      have HL : Hid (cmpI (nv s) (nv t) = -1) := cmpI_lt _ _ hlt
      clear fs ft ns nt' hlt
      clear h h1 h2
      go_enter Tryz.func257, Tryz.ntmps257
      go_wp2_with fail
      refine (HC.out _).mono ?_
      rintro e w1 ⟨u, v, rfl, hu, hv, hb1⟩
      have HU : Hid (NIs w1 u (nv s)) := hu
      have HV : Hid (NIs w1 v (nv t)) := hv
      clear hu hv
      go_wp2_with fail
      refine (nCompare_any _ _ _ _ _ HU.out HV.out FS.out.1 FS.out.2).mono ?_
      rintro e w2 ⟨rfl, hb2⟩
      rw [HL.out]
      have HB : Hid (Below w.heap.size w w2) := hb1.trans (hb2.mono hb1.size)
      clear hb1 hb2
      go_wp2
      go_ret
      exact ⟨rfl, HB.out⟩
    · have HE : Hid (subS s t = fitS (nt (nv s - nv t))) := by
        show subS s t = _
        unfold subS; rw [h, if_pos rfl, if_neg hlt, fit_nt _ (by omega) (by unfold NFit at *; omega)]
      rw [HE.out]
      have FO : Hid (NFit (nv s - nv t) 500) := by
        show NFit _ _
        unfold NFit at *; have := pow_mono 200 500 (by decide); omega
      have HLE : Hid (nv t ≤ nv s) := by show _ ≤ _; omega
      have HL : Hid (0 ≤ cmpI (nv s) (nv t) ∧ cmpI (nv s) (nv t) ≤ 1) := by show _ ∧ _; unfold cmpI; rw [if_neg hlt]; split <;> omega
      clear fs ft ns nt' hlt
      clear h h1 h2
      go_enter Tryz.func257, Tryz.ntmps257
      go_wp2_with fail
      refine (HC.out _).mono ?_
      rintro e w1 ⟨u, v, rfl, hu, hv, hb1⟩
      have HU : Hid (NIs w1 u (nv s)) := hu
      have HV : Hid (NIs w1 v (nv t)) := hv
      clear hu hv
      go_wp2_with fail
      refine (nCompare_any _ _ _ _ _ HU.out HV.out FS.out.1 FS.out.2).mono ?_
      rintro e w2 ⟨rfl, hb2⟩
      have HU2 : Hid (NIs w2 u (nv s)) := HU.out.below hb2 (Nat.le_refl _)
      have HV2 : Hid (NIs w2 v (nv t)) := HV.out.below hb2 (Nat.le_refl _)
      have hb12 : Below w.heap.size w w2 := hb1.trans (hb2.mono hb1.size)
      have hc0 := HL.out.1
      have hc1 := HL.out.2
      generalize cmpI (nv s) (nv t) = C at *
      have hC : decide (C < 0) = false := decide_eq_false (by omega)
      clear hb1 hb2 HU HV HL
      go_wp2_with fail
      refine (nMinus_any _ _ _ _ _ HU2.out HV2.out FS.out.1 FS.out.2 HLE.out).mono ?_
      rintro e w3 ⟨x, rfl, hx, hb3⟩
      have HX : Hid (NIs w3 x (nv s - nv t)) := hx.1
      have hb13 : Below w.heap.size w w3 := hb12.trans (hb3.mono hb12.size)
      clear hb12 hb3 hx HU2 HV2
      go_wp2_with fail
      refine (nText_any _ _ _ HX.out FO.out).mono ?_
      rintro e w4 ⟨rfl, hb4⟩
      have HB : Hid (Below w.heap.size w w4) := hb13.trans (hb4.mono hb13.size)
      clear hb13 hb4
      go_wp2
      go_ret
      exact ⟨rfl, HB.out⟩
theorem iNatDiv_any (s t : ByteArray) (w : World) (hs : s.size ≤ 4611686018427387904) (ht : t.size ≤ 4611686018427387904) :
    Calls Tryz.prog 86 #[.string s, .string t] w fun e w' => e = .returned (.tuple #[.string (divQ s t), .string (divR s t)]) ∧ Below w.heap.size w w' := by
  cases h : ok2 s t with
  | false =>
    have HE : Hid (divQ s t = { data := #[] } ∧ divR s t = { data := #[] }) := by unfold divQ divR; rw [h]; exact ⟨rfl, rfl⟩
    rw [HE.out.1, HE.out.2]
    have HC : Hid (∀ W, Calls Tryz.prog 159 #[.string s, .string t] W fun e w' => e = .returned (.tuple #[.slice none 0 0, .slice none 0 0, .bool false]) ∧ Below W.heap.size W w') := fun W => nsOf_no s t W hs ht h
    clear h
    go_enter Tryz.func86, Tryz.ntmps86
    go_wp2_with fail
    refine (HC.out _).mono ?_
    rintro e w1 ⟨rfl, hb1⟩
    have HB : Hid (Below w.heap.size w w1) := hb1
    clear hb1
    go_wp2
    go_ret2
    exact ⟨rfl, HB.out⟩
  | true =>
    obtain ⟨h1, h2⟩ := ok2_yes h
    have fs := nv_fit s h1
    have ft := nv_fit t h2
    have ns := (nv_bd 200 s h1).1
    have nt' := (nv_bd 200 t h2).1
    have HC : Hid (∀ W, Calls Tryz.prog 159 #[.string s, .string t] W fun e w' => ∃ u v, e = .returned (.tuple #[u, v, .bool true]) ∧ NIs w' u (nv s) ∧ NIs w' v (nv t) ∧ Below W.heap.size W w') := fun W => nsOf_yes s t W hs ht h
    have FS : Hid (NFit (nv s) 900 ∧ NFit (nv t) 900) := ⟨by unfold NFit at *; have := pow_mono 200 900 (by decide); omega, by unfold NFit at *; have := pow_mono 200 900 (by decide); omega⟩
    by_cases hz : nv t = 0
    · have HE : Hid (divQ s t = { data := #[] } ∧ divR s t = { data := #[] }) := by
        show _ ∧ _
        unfold divQ divR; rw [h, if_pos rfl, if_pos rfl, if_pos hz, if_pos hz]; exact ⟨rfl, rfl⟩
      rw [HE.out.1, HE.out.2]
      have HZ : Hid (∀ W v, NIs W v (nv t) → ∃ g c, v = .slice (some ⟨g, 0, none⟩) 0 c) := fun W v hv => by
        obtain ⟨L, ⟨g, c, e, -⟩, hc, hl⟩ := hv
        rw [ncan_nought L hc (by rw [hl, hz])] at e
        exact ⟨g, c, e⟩
      clear fs ft ns nt' hz
      clear h h1 h2
      go_enter Tryz.func86, Tryz.ntmps86
      go_wp2_with fail
      refine (HC.out _).mono ?_
      rintro e w1 ⟨u, v, rfl, hu, hv, hb1⟩
      have HU : Hid (NIs w1 u (nv s)) := hu
      have HV : Hid (NIs w1 v (nv t)) := hv
      clear hu hv
      obtain ⟨g, c, rfl⟩ := HZ.out _ _ HV.out
      have HB : Hid (Below w.heap.size w w1) := hb1
      clear hb1
      go_wp2
      go_ret2
      exact ⟨rfl, HB.out⟩
    · have hq : 0 ≤ nv s / nv t := Int.ediv_nonneg ns nt'
      have hr : 0 ≤ nv s % nv t := Int.emod_nonneg _ hz
      have hq2 : nv s / nv t ≤ nv s := Int.ediv_le_self _ ns
      have hr2 : nv s % nv t < nv t := Int.emod_lt_of_pos _ (by omega)
      have HE : Hid (divQ s t = fitS (nt (nv s / nv t)) ∧ divR s t = fitS (nt (nv s % nv t))) := by
        show _ ∧ _
        unfold divQ divR; rw [h, if_pos rfl, if_pos rfl, if_neg hz, if_neg hz, fit_nt _ hq (by unfold NFit at *; omega), fit_nt _ hr (by unfold NFit at *; omega)]; exact ⟨rfl, rfl⟩
      rw [HE.out.1, HE.out.2]
      have FO : Hid (NFit (nv s / nv t) 500 ∧ NFit (nv s % nv t) 500) := by
        show _ ∧ _
        have := pow_mono 200 500 (by decide)
        unfold NFit at *; exact ⟨by omega, by omega⟩
      have HP : Hid (0 < nv t) := by show _ < _; omega
      have HZ : Hid (∀ W v, NIs W v (nv t) → ∃ (g c n : Nat), v = .slice (some ⟨g, 0, none⟩) n c ∧ ((n : Int) == 0) = false ∧ n ≤ 200) := fun W v hv => by
        obtain ⟨L, ⟨g, c, e, -⟩, hc, hl⟩ := hv
        refine ⟨g, c, L.length, e, beq_eq_false_iff_ne.2 fun e0 => hz ?_, ncan_len L 200 hc (by rw [hl]; exact ft)⟩
        rw [← hl, List.length_eq_zero_iff.1 (show L.length = 0 by omega)]; rfl
      clear fs ft ns nt' hz hq hr hq2 hr2
      clear h h1 h2
      go_enter Tryz.func86, Tryz.ntmps86
      go_wp2_with fail
      refine (HC.out _).mono ?_
      rintro e w1 ⟨u, v, rfl, hu, hv, hb1⟩
      have HU : Hid (NIs w1 u (nv s)) := hu
      have HV : Hid (NIs w1 v (nv t)) := hv
      clear hu hv
      obtain ⟨g, c, n, rfl, hn0, hn2⟩ := HZ.out _ _ HV.out
      go_wp2_with fail
      refine (nDivide_any _ _ _ _ _ HU.out HV.out FS.out.1 FS.out.2 HP.out).mono ?_
      rintro e w2 ⟨x, y, rfl, hx, hy, hb2⟩
      have HX : Hid (NIs w2 x (nv s / nv t)) := hx.1
      have HY : Hid (NIs w2 y (nv s % nv t)) := hy.1
      have hb12 : Below w.heap.size w w2 := hb1.trans (hb2.mono hb1.size)
      clear hb1 hb2 hx hy HU HV
      go_wp2_with fail
      refine (nText_any _ _ _ HX.out FO.out.1).mono ?_
      rintro e w3 ⟨rfl, hb3⟩
      have HY3 : Hid (NIs w3 y (nv s % nv t)) := HY.out.below hb3 (Nat.le_refl _)
      have hb13 : Below w.heap.size w w3 := hb12.trans (hb3.mono hb12.size)
      clear hb12 hb3 HX HY
      go_wp2_with fail
      refine (nText_any _ _ _ HY3.out FO.out.2).mono ?_
      rintro e w4 ⟨rfl, hb4⟩
      have HB : Hid (Below w.heap.size w w4) := hb13.trans (hb4.mono hb13.size)
      clear hb13 hb4
      go_wp2
      go_ret2
      exact ⟨rfl, HB.out⟩
theorem iNatRoot_yes (s : ByteArray) (w : World) (hs : s.size ≤ 4611686018427387904) (h : natB 200 s = true) :
    Calls Tryz.prog 96 #[.string s] w fun e w' => ∃ S R : Int, e = .returned (.tuple #[.string (tx (nt S)), .string (tx (nt R))]) ∧ S * S + R = nv s ∧ 0 ≤ S ∧ 0 ≤ R ∧ R ≤ 2 * S ∧ Below w.heap.size w w' := by
  have H : Hid (natB 200 s = true) := h
  have fs := nv_fit s h
  have F5 : Hid (NFit (nv s) 500) := by show NFit _ _; unfold NFit at *; have := pow_mono 200 500 (by decide); omega
  have HTX : Hid (∀ S R : Int, S * S + R = nv s → 0 ≤ S → 0 ≤ R → fitS (nt S) = tx (nt S) ∧ fitS (nt R) = tx (nt R) ∧ NFit S 500 ∧ NFit R 500) := fun S R h1 h2 h3 => by
    have q0 : 0 ≤ S * S := Int.mul_nonneg h2 h2
    have q1 : S ≤ S * S := by
      rcases Int.lt_or_le 0 S with c | c
      · have : S * 1 ≤ S * S := Int.mul_le_mul_of_nonneg_left (by omega) h2
        omega
      · omega
    have g1 : NFit S 200 := by unfold NFit at *; omega
    have g2 : NFit R 200 := by unfold NFit at *; omega
    have := pow_mono 200 500 (by decide)
    exact ⟨fit_nt S h2 g1, fit_nt R h3 g2, by unfold NFit at *; omega, by unfold NFit at *; omega⟩
  clear h fs
  go_enter Tryz.func96, Tryz.ntmps96
  go_wp2_with fail
  refine (iNatOk_any s _ hs).mono ?_
  rintro e w' ⟨rfl, rfl⟩
  rw [H.out]
  go_wp2_with fail
  refine (nOf_text s _ H.out).mono ?_
  rintro e w1 ⟨u, rfl, hu, hb1⟩
  have HU : Hid (NIs w1 u (nv s)) := hu.1
  clear hu
  go_wp2_with fail
  refine (nRoot_any _ _ _ HU.out F5.out).mono ?_
  rintro e w2 ⟨x, y, rfl, ⟨S, R, hx, hy, g1, g2, g3, g4⟩, hb2⟩
  obtain ⟨e1, e2, f1, f2⟩ := HTX.out S R g1 g2 g3
  have HX : Hid (NIs w2 x S) := hx
  have HY : Hid (NIs w2 y R) := hy
  have HF : Hid (NFit S 500 ∧ NFit R 500) := ⟨f1, f2⟩
  have HE : Hid (fitS (nt S) = tx (nt S) ∧ fitS (nt R) = tx (nt R)) := ⟨e1, e2⟩
  have HG : Hid (S * S + R = nv s ∧ 0 ≤ S ∧ 0 ≤ R ∧ R ≤ 2 * S) := ⟨g1, g2, g3, g4⟩
  have hb12 : Below w'.heap.size w' w2 := hb1.trans (hb2.mono hb1.size)
  clear hb1 hb2 hx hy HU e1 e2 f1 f2 g1 g2 g3 g4
  go_wp2_with fail
  refine (nText_any _ _ _ HX.out HF.out.1).mono ?_
  rintro e w3 ⟨rfl, hb3⟩
  have HY3 : Hid (NIs w3 y R) := HY.out.below hb3 (Nat.le_refl _)
  have hb13 : Below w'.heap.size w' w3 := hb12.trans (hb3.mono hb12.size)
  clear hb12 hb3 HX HY
  go_wp2_with fail
  refine (nText_any _ _ _ HY3.out HF.out.2).mono ?_
  rintro e w4 ⟨rfl, hb4⟩
  have HB : Hid (Below w'.heap.size w' w4) := hb13.trans (hb4.mono hb13.size)
  clear hb13 hb4
  rw [HE.out.1, HE.out.2]
  go_wp2
  go_ret2
  exact ⟨S, R, rfl, HG.out.1, HG.out.2.1, HG.out.2.2.1, HG.out.2.2.2, HB.out⟩
theorem fit_shift (a : Int) (n : Nat) (ha : NFit a 200) (hn : n ≤ 200) : NFit (a * 10 ^ n) 500 := by
  unfold NFit at *
  have h1 := pow_mono (200 + n) 500 (by omega)
  rw [Int.pow_add] at h1
  have p0 : (0 : Int) < 10 ^ n := Int.pow_pos (by decide)
  have h4 : a * 10 ^ n < 10 ^ 200 * 10 ^ n := Int.mul_lt_mul_of_pos_right ha p0
  exact Int.lt_of_lt_of_le h4 h1
theorem iNatShift_any (s : ByteArray) (n : Int) (w : World) (hs : s.size ≤ 4611686018427387904) :
    Calls Tryz.prog 87 #[.string s, .int .i64 n] w fun e w' => e = .returned (.string (shiftS s n)) ∧ Below w.heap.size w w' := by
  cases h : natB 200 s with
  | false =>
    have HE : Hid (shiftS s n = { data := #[] }) := by show shiftS s n = _; unfold shiftS; rw [h]; rfl
    rw [HE.out]
    have H1 : Hid (natB 200 s = false) := h
    clear h
    go_enter Tryz.func87, Tryz.ntmps87
    go_wp2_with fail
    refine (iNatOk_any s _ hs).mono ?_
    rintro e w' ⟨rfl, rfl⟩
    rw [H1.out]
    go_wp2
    go_ret
    exact ⟨rfl, Below.refl _ _⟩
  | true =>
    have H1 : Hid (natB 200 s = true) := h
    by_cases hn : 0 ≤ n ∧ n ≤ 200
    · have HE : Hid (shiftS s n = fitS (nt (nv s * 10 ^ n.toNat))) := by show shiftS s n = _; unfold shiftS; rw [h, decide_eq_true hn.1, decide_eq_true hn.2]; exact if_pos (by decide)
      rw [HE.out]
      obtain ⟨m, rfl⟩ := Int.eq_ofNat_of_zero_le hn.1
      have fs := nv_fit s h
      have hm : m ≤ 200 := by omega
      have F5 : Hid (NFit (nv s) 1000) := by show NFit _ _; unfold NFit at *; have := pow_mono 200 1000 (by decide); omega
      have FO : Hid (NFit (nv s * 10 ^ m) 500) := fit_shift _ _ fs hm
      have hA : ¬ (m : Int) < 0 := by omega
      have hB : ¬ (200 : Int) < (m : Int) := by omega
      have hB' : decide ((200 : Int) < (m : Int)) = false := decide_eq_false hB
      rw [Int.toNat_natCast]
      clear h fs HE
      go_enter Tryz.func87, Tryz.ntmps87
      go_wp2_with fail
      refine (iNatOk_any s _ hs).mono ?_
      rintro e w' ⟨rfl, rfl⟩
      rw [H1.out]
      go_wp2_with fail
      refine (nOf_text s _ H1.out).mono ?_
      rintro e w1 ⟨u, rfl, hu, hb1⟩
      have HU : Hid (NIs w1 u (nv s)) := hu.1
      clear hu
      go_wp2_with fail
      refine (nShift_any _ _ m _ HU.out F5.out hm).mono ?_
      rintro e w2 ⟨x, rfl, hx, hb2⟩
      have HX : Hid (NIs w2 x (nv s * 10 ^ m)) := hx.1
      have hb12 : Below w'.heap.size w' w2 := hb1.trans (hb2.mono hb1.size)
      clear hb1 hb2 hx HU
      go_wp2_with fail
      refine (nText_any _ _ _ HX.out FO.out).mono ?_
      rintro e w3 ⟨rfl, hb3⟩
      have HB : Hid (Below w'.heap.size w' w3) := hb12.trans (hb3.mono hb12.size)
      clear hb12 hb3
      go_wp2
      go_ret
      exact ⟨rfl, HB.out⟩
    · have HE : Hid (shiftS s n = { data := #[] }) := by
        show shiftS s n = _
        unfold shiftS
        rw [if_neg]
        simp
        omega
      rw [HE.out]
      clear h
      by_cases hA : n < 0
      · go_enter Tryz.func87, Tryz.ntmps87
        go_wp2_with fail
        refine (iNatOk_any s _ hs).mono ?_
        rintro e w' ⟨rfl, rfl⟩
        rw [H1.out]
        go_wp2
        go_ret
        exact ⟨rfl, Below.refl _ _⟩
      · have hB : (200 : Int) < n := by omega
        have hA' : decide (n < 0) = false := decide_eq_false hA
        go_enter Tryz.func87, Tryz.ntmps87
        go_wp2_with fail
        refine (iNatOk_any s _ hs).mono ?_
        rintro e w' ⟨rfl, rfl⟩
        rw [H1.out]
        go_wp2
        go_ret
        exact ⟨rfl, Below.refl _ _⟩
end Go.Proofs.YteofommckgeemaaGreatDoor
