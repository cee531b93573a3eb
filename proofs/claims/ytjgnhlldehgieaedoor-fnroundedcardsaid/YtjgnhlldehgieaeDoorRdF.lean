/-
  FnRounded, walked.
-/
import Derived.Test.YtjgnhlldehgieaeDoorRdl
import Derived.Test.YtjgnhlldehgieaeDoorDrawRd
import Derived.Test.YtjgnhlldehgieaeDoorNtL
namespace Go.Proofs.YtjgnhlldehgieaeDoor
open Go.RowKit
set_option linter.unusedVariables false
set_option maxRecDepth 100000
theorem tn_some' {x : Int} (h0 : 0 ≤ x) (h1 : x < 10 ^ 500) : (tn x).toList.isEmpty = false := tx_some (nt x) (fun e => by have := (nt_spec x h0 h1).1.2.1; rw [e] at this; cases this)
/-- What rounding answers at arguments that are taken, in words of two texts: below and above. -/
theorem rd_told (m : Int) (neg : Bool) (s : ByteArray) (n : Int) (rest : Bool) (h : rdO m s n = true) :
    ∃ (TL TH : ByteArray) (LO : Bool) (D E A : ByteArray),
      rdS m neg s n rest = D ∧ rdL m s n rest = LO ∧ (∀ (k : Int) (ng : Bool), 1 ≤ k → k ≤ 5 → rdL k s n rest = LO)
      ∧ rdS 3 false s n rest = TL ∧ rdS 4 false s n rest = TH ∧ rdS 2 neg s n rest = TL ∧ rdS 1 neg s n rest = E ∧ rdS 5 neg s n rest = A ∧ rdS 3 true s n rest = TH ∧ rdS 4 true s n rest = TL
      ∧ D.toList.isEmpty = false ∧ TL.size ≤ 200 ∧ TH.size ≤ 600
      ∧ (LO = false → TH = TL ∧ D = TL ∧ E = TL ∧ A = TL)
      ∧ (LO = true → (200 < TH.size → TL.size = 200) ∧ (TH.size ≤ 200 → addS TL { data := #[49] } = TH ∧ (TL.toList == TH.toList) = false ∧ (TH.toList == TL.toList) = false) ∧ (D = TL ∨ D = TH) ∧ ((E = TL ∧ A = TL) ∨ (E = TL ∧ A = TH) ∨ (E = TH ∧ A = TH))) := by
  unfold rdO at h
  simp only [Bool.and_eq_true, decide_eq_true_eq] at h
  obtain ⟨hm, hn, hd⟩ := h
  have ho : ∀ k, 1 ≤ k → k ≤ 5 → rdO k s n = true := fun k h1 h2 => by unfold rdO; rw [hn, decide_eq_true ⟨h1, h2⟩, decide_eq_true hd]; rfl
  have hS : ∀ k ng, 1 ≤ k → k ≤ 5 → rdS k ng s n rest = tn (rndV k ng (nv s) n.toNat rest) := fun k ng h1 h2 => by unfold rdS; rw [ho k h1 h2, if_pos rfl]; rfl
  have hL : ∀ k, 1 ≤ k → k ≤ 5 → rdL k s n rest = rndL (nv s) n.toNat rest := fun k h1 h2 => by unfold rdL; rw [ho k h1 h2, if_pos rfl]
  have kv := nok_nv hn
  have hp : (0 : Int) < 10 ^ n.toNat := Int.pow_pos (by decide)
  have q0 : 0 ≤ nv s / 10 ^ n.toNat := Int.ediv_nonneg kv.1 (Int.le_of_lt hp)
  have q1 : nv s / 10 ^ n.toNat ≤ nv s := Int.ediv_le_self _ kv.1
  have kq : Nok (nv s / 10 ^ n.toNat) := kv.le q0 q1
  have hR : ∀ k ng, rndV k ng (nv s) n.toNat rest = nv s / 10 ^ n.toNat + (if rndU k ng (nv s) n.toNat rest then 1 else 0) := fun k ng => rfl
  have hup : ∀ k ng, rndU k ng (nv s) n.toNat rest = true → rndL (nv s) n.toNat rest = true := fun k ng => up_lost k ng _ _ _
  have u3 : ∀ ng, rndU 3 ng (nv s) n.toNat rest = (rndL (nv s) n.toNat rest && ng) := fun ng => by unfold rndU upB upO; rfl
  have u4 : ∀ ng, rndU 4 ng (nv s) n.toNat rest = (rndL (nv s) n.toNat rest && !ng) := fun ng => by unfold rndU upB upO; rfl
  have u2 : ∀ ng, rndU 2 ng (nv s) n.toNat rest = false := fun ng => by unfold rndU upB upO; rfl
  have u15 : rndU 5 neg (nv s) n.toNat rest = false → rndU 1 neg (nv s) n.toNat rest = false := fun q => by
    unfold rndU upB upO at q ⊢
    have q' : decide (0 ≤ halfI (nv s % 10 ^ n.toNat) (10 ^ n.toNat) rest n.toNat) = false := q
    have := of_decide_eq_false q'
    show (decide (0 < halfI _ _ _ _) || (decide (halfI _ _ _ _ = 0) && _)) = false
    rw [decide_eq_false (by omega), decide_eq_false (by omega)]
    rfl
  refine ⟨tn (nv s / 10 ^ n.toNat), tn (nv s / 10 ^ n.toNat + if rndL (nv s) n.toNat rest then 1 else 0), rndL (nv s) n.toNat rest, _, _, _, hS m neg hm.1 hm.2, hL m hm.1 hm.2, fun k ng h1 h2 => hL k h1 h2, ?_, ?_, ?_, hS 1 neg (by decide) (by decide), hS 5 neg (by decide) (by decide), ?_, ?_, ?_, ?_, ?_, ?_, ?_⟩
  · rw [hS 3 false (by decide) (by decide), hR, u3, Bool.and_false]; simp
  · rw [hS 4 false (by decide) (by decide), hR, u4, Bool.not_false, Bool.and_true]
  · rw [hS 2 neg (by decide) (by decide), hR, u2]; simp
  · rw [hS 3 true (by decide) (by decide), hR, u3, Bool.and_true]
  · rw [hS 4 true (by decide) (by decide), hR, u4, Bool.not_true, Bool.and_false]; simp
  · refine tn_some' ?_ ?_
    · rw [hR]; split <;> omega
    · rw [hR]; have := kq.2; have := pow25; have : (10 : Int) ^ 200 < 10 ^ 500 := by decide +kernel
      split <;> omega
  · rw [show (tn (nv s / 10 ^ n.toNat)).size = (nt (nv s / 10 ^ n.toNat)).length from tx_size _]; exact nok_len kq
  · have := tn_size (nv s / 10 ^ n.toNat + if rndL (nv s) n.toNat rest then 1 else 0); omega
  · intro hLo
    have hu : ∀ k ng, rndU k ng (nv s) n.toNat rest = false := fun k ng => by
      cases hq : rndU k ng (nv s) n.toNat rest with
      | false => rfl
      | true => rw [hup k ng hq] at hLo; cases hLo
    rw [hLo, hR, hR, hR, hu, hu, hu]
    simp
  · intro hLo
    rw [hLo, if_pos rfl, hR, hR, hR]
    generalize nv s / 10 ^ n.toNat = q at *
    have h500 : q + 1 < 10 ^ 500 := by have := kq.2; have : (10 : Int) ^ 200 < 10 ^ 500 := by decide +kernel
                                       omega
    have sp := nt_spec (q + 1) (by omega) h500
    have sz : (tn (q + 1)).size = (nt (q + 1)).length := tx_size _
    refine ⟨fun hb => ?_, fun hb => ?_, ?_, ?_⟩
    · have hn2 : ¬ Nok (q + 1) := fun k => by have := nok_len k; omega
      have hge : (10 : Int) ^ 200 ≤ q + 1 := by
        apply Classical.byContradiction
        intro h
        exact hn2 ⟨by omega, by omega⟩
      have sq := nok_spec kq
      have b := (vl_bd (nt q) sq.1.1).2
      rw [sq.2] at b
      have l := nok_len kq
      rw [show (tn q).size = (nt q).length from tx_size _]
      apply Classical.byContradiction
      intro h
      have : (10 : Int) ^ (nt q).length ≤ 10 ^ 199 := pow_mono _ _ (by omega)
      have e : (10 : Int) ^ 200 = 10 ^ 199 * 10 := Int.pow_succ _ _
      have p9 : (0 : Int) < 10 ^ 199 := Int.pow_pos (by decide)
      generalize (10 : Int) ^ 199 = M at *
      generalize (10 : Int) ^ (nt q).length = M2 at *
      generalize (10 : Int) ^ 200 = M3 at *
      omega
    · have k1 : Nok (q + 1) := by
        refine ⟨by omega, ?_⟩
        have b := (vl_bd (nt (q + 1)) sp.1.1).2
        rw [sp.2] at b
        exact Int.lt_of_lt_of_le b (pow_mono _ _ (by omega))
      have e1 : ({ data := #[49] } : ByteArray) = tn 1 := by
        unfold tn
        rw [← nt_of [1] 1 (canon_one 1 (by decide) (by decide)) (by decide +kernel) (by decide)]
        exact tx_1.symm
      have kone : Nok 1 := ⟨by decide, by decide +kernel⟩
      refine ⟨?_, tn_ne kq k1 (by omega), tn_ne k1 kq (by omega)⟩
      rw [e1, add_tn kq kone, fit_tn k1]
    · cases rndU m neg (nv s) n.toNat rest
      · left; simp
      · right; simp
    · cases h5 : rndU 5 neg (nv s) n.toNat rest with
      | false => rw [u15 h5]; left; simp
      | true =>
        cases rndU 1 neg (nv s) n.toNat rest
        · right; left; simp
        · right; right; simp
theorem sNatAdd_is (s t : ByteArray) (w : World) (hs : s.size ≤ 600) (ht : t.size ≤ 600) :
    Calls Tryd.prog 8 #[.string s, .string t] w fun e w' => e = .returned (.string (addS s t)) ∧ Below w.heap.size w w' := sNatAdd_all s t w (by omega) (by omega)
set_option maxRecDepth 100000 in
set_option maxHeartbeats 2000000 in
theorem fnRounded_any (a0 : Option Addr) (len0 cap0 : Nat) (w : World) (hbig : ¬ 4096 < len0) (hb : Bytes w.heap.size w a0 len0) :
    Calls Tryd.prog 3 #[.slice a0 len0 cap0] w fun e w' => e = .returned (.bool true) ∧ Below w.heap.size w w' := by
  have hB : Hid (Bytes w.heap.size w a0 len0) := hb
  clear hb
  go_enter Tryd.func3, Tryd.ntmps3
  go_wp2_with fail
  refine (big_no _ _ _ _ hbig).mono ?_
  rintro e w' ⟨rfl, hw⟩
  obtain rfl := hw.symm
  go_wp2_with fail
  refine (DrawRoundDigits_any _ _ _ _ (by omega) hB.out).mono ?_
  rintro e w1 ⟨m, neg, s, n, rest, rfl, hs, hb1⟩
  have HI : Hid (∀ k ng X, Calls Tryd.prog 6 #[.int .i64 k, .bool ng, .string s, .int .i64 n, .bool rest] X fun e w' => e = .returned (.tuple #[.string (rdS k ng s n rest), .bool (rdL k s n rest)]) ∧ Below X.heap.size X w') := fun k ng X => iRoundDigits_all k ng s n rest X (by omega)
  go_wp2_with fail
  refine (HI.out m neg _).mono ?_
  rintro e w2 ⟨rfl, hb2⟩
  have hb12 : Below w.heap.size w w2 := hb1.trans (hb2.mono hb1.size)
  clear hb1 hb2 hB
  go_wp2_with fail
  refine (sRoundDigits_all m neg s n rest _ (by omega)).mono ?_
  rintro e w3 ⟨rfl, hb3⟩
  have HB : Hid (Below w.heap.size w w3) := hb12.trans (hb3.mono hb12.size)
  clear hb12 hb3 hbig hs
  cases hO : rdO m s n with
  | false =>
    have e1 : rdS m neg s n rest = { data := #[] } := by unfold rdS; rw [hO]; rfl
    have e2 : rdL m s n rest = false := by unfold rdL; rw [hO]; rfl
    rw [e1, e2]
    clear e1 e2 hO HI
    go_wp2
    go_ret
    exact ⟨rfl, HB.out⟩
  | true =>
    obtain ⟨TL, TH, LO, D, E, A, eD, eL, eLk, e3, e4, e2, e1, e5, e3t, e4t, hDe, hTL, hTH, hLoF, hLoT⟩ := rd_told m neg s n rest hO
    have C : ∀ k ng T, rdS k ng s n rest = T → rdL k s n rest = LO → ∀ X, Calls Tryd.prog 6 #[.int .i64 k, .bool ng, .string s, .int .i64 n, .bool rest] X fun e w' => e = .returned (.tuple #[.string T, .bool LO]) ∧ Below X.heap.size X w' := fun k ng T h1 h2 X => by
      have := HI.out k ng X
      rw [h1, h2] at this
      exact this
    have C3 : Hid (∀ X, Calls Tryd.prog 6 #[.int .i64 3, .bool false, .string s, .int .i64 n, .bool rest] X fun e w' => e = .returned (.tuple #[.string TL, .bool LO]) ∧ Below X.heap.size X w') := C 3 false TL e3 (eLk 3 false (by decide) (by decide))
    have C4 : Hid (∀ X, Calls Tryd.prog 6 #[.int .i64 4, .bool false, .string s, .int .i64 n, .bool rest] X fun e w' => e = .returned (.tuple #[.string TH, .bool LO]) ∧ Below X.heap.size X w') := C 4 false TH e4 (eLk 4 false (by decide) (by decide))
    have C2 : Hid (∀ X, Calls Tryd.prog 6 #[.int .i64 2, .bool neg, .string s, .int .i64 n, .bool rest] X fun e w' => e = .returned (.tuple #[.string TL, .bool LO]) ∧ Below X.heap.size X w') := C 2 neg TL e2 (eLk 2 neg (by decide) (by decide))
    have C1 : Hid (∀ X, Calls Tryd.prog 6 #[.int .i64 1, .bool neg, .string s, .int .i64 n, .bool rest] X fun e w' => e = .returned (.tuple #[.string E, .bool LO]) ∧ Below X.heap.size X w') := C 1 neg E e1 (eLk 1 neg (by decide) (by decide))
    have C5 : Hid (∀ X, Calls Tryd.prog 6 #[.int .i64 5, .bool neg, .string s, .int .i64 n, .bool rest] X fun e w' => e = .returned (.tuple #[.string A, .bool LO]) ∧ Below X.heap.size X w') := C 5 neg A e5 (eLk 5 neg (by decide) (by decide))
    have C3t : Hid (∀ X, Calls Tryd.prog 6 #[.int .i64 3, .bool true, .string s, .int .i64 n, .bool rest] X fun e w' => e = .returned (.tuple #[.string TH, .bool LO]) ∧ Below X.heap.size X w') := C 3 true TH e3t (eLk 3 true (by decide) (by decide))
    have C4t : Hid (∀ X, Calls Tryd.prog 6 #[.int .i64 4, .bool true, .string s, .int .i64 n, .bool rest] X fun e w' => e = .returned (.tuple #[.string TL, .bool LO]) ∧ Below X.heap.size X w') := C 4 true TL e4t (eLk 4 true (by decide) (by decide))
    rw [eD, eL]
    clear C eD eL eLk e3 e4 e2 e1 e5 e3t e4t hO HI
    have HF : Hid (LO = false → TH = TL ∧ D = TL ∧ E = TL ∧ A = TL) := hLoF
    have HT : Hid (LO = true → (200 < TH.size → TL.size = 200) ∧ (TH.size ≤ 200 → addS TL { data := #[49] } = TH ∧ (TL.toList == TH.toList) = false ∧ (TH.toList == TL.toList) = false) ∧ (D = TL ∨ D = TH) ∧ ((E = TL ∧ A = TL) ∨ (E = TL ∧ A = TH) ∨ (E = TH ∧ A = TH))) := hLoT
    clear hLoF hLoT
    go_wp2_with fail
    refine (C3.out _).mono ?_
    rintro e w4 ⟨rfl, hb4⟩
    have HB4 : Hid (Below w.heap.size w w4) := HB.out.trans (hb4.mono HB.out.size)
    clear hb4 HB C3
    go_wp2_with fail
    refine (C4.out _).mono ?_
    rintro e w5 ⟨rfl, hb5⟩
    have HB5 : Hid (Below w.heap.size w w5) := HB4.out.trans (hb5.mono HB4.out.size)
    clear hb5 HB4 C4
    go_wp2_with fail
    refine (C2.out _).mono ?_
    rintro e w6 ⟨rfl, hb6⟩
    have HB6 : Hid (Below w.heap.size w w6) := HB5.out.trans (hb6.mono HB5.out.size)
    clear hb6 HB5 C2
    cases LO
    · obtain ⟨h1, h2, h3, h4⟩ := HF.out rfl
      subst h1 h2 h3 h4
      clear HF HT hTH
      go_wp2_with fail
      refine (C1.out _).mono ?_
      rintro e w7 ⟨rfl, hb7⟩
      have HB7 : Hid (Below w.heap.size w w7) := HB6.out.trans (hb7.mono HB6.out.size)
      clear hb7 HB6 C1
      go_wp2_with fail
      refine (C5.out _).mono ?_
      rintro e w8 ⟨rfl, hb8⟩
      have HB8 : Hid (Below w.heap.size w w8) := HB7.out.trans (hb8.mono HB7.out.size)
      clear hb8 HB7 C5
      go_wp2_with fail
      refine (C3t.out _).mono ?_
      rintro e w9 ⟨rfl, hb9⟩
      have HB9 : Hid (Below w.heap.size w w9) := HB8.out.trans (hb9.mono HB8.out.size)
      clear hb9 HB8 C3t
      go_wp2_with fail
      refine (C4t.out _).mono ?_
      rintro e w10 ⟨rfl, hb10⟩
      have HB10 : Hid (Below w.heap.size w w10) := HB9.out.trans (hb10.mono HB9.out.size)
      clear hb10 HB9 C4t
      go_wp2
      go_ret
      exact ⟨rfl, HB10.out⟩
    · obtain ⟨t1, t2, t3, t4⟩ := HT.out rfl
      clear HF HT
      by_cases hbg : 200 < TH.size
      · have t5 := t1 hbg
        clear t1 t2 t3 t4
        go_wp2
        go_ret
        exact ⟨rfl, HB6.out⟩
      · obtain ⟨t5, t6, t7⟩ := t2 (by omega)
        have HA : Hid (∀ X, Calls Tryd.prog 8 #[.string TL, .string { data := #[49] }] X fun e w' => e = .returned (.string TH) ∧ Below X.heap.size X w') := fun X => by
          have := sNatAdd_is TL { data := #[49] } X (by omega) (by decide)
          rw [t5] at this
          exact this
        have H3 : Hid (D = TL ∨ D = TH) := t3
        have H4 : Hid ((E = TL ∧ A = TL) ∨ (E = TL ∧ A = TH) ∨ (E = TH ∧ A = TH)) := t4
        clear t1 t2 t3 t4 t5
        go_wp2_with fail
        refine (HA.out _).mono ?_
        rintro e w7 ⟨rfl, hb7⟩
        have HB7 : Hid (Below w.heap.size w w7) := HB6.out.trans (hb7.mono HB6.out.size)
        clear hb7 HB6 HA
        go_wp2_with fail
        refine (C1.out _).mono ?_
        rintro e w8 ⟨rfl, hb8⟩
        have HB8 : Hid (Below w.heap.size w w8) := HB7.out.trans (hb8.mono HB7.out.size)
        clear hb8 HB7 C1
        go_wp2_with fail
        refine (C5.out _).mono ?_
        rintro e w9 ⟨rfl, hb9⟩
        have HB9 : Hid (Below w.heap.size w w9) := HB8.out.trans (hb9.mono HB8.out.size)
        clear hb9 HB8 C5
        go_wp2_with fail
        refine (C3t.out _).mono ?_
        rintro e w10 ⟨rfl, hb10⟩
        have HB10 : Hid (Below w.heap.size w w10) := HB9.out.trans (hb10.mono HB9.out.size)
        clear hb10 HB9 C3t
        go_wp2_with fail
        refine (C4t.out _).mono ?_
        rintro e w11 ⟨rfl, hb11⟩
        have HB11 : Hid (Below w.heap.size w w11) := HB10.out.trans (hb11.mono HB10.out.size)
        clear hb11 HB10 C4t
        rcases H3.out with rfl | rfl <;> rcases H4.out with ⟨rfl, rfl⟩ | ⟨rfl, rfl⟩ | ⟨rfl, rfl⟩
        all_goals
          clear H3 H4
          go_wp2
          go_ret
          exact ⟨rfl, HB11.out⟩
set_option maxRecDepth 100000 in
theorem fnRounded_all (a0 : Option Addr) (len0 cap0 : Nat) (w : World) (hb : Bytes w.heap.size w a0 len0) :
    Calls Tryd.prog 3 #[.slice a0 len0 cap0] w fun e w' => e = .returned (.bool true) ∧ Below w.heap.size w w' := by
  by_cases hbig : 4096 < len0
  · clear hb
    go_enter Tryd.func3, Tryd.ntmps3
    go_wp2_with fail
    refine (big_yes _ _ _ _ hbig).mono ?_
    rintro e w' ⟨rfl, rfl⟩
    go_wp2
    go_ret
    exact ⟨rfl, Below.refl _ _⟩
  exact fnRounded_any a0 len0 cap0 w hbig hb
end Go.Proofs.YtjgnhlldehgieaeDoor
