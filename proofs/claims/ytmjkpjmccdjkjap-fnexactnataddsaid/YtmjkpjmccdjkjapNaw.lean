/-
  Naturals of the program: quotients; walked.
-/
import Derived.Test.YtmjkpjmccdjkjapNav
import Derived.Deep.LoopGhost
namespace Go.Proofs.Ytmjkpjmccdjkjap
open Go.RowKit
set_option linter.unusedVariables false
theorem NFit.le {a b : Int} {k : Nat} (h : NFit b k) (hl : a ≤ b) : NFit a k := by unfold NFit at *; omega
theorem NFit.mono {a : Int} {k m : Nat} (h : NFit a k) (hl : k ≤ m) : NFit a m := by unfold NFit at *; have := pow_mono k m hl; omega
theorem NFit.ten {a b : Int} {k : Nat} (h : NFit b k) (hl : a < 10 * b) : NFit a (k + 1) := by unfold NFit at *; rw [Int.pow_succ]; omega
theorem nis_none (w : World) : NIsF (w.alloc (.cells #[] 5)) w.heap.size (.slice (some ⟨w.heap.size, 0, none⟩) 0 0) 0 :=
  ⟨⟨[], ⟨w.heap.size, 0, rfl, Nat.le_refl _, by simp, fun i hi => by cases hi⟩, ⟨(fun d hd => by cases hd), .inl rfl⟩, rfl⟩, _, _, _, rfl, Nat.le_refl _⟩
theorem NIs.nn {w : World} {v : Value} {n : Int} (h : NIs w v n) : 0 ≤ n := by
  obtain ⟨L, -, hc, rfl⟩ := h
  exact (lv_bd L hc.1).1
/-- What holds ahead of a place: p digits are still to come, R is left. -/
def NvO (w wr : World) (N : Nat) (X : List Int) (b : Int) (p : Nat) (R : Int) : Prop :=
  ∃ Q, NRow wr w.heap.size w.heap.size N Q ∧ Dec Q ∧ (∀ t, t < p → Q.getD t 0 = 0) ∧ b * lv Q + 10 ^ p * R + lv (X.take p) = lv X
/-- What holds at a place. -/
def NvN (w wr : World) (N : Nat) (X : List Int) (b : Int) (p : Nat) (S R : Int) : Prop :=
  ∃ Q, NRow wr w.heap.size w.heap.size N Q ∧ Dec Q ∧ (∀ t, t < p → Q.getD t 0 = 0) ∧ b * lv Q + 10 ^ p * R + lv (X.take p) = lv X ∧ Q.getD p 0 * b + R = S
theorem NvO.below {w wr w' : World} {N : Nat} {X : List Int} {b : Int} {p : Nat} {R : Int} (h : NvO w wr N X b p R) (hb : Below wr.heap.size wr w') : NvO w w' N X b p R := by
  obtain ⟨Q, hR, r⟩ := h
  exact ⟨Q, hR.below hb (Nat.le_refl _), r⟩
theorem NvN.below {w wr w' : World} {N : Nat} {X : List Int} {b : Int} {p : Nat} {S R : Int} (h : NvN w wr N X b p S R) (hb : Below wr.heap.size wr w') : NvN w w' N X b p S R := by
  obtain ⟨Q, hR, r⟩ := h
  exact ⟨Q, hR.below hb (Nat.le_refl _), r⟩
theorem NvO.start {w wr : World} {N : Nat} {X : List Int} {b : Int} (h : NRow wr w.heap.size w.heap.size N (List.replicate N 0)) (hX : X.length = N) : NvO w wr N X b N 0 :=
  ⟨_, h, dec_noughts N, fun t _ => replicate_at N t, by rw [lv_noughts, List.take_of_length_le (by omega)]; simp⟩
theorem NvO.into {w wr : World} {N : Nat} {X : List Int} {b : Int} {p : Nat} {R : Int} (h : NvO w wr N X b (p + 1) R) (hp : p < X.length) : NvN w wr N X b p (10 * R + X.getD p 0) (10 * R + X.getD p 0) := by
  obtain ⟨Q, hR, hD, hz, hv⟩ := h
  refine ⟨Q, hR, hD, fun t ht => hz t (by omega), ?_, by rw [hz p (by omega)]; omega⟩
  rw [lv_take1 X p hp, Int.pow_succ] at hv
  rw [← hv]
  generalize (10 : Int) ^ p = e
  grind
theorem NvN.out {w wr : World} {N : Nat} {X : List Int} {b : Int} {p : Nat} {S R : Int} (h : NvN w wr N X b p S R) : NvO w wr N X b p R := by
  obtain ⟨Q, hR, hD, hz, hv, -⟩ := h
  exact ⟨Q, hR, hD, hz, hv⟩
theorem NvN.low {b S R q : Int} (hS : S < 10 * b) (hb : 0 < b) (hge : b ≤ R) (h : q * b + R = S) : q ≤ 8 := by
  rcases Int.lt_or_le 8 q with c | c
  · exfalso
    have : 9 * b ≤ q * b := Int.mul_le_mul_of_nonneg_right (by omega) (by omega)
    omega
  · exact c
theorem NvN.step {w wr : World} {N : Nat} {X : List Int} {b : Int} {p : Nat} {S R : Int} (h : NvN w wr N X b p S R) (hp : p < N) (hS : S < 10 * b) (hb : 0 < b) (hge : b ≤ R) :
    ∃ q, wr.cell? ⟨w.heap.size, p, none⟩ = some (.int .u8 q) ∧ 0 ≤ q ∧ q ≤ 8 ∧ wr.frozen? ⟨w.heap.size, p, none⟩ = false ∧ NvN w (wr.setCell ⟨w.heap.size, p, none⟩ (.int .u8 (q + 1))) N X b p S (R - b) := by
  obtain ⟨Q, hR, hD, hz, hv, hs⟩ := h
  have hlen := hR.len
  have h8 := NvN.low hS hb hge hs
  have hd := dec_at Q hD p
  refine ⟨Q.getD p 0, hR.cell p hp, hd.1, h8, hR.frozen p, Q.set p (Q.getD p 0 + 1), hR.set p _, nd_set Q p _ hD (by omega) (by omega), fun t ht => ?_, ?_, ?_⟩
  · rw [getD_set_ne _ _ _ _ (by omega)]; exact hz t ht
  · rw [nl_set Q p _ (by omega), ← hv]
    generalize (10 : Int) ^ p = e
    grind
  · have e : (Q.set p (Q.getD p 0 + 1)).getD p 0 = Q.getD p 0 + 1 := by
      simp [List.getD, show p < Q.length by omega]
    rw [e, ← hs]
    grind
theorem NvO.fin {w wr : World} {N : Nat} {X : List Int} {b : Int} {R : Int} (h : NvO w wr N X b 0 R) (hb : 0 < b) (r0 : 0 ≤ R) (r1 : R < b) : ∃ Q, NRow wr w.heap.size w.heap.size N Q ∧ Dec Q ∧ lv Q = lv X / b ∧ R = lv X % b := by
  obtain ⟨Q, hR, hD, -, hv⟩ := h
  rw [Int.pow_zero, List.take_zero, Int.one_mul, show lv [] = 0 from rfl, Int.add_zero] at hv
  refine ⟨Q, hR, hD, ?_, ?_⟩
  · rw [← hv, Int.mul_add_ediv_left _ _ (by omega), Int.ediv_eq_zero_of_lt r0 r1]; omega
  · rw [← hv, Int.mul_add_emod_self_left, Int.emod_eq_of_lt r0 r1]
set_option maxHeartbeats 4000000 in
theorem nDivide_any (x y : Value) (a b : Int) (w : World) (hx : NIs w x a) (hy : NIs w y b) (fa : NFit a 900) (fb : NFit b 900) (hb : 0 < b) :
    Calls Try.prog 35 #[x, y] w fun e w' => ∃ u v, e = .returned (.tuple #[u, v]) ∧ NIsF w' w.heap.size u (a / b) ∧ NIsF w' w.heap.size v (a % b) ∧ Below w.heap.size w w' := by
  obtain ⟨X, rX, cX, rfl⟩ := hx
  have lX := ncan_len X 900 cX fa
  obtain ⟨n, hn⟩ : ∃ n, X.length = n := ⟨_, rfl⟩
  obtain ⟨w1, hrun, hown, hb1⟩ := nMake w n (by omega)
  have hz1 := hb1.size
  obtain ⟨w2, hw2⟩ : ∃ w2, w1.alloc (.cells #[] 5) = w2 := ⟨_, rfl⟩
  have hb2 : Below w.heap.size w w2 := by rw [← hw2]; exact hb1.alloc hz1 _
  have HO : Hid (NvO w w2 n X b n 0) := by
    rw [← hw2]
    exact NvO.start (hown.below1 ((Below.refl _ _).alloc (Nat.le_refl _) _)) hn
  have HN0 : Hid (NIsF w2 (w.heap.size + 1) (.slice (some ⟨w1.heap.size, 0, none⟩) 0 0) 0) := by rw [← hw2]; exact (nis_none w1).mono hown.lt.2
  have HY : Hid (∀ W, Below w.heap.size w W → NIs W y b) := fun W hW => hy.below hW (Nat.le_refl _)
  have HBX : Hid (∀ p, 0 ≤ X.getD p 0 ∧ X.getD p 0 ≤ 9) := fun p => dec_at X cX.1 p
  have HCMP : Hid (∀ W v R, Below w.heap.size w W → NIs W v R → R < 10 * b → Calls Try.prog 25 #[v, y] W fun e w' => e = .returned (.int .i64 (cmpI R b)) ∧ Below W.heap.size W w') := fun W v R hW hv hR => nCompare_any v y R b W hv (hy.below hW (Nat.le_refl _)) ((fb.ten hR).mono (by decide)) (fb.mono (by decide))
  have HMIN : Hid (∀ W v R, Below w.heap.size w W → NIs W v R → R < 10 * b → b ≤ R → Calls Try.prog 31 #[v, y] W fun e w' => ∃ u, e = .returned u ∧ NIsF w' W.heap.size u (R - b) ∧ Below W.heap.size W w') := fun W v R hW hv hR hge => nMinus_any v y R b W hv (hy.below hW (Nat.le_refl _)) ((fb.ten hR).mono (by decide)) (fb.mono (by decide)) hge
  have HFOL : Hid (∀ W v R d, NIs W v R → R < b → 0 ≤ d → d ≤ 9 → Calls Try.prog 44 #[v, .int .u8 d] W fun e w' => ∃ u, e = .returned u ∧ NIsF w' W.heap.size u (10 * R + d) ∧ Below W.heap.size W w') := fun W v R d hv hR d0 d9 => nFollow_any v R d W hv ((fb.le (Int.le_of_lt hR)).mono (by decide)) d0 d9
  have HINTO : Hid (∀ W p R, p < n → NvO w W n X b (p + 1) R → NvN w W n X b p (10 * R + X.getD p 0) (10 * R + X.getD p 0)) := fun W p R hp h => h.into (by omega)
  have HFIN : Hid (∀ W R, NvO w W n X b 0 R → 0 ≤ R → R < b → R = lv X % b ∧ Calls Try.prog 42 #[.slice (some ⟨w.heap.size, 0, none⟩) n n] W fun e w' => ∃ u, e = .returned u ∧ NIsF W w.heap.size u (lv X / b) ∧ w' = W) := fun W R h r0 r1 => by
    obtain ⟨Q, hR, hD, e1, e2⟩ := h.fin hb r0 r1
    refine ⟨e2, ?_⟩
    have := nTrim_any _ Q W w.heap.size hR.rd ⟨_, _, _, rfl, Nat.le_refl _⟩ hD (by rw [hR.len]; omega)
    rw [e1] at this
    exact this
  obtain ⟨g, cg, rfl, hcg, hgl, hcx⟩ := rX
  rw [hn] at hcg hcx lX ⊢
  have HCX : Hid (∀ i, i < n → w.cell? ⟨g, i, none⟩ = some (.int .u8 (X.getD i 0))) := hcx
  clear cX fa fb hown hcx hn hy
  subst hw2
  go_enter Try.func35, Try.ntmps35
  go_wp2
  go_loopw [7, 16] (fun v i wr => ∃ (q : Nat) (R : Int), q ≤ n ∧ i = .int .i64 (q : Int) ∧ 0 ≤ R ∧ R < b ∧ Hid (NvO w wr n X b (n - q) R) ∧ Hid (NIsF wr (w.heap.size + 1) v R) ∧ Below w.heap.size w wr) (fun _ i _ => n - (intOf i).toNat)
  case atStart => exact ⟨0, 0, Nat.zero_le _, rfl, Int.le_refl _, hb, HO, HN0, hb2⟩
  case round =>
    obtain ⟨q, R, hq, rfl, r0, r1, HD, HV, hbel⟩ := hrel
    clear hrun HO hb1 hb2 HN0 hz1
    by_cases hlt : q < n
    · have hlt' : (q : Int) < (n : Int) := by omega
      obtain ⟨p, hp⟩ : ∃ p, n - 1 - q = p := ⟨_, rfl⟩
      have ep : (n : Int) - 1 - (q : Int) = (p : Int) := by omega
      have hpn : p < n := by omega
      have hpn' : (p : Int) < (n : Int) := by omega
      have h1 := (hbel.cell (p := ⟨g, p, none⟩) hgl).trans (HCX.out p hpn)
      have bx := HBX.out p
      have HD1 : Hid (NvN w wr n X b p (10 * R + X.getD p 0) (10 * R + X.getD p 0)) := HINTO.out wr p R hpn (by have := HD.out; rwa [show n - q = p + 1 by omega] at this)
      have EP : Hid (n - (q + 1) = p) := by show _ = _; omega
      have HZ : Hid (w.heap.size + 1 ≤ wr.heap.size) := by obtain ⟨Q, hQ, -⟩ := HD1.out; exact hQ.lt.2
      clear HD hp
      generalize X.getD p 0 = d at *
      go_wp2_with fail
      refine (HFOL.out _ _ R d HV.out.1 r1 bx.1 bx.2).mono ?_
      rintro e w3 ⟨u, rfl, hu, hb3⟩
      have HU : Hid (NIsF w3 (w.heap.size + 1) u (10 * R + d)) := hu.mono HZ.out
      have HD2 : Hid (NvN w w3 n X b p (10 * R + d) (10 * R + d)) := HD1.out.below hb3
      have hbel3 : Below w.heap.size w w3 := hbel.trans (hb3.mono hbel.size)
      obtain ⟨S, hS⟩ : ∃ S, 10 * R + d = S := ⟨_, rfl⟩
      rw [hS] at HU HD2
      have hS0 : 0 ≤ S := by omega
      have hS1 : S < 10 * b := by omega
      clear hu hb3 HD1 HV hbel hS h1
      go_wp2
      go_loopg [7] S.toNat (fun gk v wx => ∃ T : Int, 0 ≤ T ∧ T ≤ S ∧ gk = T.toNat ∧ Hid (NvN w wx n X b p S T) ∧ Hid (NIsF wx (w.heap.size + 1) v T) ∧ Below w.heap.size w wx)
      case atStart => exact ⟨S, hS0, Int.le_refl _, rfl, HD2, HU, hbel3⟩
      case round =>
        clear HU HD2 hbel3
        obtain ⟨T, t0, t1, hgk, HD, HV, hbel⟩ := hrel
        have HG : Hid (gk = T.toNat) := hgk
        clear hgk
        by_cases hge : b ≤ T
        · have HC1 : Hid (0 ≤ cmpI T b ∧ cmpI T b ≤ 1) := by
            show _ ∧ _
            unfold cmpI; rw [if_neg (by omega)]; split <;> omega
          go_wp2_with fail
          refine (HCMP.out _ _ T hbel HV.out.1 (by omega)).mono ?_
          rintro e w4 ⟨rfl, hb4⟩
          have hc0 := HC1.out.1
          have hc1 := HC1.out.2
          generalize cmpI T b = C at *
          have HV4 : Hid (NIsF w4 (w.heap.size + 1) _ T) := HV.out.below hb4 (Nat.le_refl _)
          have HD4 : Hid (NvN w w4 n X b p S T) := HD.out.below hb4
          have hbel4 : Below w.heap.size w w4 := hbel.trans (hb4.mono hbel.size)
          have HZ4 : Hid (w.heap.size + 1 ≤ w4.heap.size) := by obtain ⟨Q, hQ, -⟩ := HD4.out; exact hQ.lt.2
          clear hb4 HV HD hbel HC1
          go_wp2_with fail
          refine (HMIN.out _ _ T hbel4 HV4.out.1 (by omega) hge).mono ?_
          rintro e w5 ⟨u, rfl, hu, hb5⟩
          have HV5 : Hid (NIsF w5 (w.heap.size + 1) u (T - b)) := hu.mono HZ4.out
          have hbel5 : Below w.heap.size w w5 := hbel4.trans (hb5.mono hbel4.size)
          obtain ⟨t, h3, q0, q8, h4, h5⟩ := (HD4.out.below hb5).step hpn hS1 hb hge
          have HD5 : Hid (NvN w (w5.setCell ⟨w.heap.size, p, none⟩ (.int .u8 (t + 1))) n X b p S (T - b)) := h5
          have HV6 : Hid (NIsF (w5.setCell ⟨w.heap.size, p, none⟩ (.int .u8 (t + 1))) (w.heap.size + 1) u (T - b)) := HV5.out.set _ _ _ (Nat.lt_succ_self _)
          clear h5 hu hb5 HV4 HD4 hbel4 HV5
          go_wp2
          go_roundg (T - b).toNat
          case measure => have := HG.out; omega
          case rel => exact ⟨T - b, by omega, by omega, rfl, HD5, HV6, hbel5.setCell (Nat.le_refl _) _⟩
        · have HC1 : Hid (cmpI T b = -1) := cmpI_lt _ _ (by omega)
          have HDO : Hid (NvO w _ n X b p T) := HD.out.out
          go_wp2_with fail
          refine (HCMP.out _ _ T hbel HV.out.1 (by omega)).mono ?_
          rintro e w4 ⟨rfl, hb4⟩
          rw [HC1.out]
          have HV4 : Hid (NIsF w4 (w.heap.size + 1) _ T) := HV.out.below hb4 (Nat.le_refl _)
          have HD4 : Hid (NvO w w4 n X b p T) := HDO.out.below hb4
          have hbel4 : Below w.heap.size w w4 := hbel.trans (hb4.mono hbel.size)
          clear hb4 HV HD hbel HC1 HDO
          go_wp2
          go_roundw
          case rel => exact ⟨q + 1, T, by omega, by go_num, t0, by omega, by rw [EP.out]; exact HD4, HV4, hbel4⟩
          case measure => simp [intOf]; omega
    · have e : q = n := by omega
      subst e
      obtain ⟨e2, hT⟩ := HFIN.out wr R (by have := HD.out; rwa [Nat.sub_self] at this) r0 r1
      have E2 : Hid (R = lv X % b) := e2
      have HT : Hid (Calls Try.prog 42 #[.slice (some ⟨w.heap.size, 0, none⟩) q q] wr fun e w' => ∃ u, e = .returned u ∧ NIsF wr w.heap.size u (lv X / b) ∧ w' = wr) := hT
      clear e2 hT HFIN
      go_wp2_with fail
      refine HT.out.mono ?_
      rintro e w2 ⟨u, rfl, hu, rfl⟩
      have HU : Hid (NIsF w2 w.heap.size u (lv X / b)) := hu
      clear hu
      go_wp2
      go_ret2
      exact ⟨u, _, rfl, HU.out, by rw [← E2.out]; exact HV.out.mono (Nat.le_succ _), hbel⟩
end Go.Proofs.Ytmjkpjmccdjkjap
