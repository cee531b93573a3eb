/-
  The model's quotients, roots and shifts of naturals at any strings, walked.
-/
import Derived.Deep.LoopGhost
import Derived.Test.YteofommckgeemaaGreatDoorNav
import Derived.OpenShut
import Derived.Test.YteofommckgeemaaGreatDoorSl
import Derived.Test.YteofommckgeemaaGreatDoorTxtM
import Derived.Test.YteofommckgeemaaGreatDoorFmt
import Derived.Test.YteofommckgeemaaGreatDoorNatS
namespace Go.Proofs.YteofommckgeemaaGreatDoor
open Go.RowKit
set_option linter.unusedVariables false
set_option maxRecDepth 100000
theorem NFit.le {a b : Int} {k : Nat} (h : NFit b k) (hl : a ≤ b) : NFit a k := by unfold NFit at *; omega
theorem NFit.mono {a : Int} {k m : Nat} (h : NFit a k) (hl : k ≤ m) : NFit a m := by unfold NFit at *; have := pow_mono k m hl; omega
theorem NFit.ten {a b : Int} {k : Nat} (h : NFit b k) (hl : a < 10 * b) : NFit a (k + 1) := by unfold NFit at *; rw [Int.pow_succ]; omega
theorem nis_none (w : World) : NIsF (w.alloc (.cells #[] 5)) w.heap.size (.slice (some ⟨w.heap.size, 0, none⟩) 0 0) 0 :=
  ⟨⟨[], ⟨w.heap.size, 0, rfl, Nat.le_refl _, by simp, fun i hi => by cases hi⟩, ⟨(fun d hd => by cases hd), .inl rfl⟩, rfl⟩, _, _, _, rfl, Nat.le_refl _⟩
/-- What holds ahead of a place: p digits are still to come, R is left. -/
def NvO (w wr : World) (N : Nat) (X : List Int) (b : Int) (p : Nat) (R : Int) : Prop :=
  ∃ Q, NRow wr w.heap.size w.heap.size N Q ∧ Dec Q ∧ (∀ t, t < p → Q.getD t 0 = 0) ∧ b * lv Q + 10 ^ p * R + lv (X.take p) = lv X
/-- What holds at a place. -/
def NvN (w wr : World) (N : Nat) (X : List Int) (b : Int) (p : Nat) (S R : Int) : Prop :=
  ∃ Q, NRow wr w.heap.size w.heap.size N Q ∧ Dec Q ∧ (∀ t, t < p → Q.getD t 0 = 0) ∧ b * lv Q + 10 ^ p * R + lv (X.take p) = lv X ∧ Q.getD p 0 * b + R = S
theorem NvO.below {w wr w' : World} {N : Nat} {X : List Int} {b : Int} {p : Nat} {R : Int} (h : NvO w wr N X b p R) (hb : Below wr.heap.size wr w') : NvO w w' N X b p R := by
  obtain ⟨Q, hR, r⟩ := h
  exact ⟨Q, hR.below hb (Nat.le_refl _), r⟩
theorem NvN.below {w wr w' : World} {N : Nat} {X : List Int} {b : Int} {p : Nat} {S R : Int} (h : NvN w wr N X b p S R) (hb : Below wr.heap.size wr w') : NvN w w' N X b p S R := by
  obtain ⟨Q, hR, r⟩ := h
  exact ⟨Q, hR.below hb (Nat.le_refl _), r⟩
theorem NvO.start {w wr : World} {N : Nat} {X : List Int} {b : Int} (h : NRow wr w.heap.size w.heap.size N (List.replicate N 0)) (hX : X.length = N) : NvO w wr N X b N 0 :=
  ⟨_, h, dec_noughts N, fun t _ => replicate_at N t, by rw [lv_noughts, List.take_of_length_le (by omega)]; simp⟩
theorem NvO.into {w wr : World} {N : Nat} {X : List Int} {b : Int} {p : Nat} {R : Int} (h : NvO w wr N X b (p + 1) R) (hp : p < X.length) : NvN w wr N X b p (10 * R + X.getD p 0) (10 * R + X.getD p 0) := by
  obtain ⟨Q, hR, hD, hz, hv⟩ := h
  refine ⟨Q, hR, hD, fun t ht => hz t (by omega), ?_, by rw [hz p (by omega)]; omega⟩
  rw [lv_take1 X p hp, Int.pow_succ] at hv
  rw [← hv]
  generalize (10 : Int) ^ p = e
  grind
theorem NvN.out {w wr : World} {N : Nat} {X : List Int} {b : Int} {p : Nat} {S R : Int} (h : NvN w wr N X b p S R) : NvO w wr N X b p R := by
  obtain ⟨Q, hR, hD, hz, hv, -⟩ := h
  exact ⟨Q, hR, hD, hz, hv⟩
theorem NvN.low {b S R q : Int} (hS : S < 10 * b) (hb : 0 < b) (hge : b ≤ R) (h : q * b + R = S) : q ≤ 8 := by
  rcases Int.lt_or_le 8 q with c | c
  · exfalso
    have : 9 * b ≤ q * b := Int.mul_le_mul_of_nonneg_right (by omega) (by omega)
    omega
  · exact c
theorem NvN.step {w wr : World} {N : Nat} {X : List Int} {b : Int} {p : Nat} {S R : Int} (h : NvN w wr N X b p S R) (hp : p < N) (hS : S < 10 * b) (hb : 0 < b) (hge : b ≤ R) :
    ∃ q, wr.cell? ⟨w.heap.size, p, none⟩ = some (.int .u8 q) ∧ 0 ≤ q ∧ q ≤ 8 ∧ wr.frozen? ⟨w.heap.size, p, none⟩ = false ∧ NvN w (wr.setCell ⟨w.heap.size, p, none⟩ (.int .u8 (q + 1))) N X b p S (R - b) := by
  obtain ⟨Q, hR, hD, hz, hv, hs⟩ := h
  have hlen := hR.len
  have h8 := NvN.low hS hb hge hs
  have hd := dec_at Q hD p
  refine ⟨Q.getD p 0, hR.cell p hp, hd.1, h8, hR.frozen p, Q.set p (Q.getD p 0 + 1), hR.set p _, nd_set Q p _ hD (by omega) (by omega), fun t ht => ?_, ?_, ?_⟩
  · rw [getD_set_ne _ _ _ _ (by omega)]; exact hz t ht
  · rw [nl_set Q p _ (by omega), ← hv]
    generalize (10 : Int) ^ p = e
    grind
  · have e : (Q.set p (Q.getD p 0 + 1)).getD p 0 = Q.getD p 0 + 1 := by
      simp [List.getD, show p < Q.length by omega]
    rw [e, ← hs]
    grind
theorem NvO.fin {w wr : World} {N : Nat} {X : List Int} {b : Int} {R : Int} (h : NvO w wr N X b 0 R) (hb : 0 < b) (r0 : 0 ≤ R) (r1 : R < b) : ∃ Q, NRow wr w.heap.size w.heap.size N Q ∧ Dec Q ∧ lv Q = lv X / b ∧ R = lv X % b := by
  obtain ⟨Q, hR, hD, -, hv⟩ := h
  rw [Int.pow_zero, List.take_zero, Int.one_mul, show lv [] = 0 from rfl, Int.add_zero] at hv
  refine ⟨Q, hR, hD, ?_, ?_⟩
  · rw [← hv, Int.mul_add_ediv_left _ _ (by omega), Int.ediv_eq_zero_of_lt r0 r1]; omega
  · rw [← hv, Int.mul_add_emod_self_left, Int.emod_eq_of_lt r0 r1]
set_option maxHeartbeats 4000000 in
theorem nDivide_any (x y : Value) (a b : Int) (w : World) (hx : NIs w x a) (hy : NIs w y b) (fa : NFit a 900) (fb : NFit b 900) (hb : 0 < b) :
    Calls Tryz.prog 160 #[x, y] w fun e w' => ∃ u v, e = .returned (.tuple #[u, v]) ∧ NIsF w' w.heap.size u (a / b) ∧ NIsF w' w.heap.size v (a % b) ∧ Below w.heap.size w w' := by
  obtain ⟨X, rX, cX, rfl⟩ := hx
  have lX := ncan_len X 900 cX fa
  obtain ⟨n, hn⟩ : ∃ n, X.length = n := ⟨_, rfl⟩
  obtain ⟨w1, hrun, hown, hb1⟩ := nMake w n (by omega)
  have hz1 := hb1.size
  obtain ⟨w2, hw2⟩ : ∃ w2, w1.alloc (.cells #[] 5) = w2 := ⟨_, rfl⟩
  have hb2 : Below w.heap.size w w2 := by rw [← hw2]; exact hb1.alloc hz1 _
  have HO : Hid (NvO w w2 n X b n 0) := by
    rw [← hw2]
    exact NvO.start (hown.below1 ((Below.refl _ _).alloc (Nat.le_refl _) _)) hn
  have HN0 : Hid (NIsF w2 (w.heap.size + 1) (.slice (some ⟨w1.heap.size, 0, none⟩) 0 0) 0) := by rw [← hw2]; exact (nis_none w1).mono hown.lt.2
  have HY : Hid (∀ W, Below w.heap.size w W → NIs W y b) := fun W hW => hy.below hW (Nat.le_refl _)
  have HBX : Hid (∀ p, 0 ≤ X.getD p 0 ∧ X.getD p 0 ≤ 9) := fun p => dec_at X cX.1 p
  have HCMP : Hid (∀ W v R, Below w.heap.size w W → NIs W v R → R < 10 * b → Calls Tryz.prog 216 #[v, y] W fun e w' => e = .returned (.int .i64 (cmpI R b)) ∧ Below W.heap.size W w') := fun W v R hW hv hR => nCompare_any v y R b W hv (hy.below hW (Nat.le_refl _)) ((fb.ten hR).mono (by decide)) (fb.mono (by decide))
  have HMIN : Hid (∀ W v R, Below w.heap.size w W → NIs W v R → R < 10 * b → b ≤ R → Calls Tryz.prog 217 #[v, y] W fun e w' => ∃ u, e = .returned u ∧ NIsF w' W.heap.size u (R - b) ∧ Below W.heap.size W w') := fun W v R hW hv hR hge => nMinus_any v y R b W hv (hy.below hW (Nat.le_refl _)) ((fb.ten hR).mono (by decide)) (fb.mono (by decide)) hge
  have HFOL : Hid (∀ W v R d, NIs W v R → R < b → 0 ≤ d → d ≤ 9 → Calls Tryz.prog 215 #[v, .int .u8 d] W fun e w' => ∃ u, e = .returned u ∧ NIsF w' W.heap.size u (10 * R + d) ∧ Below W.heap.size W w') := fun W v R d hv hR d0 d9 => nFollow_any v R d W hv ((fb.le (Int.le_of_lt hR)).mono (by decide)) d0 d9
  have HINTO : Hid (∀ W p R, p < n → NvO w W n X b (p + 1) R → NvN w W n X b p (10 * R + X.getD p 0) (10 * R + X.getD p 0)) := fun W p R hp h => h.into (by omega)
  have HFIN : Hid (∀ W R, NvO w W n X b 0 R → 0 ≤ R → R < b → R = lv X % b ∧ Calls Tryz.prog 218 #[.slice (some ⟨w.heap.size, 0, none⟩) n n] W fun e w' => ∃ u, e = .returned u ∧ NIsF W w.heap.size u (lv X / b) ∧ w' = W) := fun W R h r0 r1 => by
    obtain ⟨Q, hR, hD, e1, e2⟩ := h.fin hb r0 r1
    refine ⟨e2, ?_⟩
    have := nTrim_any _ Q W w.heap.size hR.rd ⟨_, _, _, rfl, Nat.le_refl _⟩ hD (by rw [hR.len]; omega)
    rw [e1] at this
    exact this
  obtain ⟨g, cg, rfl, hcg, hgl, hcx⟩ := rX
  rw [hn] at hcg hcx lX ⊢
  have HCX : Hid (∀ i, i < n → w.cell? ⟨g, i, none⟩ = some (.int .u8 (X.getD i 0))) := hcx
  clear cX fa fb hown hcx hn hy
  subst hw2
  go_enter Tryz.func160, Tryz.ntmps160
  go_wp2
  go_loopw [7, 16] (fun v i wr => ∃ (q : Nat) (R : Int), q ≤ n ∧ i = .int .i64 (q : Int) ∧ 0 ≤ R ∧ R < b ∧ Hid (NvO w wr n X b (n - q) R) ∧ Hid (NIsF wr (w.heap.size + 1) v R) ∧ Below w.heap.size w wr) (fun _ i _ => n - (intOf i).toNat)
  case atStart => exact ⟨0, 0, Nat.zero_le _, rfl, Int.le_refl _, hb, HO, HN0, hb2⟩
  case round =>
    obtain ⟨q, R, hq, rfl, r0, r1, HD, HV, hbel⟩ := hrel
    clear hrun HO hb1 hb2 HN0 hz1
    by_cases hlt : q < n
    · have hlt' : (q : Int) < (n : Int) := by omega
      obtain ⟨p, hp⟩ : ∃ p, n - 1 - q = p := ⟨_, rfl⟩
      have ep : (n : Int) - 1 - (q : Int) = (p : Int) := by omega
      have hpn : p < n := by omega
      have hpn' : (p : Int) < (n : Int) := by omega
      have h1 := (hbel.cell (p := ⟨g, p, none⟩) hgl).trans (HCX.out p hpn)
      have bx := HBX.out p
      have HD1 : Hid (NvN w wr n X b p (10 * R + X.getD p 0) (10 * R + X.getD p 0)) := HINTO.out wr p R hpn (by have := HD.out; rwa [show n - q = p + 1 by omega] at this)
      have EP : Hid (n - (q + 1) = p) := by show _ = _; omega
      have HZ : Hid (w.heap.size + 1 ≤ wr.heap.size) := by obtain ⟨Q, hQ, -⟩ := HD1.out; exact hQ.lt.2
      clear HD hp
      generalize X.getD p 0 = d at *
      go_wp2_with fail
      refine (HFOL.out _ _ R d HV.out.1 r1 bx.1 bx.2).mono ?_
      rintro e w3 ⟨u, rfl, hu, hb3⟩
      have HU : Hid (NIsF w3 (w.heap.size + 1) u (10 * R + d)) := hu.mono HZ.out
      have HD2 : Hid (NvN w w3 n X b p (10 * R + d) (10 * R + d)) := HD1.out.below hb3
      have hbel3 : Below w.heap.size w w3 := hbel.trans (hb3.mono hbel.size)
      obtain ⟨S, hS⟩ : ∃ S, 10 * R + d = S := ⟨_, rfl⟩
      rw [hS] at HU HD2
      have hS0 : 0 ≤ S := by omega
      have hS1 : S < 10 * b := by omega
      clear hu hb3 HD1 HV hbel hS h1
      go_wp2
      go_loopg [7] S.toNat (fun gk v wx => ∃ T : Int, 0 ≤ T ∧ T ≤ S ∧ gk = T.toNat ∧ Hid (NvN w wx n X b p S T) ∧ Hid (NIsF wx (w.heap.size + 1) v T) ∧ Below w.heap.size w wx)
      case atStart => exact ⟨S, hS0, Int.le_refl _, rfl, HD2, HU, hbel3⟩
      case round =>
        clear HU HD2 hbel3
        obtain ⟨T, t0, t1, hgk, HD, HV, hbel⟩ := hrel
        have HG : Hid (gk = T.toNat) := hgk
        clear hgk
        by_cases hge : b ≤ T
        · have HC1 : Hid (0 ≤ cmpI T b ∧ cmpI T b ≤ 1) := by
            show _ ∧ _
            unfold cmpI; rw [if_neg (by omega)]; split <;> omega
          go_wp2_with fail
          refine (HCMP.out _ _ T hbel HV.out.1 (by omega)).mono ?_
          rintro e w4 ⟨rfl, hb4⟩
          have hc0 := HC1.out.1
          have hc1 := HC1.out.2
          generalize cmpI T b = C at *
          have HV4 : Hid (NIsF w4 (w.heap.size + 1) _ T) := HV.out.below hb4 (Nat.le_refl _)
          have HD4 : Hid (NvN w w4 n X b p S T) := HD.out.below hb4
          have hbel4 : Below w.heap.size w w4 := hbel.trans (hb4.mono hbel.size)
          have HZ4 : Hid (w.heap.size + 1 ≤ w4.heap.size) := by obtain ⟨Q, hQ, -⟩ := HD4.out; exact hQ.lt.2
          clear hb4 HV HD hbel HC1
          go_wp2_with fail
          refine (HMIN.out _ _ T hbel4 HV4.out.1 (by omega) hge).mono ?_
          rintro e w5 ⟨u, rfl, hu, hb5⟩
          have HV5 : Hid (NIsF w5 (w.heap.size + 1) u (T - b)) := hu.mono HZ4.out
          have hbel5 : Below w.heap.size w w5 := hbel4.trans (hb5.mono hbel4.size)
          obtain ⟨t, h3, q0, q8, h4, h5⟩ := (HD4.out.below hb5).step hpn hS1 hb hge
          have HD5 : Hid (NvN w (w5.setCell ⟨w.heap.size, p, none⟩ (.int .u8 (t + 1))) n X b p S (T - b)) := h5
          have HV6 : Hid (NIsF (w5.setCell ⟨w.heap.size, p, none⟩ (.int .u8 (t + 1))) (w.heap.size + 1) u (T - b)) := HV5.out.set _ _ _ (Nat.lt_succ_self _)
          clear h5 hu hb5 HV4 HD4 hbel4 HV5
          go_wp2
          go_roundg (T - b).toNat
          case measure => have := HG.out; omega
          case rel => exact ⟨T - b, by omega, by omega, rfl, HD5, HV6, hbel5.setCell (Nat.le_refl _) _⟩
        · have HC1 : Hid (cmpI T b = -1) := cmpI_lt _ _ (by omega)
          have HDO : Hid (NvO w _ n X b p T) := HD.out.out
          go_wp2_with fail
          refine (HCMP.out _ _ T hbel HV.out.1 (by omega)).mono ?_
          rintro e w4 ⟨rfl, hb4⟩
          rw [HC1.out]
          have HV4 : Hid (NIsF w4 (w.heap.size + 1) _ T) := HV.out.below hb4 (Nat.le_refl _)
          have HD4 : Hid (NvO w w4 n X b p T) := HDO.out.below hb4
          have hbel4 : Below w.heap.size w w4 := hbel.trans (hb4.mono hbel.size)
          clear hb4 HV HD hbel HC1 HDO
          go_wp2
          go_roundw
          case rel => exact ⟨q + 1, T, by omega, by go_num, t0, by omega, by rw [EP.out]; exact HD4, HV4, hbel4⟩
          case measure => simp [intOf]; omega
    · have e : q = n := by omega
      subst e
      obtain ⟨e2, hT⟩ := HFIN.out wr R (by have := HD.out; rwa [Nat.sub_self] at this) r0 r1
      have E2 : Hid (R = lv X % b) := e2
      have HT : Hid (Calls Tryz.prog 218 #[.slice (some ⟨w.heap.size, 0, none⟩) q q] wr fun e w' => ∃ u, e = .returned u ∧ NIsF wr w.heap.size u (lv X / b) ∧ w' = wr) := hT
      clear e2 hT HFIN
      go_wp2_with fail
      refine HT.out.mono ?_
      rintro e w2 ⟨u, rfl, hu, rfl⟩
      have HU : Hid (NIsF w2 w.heap.size u (lv X / b)) := hu
      clear hu
      go_wp2
      go_ret2
      exact ⟨u, _, rfl, HU.out, by rw [← E2.out]; exact HV.out.mono (Nat.le_succ _), hbel⟩
end Go.Proofs.YteofommckgeemaaGreatDoor

namespace Go.Proofs.YteofommckgeemaaGreatDoor
open Go.RowKit
set_option linter.unusedVariables false
set_option maxRecDepth 100000
theorem lv_takeN (L : List Int) (p : Nat) : lv (L.take (p + 1)) = lv (L.take p) + 10 ^ p * L.getD p 0 := by
  rcases Nat.lt_or_ge p L.length with c | c
  · exact lv_take1 L p c
  · rw [List.take_of_length_le (by omega), List.take_of_length_le c]
    simp [List.getD, List.getElem?_eq_none c]
theorem NFit.big {R z : Int} {k : Nat} (h : NFit R k) (hz : z ≤ 1000 * (R + 1)) : NFit z (k + 4) := by
  unfold NFit at *
  have p0 : (0 : Int) < 10 ^ k := Int.pow_pos (by decide)
  rw [show (10 : Int) ^ (k + 4) = 10 ^ k * 10000 by rw [Int.pow_add]; rfl]
  omega
/-- What holds where t pairs are still to come. -/
def RI (X : List Int) (t : Nat) (S R : Int) : Prop := 0 ≤ S ∧ 0 ≤ R ∧ R ≤ 2 * S ∧ 10 ^ (2 * t) * (S * S + R) + lv (X.take (2 * t)) = lv X
theorem RI.start (X : List Int) (t : Nat) (h : X.length ≤ 2 * t) : RI X t 0 0 := ⟨by decide, by decide, by decide, by rw [List.take_of_length_le h]; simp⟩
theorem RI.small {X : List Int} {t : Nat} {S R : Int} (h : RI X t S R) (hX : Dec X) (k : Nat) (hf : NFit (lv X) k) : NFit S k ∧ NFit R k := by
  obtain ⟨h0, h1, h2, h3⟩ := h
  have p0 : (0 : Int) < 10 ^ (2 * t) := Int.pow_pos (by decide)
  have t0 := (lv_bd (X.take (2 * t)) (dec_take X _ hX)).1
  have q0 : 0 ≤ S * S := Int.mul_nonneg h0 h0
  have m : 1 * (S * S + R) ≤ 10 ^ (2 * t) * (S * S + R) := Int.mul_le_mul_of_nonneg_right (by omega) (by omega)
  have s : S ≤ S * S := by
    rcases Int.lt_or_le 0 S with c | c
    · have : S * 1 ≤ S * S := Int.mul_le_mul_of_nonneg_left (by omega) h0
      omega
    · omega
  unfold NFit at *
  exact ⟨by omega, by omega⟩
theorem RI.next {X : List Int} {t : Nat} {S R T d : Int} (h : RI X (t + 1) S R) (t0 : 0 ≤ T) (d0 : 0 ≤ d) (hT : T + (20 * S + d) * d = 100 * R + 10 * X.getD (2 * t + 1) 0 + X.getD (2 * t) 0) (hlt : T < 20 * S + 2 * d + 1) : RI X t (10 * S + d) T := by
  obtain ⟨h0, h1, h2, h3⟩ := h
  refine ⟨by omega, t0, by omega, ?_⟩
  rw [show 2 * (t + 1) = 2 * t + 1 + 1 by omega, lv_takeN, lv_takeN, Int.pow_succ, Int.pow_succ] at h3
  rw [← h3]
  generalize (10 : Int) ^ (2 * t) = e at *
  generalize X.getD (2 * t + 1) 0 = x1 at *
  generalize X.getD (2 * t) 0 = x0 at *
  grind
theorem RI.digit {S R T d x1 x0 : Int} (r2 : R ≤ 2 * S) (s0 : 0 ≤ S) (a : x1 ≤ 9) (b : x0 ≤ 9) (d0 : 0 ≤ d) (d9 : d ≤ 9) (hT : T + (20 * S + d) * d = 100 * R + 10 * x1 + x0) (hge : 20 * S + 2 * d + 1 ≤ T) : d ≤ 8 := by
  rcases Int.lt_or_le 8 d with c | c
  · exfalso
    have e : d = 9 := by omega
    subst e
    omega
  · exact c
theorem nis_one (w : World) (d : Int) (h : 1 ≤ d) (h9 : d ≤ 9) : NIs (w.alloc (.cells #[.int .u8 d] 5)) (.slice (some ⟨w.heap.size, 0, none⟩) 1 1) d := by
  refine ⟨[d], ⟨w.heap.size, 1, rfl, Nat.le_refl _, by simp, fun i hi => ?_⟩, ⟨(fun x hx => by simp at hx; omega), .inr (by simp; omega)⟩, by simp [lv]⟩
  have e : i = 0 := by simp at hi; exact hi
  subst e
  simp
set_option maxHeartbeats 4000000 in
theorem nRoot_any (x : Value) (a : Int) (w : World) (hx : NIs w x a) (fa : NFit a 500) :
    Calls Tryz.prog 171 #[x] w fun e w' => ∃ u v, e = .returned (.tuple #[u, v]) ∧ (∃ S R : Int, NIs w' u S ∧ NIs w' v R ∧ S * S + R = a ∧ 0 ≤ S ∧ 0 ≤ R ∧ R ≤ 2 * S) ∧ Below w.heap.size w w' := by
  obtain ⟨X, rX, cX, rfl⟩ := hx
  have lX := ncan_len X 500 cX fa
  obtain ⟨n, hn⟩ : ∃ n, X.length = n := ⟨_, rfl⟩
  obtain ⟨P, hP⟩ : ∃ P, (n + 1) / 2 = P := ⟨_, rfl⟩
  obtain ⟨w2, hw2⟩ : ∃ w2, (w.alloc (.cells #[] 5)).alloc (.cells #[] 5) = w2 := ⟨_, rfl⟩
  have hb2 : Below w.heap.size w w2 := by rw [← hw2]; exact ((Below.refl w.heap.size w).alloc (Nat.le_refl _) _).alloc (by simp) _
  have HN1 : Hid (NIs w2 (.slice (some ⟨w.heap.size, 0, none⟩) 0 0) 0) := by
    rw [← hw2]; exact (nis_none w).1.below ((Below.refl _ _).alloc (Nat.le_refl _) _) (Nat.le_refl _)
  have HN2 : Hid (NIs w2 (.slice (some ⟨w.heap.size + 1, 0, none⟩) 0 0) 0) := by
    rw [← hw2]
    have := (nis_none (w.alloc (.cells #[] 5))).1
    show NIs _ _ _
    simpa using this
  have HO : Hid (RI X P 0 0) := RI.start X P (by omega)
  have HSM : Hid (∀ t S R, RI X t S R → NFit S 500 ∧ NFit R 500) := fun t S R h => h.small cX.1 500 fa
  have HBX : Hid (∀ p, 0 ≤ X.getD p 0 ∧ X.getD p 0 ≤ 9) := fun p => dec_at X cX.1 p
  have HAT : Hid (∀ W (p : Nat), Below w.heap.size w W → p ≤ 1000 → Calls Tryz.prog 224 #[x, .int .i64 (p : Int)] W fun e w' => e = .returned (.int .u8 (X.getD p 0)) ∧ w' = W) := fun W p hW hp => nAt_any x X p W (rX.below hW (Nat.le_refl _)) (by omega) (by omega)
  have HFIN : Hid (∀ S R, RI X 0 S R → S * S + R = lv X ∧ 0 ≤ S ∧ 0 ≤ R ∧ R ≤ 2 * S) := fun S R ⟨h0, h1, h2, h3⟩ => ⟨by simpa [lv] using h3, h0, h1, h2⟩
  obtain ⟨g, cg, rfl, hcg, hgl, hcx⟩ := rX
  rw [hn] at hcg lX HAT ⊢
  have hdv : Int.tdiv ((n : Int) + 1) 2 = (P : Int) := by rw [Int.tdiv_eq_ediv_of_nonneg (by omega)]; omega
  have hP2 : P ≤ 251 := by omega
  clear cX fa hcx hn hP hgl
  subst hw2
  go_enter Tryz.func171, Tryz.ntmps171
  go_wp2
  go_loopw [4, 5, 18] (fun u v i wr => ∃ (q : Nat) (S R : Int), q ≤ P ∧ i = .int .i64 (q : Int) ∧ Hid (RI X (P - q) S R) ∧ Hid (NIs wr u S) ∧ Hid (NIs wr v R) ∧ Below w.heap.size w wr) (fun _ _ i _ => P - (intOf i).toNat)
  case atStart => exact ⟨0, 0, 0, Nat.zero_le _, rfl, HO, HN1, HN2, hb2⟩
  case round =>
    obtain ⟨q, S, R, hq, rfl, HR, HU, HV, hbel⟩ := hrel
    clear HO hb2 HN1 HN2 hdv
    by_cases hlt : q < P
    · have hlt' : (q : Int) < (P : Int) := by omega
      obtain ⟨t, ht⟩ : ∃ t, P - 1 - q = t := ⟨_, rfl⟩
      have ep : (P : Int) - 1 - (q : Int) = (t : Int) := by omega
      have htP : t ≤ 250 := by omega
      have HR1 : Hid (RI X (t + 1) S R) := by
        have := HR.out; rwa [show P - q = t + 1 by omega] at this
      have EP : Hid (P - (q + 1) = t) := by show _ = _; omega
      obtain ⟨fS, fR⟩ := HSM.out _ S R HR1.out
      obtain ⟨s0, r0, r2, -⟩ := HR1.out
      have b1 := HBX.out (2 * t + 1)
      have b0 := HBX.out (2 * t)
      have FS : Hid (NFit S 500) := fS
      have FR : Hid (NFit R 500) := fR
      have HA1 : Hid (∀ W, Below w.heap.size w W → Calls Tryz.prog 224 #[.slice (some ⟨g, 0, none⟩) n cg, .int .i64 (2 * (t : Int) + 1)] W fun e w' => e = .returned (.int .u8 (X.getD (2 * t + 1) 0)) ∧ w' = W) := fun W hW => by
        have := HAT.out W (2 * t + 1) hW (by omega)
        rw [show ((2 * t + 1 : Nat) : Int) = 2 * (t : Int) + 1 by omega] at this
        exact this
      have HA0 : Hid (∀ W, Below w.heap.size w W → Calls Tryz.prog 224 #[.slice (some ⟨g, 0, none⟩) n cg, .int .i64 (2 * (t : Int))] W fun e w' => e = .returned (.int .u8 (X.getD (2 * t) 0)) ∧ w' = W) := fun W hW => by
        have := HAT.out W (2 * t) hW (by omega)
        rw [show ((2 * t : Nat) : Int) = 2 * (t : Int) by omega] at this
        exact this
      have HNX : Hid (∀ T d, 0 ≤ T → 0 ≤ d → T + (20 * S + d) * d = 100 * R + 10 * X.getD (2 * t + 1) 0 + X.getD (2 * t) 0 → T < 20 * S + 2 * d + 1 → RI X t (10 * S + d) T) := fun T d t0 d0 h1 h2 => HR1.out.next t0 d0 h1 h2
      clear fS fR HR HR1 ht
      generalize X.getD (2 * t + 1) 0 = x1 at *
      generalize X.getD (2 * t) 0 = x0 at *
      go_wp2_with fail
      refine (HA1.out _ hbel).mono ?_
      rintro e w3 ⟨rfl, rfl⟩
      go_wp2_with fail
      refine (nFollow_any _ R x1 _ HV.out (FR.out.mono (by decide)) b1.1 b1.2).mono ?_
      rintro e w4 ⟨v4, rfl, hv4, hb4⟩
      have HV4 : Hid (NIs w4 v4 (10 * R + x1)) := hv4.1
      have HU4 : Hid (NIs w4 _ S) := HU.out.below hb4 (Nat.le_refl _)
      have hbel4 : Below w.heap.size w w4 := hbel.trans (hb4.mono hbel.size)
      clear hv4 hb4 HV HU hbel
      go_wp2_with fail
      refine (HA0.out _ hbel4).mono ?_
      rintro e w5 ⟨rfl, rfl⟩
      go_wp2_with fail
      refine (nFollow_any _ (10 * R + x1) x0 _ HV4.out ((FR.out.big (by omega)).mono (by decide)) b0.1 b0.2).mono ?_
      rintro e w6 ⟨v6, rfl, hv6, hb6⟩
      have HV6 : Hid (NIs w6 v6 (10 * (10 * R + x1) + x0)) := hv6.1
      have HU6 : Hid (NIs w6 _ S) := HU4.out.below hb6 (Nat.le_refl _)
      have hbel6 : Below w.heap.size w w6 := hbel4.trans (hb6.mono hbel4.size)
      clear hv6 hb6 HV4 HU4 hbel4
      obtain ⟨R0, hR0⟩ : ∃ R0, 10 * (10 * R + x1) + x0 = R0 := ⟨_, rfl⟩
      rw [hR0] at HV6
      have HE0 : Hid (R0 = 100 * R + 10 * x1 + x0) := by show _ = _; omega
      have F0 : Hid (NFit R0 900 ∧ NFit (20 * S + 100) 900) := by
        exact ⟨(FR.out.big (by omega)).mono (by decide), (FS.out.big (by omega)).mono (by decide)⟩
      have h00 : 0 ≤ R0 := by omega
      clear hR0
      go_wp2_with fail
      refine (nPlus_any _ _ S S _ HU6.out HU6.out (FS.out.mono (by decide)) (FS.out.mono (by decide))).mono ?_
      rintro e w7 ⟨z7, rfl, hu7, hb7⟩
      have HP7 : Hid (NIs w7 z7 (S + S)) := hu7.1
      have HV7 : Hid (NIs w7 _ R0) := HV6.out.below hb7 (Nat.le_refl _)
      have HU7 : Hid (NIs w7 _ S) := HU6.out.below hb7 (Nat.le_refl _)
      have hbel7 : Below w.heap.size w w7 := hbel6.trans (hb7.mono hbel6.size)
      clear hu7 hb7 HV6 HU6 hbel6
      go_wp2_with fail
      refine (nFollow_any _ (S + S) 1 _ HP7.out ((F0.out.2.le (by omega)).mono (by decide)) (by decide) (by decide)).mono ?_
      rintro e w8 ⟨z8, rfl, hu8, hb8⟩
      have HP8 : Hid (NIs w8 z8 (20 * S + 2 * 0 + 1)) := by
        have := hu8.1; rwa [show 10 * (S + S) + 1 = 20 * S + 2 * 0 + 1 by omega] at this
      have HV8 : Hid (NIs w8 _ R0) := HV7.out.below hb8 (Nat.le_refl _)
      have HU8 : Hid (NIs w8 _ S) := HU7.out.below hb8 (Nat.le_refl _)
      have hbel8 : Below w.heap.size w w8 := hbel7.trans (hb8.mono hbel7.size)
      clear hu8 hb8 HV7 HU7 hbel7 HP7
      go_wp2
      go_loopg [5, 9, 10] R0.toNat (fun gk v o c wx => ∃ (T d : Int), 0 ≤ T ∧ T ≤ R0 ∧ 0 ≤ d ∧ d ≤ 9 ∧ gk = T.toNat ∧ c = .int .u8 d ∧ Hid (T + (20 * S + d) * d = R0) ∧ Hid (NIs wx v T) ∧ Hid (NIs wx o (20 * S + 2 * d + 1)) ∧ Hid (NIs wx u4 S) ∧ Below w.heap.size w wx)
      case atStart => exact ⟨R0, 0, h00, Int.le_refl _, by decide, by decide, rfl, rfl, by show _ = _; omega, HV8, HP8, HU8, hbel8⟩
      case round =>
        clear HV8 HP8 HU8 hbel8
        obtain ⟨T, d, t0, t1, d0, d9, hgk, rfl, HT, HV, HP, HU, hbel⟩ := hrel
        have HG : Hid (gk = T.toNat) := hgk
        clear hgk
        by_cases hge : 20 * S + 2 * d + 1 ≤ T
        · have HC1 : Hid (0 ≤ cmpI T (20 * S + 2 * d + 1) ∧ cmpI T (20 * S + 2 * d + 1) ≤ 1) := by
            show _ ∧ _
            unfold cmpI; rw [if_neg (by omega)]; split <;> omega
          have h8 : d ≤ 8 := RI.digit r2 s0 b1.2 b0.2 d0 d9 (by rw [HT.out]; exact HE0.out) hge
          have HTN : Hid (T - (20 * S + 2 * d + 1) + (20 * S + (d + 1)) * (d + 1) = R0) := by
            show _ = _
            rw [← HT.out]; grind
          go_wp2_with fail
          refine (nCompare_any _ _ T (20 * S + 2 * d + 1) _ HV.out HP.out ((F0.out.1.le t1).mono (by decide)) ((F0.out.2.le (by omega)).mono (by decide))).mono ?_
          rintro e w9 ⟨rfl, hb9⟩
          have hc0 := HC1.out.1
          have hc1 := HC1.out.2
          generalize cmpI T (20 * S + 2 * d + 1) = C at *
          have HV9 : Hid (NIs w9 _ T) := HV.out.below hb9 (Nat.le_refl _)
          have HP9 : Hid (NIs w9 _ (20 * S + 2 * d + 1)) := HP.out.below hb9 (Nat.le_refl _)
          have HU9 : Hid (NIs w9 _ S) := HU.out.below hb9 (Nat.le_refl _)
          have hbel9 : Below w.heap.size w w9 := hbel.trans (hb9.mono hbel.size)
          clear hb9 HV HP HU hbel HC1 HT
          go_wp2_with fail
          refine (nMinus_any _ _ T (20 * S + 2 * d + 1) _ HV9.out HP9.out ((F0.out.1.le t1).mono (by decide)) ((F0.out.2.le (by omega)).mono (by decide)) hge).mono ?_
          rintro e wa ⟨ua, rfl, hua, hba⟩
          have HVa : Hid (NIs wa ua (T - (20 * S + 2 * d + 1))) := hua.1
          have HPa : Hid (NIs wa _ (20 * S + 2 * d + 1)) := HP9.out.below hba (Nat.le_refl _)
          have HUa : Hid (NIs wa _ S) := HU9.out.below hba (Nat.le_refl _)
          have hbela : Below w.heap.size w wa := hbel9.trans (hba.mono hbel9.size)
          have HL2 : Hid (NIs (wa.alloc (.cells #[.int .u8 2] 5)) (.slice (some ⟨wa.heap.size, 0, none⟩) 1 1) 2) := nis_one wa 2 (by decide) (by decide)
          clear hua hba HV9 HP9 HU9 hbel9
          have hal : Below wa.heap.size wa (wa.alloc (.cells #[.int .u8 2] 5)) := (Below.refl _ _).alloc (Nat.le_refl _) _
          have HVb : Hid (NIs (wa.alloc (.cells #[.int .u8 2] 5)) ua (T - (20 * S + 2 * d + 1))) := HVa.out.below hal (Nat.le_refl _)
          have HPb : Hid (NIs (wa.alloc (.cells #[.int .u8 2] 5)) _ (20 * S + 2 * d + 1)) := HPa.out.below hal (Nat.le_refl _)
          have HUb : Hid (NIs (wa.alloc (.cells #[.int .u8 2] 5)) _ S) := HUa.out.below hal (Nat.le_refl _)
          have hbelb : Below w.heap.size w (wa.alloc (.cells #[.int .u8 2] 5)) := hbela.alloc hbela.size _
          clear hal HVa HPa HUa hbela
          go_wp2_with fail
          refine (nPlus_any _ _ (20 * S + 2 * d + 1) 2 _ HPb.out HL2.out ((F0.out.2.le (by omega)).mono (by decide)) ((F0.out.2.le (by omega)).mono (by decide))).mono ?_
          rintro e wc ⟨uc, rfl, huc, hbc⟩
          have HPc : Hid (NIs wc uc (20 * S + 2 * (d + 1) + 1)) := by
            have := huc.1; rwa [show 20 * S + 2 * d + 1 + 2 = 20 * S + 2 * (d + 1) + 1 by omega] at this
          have HVc : Hid (NIs wc ua (T - (20 * S + 2 * d + 1))) := HVb.out.below hbc (Nat.le_refl _)
          have HUc : Hid (NIs wc _ S) := HUb.out.below hbc (Nat.le_refl _)
          have hbelc : Below w.heap.size w wc := hbelb.trans (hbc.mono hbelb.size)
          clear huc hbc HVb HPb HUb hbelb HL2
          go_wp2
          go_roundg (T - (20 * S + 2 * d + 1)).toNat
          case measure => have := HG.out; omega
          case rel => exact ⟨T - (20 * S + 2 * d + 1), d + 1, by omega, by omega, by omega, by omega, rfl, rfl, HTN, HVc, HPc, HUc, hbelc⟩
        · have HC1 : Hid (cmpI T (20 * S + 2 * d + 1) = -1) := cmpI_lt _ _ (by omega)
          have HRN : Hid (RI X t (10 * S + d) T) := HNX.out T d t0 d0 (by rw [HT.out]; exact HE0.out) (by omega)
          go_wp2_with fail
          refine (nCompare_any _ _ T (20 * S + 2 * d + 1) _ HV.out HP.out ((F0.out.1.le t1).mono (by decide)) ((F0.out.2.le (by omega)).mono (by decide))).mono ?_
          rintro e w9 ⟨rfl, hb9⟩
          rw [HC1.out]
          have HV9 : Hid (NIs w9 _ T) := HV.out.below hb9 (Nat.le_refl _)
          have HU9 : Hid (NIs w9 _ S) := HU.out.below hb9 (Nat.le_refl _)
          have hbel9 : Below w.heap.size w w9 := hbel.trans (hb9.mono hbel.size)
          clear hb9 HV HP HU hbel HC1 HT
          go_wp2_with fail
          refine (nFollow_any _ S d _ HU9.out (FS.out.mono (by decide)) d0 d9).mono ?_
          rintro e wa ⟨ua, rfl, hua, hba⟩
          have HUa : Hid (NIs wa ua (10 * S + d)) := hua.1
          have HVa : Hid (NIs wa _ T) := HV9.out.below hba (Nat.le_refl _)
          have hbela : Below w.heap.size w wa := hbel9.trans (hba.mono hbel9.size)
          clear hua hba HV9 HU9 hbel9
          go_wp2
          go_roundw
          case rel => exact ⟨q + 1, 10 * S + d, T, by omega, by go_num, by rw [EP.out]; exact HRN, HUa, HVa, hbela⟩
          case measure => simp [intOf]; omega
    · have e : q = P := by omega
      subst e
      have HF : Hid (S * S + R = lv X ∧ 0 ≤ S ∧ 0 ≤ R ∧ R ≤ 2 * S) := HFIN.out S R (by have := HR.out; rwa [Nat.sub_self] at this)
      go_wp2
      go_ret2
      exact ⟨_, _, rfl, ⟨S, R, HU.out, HV.out, HF.out⟩, hbel⟩
end Go.Proofs.YteofommckgeemaaGreatDoor
namespace Go.Proofs.YteofommckgeemaaGreatDoor
open Go.RowKit
set_option linter.unusedVariables false
set_option maxRecDepth 100000
/-- What is told between the turns: i digits of A done. -/
def RT (A : List Int) (i : Nat) (S R : List Int) : Prop := Canon S ∧ Canon R ∧ vl S * vl S + vl R = vl (A.take i) ∧ vl R ≤ 2 * vl S ∧ S.length ≤ i + 1 ∧ R.length ≤ i + 1
end Go.Proofs.YteofommckgeemaaGreatDoor

namespace Go.Proofs.YteofommckgeemaaGreatDoor
open Go.RowKit
set_option linter.unusedVariables false
set_option maxRecDepth 100000
def divQ (s t : ByteArray) : ByteArray := if ok2 s t then (if nv t = 0 then { data := #[] } else tx (nt (nv s / nv t))) else { data := #[] }
def divR (s t : ByteArray) : ByteArray := if ok2 s t then (if nv t = 0 then { data := #[] } else tx (nt (nv s % nv t))) else { data := #[] }
theorem canon_nought (a : List Int) (h : Canon a) (hv : vl a = 0) : a = [0] := canon_unique a [0] h canon_zero (by rw [hv]; rfl)
def shiftS (s : ByteArray) (n : Int) : ByteArray := if natB 200 s && (decide (0 ≤ n) && decide (n ≤ 200)) then fitS (nt (nv s * 10 ^ n.toNat)) else { data := #[] }
end Go.Proofs.YteofommckgeemaaGreatDoor
