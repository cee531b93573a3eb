/-
  FnRoots, walked.
-/
import Derived.Test.YtlbkhiphnllfpadDrawR
import Derived.Test.YtlbkhiphnllfpadRos
import Derived.Test.YtlbkhiphnllfpadTxt8
import Derived.Test.YtlbkhiphnllfpadTxtZ
namespace Go.Proofs.Ytlbkhiphnllfpad
open Go.RowKit
set_option linter.unusedVariables false
/-- What the turns append stays. -/
theorem fold_pre (l : List Int) (t : List Int × Int × Int) : ∃ E, (l.foldl stp t).1 = t.1 ++ E := by
  induction l generalizing t with
  | nil => exact ⟨[], by simp⟩
  | cons d r ih =>
    obtain ⟨E, hE⟩ := ih (stp t d)
    exact ⟨[qd t.2.1 (100 * t.2.2 + d)] ++ E, by rw [List.foldl_cons, hE]; simp [stp]⟩
theorem gr_at (S R : Int) (l : List Int) (k : Nat) (hk : k < l.length) (hl : (gr S R (l.take k)).1.length = k) : (gr S R l).1.getD k 0 = qd (gr S R (l.take k)).2.1 (100 * (gr S R (l.take k)).2.2 + l.getD k 0) := by
  have e1 : gr S R (l.take (k + 1)) = stp (gr S R (l.take k)) (l.getD k 0) := by
    rw [List.take_succ_eq_append_getElem hk, gr_snoc]; simp [List.getD, hk]
  have e2 : gr S R l = (l.drop (k + 1)).foldl stp (gr S R (l.take (k + 1))) := by
    unfold gr; rw [← List.foldl_append, List.take_append_drop]
  obtain ⟨E, hE⟩ := fold_pre (l.drop (k + 1)) (gr S R (l.take (k + 1)))
  rw [e2, hE, e1]
  show ((gr S R (l.take k)).1 ++ [_] ++ E).getD k 0 = _
  rw [List.append_assoc, List.getD, List.getElem?_append_right (by omega), hl, Nat.sub_self]
  rfl
/-- The place of a pair. -/
def pw : Nat → Int
  | 0 => 1000000
  | 1 => 10000
  | 2 => 100
  | 3 => 1
  | _ => 0
/-- The pair that the law reads. -/
def tw (x : Int) (i : Nat) : Int := if 0 < pw i then x / pw i % 100 else 0
theorem tw_at (x : Int) (N i : Nat) (hi : i < 4 + N) : (cut 100 (x * 100 ^ N) (4 + N)).getD i 0 = tw x i := by
  rw [cut_pad x N 0 4]
  match i, hi with
  | 0, _ => rfl
  | 1, _ => rfl
  | 2, _ => rfl
  | 3, _ => simp [cut, tw, pw]
  | i + 4, hi =>
    have h1 : (cut 100 x 4).length = 4 := cut_length _ _ _
    rw [List.getD, List.getElem?_append_right (by omega), h1]
    simp [tw, pw]
    rw [List.getElem?_replicate]
    split <;> rfl
/-- What holds behind i steps. -/
theorem step_told (x : Int) (N i : Nat) (X : Int) (hX : X = x * 10 ^ (2 * N)) (h0 : 0 ≤ x) (h1 : x ≤ 99999999) (hN : N ≤ 4) (hi : i < 4 + N) :
    ∃ s r q u : Int, s = (gr 0 0 ((cut 100 X (4 + N)).take i)).2.1 ∧ r = (gr 0 0 ((cut 100 X (4 + N)).take i)).2.2 ∧ (0 ≤ s ∧ s ≤ 100000000) ∧ (0 ≤ q ∧ q ≤ 9) ∧ (0 ≤ tw x i ∧ tw x i ≤ 99) ∧
      10 * s + q = (gr 0 0 ((cut 100 X (4 + N)).take (i + 1))).2.1 ∧ u = (gr 0 0 ((cut 100 X (4 + N)).take (i + 1))).2.2 ∧ (gr 0 0 (cut 100 X (4 + N))).1.getD i 0 = q ∧
      rsA s r (tw x i) = 10 * s + q ∧ rsB s r (tw x i) = u ∧ rsk s r (tw x i) = true ∧ I64 r := by
  obtain ⟨b0, b1, b2, b3, b4⟩ := rtX_bd x N h0 h1 hN
  rw [← hX] at b0 b1 b2
  have hl : i < (cut 100 X (4 + N)).length := by rw [cut_length]; exact hi
  have hP := cut_prs X (4 + N)
  obtain ⟨a, b, c, d, e, f⟩ := gr_inv 0 0 ((cut 100 X (4 + N)).take i) (fun y hy => hP y (List.mem_of_mem_take hy)) (by decide) (by decide) (by decide)
  have ht := hv_take 0 (cut 100 X (4 + N)) hP (by decide) i
  rw [cut_hv X (4 + N) b0 b1] at ht
  rw [show ((0 : Int) * 0 + 0) = 0 from rfl] at f
  have htw : (cut 100 X (4 + N)).getD i 0 = tw x i := by rw [hX, ten_two]; exact tw_at x N i hi
  have htb : 0 ≤ tw x i ∧ tw x i ≤ 99 := by rw [← htw]; exact hP _ (by simp [List.getD, hl])
  have hlen : (gr 0 0 ((cut 100 X (4 + N)).take i)).1.length = i := by rw [b, List.length_take]; omega
  have hat := gr_at 0 0 (cut 100 X (4 + N)) i hl hlen
  have hnx : gr 0 0 ((cut 100 X (4 + N)).take (i + 1)) = stp (gr 0 0 ((cut 100 X (4 + N)).take i)) ((cut 100 X (4 + N)).getD i 0) := by
    rw [List.take_succ_eq_append_getElem hl, gr_snoc]; simp [List.getD, hl]
  rw [htw] at hat hnx
  rw [hnx, hat]
  generalize (gr 0 0 ((cut 100 X (4 + N)).take i)) = t at *
  obtain ⟨D, s, r⟩ := t
  simp only at *
  have hs : s ≤ 100000000 := by
    rcases Int.lt_or_le 100000000 s with g | g
    · have := Int.mul_le_mul (show 100000001 ≤ s by omega) (show 100000001 ≤ s by omega) (by decide) c
      omega
    · exact g
  have hk : rsk s r (tw x i) = true := decide_eq_true ⟨⟨c, hs⟩, ⟨d, e⟩, htb.1, htb.2⟩
  obtain ⟨q0, q9, -, -⟩ := qd_spec s (100 * r + tw x i) c (by omega)
  refine ⟨s, r, qd s (100 * r + tw x i), 100 * r + tw x i - tk s (qd s (100 * r + tw x i)), rfl, rfl, ⟨c, hs⟩, ⟨q0, q9⟩, htb, rfl, rfl, rfl, ?_, ?_, hk, by omega, by omega⟩
  · unfold rsA; rw [hk]; rfl
  · unfold rsB; rw [hk]; rfl
theorem sq_facts (s : Int) (s0 : 0 ≤ s) (s1 : s ≤ 100000000) : isA (s * s) = s ∧ isB (s * s) = true ∧ (0 < s → isB (s * s + 1) = false ∧ isA (s * s - 1) = s - 1) := by
  have h0 : 0 ≤ s * s := Int.mul_nonneg s0 s0
  have h1 := sq_le s 100000000 s0 s1
  have e : (s + 1) * (s + 1) = s * s + 2 * s + 1 := by rw [Int.add_mul, Int.mul_add, Int.one_mul]; omega
  have i1 : s = isq (s * s) := isq_unique (s * s) s h0 (by omega) s0 (by omega) (by omega)
  refine ⟨by unfold isA; rw [if_neg (by omega)]; exact i1.symm, by unfold isB; rw [← i1, decide_eq_true h0, decide_eq_true (by omega)]; rfl, fun hp => ⟨?_, ?_⟩⟩
  · have i2 : s = isq (s * s + 1) := isq_unique (s * s + 1) s (by omega) (by omega) s0 (by omega) (by omega)
    unfold isB; rw [← i2, decide_eq_false (show ¬ (s * s + 1 - s * s = 0) by omega), Bool.and_false]
  · have e2 : s * s = (s - 1) * (s - 1) + 2 * (s - 1) + 1 := by
      have := e
      have e3 : (s - 1) * (s - 1) = s * s - 2 * s + 1 := by rw [Int.sub_mul, Int.mul_sub, Int.one_mul]; omega
      omega
    have hss : 1 ≤ s * s := by have := Int.mul_le_mul (show (1 : Int) ≤ s by omega) (show (1 : Int) ≤ s by omega) (by decide) s0; omega
    have i3 : s - 1 = isq (s * s - 1) := isq_unique (s * s - 1) (s - 1) (by omega) (by omega) (by omega) (by omega) (by rw [show s - 1 + 1 = s by omega]; omega)
    unfold isA; rw [if_neg (by omega)]; exact i3.symm
set_option maxRecDepth 100000 in
set_option maxHeartbeats 8000000 in
theorem fnRoots_any (a0 : Option Addr) (len0 cap0 : Nat) (w : World) (hbig : ¬ 4096 < len0) (hb : Bytes w.heap.size w a0 len0) :
    Calls Try.prog 3 #[.slice a0 len0 cap0] w fun e w' => e = .returned (.bool true) ∧ Below w.heap.size w w' := by
  have hB : Hid (Bytes w.heap.size w a0 len0) := hb
  clear hb
  go_enter Try.func3, Try.ntmps3
  go_wp2_with fail
  refine (big_no _ _ _ _ hbig).mono ?_
  rintro e w' ⟨rfl, hw⟩
  obtain rfl := hw.symm
  go_wp2_with fail
  refine (DrawRoot_any _ _ _ _ (by omega) hB.out).mono ?_
  rintro e w1 ⟨x, n, rfl, ⟨ix, jn⟩, hb1⟩
  have hs1 := hb1.size
  have hL : (rtL x n).length ≤ 8 := rtL_len x n
  go_wp2_with fail
  refine (iRoot_any x n _ ix jn).mono ?_
  rintro e w2 ⟨v, rfl, hv, hb2⟩
  have hs2 := hb2.size
  have hb02 : Below w.heap.size w w2 := hb1.trans (hb2.mono hs1)
  go_wp2_with fail
  refine (sRoot_any x n _).mono ?_
  rintro e w3 ⟨v2, rfl, hv2, hb3⟩
  have hs3 := hb3.size
  have hb03 : Below w.heap.size w w3 := hb02.trans (hb3.mono (by omega))
  have hv3 := hv.below hb3 (Nat.le_refl _)
  clear hb1 hb2 hb3 hb02 hv
  go_wp2_with fail
  refine (like_same _ _ (rtL x n) _ _ _ hv3 hv2).mono ?_
  rintro e w4 ⟨rfl, hb4⟩
  have hs4 := hb4.size
  have HB4 : Hid (Below w.heap.size w w4) := hb03.trans (hb4.mono (by omega))
  have HV4 := hv3.below hb4 (Nat.le_refl _)
  clear hv3 hv2 hb4 hb03
  cases hk : rok x n with
  | false =>
    have e1 : rtR x n = 0 := by unfold rtR; rw [hk]; rfl
    have e2 : rtL x n = [] := by unfold rtL; rw [hk]; rfl
    rw [e2] at HV4
    rw [e1]
    obtain ⟨ad, ca, rfl, -⟩ := HV4.len
    clear HV4 e1 e2 hk
    simp only [List.length_nil]
    go_wp2
    go_ret
    exact ⟨rfl, HB4.out⟩
  | true =>
    obtain ⟨hx, hn⟩ := of_decide_eq_true hk
    obtain ⟨N, hN⟩ := Int.eq_ofNat_of_zero_le hn.1
    subst hN
    have hN4 : N ≤ 4 := by omega
    obtain ⟨X, hX⟩ : ∃ X, X = x * 10 ^ (2 * N) := ⟨_, rfl⟩
    obtain ⟨b0, b1, b2, b3, b4⟩ := rtX_bd x N hx.1 hx.2 hN4
    rw [← hX] at b0 b1 b2
    have hXe : rtX x (N : Int) = X := by unfold rtX; rw [Int.toNat_natCast, hX]
    have hT := root_told X (4 + N) b0 b1 (by omega)
    have e1 : rtL x (N : Int) = (gr 0 0 (cut 100 X (4 + N))).1 := by unfold rtL; rw [hk, hXe, hT, Int.toNat_natCast]; rfl
    have e2 : rtR x (N : Int) = X - isq X * isq X := by unfold rtR; rw [hk, hXe]; rfl
    have hlen : (gr 0 0 (cut 100 X (4 + N))).1.length = 4 + N := by rw [hT]; exact cut_length _ _ _
    have HS : Hid (∀ i, i < 4 + N → ∃ s r q u : Int, s = (gr 0 0 ((cut 100 X (4 + N)).take i)).2.1 ∧ r = (gr 0 0 ((cut 100 X (4 + N)).take i)).2.2 ∧ (0 ≤ s ∧ s ≤ 100000000) ∧ (0 ≤ q ∧ q ≤ 9) ∧ (0 ≤ tw x i ∧ tw x i ≤ 99) ∧
      10 * s + q = (gr 0 0 ((cut 100 X (4 + N)).take (i + 1))).2.1 ∧ u = (gr 0 0 ((cut 100 X (4 + N)).take (i + 1))).2.2 ∧ (gr 0 0 (cut 100 X (4 + N))).1.getD i 0 = q ∧
      rsA s r (tw x i) = 10 * s + q ∧ rsB s r (tw x i) = u ∧ rsk s r (tw x i) = true ∧ I64 r) := fun i hi => step_told x N i X hX hx.1 hx.2 hN4 hi
    have Hend : Hid ((gr 0 0 ((cut 100 X (4 + N)).take (4 + N))).2.1 = isq X ∧ (gr 0 0 ((cut 100 X (4 + N)).take (4 + N))).2.2 = X - isq X * isq X) := by
      rw [List.take_of_length_le (by rw [cut_length]; omega), hT]
      exact ⟨rfl, rfl⟩
    rw [e1] at HV4
    rw [e2]
    rcases HV4.form with ⟨-, hz⟩ | ⟨g, cap, rfl, -, hgl, -, hcell, -⟩
    · rw [hz] at hlen; simp at hlen; omega
    rw [hlen] at hcell ⊢
    have Hc : Hid (∀ i, i < 4 + N → w4.cell? ⟨g, i, none⟩ = some (.int .i64 ((gr 0 0 (cut 100 X (4 + N))).1.getD i 0))) := hcell
    have HX : Hid (X = x * 10 ^ (2 * N)) := hX
    obtain ⟨s0, s1, -⟩ := isq_spec X b0 (by omega)
    have s2 : isq X ≤ 100000000 := by
      rcases Int.lt_or_le 100000000 (isq X) with g | g
      · have := Int.mul_le_mul (show 100000001 ≤ isq X by omega) (show 100000001 ≤ isq X by omega) (by decide) s0
        omega
      · exact g
    clear hk e1 e2 hT hXe b1 b3 b4 hcell hlen HV4 hX hL hn ix jn
    obtain ⟨SS, hSS⟩ : ∃ f : Nat → Int, f = fun k => (gr 0 0 ((cut 100 X (4 + N)).take k)).2.1 := ⟨_, rfl⟩
    obtain ⟨RR, hRR⟩ : ∃ f : Nat → Int, f = fun k => (gr 0 0 ((cut 100 X (4 + N)).take k)).2.2 := ⟨_, rfl⟩
    have HS0 : Hid (SS 0 = 0 ∧ RR 0 = 0) := by rw [hSS, hRR]; exact ⟨rfl, rfl⟩
    have HS1 : Hid (∀ i, i < 4 + N → ∃ q : Int, (0 ≤ SS i ∧ SS i ≤ 100000000) ∧ (0 ≤ q ∧ q ≤ 9) ∧ (0 ≤ tw x i ∧ tw x i ≤ 99) ∧ 10 * SS i + q = SS (i + 1) ∧ w4.cell? ⟨g, i, none⟩ = some (.int .i64 q) ∧
        (∀ W, Calls Try.prog 9 #[.int .i64 (SS i), .int .i64 (RR i), .int .i64 (tw x i)] W fun e w' => e = .returned (.tuple #[.int .i64 (SS (i + 1)), .int .i64 (RR (i + 1)), .bool true]) ∧ Below W.heap.size W w')) := fun i hi => by
      obtain ⟨s, r, q, u, rfl, rfl, k1, k2, k3, k4, rfl, k5, k6, k7, k8, k9⟩ := HS.out i hi
      simp only [hSS, hRR]
      refine ⟨q, k1, k2, k3, k4, by rw [Hc.out i hi, k5], fun W => ?_⟩
      have := iRootStep_any (gr 0 0 ((cut 100 X (4 + N)).take i)).2.1 (gr 0 0 ((cut 100 X (4 + N)).take i)).2.2 (tw x i) W ⟨by omega, by omega⟩ k9 ⟨by omega, by omega⟩
      rw [k6, k7, k8, k4] at this
      exact this
    have Hend1 : Hid (SS (4 + N) = isq X ∧ RR (4 + N) = X - isq X * isq X) := by rw [hSS, hRR]; exact Hend.out
    clear HS Hend Hc hSS hRR
    have ss0 : 0 ≤ isq X * isq X := Int.mul_nonneg s0 s0
    have Hsq : Hid (isA (isq X * isq X) = isq X ∧ isB (isq X * isq X) = true ∧ (0 < isq X → isB (isq X * isq X + 1) = false ∧ isA (isq X * isq X - 1) = isq X - 1)) := sq_facts (isq X) s0 s2
    have hr2 : X - isq X * isq X ≤ 2 * isq X := by
      obtain ⟨-, -, k⟩ := isq_spec X b0 (by omega)
      have e : (isq X + 1) * (isq X + 1) = isq X * isq X + 2 * isq X + 1 := by rw [Int.add_mul, Int.mul_add, Int.one_mul]; omega
      omega
    obtain ⟨M, hM⟩ : ∃ M : Nat, 4 + N = M := ⟨_, rfl⟩
    have hM2 : 4 + (N : Int) = (M : Int) := by omega
    rw [hM] at HS1 Hend1 ⊢
    clear hM
    generalize isq X = S at *
    obtain ⟨R, hR⟩ : ∃ R, X - S * S = R := ⟨_, rfl⟩
    rw [hR] at Hend1 hr2 ⊢
    have HR : Hid (S * S + R = X) := by show _ = _; omega
    have hRb : 0 ≤ R ∧ R ≤ 9999999900000000 := by omega
    have hSS2 : S * S ≤ 9999999900000000 := by omega
    clear hR s1
    have Hpw : Hid (∀ k, (k < 4 → (0 < pw k ∧ pw k ≤ 1000000 ∧ pw k / 100 = pw (k + 1) ∧ tw x k = x / pw k % 100)) ∧ (¬ k < 4 → pw k = 0 ∧ pw (k + 1) = 0 ∧ tw x k = 0)) := fun k => by
      match k with
      | 0 => exact ⟨fun _ => ⟨by decide, by decide, by decide, rfl⟩, fun h => absurd (by decide) h⟩
      | 1 => exact ⟨fun _ => ⟨by decide, by decide, by decide, rfl⟩, fun h => absurd (by decide) h⟩
      | 2 => exact ⟨fun _ => ⟨by decide, by decide, by decide, rfl⟩, fun h => absurd (by decide) h⟩
      | 3 => exact ⟨fun _ => ⟨by decide, by decide, by decide, rfl⟩, fun h => absurd (by decide) h⟩
      | k + 4 => exact ⟨fun h => absurd h (by omega), fun _ => ⟨rfl, rfl, rfl⟩⟩
    have Hp0 : Hid (pw 0 = 1000000) := rfl
    go_wp2
    go_loopw [11, 12, 13, 14] (fun s l p i wr => ∃ k : Nat, k ≤ M ∧ s = .int .i64 (SS k) ∧ l = .int .i64 (RR k) ∧ p = .int .i64 (pw k) ∧ i = .int .i64 (k : Int) ∧ Hid (Below w4.heap.size w4 wr)) (fun _ _ _ i _ => M - (intOf i).toNat)
    case atStart => exact ⟨0, Nat.zero_le _, Ln.val_int HS0.out.1.symm, Ln.val_int HS0.out.2.symm, Ln.val_int Hp0.out.symm, rfl, Below.refl _ _⟩
    case round =>
      obtain ⟨k, hkM, rfl, rfl, rfl, rfl, hbel⟩ := hrel
      by_cases hlt : k < M
      · have hlt' : (k : Int) < (M : Int) := by omega
        obtain ⟨q, hs, hq, ht, hT, hcl, hst⟩ := HS1.out k hlt
        have hcw : wr.cell? ⟨g, k, none⟩ = some (.int .i64 q) := (hbel.out.cell (p := ⟨g, k, none⟩) hgl).trans hcl
        have hsz := hbel.out.size
        have HS2 : Hid (∀ W, Calls Try.prog 9 #[.int .i64 (SS k), .int .i64 (RR k), .int .i64 (tw x k)] W fun e w' => e = .returned (.tuple #[.int .i64 (SS (k + 1)), .int .i64 (RR (k + 1)), .bool true]) ∧ Below W.heap.size W w') := hst
        have hTb : 0 ≤ SS (k + 1) ∧ SS (k + 1) ≤ 1000000009 := by omega
        have hTq : SS (k + 1) - 10 * SS k = q := by omega
        clear hst hcl hT
        obtain ⟨T, eT⟩ : ∃ T, SS (k + 1) = T := ⟨_, rfl⟩
        obtain ⟨U, eU⟩ : ∃ U, RR (k + 1) = U := ⟨_, rfl⟩
        have HT : Hid (SS (k + 1) = T ∧ RR (k + 1) = U) := ⟨eT, eU⟩
        rw [eT] at HS2 hTb hTq
        rw [eU] at HS2
        clear eT eU
        by_cases h4 : k < 4
        · obtain ⟨p0, p1, p2, p3⟩ := (Hpw.out k).1 h4
          rw [p3] at HS2 ht
          have HP2 : Hid (pw k / 100 = pw (k + 1)) := p2
          clear p2 p3
          generalize pw k = p at *
          generalize SS k = s at *
          generalize RR k = r at *
          have hdv : Int.tdiv x p = x / p := Int.tdiv_eq_ediv_of_nonneg hx.1
          have hy0 : 0 ≤ x / p := Int.ediv_nonneg hx.1 (by omega)
          have hy1 : x / p ≤ 99999999 := Int.le_trans (Int.ediv_le_self _ hx.1) hx.2
          have hmd : Int.tmod (x / p) 100 = x / p % 100 := Int.tmod_eq_emod_of_nonneg hy0
          have hpd : Int.tdiv p 100 = p / 100 := Int.tdiv_eq_ediv_of_nonneg (by omega)
          have hp0 : ¬ p = 0 := by omega
          generalize x / p % 100 = y2 at *
          generalize x / p = y at *
          go_wp2_with fail
          refine (HS2.out _).mono ?_
          rintro e w5 ⟨rfl, hb5⟩
          have hcw5 : w5.cell? ⟨g, k, none⟩ = some (.int .i64 q) := (hb5.cell (p := ⟨g, k, none⟩) (Nat.lt_of_lt_of_le hgl hsz)).trans hcw
          have HB5 : Hid (Below w4.heap.size w4 w5) := hbel.out.trans (hb5.mono hsz)
          clear hb5 hcw HS2
          go_wp2
          go_roundw
          case rel => exact ⟨k + 1, by omega, Ln.val_int HT.out.1.symm, Ln.val_int HT.out.2.symm, Ln.val_int HP2.out, by go_num, HB5⟩
          case measure => simp [intOf]; omega
        · obtain ⟨p0, p1, p3⟩ := (Hpw.out k).2 h4
          rw [p3] at HS2 ht
          rw [p0]
          have HP2 : Hid (pw (k + 1) = 0) := p1
          clear p0 p1 p3
          generalize SS k = s at *
          generalize RR k = r at *
          go_wp2_with fail
          refine (HS2.out _).mono ?_
          rintro e w5 ⟨rfl, hb5⟩
          have hcw5 : w5.cell? ⟨g, k, none⟩ = some (.int .i64 q) := (hb5.cell (p := ⟨g, k, none⟩) (Nat.lt_of_lt_of_le hgl hsz)).trans hcw
          have HB5 : Hid (Below w4.heap.size w4 w5) := hbel.out.trans (hb5.mono hsz)
          clear hb5 hcw HS2
          go_wp2
          go_roundw
          case rel => exact ⟨k + 1, by omega, Ln.val_int HT.out.1.symm, Ln.val_int HT.out.2.symm, Ln.val_int HP2.out.symm, by go_num, HB5⟩
          case measure => simp [intOf]; omega
      · obtain rfl : k = M := by omega
        rw [Hend1.out.1, Hend1.out.2]
        have hnl : ¬ ((k : Int) < (k : Int)) := by omega
        clear HS1 HS0 Hpw Hp0 Hend1
        have hb0r : Below w.heap.size w wr := HB4.out.trans (hbel.out.mono (by omega))
        have hs0 := hb0r.size
        obtain ⟨Q1, hQ1⟩ : ∃ Q1, S * S = Q1 := ⟨_, rfl⟩
        rw [hQ1] at Hsq HR hSS2 ss0
        have HI1 : Hid (∀ W, Calls Try.prog 14 #[.int .i64 Q1] W fun e w' => e = .returned (.int .i64 S) ∧ Below W.heap.size W w') := fun W => by
          have := iIsqrt_any Q1 W (by omega)
          rw [Hsq.out.1] at this
          exact this
        have HI2 : Hid (∀ W, Calls Try.prog 15 #[.int .i64 Q1] W fun e w' => e = .returned (.bool true) ∧ Below W.heap.size W w') := fun W => by
          have := iIsSquare_any Q1 W (by omega)
          rw [Hsq.out.2.1] at this
          exact this
        have HI3 : Hid (0 < S → ∀ W, Calls Try.prog 15 #[.int .i64 (Q1 + 1)] W fun e w' => e = .returned (.bool false) ∧ Below W.heap.size W w') := fun hp W => by
          have := iIsSquare_any (Q1 + 1) W (by omega)
          rw [(Hsq.out.2.2 hp).1] at this
          exact this
        have HI4 : Hid (0 < S → ∀ W, Calls Try.prog 14 #[.int .i64 (Q1 - 1)] W fun e w' => e = .returned (.int .i64 (S - 1)) ∧ Below W.heap.size W w') := fun hp W => by
          have := iIsqrt_any (Q1 - 1) W (by omega)
          rw [(Hsq.out.2.2 hp).2] at this
          exact this
        have HSQ : Hid (S * S = Q1) := hQ1
        clear Hsq hbel HB4 hgl
        go_wp2_with fail
        refine (digits_any S _ s0 (by omega)).mono ?_
        rintro e w6 ⟨Rs, rfl, cs, vs, ls, hb6⟩
        have HVs : Hid (Canon Rs ∧ vl Rs = S) := ⟨cs, vs⟩
        have hb06 : Below w.heap.size w w6 := hb0r.trans (hb6.mono (by omega))
        have hs6 := hb06.size
        clear cs vs hb6 hb0r hs0
        have lr : Rs.length ≤ 9 := canon_le Rs HVs.out.1 9 (by decide) (by rw [HVs.out.2, show (10 : Int) ^ 9 = 1000000000 by decide]; omega)
        go_wp2_with fail
        refine (NatMul_any Rs Rs _ HVs.out.1 HVs.out.1 (by omega)).mono ?_
        rintro e w7 ⟨R1, rfl, c1, v1, l1, hb7⟩
        have H1 : Hid (Canon R1 ∧ vl R1 = Q1) := ⟨c1, by rw [v1, HVs.out.2]; exact HSQ.out⟩
        have hb07 : Below w.heap.size w w7 := hb06.trans (hb7.mono (by omega))
        have hs7 := hb07.size
        clear c1 v1 hb7 hb06 hs6
        go_wp2_with fail
        refine (digits_any R _ hRb.1 (by omega)).mono ?_
        rintro e w8 ⟨R2, rfl, c2, v2, l2, hb8⟩
        have H2 : Hid (Canon R2 ∧ vl R2 = R) := ⟨c2, v2⟩
        have hb08 : Below w.heap.size w w8 := hb07.trans (hb8.mono (by omega))
        have hs8 := hb08.size
        clear c2 v2 hb8 hb07 hs7
        go_wp2_with fail
        refine (NatAdd_any R1 R2 _ H1.out.1 H2.out.1 (by omega) (by omega)).mono ?_
        rintro e w9 ⟨R3, rfl, c3, v3, l3, hb9⟩
        have H3 : Hid (Canon R3 ∧ vl R3 = X) := ⟨c3, by rw [v3, H1.out.2, H2.out.2]; exact HR.out⟩
        have hb09 : Below w.heap.size w w9 := hb08.trans (hb9.mono (by omega))
        have hs9 := hb09.size
        clear c3 v3 hb9 hb08 hs8
        go_wp2_with fail
        refine (digits_any x _ hx.1 (by omega)).mono ?_
        rintro e w10 ⟨R4, rfl, c4, v4, l4, hb10⟩
        have H4 : Hid (Canon R4 ∧ vl R4 = x) := ⟨c4, v4⟩
        have hb010 : Below w.heap.size w w10 := hb09.trans (hb10.mono (by omega))
        have hs10 := hb010.size
        clear c4 v4 hb10 hb09 hs9
        have HSh : Hid (∀ W, Calls Try.prog 13 #[.string (tx R4), .int .i64 (2 * (N : Int))] W fun e w' => ∃ R, e = .returned (.string (tx R)) ∧ Canon R ∧ vl R = vl R4 * 10 ^ (2 * N) ∧ R.length ≤ R4.length + 2 * N ∧ Below W.heap.size W w') := fun W => by
          have := NatShift_all R4 (2 * N) W H4.out.1 (by omega)
          simpa using this
        go_wp2_with fail
        refine (HSh.out _).mono ?_
        rintro e w11 ⟨R5, rfl, c5, v5, l5, hb11⟩
        have hb011 : Below w.heap.size w w11 := hb010.trans (hb11.mono (by omega))
        have hs11 := hb011.size
        have heq : R3 = R5 := canon_unique R3 R5 H3.out.1 c5 (by rw [H3.out.2, v5, H4.out.2]; exact HX.out)
        clear c5 v5 hb11 hb010 hs10 H1 H2 H3 H4 HSh HX HR
        subst heq
        go_wp2_with fail
        refine (HI1.out _).mono ?_
        rintro e w12 ⟨rfl, hb12⟩
        have hb012 : Below w.heap.size w w12 := hb011.trans (hb12.mono (by omega))
        have hs12 := hb012.size
        clear hb12 hb011 hs11 HI1
        go_wp2_with fail
        refine (HI2.out _).mono ?_
        rintro e w13 ⟨rfl, hb13⟩
        have hb013 : Below w.heap.size w w13 := hb012.trans (hb13.mono (by omega))
        have hs13 := hb013.size
        clear hb13 hb012 hs12 HI2
        by_cases hz : S = 0
        · clear HI3 HI4
          go_wp2
          go_ret
          exact ⟨rfl, hb013⟩
        · have hp : 0 < S := by omega
          go_wp2_with fail
          refine (HI3.out hp _).mono ?_
          rintro e w14 ⟨rfl, hb14⟩
          have hb014 : Below w.heap.size w w14 := hb013.trans (hb14.mono (by omega))
          have hs14 := hb014.size
          clear hb14 hb013 hs13 HI3
          go_wp2_with fail
          refine (HI4.out hp _).mono ?_
          rintro e w15 ⟨rfl, hb15⟩
          have hb015 : Below w.heap.size w w15 := hb014.trans (hb15.mono (by omega))
          clear hb15 hb014 hs14 HI4
          go_wp2
          go_ret
          exact ⟨rfl, hb015⟩
end Go.Proofs.Ytlbkhiphnllfpad
