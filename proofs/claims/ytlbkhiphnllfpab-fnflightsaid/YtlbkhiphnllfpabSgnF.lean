/-
  The two registers of drawn signed digits differ by one, and what they stand for: the law's walk.
-/
import Derived.Test.YtlbkhiphnllfpabDrawFl
import Derived.Test.YtlbkhiphnllfpabSgn7
import Derived.Test.YtlbkhiphnllfpabSgn8
import Derived.Test.YtlbkhiphnllfpabSgn9
namespace Go.Proofs.Ytlbkhiphnllfpab
open Go.RowKit
set_option linter.unusedVariables false
/-- What goes into place k where one is added. -/
def ac (m : List Int) : Nat → Int
  | 0 => 1
  | k + 1 => (lo m k + ac m k) / 10
/-- The digit at place k where one is added. -/
def ad (m : List Int) (k : Nat) : Int := (lo m k + ac m k) % 10
theorem ac_bd (m : List Int) (h : Dec m) (k : Nat) : 0 ≤ ac m k ∧ ac m k ≤ 1 := by
  induction k with
  | zero => exact ⟨by show (0 : Int) ≤ 1; decide, by show (1 : Int) ≤ 1; decide⟩
  | succ k ih =>
    have := lo_bd m h k
    rw [show ac m (k + 1) = (lo m k + ac m k) / 10 from rfl]
    omega
theorem ad_pv (m : List Int) (k : Nat) : pv (ad m) k + 10 ^ k * ac m k = pv (lo m) k + 1 := by
  induction k with
  | zero => simp [pv, ac]
  | succ k ih =>
    simp only [pv, Int.pow_succ]
    have key : ∀ p A d : Int, A * p + p * 10 * d = (A + 10 * d) * p := fun p A d => by
      rw [Int.add_mul, Int.mul_assoc p, Int.mul_comm p]
    have e := key (10 ^ k) (ad m k) (ac m (k + 1))
    have e2 : ad m k + 10 * ac m (k + 1) = lo m k + ac m k := by
      unfold ad
      rw [show ac m (k + 1) = (lo m k + ac m k) / 10 from rfl]
      omega
    rw [e2, Int.add_mul, Int.mul_comm (ac m k)] at e
    omega
theorem lo_fl (f : Nat → Int) (n k : Nat) (hk : k < n) : lo (fl f n) k = f k := by
  induction n with
  | zero => omega
  | succ n ih =>
    unfold lo
    simp only [fl, List.reverse_cons]
    by_cases h : k < n
    · have := ih h
      unfold lo at this
      rw [← this]
      simp [List.getD, List.getElem?_append_left (show k < (fl f n).reverse.length by simp [fl_length]; exact h)]
    · obtain rfl : k = n := by omega
      simp [List.getD, fl_length]
/-- The second register and one is the first. -/
theorem ad_eq (ds : List Int) (h : rng (-9) 9 ds = true) (k : Nat) (hk : k < ds.length) : ad (reg ds ds.length).2 k = lo (reg ds ds.length).1 k := by
  obtain ⟨dA, dB, ⟨e, eA⟩, ⟨f, eB⟩⟩ := reg_vl ds h ds.length (Nat.le_refl _)
  have lA := (reg_length ds ds.length).1
  have lB := (reg_length ds ds.length).2
  generalize (reg ds ds.length).1 = A at *
  generalize (reg ds ds.length).2 = B at *
  generalize ds.length = n at *
  have hp := ad_pv B n
  rw [pv_lo B n (by omega)] at hp
  have hR : Dec (fl (ad B) n) := fun d hd => by
    obtain ⟨j, -, rfl⟩ := fl_mem _ _ _ hd
    unfold ad; omega
  have vR := vl_fl (ad B) n
  have bR := vl_bd _ hR
  have bA := vl_bd _ dA
  rw [fl_length] at bR
  rw [lA] at bA
  have hpos : (0 : Int) < 10 ^ n := Int.pow_pos (by decide)
  have heq : fl (ad B) n = A := by
    refine vl_unique _ _ hR dA (by rw [fl_length, lA]) ?_
    have hd : vl (fl (ad B) n) - vl A = (f - ac B n - e) * 10 ^ n := by
      rw [vR, eA, Int.sub_mul, Int.sub_mul, Int.mul_comm (ac B n)]
      omega
    have hg : f - ac B n - e = 0 := by
      rcases (show f - ac B n - e ≤ -1 ∨ f - ac B n - e = 0 ∨ 1 ≤ f - ac B n - e by omega) with hh | hh | hh
      · have := Int.mul_le_mul_of_nonneg_right hh (Int.le_of_lt hpos); omega
      · exact hh
      · have := Int.mul_le_mul_of_nonneg_right hh (Int.le_of_lt hpos); omega
    rw [hg, Int.zero_mul] at hd
    omega
  rw [← heq, lo_fl _ _ _ hk]
theorem vl_negd (ds : List Int) : vl (negd ds) = - vl ds := by
  induction ds with
  | nil => rfl
  | cons d r ih =>
    show vl (-d :: negd r) = _
    rw [vl_cons, vl_cons, ih, negd_length, Int.mul_neg]
    omega
theorem rng_negd (ds : List Int) (h : rng (-9) 9 ds = true) : rng (-9) 9 (negd ds) = true := by
  induction ds with
  | nil => rfl
  | cons d r ih =>
    obtain ⟨a, b, c⟩ := rng_cons _ _ _ _ h
    have := ih c
    show rng (-9) 9 (-d :: negd r) = true
    unfold rng at this ⊢
    simp only [List.all_cons, this, Bool.and_true, Bool.and_eq_true, decide_eq_true_eq]
    omega
theorem flo_yes (ds : List Int) (h : fok ds = true) : flo ds = reg ds ds.length := by unfold flo; rw [h]; rfl
theorem flo_no (ds : List Int) (h : fok ds = false) : flo ds = ([], []) := by unfold flo; rw [h]; rfl
theorem fok_parts (ds : List Int) (h : fok ds = true) : l3 ds = true ∧ ds.length ≤ 40 ∧ rng (-9) 9 ds = true := by
  unfold fok at h
  simp only [Bool.and_eq_true, decide_eq_true_eq] at h
  exact ⟨h.1, h.2, (l3_parts ds h.1).2⟩
set_option maxRecDepth 8000 in
set_option maxHeartbeats 3200000 in
theorem flight_walk (a0 : Option Addr) (len0 cap0 : Nat) (w : World) (hB : Hid (Bytes w.heap.size w a0 len0)) :
    Calls Try.prog 4 #[.slice a0 len0 cap0] w fun e w' => e = .returned (.bool true) ∧ Below w.heap.size w w' := by
  by_cases hbig : 4096 < len0
  · clear hB
    go_enter Try.func4, Try.ntmps4
    go_wp2_with fail
    refine (big_yes _ _ _ _ hbig).mono ?_
    rintro e w' ⟨rfl, rfl⟩
    go_wp2
    go_ret
    exact ⟨rfl, Below.refl _ _⟩
  have Hs : Hid (∀ W v base ds, Has W base v ds → Calls Try.prog 13 #[v] W fun e w' => ∃ q m, e = .returned (.tuple #[q, m]) ∧ Has w' W.heap.size q (flo ds).1 ∧ Has w' W.heap.size m (flo ds).2 ∧ Below W.heap.size W w') := fun W v base ds h => by
    by_cases h1 : 40 < ds.length
    · exact sFlight_no v ds base W h (.inr h1)
    · cases hk : l3 ds with
      | true => exact sFlight_yes v ds base W h hk (by omega)
      | false => exact sFlight_no v ds base W h (.inl hk)
  go_enter Try.func4, Try.ntmps4
  go_wp2_with fail
  refine (big_no _ _ _ _ hbig).mono ?_
  rintro e w' ⟨rfl, hw⟩
  obtain rfl := hw.symm
  go_wp2_with fail
  refine (DrawFlight_any _ _ _ _ (by omega) hB.out).mono ?_
  rintro e w1 ⟨v0, ds, rfl, hd, hdl, hb1⟩
  have hs1 := hb1.size
  go_wp2_with fail
  refine (iFlight_any _ ds _ _ hd).mono ?_
  rintro e w2 ⟨q, m, rfl, hq, hm, -, hb2⟩
  have hs2 := hb2.size
  have hb02 : Below w.heap.size w w2 := hb1.trans (hb2.mono hs1)
  have hd2 := hd.below hb2 (Nat.le_refl _)
  clear hb1 hb2 hd
  go_wp2_with fail
  refine (Hs.out _ _ _ _ hd2).mono ?_
  rintro e w3 ⟨x, y, rfl, hx, hy, hb3⟩
  have hs3 := hb3.size
  have hb03 : Below w.heap.size w w3 := hb02.trans (hb3.mono (by omega))
  have hd3 := hd2.below hb3 (Nat.le_refl _)
  have hq3 := hq.below hb3 (Nat.le_refl _)
  have hm3 := hm.below hb3 (Nat.le_refl _)
  clear hb02 hb3 hd2 hq hm
  go_wp2_with fail
  refine (like_same _ _ _ _ _ _ hq3 hx).mono ?_
  rintro e w4 ⟨rfl, hb4⟩
  have hs4 := hb4.size
  have hb04 : Below w.heap.size w w4 := hb03.trans (hb4.mono (by omega))
  have hd4 := hd3.below hb4 (Nat.le_refl _)
  have hq4 := hq3.below hb4 (Nat.le_refl _)
  have hm4 := hm3.below hb4 (Nat.le_refl _)
  have hy4 := hy.below hb4 (Nat.le_refl _)
  clear hb03 hb4 hd3 hq3 hm3 hx hy
  go_wp2_with fail
  refine (like_same _ _ _ _ _ _ hm4 hy4).mono ?_
  rintro e w5 ⟨rfl, hb5⟩
  have hs5 := hb5.size
  have hb05 : Below w.heap.size w w5 := hb04.trans (hb5.mono (by omega))
  have HD5 : Hid (Has w5 w.heap.size v0 ds) := hd4.below hb5 (Nat.le_refl _)
  have HQ5 : Hid (Has w5 w1.heap.size q (flo ds).1) := hq4.below hb5 (Nat.le_refl _)
  have HM5 : Hid (Has w5 w1.heap.size m (flo ds).2) := hm4.below hb5 (Nat.le_refl _)
  clear hb04 hb5 hd4 hq4 hm4 hy4
  have hcase : (flo ds).1.length = 0 ∨ (fok ds = true ∧ 1 ≤ ds.length) := by
    cases hk : fok ds with
    | false => left; rw [flo_no ds hk]; rfl
    | true =>
      rcases Nat.eq_zero_or_pos ds.length with h0 | h0
      · left; rw [flo_yes ds hk, (reg_length ds _).1]; exact h0
      · exact .inr ⟨rfl, h0⟩
  rcases hcase with h0 | ⟨hk, hn1⟩
  · obtain ⟨qa, qc, e, -⟩ := HQ5.out.len
    rw [h0] at e
    subst e
    clear h0
    go_wp2
    go_ret
    exact ⟨rfl, hb05⟩
  obtain ⟨hl3, hl40, hr⟩ := fok_parts ds hk
  rw [flo_yes ds hk] at HQ5 HM5
  have lA := (reg_length ds ds.length).1
  have lB := (reg_length ds ds.length).2
  have dB := (reg_vl ds hr ds.length (Nat.le_refl _)).2.1
  rcases HQ5.out.form with ⟨-, e⟩ | ⟨gq, qc, rfl, -, hgq, -, hcq, -⟩
  · rw [e] at lA; simp at lA; omega
  rcases HM5.out.form with ⟨-, e⟩ | ⟨gm, mc, rfl, -, hgm, -, hcm, -⟩
  · rw [e] at lB; simp at lB; omega
  obtain ⟨da, dc, rfl, -⟩ := HD5.out.len
  rw [lA] at hcq HQ5 ⊢
  rw [lB] at hcm HM5 ⊢
  have Hcm : Hid (∀ j k, j + 1 + k = ds.length → w5.cell? ⟨gm, j, none⟩ = some (.int .i64 (lo (reg ds ds.length).2 k))) := fun j k hj => by
    rw [hcm j (by omega), lo_in _ _ (by omega), lB, show ds.length - 1 - k = j by omega]
  have Hcq : Hid (∀ j k, j + 1 + k = ds.length → w5.cell? ⟨gq, j, none⟩ = some (.int .i64 ((lo (reg ds ds.length).2 k + ac (reg ds ds.length).2 k) % 10))) := fun j k hj => by
    have := ad_eq ds hr k (by omega)
    unfold ad at this
    rw [hcq j (by omega), this, lo_in _ _ (by omega), lA, show ds.length - 1 - k = j by omega]
  have Hlb : Hid (∀ k, 0 ≤ lo (reg ds ds.length).2 k ∧ lo (reg ds ds.length).2 k ≤ 9) := fun k => lo_bd _ dB k
  have Hab : Hid (∀ k, 0 ≤ ac (reg ds ds.length).2 k ∧ ac (reg ds ds.length).2 k ≤ 1) := fun k => ac_bd _ dB k
  have Hpl : Hid (pok ds = true → plo ds = (reg ds ds.length).1) := fun hp => by
    unfold plo; rw [hp]
    have : pok ds = !ng ds := pok_ng ds hn1 hl3
    rw [hp] at this
    exact (reg_ng ds hr (by cases e : ng ds; rfl; rw [e] at this; cases this)).symm
  have Hpn : Hid (pok ds = decide (0 ≤ vl ds)) := by
    show _ = _
    rw [pok_ng ds hn1 hl3]; unfold ng
    by_cases h : vl ds < 0
    · rw [decide_eq_true h, decide_eq_false (by omega)]; rfl
    · rw [decide_eq_false h, decide_eq_true (by omega)]; rfl
  have Hng : Hid (ngo ds = negd ds) := ngo_yes ds hl3
  have Hw1 : Hid (ds.length ≤ 18 → wok ds = true ∧ wgt ds = vl ds ∧ wok (negd ds) = true ∧ wgt (negd ds) = - vl ds) := fun h => by
    have a1 : wok ds = true := by rw [wok_rng ds h]; exact hr
    have a2 : wok (negd ds) = true := by rw [wok_rng _ (by rw [negd_length]; exact h)]; exact rng_negd ds hr
    refine ⟨a1, ?_, a2, ?_⟩
    · unfold wgt; rw [a1]; rfl
    · unfold wgt; rw [a2]; exact vl_negd ds
  have Hw2 : Hid (18 < ds.length → wok ds = false ∧ wgt ds = 0 ∧ wok (negd ds) = false ∧ wgt (negd ds) = 0) := fun h => by
    have a1 : wok ds = false := wok_big ds h
    have a2 : wok (negd ds) = false := wok_big _ (by rw [negd_length]; exact h)
    refine ⟨a1, ?_, a2, ?_⟩
    · unfold wgt; rw [a1]; rfl
    · unfold wgt; rw [a2]; rfl
  have Hvb : Hid (ds.length ≤ 18 → -1000000000000000000 < vl ds ∧ vl ds < 1000000000000000000) := fun h => by
    have a := vl_abs ds hr
    have b : (10 : Int) ^ ds.length ≤ 10 ^ 18 := pow_mono _ _ h
    have c : (10 : Int) ^ 18 = 1000000000000000000 := by decide
    omega
  clear hk hr hl3 lA lB dB hcq hcm
  generalize (reg ds ds.length).2 = Bm at *
  generalize (reg ds ds.length).1 = Aq at *
  generalize hn : ds.length = n at *
  go_wp2
  go_loop [8, 9] (fun c i => ∃ k : Nat, k ≤ n ∧ i = .int .i64 ((n : Int) - 1 - (k : Int)) ∧ c = .int .i64 (ac Bm k)) (fun _ i => ((intOf i) + 1).toNat)
  case atStart => exact ⟨0, Nat.zero_le _, Ln.val_int (by omega), rfl⟩
  case round =>
    obtain ⟨k, hk, rfl, rfl⟩ := hrel
    by_cases hlt : k < n
    · obtain ⟨j, hj1, hj2⟩ : ∃ j, n ≤ k + 1 + j ∧ k + 1 + j ≤ n := ⟨n - k - 1, by omega, by omega⟩
      have ei : (n : Int) - 1 - (k : Int) = (j : Int) := by omega
      rw [ei]
      have hin : (j : Int) < (n : Int) := by omega
      have c1 := Hcm.out j k (by omega)
      have c2 := Hcq.out j k (by omega)
      have b1 := Hlb.out k
      have b2 := Hab.out k
      have Hend : Hid (∀ y i, y = (lo Bm k + ac Bm k) / 10 → i = (j : Int) - 1 → ∃ p : Nat, p ≤ n ∧ Value.int .i64 i = .int .i64 ((n : Int) - 1 - (p : Int)) ∧ Value.int .i64 y = .int .i64 (ac Bm p)) := fun y i hy hi => ⟨k + 1, by omega, Ln.val_int (by omega), Ln.val_int hy⟩
      generalize lo Bm k = b at *
      generalize ac Bm k = c at *
      go_wp2
      go_round
      case rel => exact ⟨_, _, _, Hend.out _ _ rfl rfl, rfl, rfl, rfl⟩
      case measure => simp [intOf] <;> omega
    · obtain rfl : k = n := by omega
      have hd : decide ((0 : Int) ≤ (k : Int) - 1 - (k : Int)) = false := by simp; omega
      go_wp2_with fail
      refine (iPlain_any _ ds _ _ HD5.out).mono ?_
      rintro e w6 ⟨p, rfl, hp, hb6⟩
      have hs6 := hb6.size
      have hb06 : Below w.heap.size w w6 := hb05.trans (hb6.mono (by omega))
      have HD6 : Hid (Has w6 w.heap.size (.slice da k dc) ds) := HD5.out.below hb6 (Nat.le_refl _)
      have HQ6 : Hid (Has w6 w1.heap.size (.slice (some ⟨gq, 0, none⟩) k qc) Aq) := HQ5.out.below hb6 (Nat.le_refl _)
      clear hb6 HD5 HQ5 hb05 HM5
      have HPQ : Hid (pok ds = true → Has w6 w5.heap.size p Aq) := fun h => by rw [← Hpl.out h]; exact hp
      clear hp Hpl
      rw [Hpn.out]
      rw [Hpn.out] at HPQ
      generalize vl ds = V at *
      go_upto_region 19 with fail
      go_cut [12, 91] (fun s12 s wx => s12 = .bool (decide (0 ≤ V)) ∧ s = .bool false ∧ Hid (Below w.heap.size w wx) ∧ Hid (Has wx w.heap.size (.slice da k dc) ds))
      case first =>
        by_cases hV : 0 ≤ V
        · have hVd : decide (0 ≤ V) = true := by simpa using hV
          have HP6 := HPQ.out hVd
          rw [hVd]
          have HVd : Hid (decide (0 ≤ V) = true) := hVd
          clear hVd
          go_wp2_with fail
          refine (like_same _ _ Aq _ _ _ HP6 HQ6.out).mono ?_
          rintro e w7 ⟨rfl, hb7⟩
          have HB7 : Hid (Below w.heap.size w w7) := hb06.trans (hb7.mono (by omega))
          have HD7 : Hid (Has w7 w.heap.size (.slice da k dc) ds) := HD6.out.below hb7 (Nat.le_refl _)
          clear hb7 HP6 HPQ
          go_wp2
          go_meet
          case rel => exact ⟨congrArg Value.bool HVd.out.symm, rfl, HB7, HD7⟩
        · have hVd : decide (0 ≤ V) = false := by simpa using hV
          rw [hVd]
          have HVd : Hid (decide (0 ≤ V) = false) := hVd
          clear hVd
          go_wp2
          go_meet
          case rel => exact ⟨congrArg Value.bool HVd.out.symm, rfl, hb06, HD6⟩
      case rest =>
        obtain ⟨rfl, rfl, HB7, HD7⟩ := hcut
        clear HPQ HQ6 HD6 hb06
        go_wp2_with fail
        refine (iWeight_any _ ds _ _ HD7.out).mono ?_
        rintro e w' ⟨rfl, hw⟩
        obtain rfl := hw.symm
        go_wp2_with fail
        refine (iNegate_any _ ds _ _ HD7.out).mono ?_
        rintro e w8 ⟨u, rfl, hu, hb8⟩
        rw [Hng.out] at hu
        have HB8 : Hid (Below w.heap.size w w8) := HB7.out.trans (hb8.mono HB7.out.size)
        clear hb8
        go_wp2_with fail
        refine (iWeight_any _ (negd ds) _ _ hu).mono ?_
        rintro e w' ⟨rfl, hw⟩
        obtain rfl := hw.symm
        clear hu
        by_cases h18 : k ≤ 18
        · obtain ⟨e1, e2, e3, e4⟩ := Hw1.out h18
          have hvb := Hvb.out h18
          rw [e1, e2, e3, e4]
          have h18' : (k : Int) ≤ 18 := by omega
          clear e1 e2 e3 e4
          by_cases hV : 0 ≤ V
          · have hVd : decide (0 ≤ V) = true := by simpa using hV
            go_wp2
            go_ret
            exact ⟨rfl, HB8.out⟩
          · have hVd : decide (0 ≤ V) = false := by simpa using hV
            go_wp2
            go_ret
            exact ⟨rfl, HB8.out⟩
        · obtain ⟨e1, e2, e3, e4⟩ := Hw2.out (by omega)
          rw [e1, e2, e3, e4]
          have h18' : decide ((k : Int) ≤ 18) = false := by simp; omega
          clear e1 e2 e3 e4
          go_wp2
          go_ret
          exact ⟨rfl, HB8.out⟩
end Go.Proofs.Ytlbkhiphnllfpab
