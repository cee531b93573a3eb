/-
  Drawn digits made signed, made plain again, and as a register: the law's walk.
-/
import Derived.Test.YtlbkhiphnllfpabDrawSg
import Derived.Test.YtlbkhiphnllfpabSgn3
import Derived.Test.YtlbkhiphnllfpabSgn7
namespace Go.Proofs.Ytlbkhiphnllfpab
open Go.RowKit
set_option linter.unusedVariables false
theorem sgnd_back (ds : List Int) (h : sok ds = true) : pok (sgnd ds) = true ∧ plo (sgnd ds) = 0 :: ds ∧ (ds.length < 40 → (flo (sgnd ds)).1 = 0 :: ds) := by
  have hl1 : 1 ≤ ds.length := by
    rcases Nat.lt_or_ge ds.length 1 with h' | h'
    · rw [sok_few ds h'] at h; cases h
    · exact h'
  have hl2 : ds.length ≤ 40 := by
    rcases Nat.lt_or_ge 40 ds.length with h' | h'
    · rw [sok_many ds h'] at h; cases h
    · exact h'
  rw [sok_rng ds hl1 hl2] at h
  have hr := rng_wide _ _ (-9) 9 _ (sgnd_rng ds h) (by decide) (by decide)
  have hl := sgnd_length ds
  have h3 : l3 (sgnd ds) = true := by rw [l3_rng _ (by omega)]; exact hr
  have hn : ng (sgnd ds) = false := by
    unfold ng
    rw [sgnd_vl]
    have := (vl_bd ds (rng_dec ds h)).1
    exact decide_eq_false (by omega)
  have hp : pok (sgnd ds) = true := by rw [pok_ng _ (by omega) h3, hn]; rfl
  have hpl := (plain_sgnd ds h).2
  refine ⟨hp, by unfold plo; rw [hp]; exact hpl, fun hlt => ?_⟩
  unfold flo
  rw [fok_yes _ h3 (by omega)]
  show (reg _ _).1 = _
  rw [reg_ng _ hr hn, hpl]
theorem sgo_yes (ds : List Int) (h : sok ds = true) : sgo ds = sgnd ds := by unfold sgo; rw [h]; rfl
theorem sgo_no (ds : List Int) (h : sok ds = false) : sgo ds = [] := by unfold sgo; rw [h]; rfl
/-- Two slices, the one from a place on, that hold the same are equal. -/
theorem like_from (g o ca : Nat) (vb : Value) (zs : List Int) (bb : Nat) (w : World) (hz : 0 < zs.length) (hca : ∀ i, i < zs.length → w.cell? ⟨g, o + i, none⟩ = some (.int .i64 (zs.getD i 0))) (hgl : g < w.heap.size) (hb : Has w bb vb zs) :
    Calls Try.prog 9 #[.slice (some ⟨g, o, none⟩) zs.length ca, vb] w fun e w' => e = .returned (.bool true) ∧ Below w.heap.size w w' := by
  rcases hb.form with ⟨_, rfl⟩ | ⟨g', cb, rfl, _, hgl', hm, hcb, _⟩
  · simp at hz
  have Hca : Hid (∀ i, i < zs.length → w.cell? ⟨g, o + i, none⟩ = some (.int .i64 (zs.getD i 0))) := hca
  have Hcb : Hid (∀ i, i < zs.length → w.cell? ⟨g', i, none⟩ = some (.int .i64 (zs.getD i 0))) := hcb
  generalize hn : zs.length = n at *
  clear hb hca hcb
  go_enter Try.func9, Try.ntmps9
  go_wp2
  go_loopw [5] (fun i w1 => ∃ k : Nat, k ≤ n ∧ i = .int .i64 k ∧ Below w.heap.size w w1) (fun i _ => n - (intOf i).toNat)
  case atStart => exact ⟨0, Nat.zero_le _, rfl, Below.refl _ _⟩
  case round =>
    obtain ⟨k, hk, rfl, hbel⟩ := hrel
    by_cases hlt : k < n
    · have h1 := (hbel.cell (p := ⟨g, o + k, none⟩) hgl).trans (Hca.out k hlt)
      have h2 := (hbel.cell (p := ⟨g', k, none⟩) hgl').trans (Hcb.out k hlt)
      have hk1 : (k : Int) < (n : Int) := by omega
      go_wp2
      go_quiet (fail)
      go_wp2
      go_roundw
      case rel => exact ⟨k + 1, by omega, by go_num, below_drewN hbel _⟩
      case measure => simp [intOf]; omega
    · go_wp2
      go_ret
      exact ⟨rfl, hbel⟩
set_option maxHeartbeats 1600000 in
theorem signedBack_walk (a0 : Option Addr) (len0 cap0 : Nat) (w : World) (hB : Hid (Bytes w.heap.size w a0 len0)) :
    Calls Try.prog 3 #[.slice a0 len0 cap0] w fun e w' => e = .returned (.bool true) ∧ Below w.heap.size w w' := by
  by_cases hbig : 4096 < len0
  · clear hB
    go_enter Try.func3, Try.ntmps3
    go_wp2_with fail
    refine (big_yes _ _ _ _ hbig).mono ?_
    rintro e w' ⟨rfl, rfl⟩
    go_wp2
    go_ret
    exact ⟨rfl, Below.refl _ _⟩
  have Hs : Hid (∀ W v base ds, Has W base v ds → Calls Try.prog 8 #[v] W fun e w' => ∃ u, e = .returned (.tuple #[u, .bool (sok ds)]) ∧ Has w' W.heap.size u (sgo ds) ∧ Below W.heap.size W w') := fun W v base ds h => by
    cases hk : sok ds with
    | true => rw [← hk]; exact sSigned_yes v ds base W h hk
    | false => rw [← hk]; exact sSigned_no v ds base W h hk
  have Hi : Hid (∀ W v base ds, Has W base v ds → Calls Try.prog 7 #[v] W fun e w' => ∃ u, e = .returned (.tuple #[u, .bool (sok ds)]) ∧ Has w' W.heap.size u (sgo ds) ∧ Below W.heap.size W w') := fun W v base ds h => by
    cases hk : sok ds with
    | true => rw [← hk]; exact iSigned_yes v ds base W h hk
    | false => rw [← hk]; exact iSigned_no v ds base W h hk
  go_enter Try.func3, Try.ntmps3
  go_wp2_with fail
  refine (big_no _ _ _ _ hbig).mono ?_
  rintro e w' ⟨rfl, hw⟩
  obtain rfl := hw.symm
  go_wp2_with fail
  refine (DrawSigned_any _ _ _ _ (by omega) hB.out).mono ?_
  rintro e w1 ⟨v0, ds, rfl, hd, hdl, hb1⟩
  have hs1 := hb1.size
  go_wp2_with fail
  refine (Hi.out _ _ _ _ hd).mono ?_
  rintro e w2 ⟨s, rfl, hs, hb2⟩
  have hs2 := hb2.size
  have hb02 : Below w.heap.size w w2 := hb1.trans (hb2.mono hs1)
  have hd2 := hd.below hb2 (Nat.le_refl _)
  clear hb1 hb2 hd
  go_wp2_with fail
  refine (Hs.out _ _ _ _ hd2).mono ?_
  rintro e w3 ⟨x, rfl, hx, hb3⟩
  have hs3 := hb3.size
  have hb03 : Below w.heap.size w w3 := hb02.trans (hb3.mono (by omega))
  have hd3 := hd2.below hb3 (Nat.le_refl _)
  have hS3 := hs.below hb3 (Nat.le_refl _)
  clear hb02 hb3 hd2 hs
  go_wp2_with fail
  refine (like_same _ _ (sgo ds) _ _ _ hS3 hx).mono ?_
  rintro e w4 ⟨rfl, hb4⟩
  have hs4 := hb4.size
  have hb04 : Below w.heap.size w w4 := hb03.trans (hb4.mono (by omega))
  have hd4 := hd3.below hb4 (Nat.le_refl _)
  have hS4 := hS3.below hb4 (Nat.le_refl _)
  clear hb03 hb4 hd3 hS3 hx
  cases hk : sok ds with
  | false =>
    rw [sgo_no ds hk] at hS4
    obtain ⟨sa, sc, rfl, -⟩ := hS4.len
    clear hS4 hd4
    go_wp2
    go_ret
    exact ⟨rfl, hb04⟩
  | true =>
    have Hk : Hid (sok ds = true) := hk
    rw [sgo_yes ds hk] at hS4
    have hl1 : 1 ≤ ds.length := by
      rcases Nat.lt_or_ge ds.length 1 with h' | h'
      · rw [sok_few ds h'] at hk; cases hk
      · exact h'
    have hl2 : ds.length ≤ 40 := by
      rcases Nat.lt_or_ge 40 ds.length with h' | h'
      · rw [sok_many ds h'] at hk; cases hk
      · exact h'
    have hr5 := sgnd_rng ds (by rw [← sok_rng ds hl1 hl2]; exact hk)
    have HS4 : Hid (Has w4 w1.heap.size s (sgnd ds)) := hS4
    have HD4 : Hid (Has w4 w.heap.size v0 ds) := hd4
    rcases hS4.form with ⟨-, e⟩ | ⟨g, ca, rfl, -, hgl, hmx, hca, -⟩
    · have := sgnd_length ds; rw [e] at this; simp at this
    obtain ⟨da, dc, rfl, -⟩ := hd4.len
    have Hca : Hid (∀ i, i < (sgnd ds).length → w4.cell? ⟨g, i, none⟩ = some (.int .i64 ((sgnd ds).getD i 0))) := hca
    have Hr5 : Hid (∀ i, i < (sgnd ds).length → -5 ≤ (sgnd ds).getD i 0 ∧ (sgnd ds).getD i 0 ≤ 5) := fun i hi => rng_at _ _ _ hr5 i hi
    have Hlen : Hid ((sgnd ds).length = ds.length + 1) := sgnd_length ds
    have hbk := sgnd_back ds hk
    have Hp : Hid (pok (sgnd ds) = true) := hbk.1
    have Hpl : Hid (plo (sgnd ds) = 0 :: ds) := hbk.2.1
    have Hfl : Hid (ds.length < 40 → (flo (sgnd ds)).1 = 0 :: ds) := hbk.2.2
    have hlen1 : (sgnd ds).length ≤ 41 := by rw [Hlen.out]; omega
    clear hca hr5 hbk hS4 hd4 hk
    generalize hSd : sgnd ds = S at *
    generalize hN : S.length = N at *
    go_wp2
    go_loop [8] (fun i => ∃ k : Nat, k ≤ N ∧ i = .int .i64 k) (fun i => N - (intOf i).toNat)
    case atStart => exact ⟨0, Nat.zero_le _, rfl⟩
    case round =>
      obtain ⟨k, hk, rfl⟩ := hrel
      by_cases hlt : k < N
      · have hc := Hca.out k hlt
        have hr := Hr5.out k hlt
        have hlt' : (k : Int) < (N : Int) := by omega
        generalize S.getD k 0 = d at *
        go_wp2
        go_round
        case rel => exact ⟨k + 1, by omega, by go_num⟩
        case measure => simp [intOf]; omega
      · have hnlt : ¬ (k : Int) < (N : Int) := by omega
        go_wp2_with fail
        refine (iPlain_any _ S _ _ (by have := HS4.out; exact this)).mono ?_
        rintro e w5 ⟨p, rfl, hp, hb5⟩
        rw [Hp.out]
        rw [Hpl.out] at hp
        have hs5 := hb5.size
        have hb05 : Below w.heap.size w w5 := hb04.trans (hb5.mono (by omega))
        have HD5 : Hid (Has w5 w.heap.size (.slice da ds.length dc) ds) := HD4.out.below hb5 (Nat.le_refl _)
        have HS5 : Hid (Has w5 w1.heap.size (.slice (some ⟨g, 0, none⟩) N ca) S) := HS4.out.below hb5 (Nat.le_refl _)
        clear hb5 HD4 HS4 hb04
        rcases hp.form with ⟨-, e⟩ | ⟨gp, pc, rfl, -, hgp, -, hcp, -⟩
        · cases e
        have HP5 : Hid (Has w5 w4.heap.size (.slice (some ⟨gp, 0, none⟩) (0 :: ds).length pc) (0 :: ds)) := hp
        have hc0 : w5.cell? ⟨gp, 0, none⟩ = some (.int .i64 0) := hcp 0 (by simp)
        have Hcp : Hid (∀ i, i < ds.length → w5.cell? ⟨gp, 1 + i, none⟩ = some (.int .i64 (ds.getD i 0))) := fun i hi => by
          have := hcp (i + 1) (by simpa using hi)
          rw [Nat.add_comm 1 i]
          exact this
        have hpc : ds.length + 1 ≤ pc := by
          obtain ⟨-, h | ⟨g', cap', cur, e, -, -, hh, -⟩⟩ := hp
          · cases h.1
          · cases e; simpa using hh
        clear hp hcp
        have hpos : 0 < ds.length := by omega
        have hNl : N ≤ ds.length + 1 ∧ ds.length + 1 ≤ N := by have := Hlen.out; omega
        have HPl : Hid ((0 :: ds).length = ds.length + 1) := by show _ = _; simp
        rw [HPl.out] at HP5 ⊢
        have Hlike : Hid (∀ ca', Calls Try.prog 9 #[.slice (some ⟨gp, 1, none⟩) ds.length ca', .slice da ds.length dc] w5 fun e w' => e = .returned (.bool true) ∧ Below w5.heap.size w5 w') := fun ca' => like_from gp 1 ca' _ ds _ w5 hpos Hcp.out hgp HD5.out
        generalize hn : ds.length = n at *
        have h01 : (1 : Int) ≤ (n : Int) + 1 := by omega
        go_wp2_with fail
        refine (Hlike.out _).mono ?_
        rintro e w6 ⟨rfl, hb6⟩
        have hs6 := hb6.size
        have hb06 : Below w.heap.size w w6 := hb05.trans (hb6.mono (by omega))
        have HS6 : Hid (Has w6 w1.heap.size (.slice (some ⟨g, 0, none⟩) N ca) S) := HS5.out.below hb6 (Nat.le_refl _)
        have HP6 : Hid (Has w6 w4.heap.size (.slice (some ⟨gp, 0, none⟩) (n + 1) pc) (0 :: ds)) := HP5.out.below hb6 (Nat.le_refl _)
        clear hb6 HS5 HP5 hb05 Hlike Hcp hc0 HD5
        go_wp2_with fail
        refine (iFlight_any _ S _ _ HS6.out).mono ?_
        rintro e w7 ⟨q, m, rfl, hq, -, -, hb7⟩
        have hs7 := hb7.size
        have hb07 : Below w.heap.size w w7 := hb06.trans (hb7.mono (by omega))
        by_cases h40 : 40 < N
        · have h40' : (40 : Int) < (N : Int) := by omega
          clear hq
          go_wp2
          go_ret
          exact ⟨rfl, hb07⟩
        · have h40' : ¬ (40 : Int) < (N : Int) := by omega
          have HP7 : Hid (Has w7 w4.heap.size (.slice (some ⟨gp, 0, none⟩) (n + 1) pc) (0 :: ds)) := HP6.out.below hb7 (Nat.le_refl _)
          rw [Hfl.out (by omega)] at hq
          have HQ : Hid (Has w7 w6.heap.size q (0 :: ds)) := hq
          clear hq hb7 HP6 HS6 hb06
          go_wp2_with fail
          refine (like_same _ _ (0 :: ds) _ _ _ HQ.out HP7.out).mono ?_
          rintro e w8 ⟨rfl, hb8⟩
          go_wp2
          go_ret
          exact ⟨rfl, hb07.trans (hb8.mono (by omega))⟩
end Go.Proofs.Ytlbkhiphnllfpab
