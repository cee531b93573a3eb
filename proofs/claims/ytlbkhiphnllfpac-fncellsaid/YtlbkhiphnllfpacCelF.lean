/-
  The law on cells, walked.
-/
import Derived.Deep.DeepCutAuto
import Derived.Test.YtlbkhiphnllfpacCelQ
import Derived.Test.YtlbkhiphnllfpacCep5
namespace Go.Proofs.Ytlbkhiphnllfpac
open Go.RowKit
set_option linter.unusedVariables false
set_option maxRecDepth 100000
set_option maxRecDepth 100000 in
set_option maxHeartbeats 4000000 in
theorem fnCell_any (a0 : Option Addr) (len0 cap0 : Nat) (w : World) (hbig : ¬ 4096 < len0) (hB : Bytes w.heap.size w a0 len0) :
    Calls Try.prog 3 #[.slice a0 len0 cap0] w fun e w' => e = .returned (.bool true) ∧ Below w.heap.size w w' := by
  have HBy : Hid (Bytes w.heap.size w a0 len0) := hB
  clear hB
  go_enter Try.func3, Try.ntmps3
  go_wp2_with fail
  refine (big_no _ _ _ _ hbig).mono ?_
  rintro e w' ⟨rfl, hw⟩
  obtain rfl := hw.symm
  go_wp2_with fail
  refine (DrawCell_any _ _ _ _ (by omega) HBy.out).mono ?_
  rintro e w1 ⟨a, u, t, D, Y, rfl, hI, hb1⟩
  clear hI HBy hbig
  have Hs : Hid (∀ W, Calls Try.prog 10 #[.int .i64 a, .int .i64 u, .int .i64 t, .int .i64 D, .int .i64 Y] W fun e w' => e = .returned (.tuple #[.int .i64 (sCel a u t D Y).1, .int .i64 (sCel a u t D Y).2]) ∧ Below W.heap.size W w') := fun W => sCell_any a u t D Y W
  have Hi : Hid (∀ W, Calls Try.prog 9 #[.int .i64 a, .int .i64 u, .int .i64 t, .int .i64 D, .int .i64 Y] W fun e w' => e = .returned (.tuple #[.int .i64 (sCel a u t D Y).1, .int .i64 (sCel a u t D Y).2]) ∧ Below W.heap.size W w') := fun W => iCell_any a u t D Y W
  have Hb : Hid (∀ W, Calls Try.prog 11 #[.int .i64 a, .int .i64 u, .int .i64 t, .int .i64 D] W fun e w' => e = .returned (.int .i64 (bnd a u t D)) ∧ Below W.heap.size W w') := fun W => iBound_any a u t D W
  by_cases h0 : (sCel a u t D Y).1 = 0
  · obtain ⟨⟨ha, hu, ht⟩, hD, hY, hk, hYb, hh⟩ := sCel_told a u t D Y h0
    have hU := pow12 u hu
    have hT := pow12 t ht
    have HQ : Hid (∀ x z s : Int, 4 * D ≤ x → x ≤ 4 * D + 4 → 4 * Y ≤ z → z ≤ 4 * Y + 8 → s = abI z → 9 * s * 10 ^ u.toNat ≤ 10 * a * x * 10 ^ t.toNat → ¬ 9 * z * 10 ^ u.toNat < (9 * (sCel a u t D Y).2 - a) * x * 10 ^ t.toNat ∧ ¬ (9 * (sCel a u t D Y).2 + a) * x * 10 ^ t.toNat < 9 * z * 10 ^ u.toNat) := fun x z s x0 x1 z0 z1 hs r =>
      quarters2 a _ _ _ D Y x z s (by omega) (by omega) (by omega) (by omega) hh x0 x1 z0 z1 hs r
    have HU1 : Hid (u = 1 → (10 : Int) ^ u.toNat = 10) := fun e => by rw [e]; rfl
    have HU2 : Hid (u = 2 → (10 : Int) ^ u.toNat = 100) := fun e => by rw [e]; rfl
    have HT1 : Hid (t = 1 → (10 : Int) ^ t.toNat = 10) := fun e => by rw [e]; rfl
    have HT2 : Hid (t = 2 → (10 : Int) ^ t.toNat = 100) := fun e => by rw [e]; rfl
    rw [h0] at Hs Hi
    clear hh h0
    generalize (sCel a u t D Y).2 = k at *
    generalize bnd a u t D = b at *
    generalize (10 : Int) ^ u.toNat = U at *
    generalize (10 : Int) ^ t.toNat = T at *
    go_wp2_with fail
    refine (Hi.out _).mono ?_
    rintro e w2 ⟨rfl, hb2⟩
    go_wp2_with fail
    refine (Hs.out _).mono ?_
    rintro e w3 ⟨rfl, hb3⟩
    have hB3 : Below w.heap.size w w3 := bel2 hb1 hb2 hb3
    clear hb1 hb2 hb3 Hs Hi
    go_upto_if 60 with fail
    go_cut [12] (fun s wx => s = .int .i64 U ∧ wx = w3)
    case first =>
      rcases (show u = 1 ∨ u = 2 by omega) with e | e
      · have e2 := HU1.out e
        subst e
        go_wp2
        go_meet
        exact ⟨Ln.val_int (by omega), rfl⟩
      · have e2 := HU2.out e
        subst e
        go_wp2
        go_meet
        exact ⟨Ln.val_int (by omega), rfl⟩
    case rest =>
      obtain ⟨rfl, rfl⟩ := hcut
      go_upto_if 62 with fail
      go_cut [13] (fun s wx => s = .int .i64 T ∧ wx = wc)
      case first =>
        rcases (show t = 1 ∨ t = 2 by omega) with e | e
        · have e2 := HT1.out e
          subst e
          go_wp2
          go_meet
          exact ⟨Ln.val_int (by omega), rfl⟩
        · have e2 := HT2.out e
          subst e
          go_wp2
          go_meet
          exact ⟨Ln.val_int (by omega), rfl⟩
      case rest =>
        obtain ⟨rfl, hwc⟩ := hcut
        subst hwc
        clear HU1 HU2 HT1 HT2
        go_wp2
        go_loopw [14] (fun i wr => ∃ m : Nat, m ≤ 5 ∧ i = .int .i64 (m : Int) ∧ wr = wc) (fun i _ => 5 - (intOf i).toNat)
        case atStart => exact ⟨0, by omega, rfl, rfl⟩
        case round =>
          obtain ⟨m, hm, rfl, rfl⟩ := hrel
          by_cases hm5 : m < 5
          · have hm' : (m : Int) ≤ 4 := by omega
            go_wp2
            go_loopw [15] (fun i wr' => ∃ n : Nat, n ≤ 9 ∧ i = .int .i64 (n : Int) ∧ wr' = wr) (fun i _ => 9 - (intOf i).toNat)
            case atStart => exact ⟨0, by omega, rfl, rfl⟩
            case round =>
              obtain ⟨n, hn, rfl, hwn⟩ := hrel
              subst hwn
              by_cases hn9 : n < 9
              · have hn' : (n : Int) ≤ 8 := by omega
                go_upto_region 25 with fail
                have hx0 : 4 * D ≤ 4 * D + (m : Int) := by omega
                have hx1 : 4 * D + (m : Int) ≤ 4 * D + 4 := by omega
                have hz0 : 4 * Y ≤ 4 * Y + (n : Int) := by omega
                have hz1 : 4 * Y + (n : Int) ≤ 4 * Y + 8 := by omega
                generalize 4 * D + (m : Int) = x at *
                generalize 4 * Y + (n : Int) = z at *
                have hxb : 4 ≤ x ∧ x ≤ 400 := by omega
                have hzb : -4000000 ≤ z ∧ z ≤ 4000008 := by omega
                have m1 := mulC2 (10 * a) x 90 400 (by omega) (by omega) (by omega) (by omega) (by decide) (by decide)
                have m2 := mulC2 (9 * k - a) x 90 400 (by omega) (by omega) (by omega) (by omega) (by decide) (by decide)
                have m3 := mulC2 (9 * k + a) x 90 400 (by omega) (by omega) (by omega) (by omega) (by decide) (by decide)
                have m4 := mulC2 (10 * a * x) T 36000 100 (by omega) (by omega) (by omega) (by omega) (by decide) (by decide)
                have m5 := mulC2 ((9 * k - a) * x) T 36000 100 (by omega) (by omega) (by omega) (by omega) (by decide) (by decide)
                have m6 := mulC2 ((9 * k + a) * x) T 36000 100 (by omega) (by omega) (by omega) (by omega) (by decide) (by decide)
                have m8 := mulC2 (9 * z) U 40000000 100 (by omega) (by omega) (by omega) (by omega) (by decide) (by decide)
                by_cases hz : z < 0
                · skip
                  have hq := HQ.out x z (-z) hx0 hx1 hz0 hz1 (by unfold abI; rw [if_pos hz])
                  have HQ1 : Hid (9 * (-z) * U ≤ 10 * a * x * T → (9 * k - a) * x * T ≤ 9 * z * U ∧ 9 * z * U ≤ (9 * k + a) * x * T) := fun r => by have := hq r; omega
                  have m7 := mulC2 (9 * (-z)) U 40000000 100 (by omega) (by omega) (by omega) (by omega) (by decide) (by decide)
                  clear hq
                  by_cases hr : 9 * (-z) * U ≤ 10 * a * x * T
                  · obtain ⟨g1, g2⟩ := HQ1.out hr
                    clear HQ1
                    go_wp2
                    go_roundw
                    case rel => exact ⟨n + 1, by omega, by go_num, by first | trivial | rfl⟩
                    case measure => simp [intOf]; omega
                  · clear HQ1
                    go_wp2
                    go_roundw
                    case rel => exact ⟨n + 1, by omega, by go_num, by first | trivial | rfl⟩
                    case measure => simp [intOf]; omega
                · skip
                  have hq := HQ.out x z (z) hx0 hx1 hz0 hz1 (by unfold abI; rw [if_neg hz])
                  have HQ1 : Hid (9 * (z) * U ≤ 10 * a * x * T → (9 * k - a) * x * T ≤ 9 * z * U ∧ 9 * z * U ≤ (9 * k + a) * x * T) := fun r => by have := hq r; omega
                  have m7 := mulC2 (9 * (z)) U 40000000 100 (by omega) (by omega) (by omega) (by omega) (by decide) (by decide)
                  clear hq
                  by_cases hr : 9 * (z) * U ≤ 10 * a * x * T
                  · obtain ⟨g1, g2⟩ := HQ1.out hr
                    clear HQ1
                    go_wp2
                    go_roundw
                    case rel => exact ⟨n + 1, by omega, by go_num, by first | trivial | rfl⟩
                    case measure => simp [intOf]; omega
                  · clear HQ1
                    go_wp2
                    go_roundw
                    case rel => exact ⟨n + 1, by omega, by go_num, by first | trivial | rfl⟩
                    case measure => simp [intOf]; omega
              · have hn2 : n = 9 := by omega
                subst hn2
                go_wp2
                go_roundw
                case rel => exact ⟨m + 1, by omega, by go_num, by first | trivial | rfl⟩
                case measure => simp [intOf]; omega
          · have hm2 : m = 5 := by omega
            subst hm2
            go_wp2_with fail
            refine (Hb.out _).mono ?_
            rintro e w5 ⟨rfl, hb5⟩
            have hkb : Y ≤ b := hYb
            go_wp2
            go_ret
            exact ⟨rfl, bel1 hB3 hb5⟩
  · have hk := sCel_else a u t D Y h0
    rw [hk] at Hs Hi
    generalize (sCel a u t D Y).1 = e0 at *
    go_wp2_with fail
    refine (Hi.out _).mono ?_
    rintro e w2 ⟨rfl, hb2⟩
    go_wp2_with fail
    refine (Hs.out _).mono ?_
    rintro e w3 ⟨rfl, hb3⟩
    have hne : (e0 == 0) = false := by simpa using h0
    go_wp2
    go_ret
    exact ⟨rfl, bel2 hb1 hb2 hb3⟩
end Go.Proofs.Ytlbkhiphnllfpac
