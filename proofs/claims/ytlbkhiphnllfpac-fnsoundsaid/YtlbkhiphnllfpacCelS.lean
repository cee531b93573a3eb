/-
  The law on sound tables, walked.
-/
import Derived.Deep.DeepCutAuto
import Derived.Laws.AppendOwnNone
import Derived.Test.YtlbkhiphnllfpacCelQ
import Derived.Test.YtlbkhiphnllfpacCep7
namespace Go.Proofs.Ytlbkhiphnllfpac
open Go.RowKit
set_option linter.unusedVariables false
set_option maxRecDepth 100000
theorem sCel_in (a u t D Y : Int) (hp : prm a u t = true) (hr : rgd u D = true) : sCel a u t D Y = cel a (10 ^ u.toNat) (10 ^ t.toNat) D Y := by
  unfold sCel; rw [hp, hr]; rfl
/-- What Sound's answer means for Cell. -/
theorem sSnd_out (a u t : Int) : (prm a u t = false ∧ sSnd a u t = (1, 0, 0)) ∨ (prm a u t = true ∧ ∃ x y, sSnd a u t = (4, x, y) ∧ (sCel a u t x y).1 = 4) ∨
    (prm a u t = true ∧ sSnd a u t = (0, 0, 0) ∧ ∀ D, 10 ^ (u - 1).toNat ≤ D → D < 10 ^ u.toNat → (∀ Y, -(bnd a u t D) - 2 ≤ Y → Y ≤ bnd a u t D → (sCel a u t D Y).1 = 0) ∧ (sCel a u t D (bnd a u t D + 1)).1 = 3 ∧ (sCel a u t D (-(bnd a u t D) - 3)).1 = 3) := by
  cases hp : prm a u t with
  | false => left; exact ⟨rfl, by unfold sSnd; rw [hp]; rfl⟩
  | true =>
    right
    obtain ⟨ha, hu, ht⟩ := prm_parts a u t hp
    have hU := pow12 u hu
    have hV : 1 ≤ (10 : Int) ^ (u - 1).toNat ∧ (10 : Int) ^ (u - 1).toNat < (10 : Int) ^ u.toNat := by
      rcases (show u = 1 ∨ u = 2 by omega) with rfl | rfl <;> simp
    have hS : sSnd a u t = sdD a u t (10 ^ u.toNat - 10 ^ (u - 1).toNat : Int).toNat (10 ^ (u - 1).toNat) := by unfold sSnd; rw [hp]; rfl
    rw [hS]
    have rg : ∀ D : Int, 10 ^ (u - 1).toNat ≤ D → D < 10 ^ u.toNat → rgd u D = true := fun D h0 h1 => by
      unfold rgd; exact decide_eq_true ⟨h0, by omega⟩
    rcases sdD_out a u t (10 ^ u.toNat - 10 ^ (u - 1).toNat : Int).toNat (10 ^ (u - 1).toNat) with ⟨h1, h2⟩ | ⟨x, y, h1, h2, h3, h4⟩
    · right
      refine ⟨rfl, h1, fun D d0 d1 => ?_⟩
      have hr := rg D d0 d1
      have hbb := bnd_bd a u t D hp hr
      have hn := h2 D d0 (by omega)
      refine ⟨fun Y y0 y1 => ?_, ?_, ?_⟩
      · rw [sCel_in a u t D Y hp hr]
        have h4 := sdY_none a _ _ D _ _ hn Y y0 (by omega)
        rw [cel_hit a u t D Y hp hr ⟨y0, y1⟩] at h4 ⊢
        rcases scn_out a (10 ^ u.toNat) (10 ^ t.toNat) (cnE (9 * 10 ^ u.toNat) (10 * a * 10 ^ t.toNat) D Y 2) (a.toNat + 1) 0 with h | h
        · exact absurd h.1 h4
        · exact h.1
      · rw [sCel_in a u t D _ hp hr, cel_miss a u t D _ hp hr (by omega)]
      · rw [sCel_in a u t D _ hp hr, cel_miss a u t D _ hp hr (by omega)]
    · left
      exact ⟨rfl, x, y, h1, by rw [sCel_in a u t x y hp (rg x h2 (by omega))]; exact h4⟩
theorem infoU8 : (Try.prog.info? 5).map (fun i => (i.zero, i.size, i.bytes)) = some (some (.int .u8 0), 1, 1) := by kernel_rfl
/-- Bytes that a row of the call's own holds. -/
theorem bytes_own {w : World} {base : Nat} {v : Value} {n : Nat} {xs : List Int} (h : w.ownsRow base 5 1 v n (xs.map (Value.int .u8))) (hx : ∀ z ∈ xs, 0 ≤ z ∧ z ≤ 255) (hn : 0 < n) : ∃ a cap, v = .slice a n cap ∧ Bytes w.heap.size w a n := by
  have h0 := h
  obtain ⟨hl, h⟩ := h
  have hlen : xs.length = n := by simpa using hl
  rcases h with ⟨rfl, h⟩ | ⟨g, cap, cur, rfl, hg, hc, hn', hm, hs, ht⟩
  · omega
  · refine ⟨_, cap, rfl, .inr ⟨g, 0, rfl, (Array.getElem?_eq_some_iff.1 hc).1, fun j hj => ?_⟩⟩
    have hlt : j < xs.length := by omega
    refine ⟨xs[j], ?_, hx _ (List.getElem_mem hlt)⟩
    rw [show (0 : Nat) + j = j by omega, World.ownsRow.cellAt h0 j (by omega)]
    simp [List.getElem?_eq_getElem hlt]
theorem bytes_below {B : Nat} {w w' : World} {a : Option Addr} {len : Nat} (h : Bytes B w a len) (hb : Below B w w') : Bytes B w' a len := by
  rcases h with h | ⟨b, off, rfl, hbB, hc⟩
  · exact .inl h
  · refine .inr ⟨b, off, rfl, hbB, fun j hj => ?_⟩
    obtain ⟨z, hz, h0⟩ := hc j hj
    exact ⟨z, (hb.cell (p := ⟨b, off + j, none⟩) hbB).trans hz, h0⟩
theorem u8_of_wf (n : Int) (h : (Lit.int .u8 n).wf = true) : 0 ≤ n ∧ n ≤ 255 := by
  have := range_u8 (zs := [n]) (by simpa using h) 0
  simpa using this
set_option maxRecDepth 100000 in
set_option maxHeartbeats 4000000 in
theorem fnSound_any (a0 : Option Addr) (len0 cap0 : Nat) (zs : List Int) (w : World) (hbig : ¬ 4096 < len0)
    (hrow : (a0 = none ∧ len0 = 0 ∧ cap0 = 0 ∧ zs = []) ∨ ∃ x, a0 = some x ∧ len0 ≤ cap0 ∧ cap0 ≤ maxLen ∧ zs.length = cap0 ∧ (∀ i, i < zs.length → w.cell? (x.add i) = some (.int .u8 (zs.getD i 0))) ∧ ∀ n ∈ zs, (Lit.int .u8 n).wf = true) :
    Calls Try.prog 4 #[.slice a0 len0 cap0] w fun e w' => e = .returned (.bool true) ∧ Below w.heap.size w w' := by
  have HBy : Hid (Bytes w.heap.size w a0 len0) := bytes_of_row hrow
  have HRow : Hid ((a0 = none ∧ len0 = 0 ∧ cap0 = 0 ∧ zs = []) ∨ ∃ x, a0 = some x ∧ len0 ≤ cap0 ∧ cap0 ≤ maxLen ∧ zs.length = cap0 ∧ (∀ i, i < zs.length → w.cell? (x.add i) = some (.int .u8 (zs.getD i 0))) ∧ ∀ n ∈ zs, (Lit.int .u8 n).wf = true) := hrow
  obtain ⟨i0, hi, hz0, hz1, hz2⟩ := info_parts infoU8
  clear hrow
  go_enter Try.func4, Try.ntmps4
  go_wp2_with fail
  refine (big_no _ _ _ _ hbig).mono ?_
  rintro e w' ⟨rfl, hw⟩
  obtain rfl := hw.symm
  go_wp2_with fail
  refine (DrawSound_any _ _ _ _ (by omega) HBy.out).mono ?_
  rintro e w1 ⟨a, u, t, rfl, hI, hb1⟩
  clear hI
  have Hs : Hid (∀ W, Calls Try.prog 14 #[.int .i64 a, .int .i64 u, .int .i64 t] W fun e w' => e = .returned (.tuple #[.int .i64 (sSnd a u t).1, .int .i64 (sSnd a u t).2.1, .int .i64 (sSnd a u t).2.2]) ∧ Below W.heap.size W w') := fun W => sSound_any a u t W
  have Hi : Hid (∀ W, Calls Try.prog 13 #[.int .i64 a, .int .i64 u, .int .i64 t] W fun e w' => e = .returned (.tuple #[.int .i64 (sSnd a u t).1, .int .i64 (sSnd a u t).2.1, .int .i64 (sSnd a u t).2.2]) ∧ Below W.heap.size W w') := fun W => iSound_any a u t W
  rcases sSnd_out a u t with ⟨_, h1⟩ | ⟨_, x, y, h1, h2⟩ | ⟨hp, h1, h2⟩
  · rw [h1] at Hs Hi
    go_wp2_with fail
    refine (Hi.out _).mono ?_
    rintro e w2 ⟨rfl, hb2⟩
    go_wp2_with fail
    refine (Hs.out _).mono ?_
    rintro e w3 ⟨rfl, hb3⟩
    go_wp2
    go_ret
    exact ⟨rfl, bel2 hb1 hb2 hb3⟩
  · rw [h1] at Hs Hi
    have Hc : Hid (∀ W, Calls Try.prog 9 #[.int .i64 a, .int .i64 u, .int .i64 t, .int .i64 x, .int .i64 y] W fun e w' => e = .returned (.tuple #[.int .i64 4, .int .i64 (sCel a u t x y).2]) ∧ Below W.heap.size W w') := fun W => by rw [← h2]; exact iCell_any a u t x y W
    clear h1 h2
    generalize (sCel a u t x y).2 = k at *
    go_wp2_with fail
    refine (Hi.out _).mono ?_
    rintro e w2 ⟨rfl, hb2⟩
    go_wp2_with fail
    refine (Hs.out _).mono ?_
    rintro e w3 ⟨rfl, hb3⟩
    go_wp2_with fail
    refine (Hc.out _).mono ?_
    rintro e w4 ⟨rfl, hb4⟩
    go_wp2
    go_ret
    exact ⟨rfl, bel1 (bel2 hb1 hb2 hb3) hb4⟩
  · rw [h1] at Hs Hi
    obtain ⟨ha, hu, ht⟩ := prm_parts a u t hp
    have HV1 : Hid (u = 1 → (10 : Int) ^ (u - 1).toNat = 1) := fun e => by rw [e]; rfl
    have HV2 : Hid (u = 2 → (10 : Int) ^ (u - 1).toNat = 10) := fun e => by rw [e]; rfl
    have hV : 1 ≤ (10 : Int) ^ (u - 1).toNat ∧ (10 : Int) ^ (u - 1).toNat ≤ 10 := by
      rcases (show u = 1 ∨ u = 2 by omega) with e | e
      · have := HV1.out e; omega
      · have := HV2.out e; omega
    have hVU : (10 : Int) ^ u.toNat = 10 * 10 ^ (u - 1).toNat := by
      rcases (show u = 1 ∨ u = 2 by omega) with rfl | rfl <;> rfl
    rw [hVU] at h2
    have H2 : Hid (∀ D, 10 ^ (u - 1).toNat ≤ D → D < 10 * 10 ^ (u - 1).toNat → (∀ Y, -(bnd a u t D) - 2 ≤ Y → Y ≤ bnd a u t D → (sCel a u t D Y).1 = 0) ∧ (sCel a u t D (bnd a u t D + 1)).1 = 3 ∧ (sCel a u t D (-(bnd a u t D) - 3)).1 = 3) := h2
    clear h1 h2 hp hVU
    generalize (10 : Int) ^ (u - 1).toNat = V at *
    go_wp2_with fail
    refine (Hi.out _).mono ?_
    rintro e w2 ⟨rfl, hb2⟩
    go_wp2_with fail
    refine (Hs.out _).mono ?_
    rintro e w3 ⟨rfl, hb3⟩
    have hB3 : Below w.heap.size w w3 := bel2 hb1 hb2 hb3
    have HBy3 : Hid (Bytes w.heap.size w3 a0 len0) := bytes_below HBy.out hB3
    clear hb1 hb2 hb3 Hs Hi HBy
    go_upto_if 81 with fail
    go_cut [14] (fun s wx => s = .int .i64 V ∧ wx = w3)
    case first =>
      rcases (show u = 1 ∨ u = 2 by omega) with e | e
      · have e2 := HV1.out e
        subst e
        go_wp2
        go_meet
        exact ⟨Ln.val_int (by omega), rfl⟩
      · have e2 := HV2.out e
        subst e
        go_wp2
        go_meet
        exact ⟨Ln.val_int (by omega), rfl⟩
    case rest =>
      obtain ⟨rfl, hwc⟩ := hcut
      obtain rfl := hwc
      clear HV1 HV2
      go_wp2_with fail
      refine (pick_any a0 len0 cap0 _ (9 * V) _ (by omega) HBy3.out (by omega)).mono ?_
      rintro e w' ⟨r, rfl, hr, hw⟩
      obtain rfl := hw.symm
      obtain ⟨D, hD⟩ : ∃ D, D = V + r := ⟨_, rfl⟩
      obtain ⟨h3, h4, h5⟩ := H2.out D (by omega) (by omega)
      have hbb := bnd_any_bd a u t D
      have HCl : Hid (∀ W Y, Calls Try.prog 9 #[.int .i64 a, .int .i64 u, .int .i64 t, .int .i64 D, .int .i64 Y] W fun e w' => e = .returned (.tuple #[.int .i64 (sCel a u t D Y).1, .int .i64 (sCel a u t D Y).2]) ∧ Below W.heap.size W w') := fun W Y => iCell_any a u t D Y W
      have Hb : Hid (∀ W, Calls Try.prog 11 #[.int .i64 a, .int .i64 u, .int .i64 t, .int .i64 D] W fun e w' => e = .returned (.int .i64 (bnd a u t D)) ∧ Below W.heap.size W w') := fun W => iBound_any a u t D W
      have HC1 : Hid (∀ Y, -(bnd a u t D) - 2 ≤ Y → Y ≤ bnd a u t D → (sCel a u t D Y).1 = 0) := h3
      have HC2 : Hid ((sCel a u t D (bnd a u t D + 1)).1 = 3) := h4
      have HC3 : Hid ((sCel a u t D (-(bnd a u t D) - 3)).1 = 3) := h5
      have HD : Hid (D = V + r) := hD
      clear h3 h4 h5 H2
      generalize bnd a u t D = b at *
      go_upto_region 17 with fail
      rw [← hD]
      clear hD
      go_wp2_with fail
      refine (Hb.out _).mono ?_
      rintro e w4 ⟨rfl, hb4⟩
      have hB4 : Below w.heap.size w w4 := bel1 hB3 hb4
      have hs4 := hB4.size
      clear hb4 Hb HD hr
      have hbA : Below w.heap.size w (w4.alloc (.cells #[.int .u8 1] 5)) := hB4.alloc hs4 _
      have hown1 : (w4.alloc (.cells #[.int .u8 1] 5)).ownsRow w.heap.size 5 1 (.slice (some ⟨w4.heap.size, 0, none⟩) 1 1) 1 [.int .u8 1] := ⟨by simp, .inr ⟨w4.heap.size, 1, #[.int .u8 1], rfl, hs4, heap_alloc_new w4 _, Nat.le_refl _, by unfold maxLen; omega, rfl, by simp⟩⟩
      rcases HRow.out with ⟨rfl, rfl, rfl, rfl⟩ | ⟨ad, rfl, hlc, hcm, hzl, hcell, hwf⟩
      · have HXS : Hid (∀ z ∈ ([1] : List Int), 0 ≤ z ∧ z ≤ 255) := fun z hz => by simp at hz; omega
        go_wp2_with (at_builtin; refine wpList_append_own_none rfl _ _ 22 rfl w.heap.size 5 i0 1 Try.underlying22 hi _ _ _ rfl hown1 rfl ?_)
        have hownv : (w4.alloc (.cells #[.int .u8 1] 5)).ownsRow w.heap.size 5 1 (.slice (some ⟨w4.heap.size, 0, none⟩) 1 1) (1 + 0) (([1] : List Int).map (Value.int .u8)) := hown1
        have hbv5 := hbA
        clear hown1 hbA hB4
        have hbv : Bytes (w4.alloc (.cells #[.int .u8 1] 5)).heap.size (w4.alloc (.cells #[.int .u8 1] 5)) (some ⟨w4.heap.size, 0, none⟩) 1 := by
          obtain ⟨av, cv, hve, h⟩ := bytes_own (xs := ([1] : List Int)) hownv HXS.out (by omega)
          injection hve with e1 e2 e3
          rw [e1]
          exact h
        clear hownv
        refine (pick_any (some ⟨w4.heap.size, 0, none⟩) 1 1 _ (2 * b + 3) _ (by omega) hbv (by omega)).mono ?_
        rintro e w' ⟨y, rfl, hy, hw⟩
        obtain rfl := hw.symm
        clear hbv
        have H1 := HC1.out (y - b - 2) (by omega) (by omega)
        have Hc1 : Hid (∀ W, Calls Try.prog 9 #[.int .i64 a, .int .i64 u, .int .i64 t, .int .i64 D, .int .i64 (y - b - 2)] W fun e w' => e = .returned (.tuple #[.int .i64 (sCel a u t D (y - b - 2)).1, .int .i64 (sCel a u t D (y - b - 2)).2]) ∧ Below W.heap.size W w') := fun W => HCl.out W (y - b - 2)
        have Hc2 : Hid (∀ W, Calls Try.prog 9 #[.int .i64 a, .int .i64 u, .int .i64 t, .int .i64 D, .int .i64 (b + 1)] W fun e w' => e = .returned (.tuple #[.int .i64 (sCel a u t D (b + 1)).1, .int .i64 (sCel a u t D (b + 1)).2]) ∧ Below W.heap.size W w') := fun W => HCl.out W (b + 1)
        have Hc3 : Hid (∀ W, Calls Try.prog 9 #[.int .i64 a, .int .i64 u, .int .i64 t, .int .i64 D, .int .i64 (-b - 3)] W fun e w' => e = .returned (.tuple #[.int .i64 (sCel a u t D (-b - 3)).1, .int .i64 (sCel a u t D (-b - 3)).2]) ∧ Below W.heap.size W w') := fun W => HCl.out W (-b - 3)
        rw [H1] at Hc1
        rw [HC2.out] at Hc2
        rw [HC3.out] at Hc3
        clear HCl HC1 HC2 HC3 H1
        go_wp2_with fail
        refine (Hc1.out _).mono ?_
        rintro e w6 ⟨rfl, hb6⟩
        go_wp2_with fail
        refine (Hc2.out _).mono ?_
        rintro e w7 ⟨rfl, hb7⟩
        go_wp2_with fail
        refine (Hc3.out _).mono ?_
        rintro e w8 ⟨rfl, hb8⟩
        go_wp2
        go_ret
        exact ⟨rfl, bel1 (bel2 hbv5 hb6 hb7) hb8⟩
      · have hzw : ∀ z ∈ zs.take len0, 0 ≤ z ∧ z ≤ 255 := fun z hz => u8_of_wf z (hwf z (List.mem_of_mem_take hz))
        have HXS : Hid (∀ z ∈ (1 :: zs.take len0 : List Int), 0 ≤ z ∧ z ≤ 255) := fun z hz => by
          rcases List.mem_cons.1 hz with rfl | hz
          · decide
          · exact hzw z hz
        have hc : ∀ j u, ((zs.take len0).map (Value.int .u8))[j]? = some u → (w4.alloc (.cells #[.int .u8 1] 5)).cell? (ad.add j) = some u := fun j u hu => by
          rw [List.getElem?_map, List.getElem?_take] at hu
          split at hu
          · rename_i hj
            have hjz : j < zs.length := by omega
            rw [List.getElem?_eq_getElem hjz] at hu
            simp only [Option.map_some, Option.some.injEq] at hu
            subst hu
            have h1 := hcell j hjz
            have hg : zs.getD j 0 = zs[j] := by rw [List.getD, List.getElem?_eq_getElem hjz]; rfl
            rw [hg] at h1
            exact (hbA.cell (World.block_lt_of_cell? _ _ h1)).trans h1
          · cases hu
        have hnl : ((zs.take len0).map (Value.int .u8)).length = len0 * 1 := by simp; omega
        have hone : ∀ u ∈ (zs.take len0).map (Value.int .u8), u.oneCell' = true := fun u hu => by
          obtain ⟨z, _, rfl⟩ := List.mem_map.1 hu; rfl
        clear hcell hwf
        go_wp2_with (first | (at_builtin; refine wpList_append_own _ rfl _ _ 22 rfl w.heap.size 5 i0 (.int .u8 0) 1 1 Try.underlying22 hi hz0 hz1 hz2 rfl (by decide) _ _ _ rfl hown1 ad len0 cap0 ((zs.take len0).map (Value.int .u8)) rfl hnl hc hone ?c3 ?c4 ?c5 ?_) | go_in)
        case c3 => unfold maxLen; omega
        case c4 => omega
        case c5 => simp; omega
        intro v' w5 hown5 hgrow _
        have hbv5 : Below w.heap.size w w5 := Below.grown hbA hgrow (by simp; omega) (fun k hk => (hown1.lt k hk).1)
        have hownv : w5.ownsRow w.heap.size 5 1 v' (1 + len0) ((1 :: zs.take len0 : List Int).map (Value.int .u8)) := by rw [List.map_cons, List.map_take]; exact hown5
        clear hown5 hgrow hown1 hc hnl hone hbA
        obtain ⟨av, cv, rfl, hbv⟩ := bytes_own (xs := 1 :: zs.take len0) hownv HXS.out (by omega)
        clear hownv
        go_wp2_with fail
        refine (pick_any av (1 + len0) cv _ (2 * b + 3) _ (by omega) hbv (by omega)).mono ?_
        rintro e w' ⟨y, rfl, hy, hw⟩
        obtain rfl := hw.symm
        clear hbv
        have H1 := HC1.out (y - b - 2) (by omega) (by omega)
        have Hc1 : Hid (∀ W, Calls Try.prog 9 #[.int .i64 a, .int .i64 u, .int .i64 t, .int .i64 D, .int .i64 (y - b - 2)] W fun e w' => e = .returned (.tuple #[.int .i64 (sCel a u t D (y - b - 2)).1, .int .i64 (sCel a u t D (y - b - 2)).2]) ∧ Below W.heap.size W w') := fun W => HCl.out W (y - b - 2)
        have Hc2 : Hid (∀ W, Calls Try.prog 9 #[.int .i64 a, .int .i64 u, .int .i64 t, .int .i64 D, .int .i64 (b + 1)] W fun e w' => e = .returned (.tuple #[.int .i64 (sCel a u t D (b + 1)).1, .int .i64 (sCel a u t D (b + 1)).2]) ∧ Below W.heap.size W w') := fun W => HCl.out W (b + 1)
        have Hc3 : Hid (∀ W, Calls Try.prog 9 #[.int .i64 a, .int .i64 u, .int .i64 t, .int .i64 D, .int .i64 (-b - 3)] W fun e w' => e = .returned (.tuple #[.int .i64 (sCel a u t D (-b - 3)).1, .int .i64 (sCel a u t D (-b - 3)).2]) ∧ Below W.heap.size W w') := fun W => HCl.out W (-b - 3)
        rw [H1] at Hc1
        rw [HC2.out] at Hc2
        rw [HC3.out] at Hc3
        clear HCl HC1 HC2 HC3 H1
        go_wp2_with fail
        refine (Hc1.out _).mono ?_
        rintro e w6 ⟨rfl, hb6⟩
        go_wp2_with fail
        refine (Hc2.out _).mono ?_
        rintro e w7 ⟨rfl, hb7⟩
        go_wp2_with fail
        refine (Hc3.out _).mono ?_
        rintro e w8 ⟨rfl, hb8⟩
        go_wp2
        go_ret
        exact ⟨rfl, bel1 (bel2 hbv5 hb6 hb7) hb8⟩
end Go.Proofs.Ytlbkhiphnllfpac
