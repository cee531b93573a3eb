/-
  Mended of the program, walked.
-/
import Derived.Deep.RegionHeld3
import Derived.Test.YtlbkhiphnllfpamPrt
import Derived.Test.YtlbkhiphnllfpamDiv3
import Derived.Test.YtlbkhiphnllfpamSgn7
import Derived.Test.YtlbkhiphnllfpamTrnE
import Derived.Test.YtlbkhiphnllfpamCopy
namespace Go.Proofs.Ytlbkhiphnllfpam
open Go.RowKit
set_option linter.unusedVariables false
theorem mdL_length (l : List (Int × Int)) (d : Int) : (mdL l d).length ≤ 40 := by
  have := flo_length (dgs l)
  unfold mdL
  split
  · split
    · exact this.2
    · exact this.1
  · simp
set_option maxHeartbeats 2000000 in
theorem digitsOf_any (v : Value) (l : List (Int × Int)) (base : Nat) (w : World) (hv : HasT w base v l) (hl : l.length ≤ 2000000) :
    Calls Try.prog 47 #[v] w fun e w' => ∃ u, e = .returned u ∧ Has w' w.heap.size u (dgs l) ∧ Below w.heap.size w w' := by
  obtain ⟨i0, hi, hz0, hz1, hz2⟩ := info_parts info64
  obtain ⟨a, ca, rfl, hg⟩ := hv.form
  have HG : Hid (0 < l.length → ∃ g, a = some ⟨g, 0, none⟩ ∧ g < w.heap.size ∧ (∀ i p, l[i]? = some p → w.cell? ⟨g, i * 2, none⟩ = some (.int .i64 p.1) ∧ w.cell? ⟨g, i * 2 + 1, none⟩ = some (.int .i64 p.2))) := hg
  clear hv hg
  have hdl : (dgs l).length = l.length := by unfold dgs; simp
  obtain ⟨w1, hrun, hown, hgrow⟩ := run_make_full (P := Try.prog) w w.heap.size 29 2 i0 (.int .i64 0) 1 Try.underlying29 hi hz0 hz1 .i64 .i64 l.length (by rw [hz2]; omega) (by unfold maxLen; omega) (Nat.le_refl _)
  have hb1 : Below w.heap.size w w1 := Below.grown (Below.refl _ _) hgrow (Nat.le_refl _) (fun k hk => by cases hk)
  have Ho : Hid (Has w1 w.heap.size (.slice (some ⟨w.heap.size, 0, none⟩) l.length l.length) (cp (dgs l) 0)) := by
    rw [show cp (dgs l) 0 = List.replicate l.length 0 by show List.replicate (dgs l).length 0 = _; rw [hdl]]; exact made_own _ w w1 _ (by simpa using hown)
  have hrun' : (Instr.makeSlice 29 (.int .i64 (l.length : Int)) (.int .i64 (l.length : Int))).run Try.prog w = .ok (.slice (some ⟨w.heap.size, 0, none⟩) l.length l.length) w1 := hrun
  have Hs1 : Hid (w.heap.size + 1 ≤ w1.heap.size) := by
    have := (Has.own (by simpa using Ho.out)) w.heap.size rfl
    show _ ≤ _; omega
  have Hall : Hid (cp (dgs l) l.length = dgs l) := by show _ = _; rw [← hdl]; exact cp_all _
  have Hnx : Hid (∀ k p, l[k]? = some p → (cp (dgs l) k).set k p.1 = cp (dgs l) (k + 1)) := fun k p h => by
    show _ = (cp (dgs l) k).set k ((dgs l).getD k 0)
    congr 1
    unfold dgs
    simp [List.getD, h]
  have Hln : Hid (∀ k, (cp (dgs l) k).length = l.length) := fun k => by rw [cp_length]; exact hdl
  clear hrun hown hgrow hdl
  go_enter Try.func47, Try.ntmps47
  go_wp2
  go_loopw [11] (fun i wr => ∃ k : Nat, k ≤ l.length ∧ i = .int .i64 k ∧ Hid (Has wr w.heap.size (.slice (some ⟨w.heap.size, 0, none⟩) l.length l.length) (cp (dgs l) k)) ∧ Hid (w.heap.size + 1 ≤ wr.heap.size) ∧ Below w.heap.size w wr) (fun i _ => l.length - (intOf i).toNat)
  case atStart => exact ⟨0, Nat.zero_le _, rfl, Ho, Hs1, hb1⟩
  case round =>
    obtain ⟨k, hk, rfl, hown, hsz, hbel⟩ := hrel
    clear Ho Hs1 hb1
    by_cases hlt : k < l.length
    · have hlt' : (k : Int) < (l.length : Int) := by omega
      obtain ⟨g, rfl, hg, hc0⟩ := HG.out (by omega)
      have hget : l[k]? = some l[k] := List.getElem?_eq_getElem hlt
      have hca := (hbel.cell (p := ⟨g, k * 2, none⟩) hg).trans (hc0 k _ hget).1
      have hcb := (hbel.cell (p := ⟨g, k * 2 + 1, none⟩) hg).trans (hc0 k _ hget).2
      have hst : wr.ownsRow w.heap.size 2 1 (.slice (some ⟨w.heap.size, 0, none⟩) l.length l.length) l.length ((cp (dgs l) k).map (Value.int .i64)) := by
        have := hown.out; unfold Has at this; rw [Hln.out] at this; exact this
      have hnx := Hnx.out k _ hget
      generalize l[k].1 = x at *
      generalize l[k].2 = y at *
      have hsz' := hsz.out
      have Hin : Hid (∀ W, Below wr.heap.size wr W → W.cell? ⟨w.heap.size, k, none⟩ = some (.int .i64 ((cp (dgs l) k).getD k 0)) ∧ W.frozen? ⟨w.heap.size, k, none⟩ = false ∧
          Has (W.setCell ⟨w.heap.size, k, none⟩ (.int .i64 x)) w.heap.size (.slice (some ⟨w.heap.size, 0, none⟩) l.length l.length) (cp (dgs l) (k + 1))) := fun W hb => by
        have hst' : W.ownsRow w.heap.size 2 1 (.slice (some ⟨w.heap.size, 0, none⟩) l.length l.length) l.length ((cp (dgs l) k).map (Value.int .i64)) := own_below hst hb (Nat.le_refl _)
        refine ⟨?_, World.ownsRow.frozenAt hst' k, ?_⟩
        · rw [World.ownsRow.cellAt hst' k (by omega)]
          simp only [List.getElem?_map, List.getD]
          rw [List.getElem?_eq_getElem (by rw [Hln.out]; omega)]
          rfl
        · have := (World.ownsRow.stored hst' k (.int .i64 x)).1
          unfold Has
          rw [Hln.out, ← hnx]
          simpa using this
      have hB3 : Below wr.heap.size wr (wr.alloc (.cells #[.int .i64 x, .int .i64 y] 50)) := (Below.refl _ _).alloc (Nat.le_refl _) _
      obtain ⟨hcs, hf, hnew⟩ := Hin.out _ hB3
      have Hnew : Hid (Has _ _ _ _) := hnew
      have HB3 : Hid (Below _ _ _) := bel1 hbel hB3
      clear hnew hst hown hc0 Hin hB3 hnx
      generalize (cp (dgs l) k).getD k 0 = o at *
      go_wp2
      go_roundw
      case rel => exact ⟨k + 1, by omega, by go_num, Hnew, by show _ ≤ _; simp; omega, HB3.out.setCell (Nat.le_refl _) _⟩
      case measure => simp [intOf]; omega
    · obtain e : k = l.length := by omega
      subst e
      go_wp2
      go_ret
      exact ⟨_, rfl, by rw [← Hall.out]; exact hown.out, hbel⟩
set_option maxHeartbeats 2000000 in
theorem iMended_any (v : Value) (l : List (Int × Int)) (d : Int) (base : Nat) (w : World) (hv : HasT w base v l) (hl : l.length ≤ 2000000) (hd64 : -9223372036854775808 ≤ d ∧ d ≤ 9223372036854775807) :
    Calls Try.prog 24 #[v, .int .i64 d] w fun e w' => ∃ u, e = .returned (.tuple #[u, .int .i64 (mdR l d), .bool (mok l d)]) ∧ Has w' w.heap.size u (mdL l d) ∧ Below w.heap.size w w' := by
  have HV : Hid (HasT w base v l) := hv
  obtain ⟨a, cap, rfl, hg⟩ := hv.form
  have HG : Hid (0 < l.length → ∃ g, a = some ⟨g, 0, none⟩ ∧ g < w.heap.size ∧ (∀ i p, l[i]? = some p → w.cell? ⟨g, i * 2, none⟩ = some (.int .i64 p.1) ∧ w.cell? ⟨g, i * 2 + 1, none⟩ = some (.int .i64 p.2))) := hg
  have HN0 : Hid (∀ W, Below w.heap.size w W → Has (W.alloc (.cells #[] 2)) w.heap.size (.slice (some ⟨W.heap.size, 0, none⟩) 0 0) [] ∧ Below w.heap.size w (W.alloc (.cells #[] 2))) := fun W hb => ⟨(none_own W).mono hb.size, hb.alloc hb.size _⟩
  clear hv hg
  by_cases h0 : l.length < 1
  · have h0' : (l.length : Int) < 1 := by omega
    have hm : mok l d = false := by unfold mok; rw [decide_eq_false (by omega)]; rfl
    have e1 : mdL l d = [] := by unfold mdL; rw [hm]; rfl
    have e2 : mdR l d = 0 := by unfold mdR; rw [hm]; rfl
    rw [hm, e1, e2]
    clear hm e1 e2
    go_enter Try.func24, Try.ntmps24
    go_wp2
    go_ret3
    exact ⟨_, rfl, (HN0.out _ (Below.refl _ _)).1, (HN0.out _ (Below.refl _ _)).2⟩
  have h0' : ¬ (l.length : Int) < 1 := by omega
  by_cases h18 : 18 < l.length
  · have h18' : (18 : Int) < (l.length : Int) := by omega
    have hm : mok l d = false := by unfold mok; rw [decide_eq_false (by omega)]; rfl
    have e1 : mdL l d = [] := by unfold mdL; rw [hm]; rfl
    have e2 : mdR l d = 0 := by unfold mdR; rw [hm]; rfl
    rw [hm, e1, e2]
    clear hm e1 e2
    go_enter Try.func24, Try.ntmps24
    go_wp2
    go_ret3
    exact ⟨_, rfl, (HN0.out _ (Below.refl _ _)).1, (HN0.out _ (Below.refl _ _)).2⟩
  have h18' : ¬ (18 : Int) < (l.length : Int) := by omega
  cases hp : prt d with
  | false =>
    have hm : mok l d = false := by unfold mok; rw [decide_eq_false (by unfold prt at hp; simp only [decide_eq_false_iff_not] at hp; omega)]; rfl
    have e1 : mdL l d = [] := by unfold mdL; rw [hm]; rfl
    have e2 : mdR l d = 0 := by unfold mdR; rw [hm]; rfl
    rw [hm, e1, e2]
    have HP : Hid (prt d = false) := hp
    clear hm e1 e2 hp
    go_enter Try.func24, Try.ntmps24
    go_wp2_with fail
    refine (isPart_any d _).mono ?_
    rintro e w' ⟨rfl, hw⟩
    obtain rfl := hw.symm
    rw [HP.out]
    go_wp2
    go_ret3
    exact ⟨_, rfl, (HN0.out _ (Below.refl _ _)).1, (HN0.out _ (Below.refl _ _)).2⟩
  | true =>
    have hd : 1 ≤ d ∧ d ≤ 100000000 := of_decide_eq_true hp
    obtain ⟨hd1, hd2⟩ := hd
    obtain ⟨g, rfl, hgl, hcell⟩ := HG.out (by omega)
    have hlast : l[l.length - 1]? = some l[l.length - 1] := List.getElem?_eq_getElem (by omega)
    have hcl := (hcell (l.length - 1) _ hlast).2
    have hL : lst l = l[l.length - 1].2 := by unfold lst; rw [List.getD, hlast]; rfl
    rw [← hL] at hcl
    have Hcl : Hid (w.cell? ⟨g, (l.length - 1) * 2 + 1, none⟩ = some (.int .i64 (lst l))) := hcl
    have hix0 : 0 ≤ (l.length : Int) - 1 := by omega
    have hix1 : (l.length : Int) - 1 < (l.length : Int) := by omega
    have hix2 : ((l.length : Int) - 1).toNat = l.length - 1 := by omega
    have HP : Hid (prt d = true) := hp
    have hdl : (dgs l).length = l.length := by unfold dgs; simp
    have H41 : Hid (l3 (dgs l) = rng (-9) 9 (dgs l)) := l3_rng _ (by omega)
    have Hmok : Hid (mok l d = (l3 (dgs l) && decide (-d < lst l ∧ lst l < d))) := by
      show _ = _; unfold mok; rw [decide_eq_true ⟨⟨by omega, by omega⟩, hd1, hd2⟩]; rfl
    have HL : Hid (mdL l d = if mok l d then (if lst l < 0 then (flo (dgs l)).2 else (flo (dgs l)).1) else []) := rfl
    have HR : Hid (mdR l d = if mok l d then (if lst l < 0 then lst l + d else lst l) else 0) := rfl
    have HD : Hid (∀ W, Below w.heap.size w W → Calls Try.prog 47 #[.slice (some ⟨g, 0, none⟩) l.length cap] W fun e w' => ∃ u, e = .returned u ∧ Has w' W.heap.size u (dgs l) ∧ Below W.heap.size W w') := fun W hb => digitsOf_any _ l base W (HV.out.below hb (Nat.le_refl _)) (by omega)
    have HA : Hid (∀ W v base, Has W base v (dgs l) → Calls Try.prog 48 #[v] W fun e w' => e = .returned (.bool (l3 (dgs l))) ∧ w' = W) := fun W v base h => by
      rw [H41.out]; exact allSigned_any v (dgs l) base W h
    have HF : Hid (∀ W v base, Has W base v (dgs l) → Calls Try.prog 49 #[v] W fun e w' => ∃ q m, e = .returned (.tuple #[q, m]) ∧ Has w' W.heap.size q (flo (dgs l)).1 ∧ Has w' W.heap.size m (flo (dgs l)).2 ∧ (∀ k, q.ownBlock = some k → m.ownBlock ≠ some k) ∧ Below W.heap.size W w') := fun W v base h => iFlight_any v (dgs l) base W h
    clear hcl hL hlast hcell HG hp H41 HV hdl
    generalize (flo (dgs l)).1 = F1 at *
    generalize (flo (dgs l)).2 = F2 at *
    generalize l3 (dgs l) = K at *
    generalize lst l = r at *
    go_enter Try.func24, Try.ntmps24
    go_wp2_with fail
    refine (isPart_any d _).mono ?_
    rintro e w' ⟨rfl, hw⟩
    obtain rfl := hw.symm
    rw [HP.out]
    have hcl0 := Hcl.out
    have hwr : IntKind.i64.wrap ((l.length : Int) - 1) = (l.length : Int) - 1 := wrap_fit _ (by omega) (by omega)
    go_upto_region 3 with fail
    go_region_held3 (fun W => W.cell? ⟨g, (l.length - 1) * 2 + 1, none⟩ = some (.int .i64 r)) (first | (simp [*]; done) | (exact (hbD.cell (p := ⟨g, (l.length - 1) * 2 + 1, none⟩) (by simpa using hgl)).trans (by simpa using Hcl.out)))
      (first | (go_at_call 47; refine (HD.out _ ((Below.refl _ _).drew)).mono ?_; rintro e w2 ⟨u, rfl, hu, hbD⟩))
    have hu2 : Hid (Has w2 w.heap.size u (dgs l)) := hu
    have hB2 : Below w.heap.size w w2 := ((Below.refl w.heap.size w).drew).trans hbD
    have hs2 := hB2.size
    clear hu hbD HD hcl0 Hcl hwr hix0 hix1 hix2 HP
    cases K with
    | false =>
      have hm : mok l d = false := Hmok.out
      rw [hm] at HL HR
      have HM : Hid (mok l d = false) := hm
      clear hm Hmok
      go_wp2_with fail
      refine (HA.out _ _ _ hu2.out).mono ?_
      rintro e w' ⟨rfl, hw⟩
      obtain rfl := hw.symm
      go_wp2
      go_ret3
      exact ⟨_, by rw [HM.out, HR.out]; rfl, by rw [HL.out]; exact (HN0.out _ hB2).1, (HN0.out _ hB2).2⟩
    | true =>
      by_cases hr1 : r ≤ -d
      · have hm : mok l d = false := by rw [Hmok.out, decide_eq_false (by omega)]; rfl
        rw [hm] at HL HR
        have HM : Hid (mok l d = false) := hm
        clear hm Hmok
        go_wp2_with fail
        refine (HA.out _ _ _ hu2.out).mono ?_
        rintro e w' ⟨rfl, hw⟩
        obtain rfl := hw.symm
        go_wp2
        go_ret3
        exact ⟨_, by rw [HM.out, HR.out]; rfl, by rw [HL.out]; exact (HN0.out _ hB2).1, (HN0.out _ hB2).2⟩
      · by_cases hr2 : d ≤ r
        · have hm : mok l d = false := by rw [Hmok.out, decide_eq_false (by omega)]; rfl
          rw [hm] at HL HR
          have HM : Hid (mok l d = false) := hm
          clear hm Hmok
          go_wp2_with fail
          refine (HA.out _ _ _ hu2.out).mono ?_
          rintro e w' ⟨rfl, hw⟩
          obtain rfl := hw.symm
          go_wp2
          go_ret3
          exact ⟨_, by rw [HM.out, HR.out]; rfl, by rw [HL.out]; exact (HN0.out _ hB2).1, (HN0.out _ hB2).2⟩
        · have hm : mok l d = true := by rw [Hmok.out, decide_eq_true (by omega)]; rfl
          rw [hm] at HL HR
          have HM : Hid (mok l d = true) := hm
          clear hm Hmok
          by_cases hr3 : r < 0
          · have HL2 : Hid (mdL l d = F2) := by show _ = _; rw [HL.out, if_pos rfl, if_pos hr3]
            have HR2 : Hid (mdR l d = r + d) := by show _ = _; rw [HR.out, if_pos rfl, if_pos hr3]
            go_wp2_with fail
            refine (HA.out _ _ _ hu2.out).mono ?_
            rintro e w' ⟨rfl, hw⟩
            obtain rfl := hw.symm
            go_wp2_with fail
            refine (HF.out _ _ _ hu2.out).mono ?_
            rintro e w5 ⟨q, m, rfl, hq, hm, -, hb5⟩
            go_wp2
            go_ret3
            exact ⟨_, by rw [HM.out, HR2.out]; rfl, by rw [HL2.out]; exact hm.mono hs2, hB2.trans (hb5.mono hs2)⟩
          · have HL2 : Hid (mdL l d = F1) := by show _ = _; rw [HL.out, if_pos rfl, if_neg hr3]
            have HR2 : Hid (mdR l d = r) := by show _ = _; rw [HR.out, if_pos rfl, if_neg hr3]
            go_wp2_with fail
            refine (HA.out _ _ _ hu2.out).mono ?_
            rintro e w' ⟨rfl, hw⟩
            obtain rfl := hw.symm
            go_wp2_with fail
            refine (HF.out _ _ _ hu2.out).mono ?_
            rintro e w5 ⟨q, m, rfl, hq, hm, -, hb5⟩
            go_wp2
            go_ret3
            exact ⟨_, by rw [HM.out, HR2.out]; rfl, by rw [HL2.out]; exact hq.mono hs2, hB2.trans (hb5.mono hs2)⟩
end Go.Proofs.Ytlbkhiphnllfpam
