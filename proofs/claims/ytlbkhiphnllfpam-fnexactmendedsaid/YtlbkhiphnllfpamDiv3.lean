/-
  Mended of the model, walked.
-/
import Derived.Test.YtlbkhiphnllfpamApp
import Derived.Test.YtlbkhiphnllfpamTrn
import Derived.Test.YtlbkhiphnllfpamSgn6
namespace Go.Proofs.Ytlbkhiphnllfpam
open Go.RowKit
set_option linter.unusedVariables false
def dgs (l : List (Int × Int)) : List Int := l.map (·.1)
def lst (l : List (Int × Int)) : Int := (l.getD (l.length - 1) (0, 0)).2
/-- What Mended takes, and what it gives. -/
def mok (l : List (Int × Int)) (d : Int) : Bool := decide ((l.length ≠ 0 ∧ l.length ≤ 18) ∧ (1 ≤ d ∧ d ≤ 100000000)) && (l3 (dgs l) && decide (-d < lst l ∧ lst l < d))
def mdL (l : List (Int × Int)) (d : Int) : List Int := if mok l d then (if lst l < 0 then (flo (dgs l)).2 else (flo (dgs l)).1) else []
def mdR (l : List (Int × Int)) (d : Int) : Int := if mok l d then (if lst l < 0 then lst l + d else lst l) else 0
theorem dgs_take (l : List (Int × Int)) (j : Nat) (h : j < l.length) : dgs (l.take (j + 1)) = dgs (l.take j) ++ [l[j].1] := by
  unfold dgs; rw [List.take_add_one, List.getElem?_eq_getElem h, List.map_append]; rfl
set_option maxHeartbeats 2000000 in
theorem sMended_any (v : Value) (l : List (Int × Int)) (d : Int) (base : Nat) (w : World) (hv : HasT w base v l) (hl : l.length ≤ 2000000) (hd64 : -9223372036854775808 ≤ d ∧ d ≤ 9223372036854775807) :
    Calls Try.prog 22 #[v, .int .i64 d] w fun e w' => ∃ u, e = .returned (.tuple #[u, .int .i64 (mdR l d), .bool (mok l d)]) ∧ Has w' w.heap.size u (mdL l d) ∧ Below w.heap.size w w' := by
  obtain ⟨a, cap, rfl, hg⟩ := hv.form
  have HG : Hid (0 < l.length → ∃ g, a = some ⟨g, 0, none⟩ ∧ g < w.heap.size ∧ (∀ i p, l[i]? = some p → w.cell? ⟨g, i * 2, none⟩ = some (.int .i64 p.1) ∧ w.cell? ⟨g, i * 2 + 1, none⟩ = some (.int .i64 p.2))) := hg
  have HB0 : Hid (Below w.heap.size w (w.alloc (.cells #[] 2))) := (Below.refl _ _).alloc (Nat.le_refl _) _
  have HO : Hid (HasN (w.alloc (.cells #[] 2)) w.heap.size (.slice (some ⟨w.heap.size, 0, none⟩) 0 0) []) := none_ownN w
  clear hv hg
  by_cases h1 : (l.length ≠ 0 ∧ l.length ≤ 18) ∧ (1 ≤ d ∧ d ≤ 100000000)
  · obtain ⟨⟨hn0, hn18⟩, hd1, hd2⟩ := h1
    obtain ⟨g, rfl, hgl, hcell⟩ := HG.out (by omega)
    have hn0' : ((l.length : Int) == 0) = false := by simpa using hn0
    have hn18' : ¬ (18 : Int) < (l.length : Int) := by omega
    have hlast : l[l.length - 1]? = some l[l.length - 1] := List.getElem?_eq_getElem (by omega)
    have hcl := (hcell (l.length - 1) _ hlast).2
    have hL : lst l = l[l.length - 1].2 := by unfold lst; rw [List.getD, hlast]; rfl
    rw [← hL] at hcl
    have hix0 : 0 ≤ (l.length : Int) - 1 := by omega
    have hix1 : (l.length : Int) - 1 < (l.length : Int) := by omega
    have hix2 : ((l.length : Int) - 1).toNat = l.length - 1 := by omega
    have Hcl : Hid (w.cell? ⟨g, (l.length - 1) * 2 + 1, none⟩ = some (.int .i64 (lst l))) := hcl
    have HC : Hid (∀ i p, l[i]? = some p → w.cell? ⟨g, i * 2, none⟩ = some (.int .i64 p.1)) := fun i p h => (hcell i p h).1
    have H3 : Hid (∀ W v base, Has W base v (dgs l) → Calls Try.prog 44 #[v] W fun e w' => e = .returned (.bool (l3 (dgs l))) ∧ w' = W) := fun W v base h => l3Ok_any v (dgs l) base W h
    have hdl : (dgs l).length = l.length := by unfold dgs; simp
    have HF : Hid (∀ W v base, Has W base v (dgs l) → l3 (dgs l) = true → Calls Try.prog 45 #[v] W fun e w' => ∃ q m, e = .returned (.tuple #[q, m]) ∧ Has w' W.heap.size q (flo (dgs l)).1 ∧ Has w' W.heap.size m (flo (dgs l)).2 ∧ Below W.heap.size W w') := fun W v base h hk => sFlight_yes v (dgs l) base W h hk (by omega)
    have Hmok : Hid (mok l d = (l3 (dgs l) && decide (-d < lst l ∧ lst l < d))) := by
      show _ = _; unfold mok; rw [decide_eq_true ⟨⟨hn0, hn18⟩, hd1, hd2⟩]; rfl
    have HL : Hid (mdL l d = if mok l d then (if lst l < 0 then (flo (dgs l)).2 else (flo (dgs l)).1) else []) := rfl
    have HR : Hid (mdR l d = if mok l d then (if lst l < 0 then lst l + d else lst l) else 0) := rfl
    have HD0 : Hid (dgs (l.take 0) = []) := rfl
    have HDt : Hid (∀ j (h : j < l.length), dgs (l.take (j + 1)) = dgs (l.take j) ++ [l[j].1]) := fun j h => dgs_take l j h
    have HDl : Hid (∀ j, j ≤ l.length → (dgs (l.take j)).length = j) := fun j h => by unfold dgs; simp; omega
    have HDe : Hid (dgs (l.take l.length) = dgs l) := by show _ = _; rw [List.take_length]
    clear hcl hL hlast hcell HG
    go_enter Try.func22, Try.ntmps22
    go_wp2_with fail
    refine (l1In_yes d 1 100000000 _ hd1 hd2).mono ?_
    rintro e w' ⟨rfl, hw⟩
    obtain rfl := hw.symm
    go_wp2
    go_loopw [8, 9] (fun v i wr => ∃ j : Nat, j ≤ l.length ∧ i = .int .i64 (j : Int) ∧ Hid (HasN wr w.heap.size v (dgs (l.take j))) ∧ Below w.heap.size w wr) (fun _ i _ => l.length - (intOf i).toNat)
    case atStart => exact ⟨0, Nat.zero_le _, rfl, by rw [HD0.out]; exact HO, HB0.out⟩
    case round =>
      clear HO HB0
      obtain ⟨j, hj, rfl, hown, hbel⟩ := hrel
      have hsz := hbel.size
      by_cases hlt : j < l.length
      · have hget : l[j]? = some l[j] := List.getElem?_eq_getElem hlt
        have hc := (hbel.cell (p := ⟨g, j * 2, none⟩) hgl).trans (HC.out j _ hget)
        have HT := HDt.out j hlt
        have HT' : Hid (dgs (l.take (j + 1)) = dgs (l.take j) ++ [l[j].1]) := HT
        have hdl2 := HDl.out j hj
        have hin : (j : Int) < (l.length : Int) := by omega
        clear HT hget
        generalize dgs (l.take j) = P0 at *
        generalize l[j].1 = y at *
        go_wp2_with (first | (at_builtin; refine wpList_app rfl _ _ rfl _ _ rfl rfl w.heap.size wr.heap.size P0 [y] (hown.out.alloc _) (one_ownN wr _) (by simp; omega) (by simp; omega) ?_; intro v' w4 hown4 hb4) | go_in)
        have hB4 : Below w.heap.size w w4 := hb4.out _ _ (hbel.alloc hsz _) (Nat.le_refl _)
        clear hb4
        go_roundw
        case rel => exact ⟨j + 1, by omega, by go_num, by rw [HT'.out]; exact hown4, hB4⟩
        case measure => simp [intOf]; omega
      · have e : j = l.length := by omega
        subst e
        have hcl := (hbel.cell (p := ⟨g, (l.length - 1) * 2 + 1, none⟩) hgl).trans Hcl.out
        rw [HDe.out] at hown
        clear HC Hcl HDt HDl HDe HD0
        generalize lst l = r at *
        cases hk : l3 (dgs l) with
        | false =>
          rw [hk] at H3 Hmok
          have hm : mok l d = false := Hmok.out
          rw [hm] at HL HR
          have HM : Hid (mok l d = false) := hm
          clear hm hk HF Hmok
          have HN : Hid (Has (wr.alloc (.cells #[] 2)) w.heap.size (.slice (some ⟨wr.heap.size, 0, none⟩) 0 0) []) := (none_ownN wr).1.mono hsz
          have HBn : Hid (Below w.heap.size w (wr.alloc (.cells #[] 2))) := hbel.alloc hsz _
          go_wp2_with fail
          refine (H3.out _ _ _ hown.out.1).mono ?_
          rintro e w' ⟨rfl, hw⟩
          obtain rfl := hw.symm
          go_wp2
          go_ret3
          exact ⟨_, by rw [HM.out, HR.out]; rfl, by rw [HL.out]; exact HN.out, HBn.out⟩
        | true =>
          have HFk : Hid (∀ W v base, Has W base v (dgs l) → Calls Try.prog 45 #[v] W fun e w' => ∃ q m, e = .returned (.tuple #[q, m]) ∧ Has w' W.heap.size q (flo (dgs l)).1 ∧ Has w' W.heap.size m (flo (dgs l)).2 ∧ Below W.heap.size W w') := fun W v base h => HF.out W v base h hk
          rw [hk] at H3 Hmok
          by_cases hr1 : r ≤ -d
          · have hm : mok l d = false := by rw [Hmok.out, decide_eq_false (by omega)]; rfl
            rw [hm] at HL HR
            have HM : Hid (mok l d = false) := hm
            clear hm hk HF Hmok HFk
            have HN : Hid (Has (wr.alloc (.cells #[] 2)) w.heap.size (.slice (some ⟨wr.heap.size, 0, none⟩) 0 0) []) := (none_ownN wr).1.mono hsz
            have HBn : Hid (Below w.heap.size w (wr.alloc (.cells #[] 2))) := hbel.alloc hsz _
            go_wp2_with fail
            refine (H3.out _ _ _ hown.out.1).mono ?_
            rintro e w' ⟨rfl, hw⟩
            obtain rfl := hw.symm
            go_wp2
            go_ret3
            exact ⟨_, by rw [HM.out, HR.out]; rfl, by rw [HL.out]; exact HN.out, HBn.out⟩
          · by_cases hr2 : d ≤ r
            · have hm : mok l d = false := by rw [Hmok.out, decide_eq_false (by omega)]; rfl
              rw [hm] at HL HR
              have HM : Hid (mok l d = false) := hm
              clear hm hk HF Hmok HFk
              have HN : Hid (Has (wr.alloc (.cells #[] 2)) w.heap.size (.slice (some ⟨wr.heap.size, 0, none⟩) 0 0) []) := (none_ownN wr).1.mono hsz
              have HBn : Hid (Below w.heap.size w (wr.alloc (.cells #[] 2))) := hbel.alloc hsz _
              go_wp2_with fail
              refine (H3.out _ _ _ hown.out.1).mono ?_
              rintro e w' ⟨rfl, hw⟩
              obtain rfl := hw.symm
              go_wp2
              go_ret3
              exact ⟨_, by rw [HM.out, HR.out]; rfl, by rw [HL.out]; exact HN.out, HBn.out⟩
            · have hm : mok l d = true := by rw [Hmok.out, decide_eq_true (by omega)]; rfl
              rw [hm] at HL HR
              have HM : Hid (mok l d = true) := hm
              clear hm hk HF Hmok
              by_cases hr3 : r < 0
              · have HL2 : Hid (mdL l d = (flo (dgs l)).2) := by show _ = _; rw [HL.out, if_pos rfl, if_pos hr3]
                have HR2 : Hid (mdR l d = r + d) := by show _ = _; rw [HR.out, if_pos rfl, if_pos hr3]
                go_wp2_with fail
                refine (H3.out _ _ _ hown.out.1).mono ?_
                rintro e w' ⟨rfl, hw⟩
                obtain rfl := hw.symm
                go_wp2_with fail
                refine (HFk.out _ _ _ hown.out.1).mono ?_
                rintro e w5 ⟨q, m, rfl, hq, hm, hb5⟩
                go_wp2
                go_ret3
                exact ⟨_, by rw [HM.out, HR2.out]; rfl, by rw [HL2.out]; exact hm.mono hsz, hbel.trans (hb5.mono hsz)⟩
              · have HL2 : Hid (mdL l d = (flo (dgs l)).1) := by show _ = _; rw [HL.out, if_pos rfl, if_neg hr3]
                have HR2 : Hid (mdR l d = r) := by show _ = _; rw [HR.out, if_pos rfl, if_neg hr3]
                go_wp2_with fail
                refine (H3.out _ _ _ hown.out.1).mono ?_
                rintro e w' ⟨rfl, hw⟩
                obtain rfl := hw.symm
                go_wp2_with fail
                refine (HFk.out _ _ _ hown.out.1).mono ?_
                rintro e w5 ⟨q, m, rfl, hq, hm, hb5⟩
                go_wp2
                go_ret3
                exact ⟨_, by rw [HM.out, HR2.out]; rfl, by rw [HL2.out]; exact hq.mono hsz, hbel.trans (hb5.mono hsz)⟩
  · have hm : mok l d = false := by unfold mok; rw [decide_eq_false h1]; rfl
    have e1 : mdL l d = [] := by unfold mdL; rw [hm]; rfl
    have e2 : mdR l d = 0 := by unfold mdR; rw [hm]; rfl
    rw [hm, e1, e2]
    clear hm e1 e2
    by_cases h2 : l.length = 0
    · rw [h2]
      clear h1
      go_enter Try.func22, Try.ntmps22
      go_wp2
      go_ret3
      exact ⟨_, rfl, HO.out.1, HB0.out⟩
    · have h2' : ((l.length : Int) == 0) = false := by simpa using h2
      by_cases h3 : 18 < l.length
      · have h3' : (18 : Int) < (l.length : Int) := by omega
        clear h1
        go_enter Try.func22, Try.ntmps22
        go_wp2
        go_ret3
        exact ⟨_, rfl, HO.out.1, HB0.out⟩
      · have h3' : ¬ (18 : Int) < (l.length : Int) := by omega
        have h4 : d < 1 ∨ 100000000 < d := by omega
        clear h1
        go_enter Try.func22, Try.ntmps22
        go_wp2_with fail
        refine (l1In_no d 1 100000000 _ h4).mono ?_
        rintro e w' ⟨rfl, hw⟩
        obtain rfl := hw.symm
        go_wp2
        go_ret3
        exact ⟨_, rfl, HO.out.1, HB0.out⟩
end Go.Proofs.Ytlbkhiphnllfpam
