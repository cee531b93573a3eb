/-
  The model's two registers, walked.
-/
import Derived.Test.YtlbkhiphnllfpabSgn
import Derived.Test.YtlbkhiphnllfpabApp
namespace Go.Proofs.Ytlbkhiphnllfpab
open Go.RowKit
set_option linter.unusedVariables false
/-- What Flight takes. -/
def fok (ds : List Int) : Bool := l3 ds && decide (ds.length ≤ 40)
/-- What Flight gives. -/
def flo (ds : List Int) : List Int × List Int := if fok ds then reg ds ds.length else ([], [])
theorem fok_not (ds : List Int) (h : l3 ds = false) : fok ds = false := by unfold fok; rw [h]; rfl
theorem fok_big (ds : List Int) (h : 40 < ds.length) : fok ds = false := by
  unfold fok; rw [decide_eq_false (p := ds.length ≤ 40) (by omega)]; simp
theorem fok_yes (ds : List Int) (h : l3 ds = true) (hl : ds.length ≤ 40) : fok ds = true := by
  unfold fok; rw [h, decide_eq_true hl]; rfl
theorem flo_length (ds : List Int) : (flo ds).1.length ≤ 40 ∧ (flo ds).2.length ≤ 40 := by
  unfold flo; split
  · rename_i h; rw [(reg_length ds _).1, (reg_length ds _).2]
    rcases Nat.lt_or_ge 40 ds.length with h' | h'
    · rw [fok_big ds h'] at h; cases h
    · omega
  · simp
theorem sFlight_no (v : Value) (ds : List Int) (base : Nat) (w : World) (h : Has w base v ds) (hk : l3 ds = false ∨ 40 < ds.length) :
    Calls Try.prog 13 #[v] w fun e w' => ∃ q m, e = .returned (.tuple #[q, m]) ∧ Has w' w.heap.size q (flo ds).1 ∧ Has w' w.heap.size m (flo ds).2 ∧ Below w.heap.size w w' := by
  have He : Hid (flo ds = ([], [])) := by
    show _ = _
    unfold flo
    rw [show fok ds = false by rcases hk with h | h; exact fok_not ds h; exact fok_big ds h]
    rfl
  obtain ⟨a, ca, rfl, hm⟩ := h.len
  have H : Hid (Has ((w.alloc (.cells #[] 2)).alloc (.cells #[] 2)) base (.slice a ds.length ca) ds) := (h.below ((Below.refl w.heap.size w).alloc (Nat.le_refl _) _) (Nat.le_refl _)).below ((Below.refl _ _).alloc (Nat.le_refl _) _) (Nat.le_refl _)
  have Hq : Hid (Has ((w.alloc (.cells #[] 2)).alloc (.cells #[] 2)) w.heap.size (.slice (some ⟨w.heap.size, 0, none⟩) 0 0) []) := World.ownsRow.alloc (none_own w) _
  have Hm : Hid (Has ((w.alloc (.cells #[] 2)).alloc (.cells #[] 2)) w.heap.size (.slice (some ⟨w.heap.size + 1, 0, none⟩) 0 0) []) := by
    have := (none_own (w.alloc (.cells #[] 2))).mono (base' := w.heap.size) (by simp)
    rw [World.size_alloc] at this
    exact this
  have Hb : Hid (Below w.heap.size w ((w.alloc (.cells #[] 2)).alloc (.cells #[] 2))) := ((Below.refl _ _).alloc (Nat.le_refl _) _).alloc (by simp) _
  have hx : l3 ds = false ∨ (l3 ds = true ∧ (40 : Int) < (ds.length : Int)) := by
    cases e : l3 ds with
    | false => exact .inl rfl
    | true => rcases hk with h | h; rw [e] at h; cases h; exact .inr ⟨rfl, by omega⟩
  clear h hk
  rcases hx with hx | ⟨hx, hbig⟩
  · have Hx : Hid (l3 ds = false) := hx
    clear hx
    go_enter Try.func13, Try.ntmps13
    go_wp2_with fail
    refine (l3Ok_any _ ds base _ H.out).mono ?_
    rintro e w' ⟨rfl, hw⟩
    obtain rfl := hw
    rw [Hx.out]
    go_wp2
    go_ret2
    exact ⟨_, _, rfl, by rw [He.out]; exact Hq.out, by rw [He.out]; exact Hm.out, Hb.out⟩
  · have Hx : Hid (l3 ds = true) := hx
    clear hx
    go_enter Try.func13, Try.ntmps13
    go_wp2_with fail
    refine (l3Ok_any _ ds base _ H.out).mono ?_
    rintro e w' ⟨rfl, hw⟩
    obtain rfl := hw
    rw [Hx.out]
    go_wp2
    go_ret2
    exact ⟨_, _, rfl, by rw [He.out]; exact Hq.out, by rw [He.out]; exact Hm.out, Hb.out⟩
set_option maxHeartbeats 1600000 in
theorem sFlight_yes (v : Value) (ds : List Int) (base : Nat) (w : World) (h : Has w base v ds) (hk : l3 ds = true) (hl : ds.length ≤ 40) :
    Calls Try.prog 13 #[v] w fun e w' => ∃ q m, e = .returned (.tuple #[q, m]) ∧ Has w' w.heap.size q (flo ds).1 ∧ Has w' w.heap.size m (flo ds).2 ∧ Below w.heap.size w w' := by
  have He : Hid (flo ds = reg ds ds.length) := by
    show _ = _; unfold flo; rw [fok_yes ds hk hl]; rfl
  obtain ⟨a, ca, rfl, hm⟩ := h.len
  have H : Hid (Has ((w.alloc (.cells #[] 2)).alloc (.cells #[] 2)) base (.slice a ds.length ca) ds) := (h.below ((Below.refl w.heap.size w).alloc (Nat.le_refl _) _) (Nat.le_refl _)).below ((Below.refl _ _).alloc (Nat.le_refl _) _) (Nat.le_refl _)
  have Hq : Hid (HasN ((w.alloc (.cells #[] 2)).alloc (.cells #[] 2)) w.heap.size (.slice (some ⟨w.heap.size, 0, none⟩) 0 0) []) := (none_ownN w).alloc _
  have Hm : Hid (HasN ((w.alloc (.cells #[] 2)).alloc (.cells #[] 2)) w.heap.size (.slice (some ⟨w.heap.size + 1, 0, none⟩) 0 0) []) := by
    have := (none_ownN (w.alloc (.cells #[] 2))).mono (base' := w.heap.size) (by simp)
    rw [World.size_alloc] at this
    exact this
  have Hb : Hid (Below w.heap.size w ((w.alloc (.cells #[] 2)).alloc (.cells #[] 2))) := ((Below.refl _ _).alloc (Nat.le_refl _) _).alloc (by simp) _
  have Hds : Hid (∀ i, i < ds.length → ∃ g, a = some ⟨g, 0, none⟩ ∧ g < w.heap.size ∧ w.cell? ⟨g, i, none⟩ = some (.int .i64 (ds.getD i 0))) := fun i hi => by
    rcases h.form with ⟨-, e⟩ | ⟨g, cap, e, -, hg, -, hc, -⟩
    · rw [e] at hi; simp at hi
    · exact ⟨g, by cases e; rfl, hg, hc i hi⟩
  have Hx : Hid (l3 ds = true) := hk
  have Hr : Hid (rng (-9) 9 ds = true) := by rw [l3_rng ds (by omega)] at hk; exact hk
  have hl' : ¬ (40 : Int) < (ds.length : Int) := by omega
  clear h hk
  generalize hn : ds.length = n at *
  go_enter Try.func13, Try.ntmps13
  go_wp2_with fail
  refine (l3Ok_any _ ds base _ H.out).mono ?_
  rintro e w' ⟨rfl, hw⟩
  obtain rfl := hw
  rw [Hx.out]
  go_wp2
  go_loopw [4, 5, 6] (fun vq vm i wr => ∃ k : Nat, k ≤ n ∧ i = .int .i64 k ∧ Hid (HasN wr w.heap.size vq (reg ds k).1) ∧ Hid (HasN wr w.heap.size vm (reg ds k).2) ∧ Below w.heap.size w wr) (fun _ _ i _ => n - (intOf i).toNat)
  case atStart => exact ⟨0, Nat.zero_le _, rfl, Hq, Hm, Hb.out⟩
  case round =>
    obtain ⟨k, hk, rfl, HA, HB, hbel⟩ := hrel
    by_cases hlt : k < n
    · have hlt' : (k : Int) < (n : Int) := by omega
      obtain ⟨g, rfl, hg, hc0⟩ := Hds.out k hlt
      have hc := (hbel.cell (p := ⟨g, k, none⟩) hg).trans hc0
      obtain ⟨d, hdd⟩ : ∃ d, d = ds.getD k 0 := ⟨_, rfl⟩
      rw [← hdd] at hc
      have Hd : Hid (d = ds.getD k 0) := hdd
      have hdb := rng_at _ _ ds Hr.out k (by omega)
      rw [← hdd] at hdb
      clear hdd hc0
      have hln := reg_length ds k
      have HlA : Hid ((reg ds k).1.length = k) := hln.1
      have HlB : Hid ((reg ds k).2.length = k) := hln.2
      have Hup : Hid (0 < d → reg ds (k + 1) = ((reg ds k).1 ++ [d], (reg ds k).1 ++ [d - 1])) := fun h => reg_up ds k d Hd.out h
      have Hze : Hid (d = 0 → reg ds (k + 1) = ((reg ds k).1 ++ [0], (reg ds k).2 ++ [9])) := fun h => reg_same ds k (by rw [← Hd.out, h])
      have Hdn : Hid (d < 0 → reg ds (k + 1) = ((reg ds k).2 ++ [10 + d], (reg ds k).2 ++ [9 + d])) := fun h => reg_down ds k d Hd.out h
      have Hfin : Hid (∀ X : List Int × List Int, reg ds (k + 1) = X → ∀ vq vm W2, HasN W2 w.heap.size vq X.1 → HasN W2 w.heap.size vm X.2 → Below w.heap.size w W2 → ∃ q : Nat, q ≤ n ∧ Value.int .i64 ((k : Int) + 1) = .int .i64 q ∧ Hid (HasN W2 w.heap.size vq (reg ds q).1) ∧ Hid (HasN W2 w.heap.size vm (reg ds q).2) ∧ Below w.heap.size w W2) := fun X hX vq vm W2 h1 h2 h3 => ⟨k + 1, by omega, by go_num, by show HasN _ _ _ _; rw [hX]; exact h1, by show HasN _ _ _ _; rw [hX]; exact h2, h3⟩
      clear hln
      generalize reg ds (k + 1) = R at *
      generalize (reg ds k).1 = A at *
      generalize (reg ds k).2 = B at *
      have Hbel : Hid (Below w.heap.size w wr) := hbel
      have hs0 := hbel.size
      clear hbel
      go_wp2_with (first | (at_builtin; refine wpList_app rfl _ _ rfl _ _ rfl rfl wr.heap.size w.heap.size [] A (none_ownN wr) (HA.out.alloc _) (by rw [HlA.out]; simp; omega) (by simp) ?_) | go_in)
      intro va w1 Ha1 hb1
      have HB1 : Hid (HasN w1 w.heap.size _ B) := HB.out.below (hb1.out _ _ ((Below.refl _ _).alloc (Nat.le_refl _) _) (Nat.le_refl _)) (Nat.le_refl _)
      have Hb1 : Hid (Below w.heap.size w w1) := hb1.out _ _ (Hbel.out.alloc hs0 _) hs0
      have hs1 : w.heap.size ≤ w1.heap.size := Hb1.out.size
      clear hb1 Hbel HA HB
      go_wp2_with (first | (at_builtin; refine wpList_app rfl _ _ rfl _ _ rfl rfl w1.heap.size w.heap.size [] B (none_ownN w1) (HB1.out.alloc _) (by rw [HlB.out]; simp; omega) (by simp) ?_) | go_in)
      intro vb w2 Hb2 hb2
      have HxA : Hid (HasN w2 w.heap.size va A) := (Ha1.out.mono (by omega)).below (hb2.out _ _ ((Below.refl _ _).alloc (Nat.le_refl _) _) (Nat.le_refl _)) (Nat.le_refl _)
      have HxB : Hid (HasN w2 w.heap.size vb B) := Hb2.out.mono (by omega)
      have Hb2' : Hid (Below w.heap.size w w2) := hb2.out _ _ (Hb1.out.alloc hs1 _) hs1
      have hs2 : w.heap.size ≤ w2.heap.size := Hb2'.out.size
      clear hb2 Hb1 Ha1 Hb2 HB1
      by_cases hp : 0 < d
      · have hge : 0 ≤ d := by omega
        go_wp2_with (first | (at_builtin; refine wpList_app rfl _ _ rfl _ _ rfl rfl w2.heap.size w.heap.size [] A (none_ownN w2) (HxA.out.alloc _) (by rw [HlA.out]; simp; omega) (by simp) ?_) | go_in)
        intro vc1 wc1 Hc1 hc1
        have Hk1 : Hid (Below w2.heap.size w2 wc1) := hc1.out _ _ ((Below.refl _ _).alloc (Nat.le_refl _) _) (Nat.le_refl _)
        have hz1 := Hk1.out.size
        clear hc1
        go_wp2_with (first | (at_builtin; refine wpList_app rfl _ _ rfl _ _ rfl rfl w2.heap.size wc1.heap.size ([] ++ A) [d] (Hc1.out.alloc _) (one_ownN wc1 _) (by rw [List.nil_append, HlA.out]; simp; omega) (by simp; omega) ?_) | go_in)
        intro vd1 wd1 Hd1 hd1
        have Hm1 : Hid (Below w2.heap.size w2 wd1) := hd1.out _ _ (Hk1.out.alloc hz1 _) (Nat.le_refl _)
        have hy1 := Hm1.out.size
        clear hd1 Hk1 Hc1
        have HxA' : Hid (HasN wd1 w.heap.size _ A) := HxA.out.below Hm1.out (Nat.le_refl _)
        go_wp2_with (first | (at_builtin; refine wpList_app rfl _ _ rfl _ _ rfl rfl wd1.heap.size w.heap.size [] A (none_ownN wd1) (HxA'.out.alloc _) (by rw [HlA.out]; simp; omega) (by simp) ?_) | go_in)
        intro vc2 wc2 Hc2 hc2
        have Hk2 : Hid (Below wd1.heap.size wd1 wc2) := hc2.out _ _ ((Below.refl _ _).alloc (Nat.le_refl _) _) (Nat.le_refl _)
        have hz2 := Hk2.out.size
        clear hc2
        go_wp2_with (first | (at_builtin; refine wpList_app rfl _ _ rfl _ _ rfl rfl wd1.heap.size wc2.heap.size ([] ++ A) [d - 1] (Hc2.out.alloc _) (one_ownN wc2 _) (by rw [List.nil_append, HlA.out]; simp; omega) (by simp; omega) ?_) | go_in)
        intro vd2 wd2 Hd2 hd2
        have Hm2 : Hid (Below wd1.heap.size wd1 wd2) := hd2.out _ _ (Hk2.out.alloc hz2 _) (Nat.le_refl _)
        have hy2 := Hm2.out.size
        clear hd2 Hk2 Hc2
        go_wp2
        go_roundw
        case rel => exact Hfin.out (A ++ [d], A ++ [d - 1]) (Hup.out hp) _ _ _ ((Hd1.out.mono (by omega)).below Hm2.out (Nat.le_refl _)) (Hd2.out.mono (by omega)) (Hb2'.out.trans ((Hm1.out.mono (by omega)).trans (Hm2.out.mono (by omega))))
        case measure => simp [intOf]; omega
      · by_cases hz : d < 0
        · have hge : ¬ 0 ≤ d := by omega
          go_wp2_with (first | (at_builtin; refine wpList_app rfl _ _ rfl _ _ rfl rfl w2.heap.size w.heap.size [] B (none_ownN w2) (HxB.out.alloc _) (by rw [HlB.out]; simp; omega) (by simp) ?_) | go_in)
          intro vc1 wc1 Hc1 hc1
          have Hk1 : Hid (Below w2.heap.size w2 wc1) := hc1.out _ _ ((Below.refl _ _).alloc (Nat.le_refl _) _) (Nat.le_refl _)
          have hz1 := Hk1.out.size
          clear hc1
          go_wp2_with (first | (at_builtin; refine wpList_app rfl _ _ rfl _ _ rfl rfl w2.heap.size wc1.heap.size ([] ++ B) [10 + d] (Hc1.out.alloc _) (one_ownN wc1 _) (by rw [List.nil_append, HlB.out]; simp; omega) (by simp; omega) ?_) | go_in)
          intro vd1 wd1 Hd1 hd1
          have Hm1 : Hid (Below w2.heap.size w2 wd1) := hd1.out _ _ (Hk1.out.alloc hz1 _) (Nat.le_refl _)
          have hy1 := Hm1.out.size
          clear hd1 Hk1 Hc1
          have HxB' : Hid (HasN wd1 w.heap.size _ B) := HxB.out.below Hm1.out (Nat.le_refl _)
          go_wp2_with (first | (at_builtin; refine wpList_app rfl _ _ rfl _ _ rfl rfl wd1.heap.size w.heap.size [] B (none_ownN wd1) (HxB'.out.alloc _) (by rw [HlB.out]; simp; omega) (by simp) ?_) | go_in)
          intro vc2 wc2 Hc2 hc2
          have Hk2 : Hid (Below wd1.heap.size wd1 wc2) := hc2.out _ _ ((Below.refl _ _).alloc (Nat.le_refl _) _) (Nat.le_refl _)
          have hz2 := Hk2.out.size
          clear hc2
          go_wp2_with (first | (at_builtin; refine wpList_app rfl _ _ rfl _ _ rfl rfl wd1.heap.size wc2.heap.size ([] ++ B) [9 + d] (Hc2.out.alloc _) (one_ownN wc2 _) (by rw [List.nil_append, HlB.out]; simp; omega) (by simp; omega) ?_) | go_in)
          intro vd2 wd2 Hd2 hd2
          have Hm2 : Hid (Below wd1.heap.size wd1 wd2) := hd2.out _ _ (Hk2.out.alloc hz2 _) (Nat.le_refl _)
          have hy2 := Hm2.out.size
          clear hd2 Hk2 Hc2
          go_wp2
          go_roundw
          case rel => exact Hfin.out (B ++ [10 + d], B ++ [9 + d]) (Hdn.out hz) _ _ _ ((Hd1.out.mono (by omega)).below Hm2.out (Nat.le_refl _)) (Hd2.out.mono (by omega)) (Hb2'.out.trans ((Hm1.out.mono (by omega)).trans (Hm2.out.mono (by omega))))
          case measure => simp [intOf]; omega
        · have e0 : d = 0 := by omega
          subst e0
          go_wp2_with (first | (at_builtin; refine wpList_app rfl _ _ rfl _ _ rfl rfl w2.heap.size w.heap.size [] A (none_ownN w2) (HxA.out.alloc _) (by rw [HlA.out]; simp; omega) (by simp) ?_) | go_in)
          intro vc1 wc1 Hc1 hc1
          have Hk1 : Hid (Below w2.heap.size w2 wc1) := hc1.out _ _ ((Below.refl _ _).alloc (Nat.le_refl _) _) (Nat.le_refl _)
          have hz1 := Hk1.out.size
          clear hc1
          go_wp2_with (first | (at_builtin; refine wpList_app rfl _ _ rfl _ _ rfl rfl w2.heap.size wc1.heap.size ([] ++ A) [0] (Hc1.out.alloc _) (one_ownN wc1 _) (by rw [List.nil_append, HlA.out]; simp; omega) (by simp; omega) ?_) | go_in)
          intro vd1 wd1 Hd1 hd1
          have Hm1 : Hid (Below w2.heap.size w2 wd1) := hd1.out _ _ (Hk1.out.alloc hz1 _) (Nat.le_refl _)
          have hy1 := Hm1.out.size
          clear hd1 Hk1 Hc1
          have HxB' : Hid (HasN wd1 w.heap.size _ B) := HxB.out.below Hm1.out (Nat.le_refl _)
          go_wp2_with (first | (at_builtin; refine wpList_app rfl _ _ rfl _ _ rfl rfl wd1.heap.size w.heap.size [] B (none_ownN wd1) (HxB'.out.alloc _) (by rw [HlB.out]; simp; omega) (by simp) ?_) | go_in)
          intro vc2 wc2 Hc2 hc2
          have Hk2 : Hid (Below wd1.heap.size wd1 wc2) := hc2.out _ _ ((Below.refl _ _).alloc (Nat.le_refl _) _) (Nat.le_refl _)
          have hz2 := Hk2.out.size
          clear hc2
          go_wp2_with (first | (at_builtin; refine wpList_app rfl _ _ rfl _ _ rfl rfl wd1.heap.size wc2.heap.size ([] ++ B) [9] (Hc2.out.alloc _) (one_ownN wc2 _) (by rw [List.nil_append, HlB.out]; simp; omega) (by simp; omega) ?_) | go_in)
          intro vd2 wd2 Hd2 hd2
          have Hm2 : Hid (Below wd1.heap.size wd1 wd2) := hd2.out _ _ (Hk2.out.alloc hz2 _) (Nat.le_refl _)
          have hy2 := Hm2.out.size
          clear hd2 Hk2 Hc2
          go_wp2
          go_roundw
          case rel => exact Hfin.out (A ++ [0], B ++ [9]) (Hze.out (by simp)) _ _ _ ((Hd1.out.mono (by omega)).below Hm2.out (Nat.le_refl _)) (Hd2.out.mono (by omega)) (Hb2'.out.trans ((Hm1.out.mono (by omega)).trans (Hm2.out.mono (by omega))))
          case measure => simp [intOf]; omega
    · obtain rfl : k = n := by omega
      go_wp2
      go_ret2
      exact ⟨_, _, rfl, by rw [He.out]; exact HA.out.1, by rw [He.out]; exact HB.out.1, hbel⟩
end Go.Proofs.Ytlbkhiphnllfpab
