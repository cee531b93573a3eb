/-
  Signs turned, by the model and by the program, walked.
-/
import Derived.Test.YtlbkhiphnllfpajSgn2
import Derived.Test.YtlbkhiphnllfpajApp
namespace Go.Proofs.Ytlbkhiphnllfpaj
open Go.RowKit
set_option linter.unusedVariables false
/-- What Negate gives. -/
def ngo (ds : List Int) : List Int := if l3 ds then negd ds else []
theorem ngo_length (ds : List Int) : (ngo ds).length ≤ 41 := by
  unfold ngo; split
  · rename_i h; rw [negd_length]
    rcases Nat.lt_or_ge 41 ds.length with h' | h'
    · rw [l3_big ds h'] at h; cases h
    · omega
  · simp
theorem ngo_yes (ds : List Int) (h : l3 ds = true) : ngo ds = negd ds := by unfold ngo; rw [h]; rfl
theorem ngo_no (ds : List Int) (h : l3 ds = false) : ngo ds = [] := by unfold ngo; rw [h]; rfl
/-- The first k signs turned, noughts behind. -/
theorem neg_set (ds : List Int) (k : Nat) (hk : k < ds.length) : (pad (negd (ds.take k)) ds.length).set k (- ds.getD k 0) = pad (negd (ds.take (k + 1))) ds.length := by
  rw [negd_take ds k hk]
  exact pad_set _ _ _ _ (by rw [negd_length, List.length_take]; omega) hk
theorem sNegate_any (v : Value) (ds : List Int) (base : Nat) (w : World) (h : Has w base v ds) :
    Calls Try.prog 17 #[v] w fun e w' => ∃ u, e = .returned u ∧ Has w' w.heap.size u (ngo ds) ∧ Below w.heap.size w w' := by
  obtain ⟨a, ca, rfl, hm⟩ := h.len
  have H : Hid (Has w base (.slice a ds.length ca) ds) := h
  have Hn : Hid (HasN (w.alloc (.cells #[] 2)) w.heap.size (.slice (some ⟨w.heap.size, 0, none⟩) 0 0) []) := none_ownN w
  cases hx : l3 ds with
  | false =>
    have Hx : Hid (l3 ds = false) := hx
    have He : Hid (ngo ds = []) := ngo_no ds hx
    clear hx h
    have H1 : Hid (Has (w.alloc (.cells #[] 2)) base (.slice a ds.length ca) ds) := H.out.below ((Below.refl w.heap.size w).alloc (Nat.le_refl _) _) (Nat.le_refl _)
    go_enter Try.func17, Try.ntmps17
    go_wp2
    go_loopw [3, 4] (fun u i wr => i = .int .i64 0 ∧ u = .slice (some ⟨w.heap.size, 0, none⟩) 0 0 ∧ wr = w.alloc (.cells #[] 2)) (fun _ _ _ => 0)
    case atStart => exact ⟨rfl, rfl, rfl⟩
    case round =>
      obtain ⟨rfl, rfl, rfl⟩ := hrel
      by_cases hp : (0 : Int) < (ds.length : Int)
      · go_wp2_with fail
        refine (l3Ok_any _ ds base _ H1.out).mono ?_
        rintro e w' ⟨rfl, hw⟩
        obtain rfl := hw
        rw [Hx.out]
        go_wp2
        go_ret
        exact ⟨_, rfl, by rw [He.out]; exact Hn.out.1, (Below.refl _ _).alloc (Nat.le_refl _) _⟩
      · go_wp2
        go_ret
        exact ⟨_, rfl, by rw [He.out]; exact Hn.out.1, (Below.refl _ _).alloc (Nat.le_refl _) _⟩
  | true =>
    have Hx : Hid (l3 ds = true) := hx
    have He : Hid (ngo ds = negd ds) := ngo_yes ds hx
    have hl : ds.length ≤ 41 := by
      rcases Nat.lt_or_ge 41 ds.length with h' | h'
      · rw [l3_big ds h'] at hx; cases hx
      · exact h'
    have Hr : Hid (rng (-9) 9 ds = true) := by rw [l3_rng ds hl] at hx; exact hx
    have Hds : Hid (∀ i, i < ds.length → ∃ g, a = some ⟨g, 0, none⟩ ∧ g < w.heap.size ∧ w.cell? ⟨g, i, none⟩ = some (.int .i64 (ds.getD i 0))) := fun i hi => by
      rcases h.form with ⟨-, e⟩ | ⟨g, cap, e, -, hg, -, hc, -⟩
      · rw [e] at hi; simp at hi
      · exact ⟨g, by cases e; rfl, hg, hc i hi⟩
    clear hx h
    have Hall : Hid (negd (ds.take ds.length) = negd ds) := by show _ = _; rw [List.take_length]
    have Hnx : Hid (∀ k, k < ds.length → negd (ds.take (k + 1)) = negd (ds.take k) ++ [- ds.getD k 0]) := negd_take ds
    have Hln : Hid (∀ k, k ≤ ds.length → (negd (ds.take k)).length = k) := fun k hk => by rw [negd_length, List.length_take]; omega
    generalize hn : ds.length = n at *
    go_enter Try.func17, Try.ntmps17
    go_wp2
    go_loopw [3, 4] (fun u i wr => ∃ k : Nat, k ≤ n ∧ i = .int .i64 k ∧ Hid (HasN wr w.heap.size u (negd (ds.take k))) ∧ Below w.heap.size w wr) (fun _ i _ => n - (intOf i).toNat)
    case atStart => exact ⟨0, Nat.zero_le _, rfl, Hn, (Below.refl _ _).alloc (Nat.le_refl _) _⟩
    case round =>
      obtain ⟨k, hk, rfl, HA, hbel⟩ := hrel
      by_cases hlt : k < n
      · have hlt' : (k : Int) < (n : Int) := by omega
        obtain ⟨g, rfl, hg, hc0⟩ := Hds.out k hlt
        have hc := (hbel.cell (p := ⟨g, k, none⟩) hg).trans hc0
        have hs0 := hbel.size
        have H1 : Hid (Has wr base (.slice (some ⟨g, 0, none⟩) n ca) ds) := H.out.below hbel (Nat.le_refl _)
        obtain ⟨d, hdd⟩ : ∃ d, d = ds.getD k 0 := ⟨_, rfl⟩
        rw [← hdd] at hc
        have hdb := rng_at _ _ ds Hr.out k (by omega)
        rw [← hdd] at hdb
        have Hfin : Hid (∀ u W2, HasN W2 w.heap.size u (negd (ds.take k) ++ [-d]) → Below w.heap.size w W2 → ∃ q : Nat, q ≤ n ∧ Value.int .i64 ((k : Int) + 1) = .int .i64 q ∧ Hid (HasN W2 w.heap.size u (negd (ds.take q))) ∧ Below w.heap.size w W2) := fun u W2 h1 h2 => ⟨k + 1, by omega, by go_num, by show HasN _ _ _ _; rw [Hnx.out k hlt, ← hdd]; exact h1, h2⟩
        have HlA := Hid.out Hln k hk
        have HlA' : Hid ((negd (ds.take k)).length = k) := HlA
        have Hbel : Hid (Below w.heap.size w wr) := hbel
        clear hdd hc0 HlA hbel
        generalize negd (ds.take k) = A at *
        go_wp2_with fail
        refine (l3Ok_any _ ds base _ H1.out).mono ?_
        rintro e w' ⟨rfl, hw⟩
        obtain rfl := hw.symm
        rw [Hx.out]
        go_wp2_with (first | (at_builtin; refine wpList_app rfl _ _ rfl _ _ rfl rfl w.heap.size wr.heap.size A [-d] (HA.out.alloc _) (one_ownN wr _) (by rw [HlA'.out]; simp; omega) (by simp; omega) ?_) | go_in)
        intro va w1 Ha1 hb1
        have Hb1 : Hid (Below w.heap.size w w1) := hb1.out _ _ (Hbel.out.alloc hs0 _) (Nat.le_refl _)
        clear hb1
        go_wp2
        go_roundw
        case rel => exact Hfin.out _ _ Ha1.out Hb1.out
        case measure => simp [intOf]; omega
      · obtain rfl : k = n := by omega
        have hd : decide ((k : Int) < (k : Int)) = false := by simp
        go_wp2
        go_ret
        exact ⟨_, rfl, by rw [He.out, ← Hall.out]; exact HA.out.1, hbel⟩
theorem iNegate_any (v : Value) (ds : List Int) (base : Nat) (w : World) (h : Has w base v ds) :
    Calls Try.prog 18 #[v] w fun e w' => ∃ u, e = .returned u ∧ Has w' w.heap.size u (ngo ds) ∧ Below w.heap.size w w' := by
  obtain ⟨i0, hi, hz0, hz1, hz2⟩ := info_parts info64
  obtain ⟨a, ca, rfl, hm⟩ := h.len
  have H : Hid (Has w base (.slice a ds.length ca) ds) := h
  by_cases h2 : 41 < ds.length
  · have h2' : (41 : Int) < (ds.length : Int) := by omega
    have He : Hid (ngo ds = []) := ngo_no ds (l3_big ds h2)
    clear h
    go_enter Try.func18, Try.ntmps18
    go_wp2
    go_ret
    exact ⟨_, rfl, by rw [He.out]; exact none_own w, (Below.refl _ _).alloc (Nat.le_refl _) _⟩
  have h2' : ¬ (41 : Int) < (ds.length : Int) := by omega
  cases hr : rng (-9) 9 ds with
  | false =>
    have Hr : Hid (rng (-9) 9 ds = false) := hr
    have He : Hid (ngo ds = []) := ngo_no ds (by rw [l3_rng ds (by omega)]; exact hr)
    clear hr h
    go_enter Try.func18, Try.ntmps18
    go_wp2_with fail
    refine (allSigned_any _ ds base _ H.out).mono ?_
    rintro e w' ⟨rfl, hw⟩
    obtain rfl := hw.symm
    rw [Hr.out]
    go_wp2
    go_ret
    exact ⟨_, rfl, by rw [He.out]; exact none_own w, (Below.refl _ _).alloc (Nat.le_refl _) _⟩
  | true =>
    have Hr : Hid (rng (-9) 9 ds = true) := hr
    have He : Hid (ngo ds = negd ds) := ngo_yes ds (by rw [l3_rng ds (by omega)]; exact hr)
    have Hds : Hid (∀ i, i < ds.length → ∃ g, a = some ⟨g, 0, none⟩ ∧ g < w.heap.size ∧ w.cell? ⟨g, i, none⟩ = some (.int .i64 (ds.getD i 0))) := fun i hi => by
      rcases h.form with ⟨-, e⟩ | ⟨g, cap, e, -, hg, -, hc, -⟩
      · rw [e] at hi; simp at hi
      · exact ⟨g, by cases e; rfl, hg, hc i hi⟩
    obtain ⟨w1, hrun, hown, hgrow⟩ := run_make_full (P := Try.prog) w w.heap.size 22 2 i0 (.int .i64 0) 1 Try.underlying22 hi hz0 hz1 .i64 .i64 ds.length (by rw [hz2]; omega) (by unfold maxLen; omega) (Nat.le_refl _)
    have hb1 : Below w.heap.size w w1 := Below.grown (Below.refl _ _) hgrow (Nat.le_refl _) (fun k hk => by cases hk)
    have Ho : Hid (Has w1 w.heap.size (.slice (some ⟨w.heap.size, 0, none⟩) ds.length ds.length) (pad (negd (ds.take 0)) ds.length)) := by
      rw [show negd (ds.take 0) = [] by simp [negd], pad_none]; exact made_own _ w w1 _ (by simpa using hown)
    have hrun' : (Instr.makeSlice 22 (.int .i64 (ds.length : Int)) (.int .i64 (ds.length : Int))).run Try.prog w = .ok (.slice (some ⟨w.heap.size, 0, none⟩) ds.length ds.length) w1 := hrun
    have Hall : Hid (pad (negd (ds.take ds.length)) ds.length = negd ds) := by show _ = _; rw [List.take_length, pad_full _ _ (negd_length ds)]
    have Hnx : Hid (∀ k, k < ds.length → (pad (negd (ds.take k)) ds.length).set k (- ds.getD k 0) = pad (negd (ds.take (k + 1))) ds.length) := neg_set ds
    have Hln : Hid (∀ k, (pad (negd (ds.take k)) ds.length).length = ds.length) := fun k => pad_length _ _ (by rw [negd_length, List.length_take]; omega)
    clear hr h hrun hown hgrow
    generalize hn : ds.length = n at *
    go_enter Try.func18, Try.ntmps18
    go_wp2_with fail
    refine (allSigned_any _ ds base _ H.out).mono ?_
    rintro e w' ⟨rfl, hw⟩
    obtain rfl := hw.symm
    rw [Hr.out]
    go_wp2
    go_loopw [20] (fun i wr => ∃ k : Nat, k ≤ n ∧ i = .int .i64 k ∧ Hid (Has wr w.heap.size (.slice (some ⟨w.heap.size, 0, none⟩) n n) (pad (negd (ds.take k)) n)) ∧ Below w.heap.size w wr) (fun i _ => n - (intOf i).toNat)
    case atStart => exact ⟨0, Nat.zero_le _, rfl, Ho, hb1⟩
    case round =>
      obtain ⟨k, hk, rfl, hown, hbel⟩ := hrel
      by_cases hlt : k < n
      · have hlt' : (k : Int) < (n : Int) := by omega
        obtain ⟨g, rfl, hg, hc0⟩ := Hds.out k hlt
        have hc := (hbel.cell (p := ⟨g, k, none⟩) hg).trans hc0
        obtain ⟨d, hdd⟩ : ∃ d, d = ds.getD k 0 := ⟨_, rfl⟩
        rw [← hdd] at hc
        have hdb := rng_at _ _ ds Hr.out k (by omega)
        rw [← hdd] at hdb
        have hst : wr.ownsRow w.heap.size 2 1 (.slice (some ⟨w.heap.size, 0, none⟩) n n) n ((pad (negd (ds.take k)) n).map (Value.int .i64)) := by
          have := hown.out; unfold Has at this; rw [Hln.out] at this; exact this
        have hf := World.ownsRow.frozenAt hst k
        have hcs : wr.cell? ⟨w.heap.size, k, none⟩ = some (.int .i64 ((pad (negd (ds.take k)) n).getD k 0)) := by
          rw [World.ownsRow.cellAt hst k (by omega)]
          simp only [List.getElem?_map, List.getD]
          rw [List.getElem?_eq_getElem (by rw [Hln.out]; omega)]
          rfl
        have Hfin : Hid (∃ q : Nat, q ≤ n ∧ Value.int .i64 ((k : Int) + 1) = .int .i64 q ∧ Hid (Has (wr.setCell ⟨w.heap.size, k, none⟩ (.int .i64 (-d))) w.heap.size (.slice (some ⟨w.heap.size, 0, none⟩) n n) (pad (negd (ds.take q)) n)) ∧ Below w.heap.size w (wr.setCell ⟨w.heap.size, k, none⟩ (.int .i64 (-d)))) := by
          refine ⟨k + 1, by omega, by go_num, ?_, hbel.setCell (Nat.le_refl _) _⟩
          have := (World.ownsRow.stored hst k (.int .i64 (-d))).1
          show Has _ _ _ _
          unfold Has
          rw [Hln.out, ← Hnx.out k hlt, ← hdd]
          simpa using this
        clear hst hown hdd hc0
        generalize (pad (negd (ds.take k)) n).getD k 0 = o at *
        go_wp2
        go_roundw
        case rel => exact Hfin.out
        case measure => simp [intOf]; omega
      · obtain rfl : k = n := by omega
        go_wp2
        go_ret
        exact ⟨_, rfl, by rw [He.out, ← Hall.out]; exact hown.out, hbel⟩
end Go.Proofs.Ytlbkhiphnllfpaj
