/-
  Signs turned, by the model and by the program, walked.
-/
import Derived.Test.YtlbkhiphnllfpabSgn2
import Derived.Test.YtlbkhiphnllfpabApp
namespace Go.Proofs.Ytlbkhiphnllfpab
open Go.RowKit
set_option linter.unusedVariables false
/-- What Negate gives. -/
def ngo (ds : List Int) : List Int := if l3 ds then negd ds else []
theorem ngo_length (ds : List Int) : (ngo ds).length ≤ 41 := by
  unfold ngo; split
  · rename_i h; rw [negd_length]
    rcases Nat.lt_or_ge 41 ds.length with h' | h'
    · rw [l3_big ds h'] at h; cases h
    · omega
  · simp
theorem ngo_yes (ds : List Int) (h : l3 ds = true) : ngo ds = negd ds := by unfold ngo; rw [h]; rfl
theorem ngo_no (ds : List Int) (h : l3 ds = false) : ngo ds = [] := by unfold ngo; rw [h]; rfl
/-- The first k signs turned, noughts behind. -/
theorem neg_set (ds : List Int) (k : Nat) (hk : k < ds.length) : (pad (negd (ds.take k)) ds.length).set k (- ds.getD k 0) = pad (negd (ds.take (k + 1))) ds.length := by
  rw [negd_take ds k hk]
  exact pad_set _ _ _ _ (by rw [negd_length, List.length_take]; omega) hk
theorem iNegate_any (v : Value) (ds : List Int) (base : Nat) (w : World) (h : Has w base v ds) :
    Calls Try.prog 15 #[v] w fun e w' => ∃ u, e = .returned u ∧ Has w' w.heap.size u (ngo ds) ∧ Below w.heap.size w w' := by
  obtain ⟨i0, hi, hz0, hz1, hz2⟩ := info_parts info64
  obtain ⟨a, ca, rfl, hm⟩ := h.len
  have H : Hid (Has w base (.slice a ds.length ca) ds) := h
  by_cases h2 : 41 < ds.length
  · have h2' : (41 : Int) < (ds.length : Int) := by omega
    have He : Hid (ngo ds = []) := ngo_no ds (l3_big ds h2)
    clear h
    go_enter Try.func15, Try.ntmps15
    go_wp2
    go_ret
    exact ⟨_, rfl, by rw [He.out]; exact none_own w, (Below.refl _ _).alloc (Nat.le_refl _) _⟩
  have h2' : ¬ (41 : Int) < (ds.length : Int) := by omega
  cases hr : rng (-9) 9 ds with
  | false =>
    have Hr : Hid (rng (-9) 9 ds = false) := hr
    have He : Hid (ngo ds = []) := ngo_no ds (by rw [l3_rng ds (by omega)]; exact hr)
    clear hr h
    go_enter Try.func15, Try.ntmps15
    go_wp2_with fail
    refine (allSigned_any _ ds base _ H.out).mono ?_
    rintro e w' ⟨rfl, hw⟩
    obtain rfl := hw.symm
    rw [Hr.out]
    go_wp2
    go_ret
    exact ⟨_, rfl, by rw [He.out]; exact none_own w, (Below.refl _ _).alloc (Nat.le_refl _) _⟩
  | true =>
    have Hr : Hid (rng (-9) 9 ds = true) := hr
    have He : Hid (ngo ds = negd ds) := ngo_yes ds (by rw [l3_rng ds (by omega)]; exact hr)
    have Hds : Hid (∀ i, i < ds.length → ∃ g, a = some ⟨g, 0, none⟩ ∧ g < w.heap.size ∧ w.cell? ⟨g, i, none⟩ = some (.int .i64 (ds.getD i 0))) := fun i hi => by
      rcases h.form with ⟨-, e⟩ | ⟨g, cap, e, -, hg, -, hc, -⟩
      · rw [e] at hi; simp at hi
      · exact ⟨g, by cases e; rfl, hg, hc i hi⟩
    obtain ⟨w1, hrun, hown, hgrow⟩ := run_make_full (P := Try.prog) w w.heap.size 24 2 i0 (.int .i64 0) 1 Try.underlying24 hi hz0 hz1 .i64 .i64 ds.length (by rw [hz2]; omega) (by unfold maxLen; omega) (Nat.le_refl _)
    have hb1 : Below w.heap.size w w1 := Below.grown (Below.refl _ _) hgrow (Nat.le_refl _) (fun k hk => by cases hk)
    have Ho : Hid (Has w1 w.heap.size (.slice (some ⟨w.heap.size, 0, none⟩) ds.length ds.length) (pad (negd (ds.take 0)) ds.length)) := by
      rw [show negd (ds.take 0) = [] by simp [negd], pad_none]; exact made_own _ w w1 _ (by simpa using hown)
    have hrun' : (Instr.makeSlice 24 (.int .i64 (ds.length : Int)) (.int .i64 (ds.length : Int))).run Try.prog w = .ok (.slice (some ⟨w.heap.size, 0, none⟩) ds.length ds.length) w1 := hrun
    have Hall : Hid (pad (negd (ds.take ds.length)) ds.length = negd ds) := by show _ = _; rw [List.take_length, pad_full _ _ (negd_length ds)]
    have Hnx : Hid (∀ k, k < ds.length → (pad (negd (ds.take k)) ds.length).set k (- ds.getD k 0) = pad (negd (ds.take (k + 1))) ds.length) := neg_set ds
    have Hln : Hid (∀ k, (pad (negd (ds.take k)) ds.length).length = ds.length) := fun k => pad_length _ _ (by rw [negd_length, List.length_take]; omega)
    clear hr h hrun hown hgrow
    generalize hn : ds.length = n at *
    go_enter Try.func15, Try.ntmps15
    go_wp2_with fail
    refine (allSigned_any _ ds base _ H.out).mono ?_
    rintro e w' ⟨rfl, hw⟩
    obtain rfl := hw.symm
    rw [Hr.out]
    go_wp2
    go_loopw [20] (fun i wr => ∃ k : Nat, k ≤ n ∧ i = .int .i64 k ∧ Hid (Has wr w.heap.size (.slice (some ⟨w.heap.size, 0, none⟩) n n) (pad (negd (ds.take k)) n)) ∧ Below w.heap.size w wr) (fun i _ => n - (intOf i).toNat)
    case atStart => exact ⟨0, Nat.zero_le _, rfl, Ho, hb1⟩
    case round =>
      obtain ⟨k, hk, rfl, hown, hbel⟩ := hrel
      by_cases hlt : k < n
      · have hlt' : (k : Int) < (n : Int) := by omega
        obtain ⟨g, rfl, hg, hc0⟩ := Hds.out k hlt
        have hc := (hbel.cell (p := ⟨g, k, none⟩) hg).trans hc0
        obtain ⟨d, hdd⟩ : ∃ d, d = ds.getD k 0 := ⟨_, rfl⟩
        rw [← hdd] at hc
        have hdb := rng_at _ _ ds Hr.out k (by omega)
        rw [← hdd] at hdb
        have hst : wr.ownsRow w.heap.size 2 1 (.slice (some ⟨w.heap.size, 0, none⟩) n n) n ((pad (negd (ds.take k)) n).map (Value.int .i64)) := by
          have := hown.out; unfold Has at this; rw [Hln.out] at this; exact this
        have hf := World.ownsRow.frozenAt hst k
        have hcs : wr.cell? ⟨w.heap.size, k, none⟩ = some (.int .i64 ((pad (negd (ds.take k)) n).getD k 0)) := by
          rw [World.ownsRow.cellAt hst k (by omega)]
          simp only [List.getElem?_map, List.getD]
          rw [List.getElem?_eq_getElem (by rw [Hln.out]; omega)]
          rfl
        have Hfin : Hid (∃ q : Nat, q ≤ n ∧ Value.int .i64 ((k : Int) + 1) = .int .i64 q ∧ Hid (Has (wr.setCell ⟨w.heap.size, k, none⟩ (.int .i64 (-d))) w.heap.size (.slice (some ⟨w.heap.size, 0, none⟩) n n) (pad (negd (ds.take q)) n)) ∧ Below w.heap.size w (wr.setCell ⟨w.heap.size, k, none⟩ (.int .i64 (-d)))) := by
          refine ⟨k + 1, by omega, by go_num, ?_, hbel.setCell (Nat.le_refl _) _⟩
          have := (World.ownsRow.stored hst k (.int .i64 (-d))).1
          show Has _ _ _ _
          unfold Has
          rw [Hln.out, ← Hnx.out k hlt, ← hdd]
          simpa using this
        clear hst hown hdd hc0
        generalize (pad (negd (ds.take k)) n).getD k 0 = o at *
        go_wp2
        go_roundw
        case rel => exact Hfin.out
        case measure => simp [intOf]; omega
      · obtain rfl : k = n := by omega
        go_wp2
        go_ret
        exact ⟨_, rfl, by rw [He.out, ← Hall.out]; exact hown.out, hbel⟩
end Go.Proofs.Ytlbkhiphnllfpab
