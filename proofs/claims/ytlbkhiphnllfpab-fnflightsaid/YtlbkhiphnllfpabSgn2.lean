/-
  Signed digits made of plain ones, by the model and by the program, walked.
-/
import Derived.Test.YtlbkhiphnllfpabSgn
namespace Go.Proofs.Ytlbkhiphnllfpab
open Go.RowKit
set_option linter.unusedVariables false
/-- What Signed takes. -/
def sok (ds : List Int) : Bool := decide (1 ≤ ds.length) && decide (ds.length ≤ 40) && rng 0 9 ds
theorem sok_few (ds : List Int) (h : ds.length < 1) : sok ds = false := by
  unfold sok; rw [decide_eq_false (by omega)]; rfl
theorem sok_many (ds : List Int) (h : 40 < ds.length) : sok ds = false := by
  unfold sok; rw [decide_eq_false (p := ds.length ≤ 40) (by omega)]; simp
theorem sok_rng (ds : List Int) (h1 : 1 ≤ ds.length) (h : ds.length ≤ 40) : sok ds = rng 0 9 ds := by
  unfold sok; rw [decide_eq_true h1, decide_eq_true h]; rfl
/-- What Signed gives. -/
def sgo (ds : List Int) : List Int := if sok ds then sgnd ds else []
theorem sgo_length (ds : List Int) : (sgo ds).length ≤ 41 := by
  unfold sgo; split
  · rename_i h; rw [sgnd_length]
    rcases Nat.lt_or_ge 40 ds.length with h' | h'
    · rw [sok_many ds h'] at h; cases h
    · omega
  · simp
/-- A row of noughts, filled from behind by the first k of f. -/
def fil (f : Nat → Int) (n k : Nat) : List Int := List.replicate (n - k) 0 ++ fl f k
theorem fil_length (f : Nat → Int) (n k : Nat) (h : k ≤ n) : (fil f n k).length = n := by simp [fil, fl_length]; omega
theorem fil_set (f : Nat → Int) (n k : Nat) (h : k < n) : (fil f n k).set (n - 1 - k) (f k) = fil f n (k + 1) := by
  unfold fil
  obtain ⟨m, hm⟩ : ∃ m, n - k = m + 1 := ⟨n - k - 1, by omega⟩
  rw [hm, show n - 1 - k = m by omega, show n - (k + 1) = m by omega, set_low]
  rfl
theorem fil_none (f : Nat → Int) (n : Nat) : fil f n 0 = List.replicate n 0 := by simp [fil, fl]
theorem fil_last (f : Nat → Int) (n : Nat) (x : Int) : (fil f (n + 1) n).set 0 x = x :: fl f n := by
  unfold fil
  rw [show n + 1 - n = 1 by omega]
  rfl
/-- A row that was made lies there as noughts. -/
theorem made_own (n : Nat) (w w1 : World) (v : Value) (h : w1.ownsRow w.heap.size 2 1 v n (madeCells (Value.int .i64 0).cells n).toList) : Has w1 w.heap.size v (List.replicate n 0) := by
  rw [show (Value.int .i64 0).cells = #[Value.int .i64 0] from rfl, toList_madeCells_one] at h
  simpa [Has] using h
theorem sSigned_no (v : Value) (ds : List Int) (base : Nat) (w : World) (h : Has w base v ds) (hk : sok ds = false) :
    Calls Try.prog 8 #[v] w fun e w' => ∃ u, e = .returned (.tuple #[u, .bool (sok ds)]) ∧ Has w' w.heap.size u (sgo ds) ∧ Below w.heap.size w w' := by
  have He : Hid (sgo ds = []) := by show _ = _; unfold sgo; rw [hk]; rfl
  obtain ⟨a, ca, rfl, hm⟩ := h.len
  by_cases h1 : ds.length < 1
  · have h1' : (ds.length : Int) < 1 := by omega
    rw [hk]
    clear h hk
    go_enter Try.func8, Try.ntmps8
    go_wp2
    go_ret2
    exact ⟨_, rfl, by rw [He.out]; exact none_own w, (Below.refl _ _).alloc (Nat.le_refl _) _⟩
  by_cases h2 : 40 < ds.length
  · have h1' : ¬ (ds.length : Int) < 1 := by omega
    have h2' : (40 : Int) < (ds.length : Int) := by omega
    rw [hk]
    clear h hk
    go_enter Try.func8, Try.ntmps8
    go_wp2
    go_ret2
    exact ⟨_, rfl, by rw [He.out]; exact none_own w, (Below.refl _ _).alloc (Nat.le_refl _) _⟩
  · have h1' : ¬ (ds.length : Int) < 1 := by omega
    have h2' : ¬ (40 : Int) < (ds.length : Int) := by omega
    have Hr : Hid (rng 0 9 ds = false) := by rw [sok_rng ds (by omega) (by omega)] at hk; exact hk
    have H : Hid (Has w base (.slice a ds.length ca) ds) := h
    rw [hk]
    clear h hk
    go_enter Try.func8, Try.ntmps8
    go_wp2_with fail
    refine (l1Digits_rng _ ds base _ H.out).mono ?_
    rintro e w' ⟨rfl, hw⟩
    obtain rfl := hw.symm
    rw [Hr.out]
    go_wp2
    go_ret2
    exact ⟨_, rfl, by rw [He.out]; exact none_own w, (Below.refl _ _).alloc (Nat.le_refl _) _⟩
theorem sSigned_yes (v : Value) (ds : List Int) (base : Nat) (w : World) (h : Has w base v ds) (hk : sok ds = true) :
    Calls Try.prog 8 #[v] w fun e w' => ∃ u, e = .returned (.tuple #[u, .bool (sok ds)]) ∧ Has w' w.heap.size u (sgo ds) ∧ Below w.heap.size w w' := by
  obtain ⟨i0, hi, hz0, hz1, hz2⟩ := info_parts info64
  have He : Hid (sgo ds = sgnd ds) := by show _ = _; unfold sgo; rw [hk]; rfl
  have hl1 : 1 ≤ ds.length := by
    rcases Nat.lt_or_ge ds.length 1 with h | h
    · rw [sok_few ds h] at hk; cases hk
    · exact h
  have hl2 : ds.length ≤ 40 := by
    rcases Nat.lt_or_ge 40 ds.length with h | h
    · rw [sok_many ds h] at hk; cases hk
    · exact h
  have Hr : Hid (rng 0 9 ds = true) := by rw [sok_rng ds hl1 hl2] at hk; exact hk
  rcases h.form with ⟨rfl, rfl⟩ | ⟨g, ca, rfl, hgb, hgl, hmx, hca, hfz⟩
  · simp at hl1
  have Hlo : Hid (∀ j, j < ds.length → w.cell? ⟨g, j, none⟩ = some (.int .i64 (lo ds (ds.length - 1 - j)))) := fun j hj => by
    rw [hca j hj, lo_in ds _ (by omega), show ds.length - 1 - (ds.length - 1 - j) = j by omega]
  have Hbd : Hid (∀ k, 0 ≤ lo ds k ∧ lo ds k ≤ 9) := fun k => rng_lo 0 9 ds Hr.out (by decide) (by decide) k
  have H : Hid (Has w base (.slice (some ⟨g, 0, none⟩) ds.length ca) ds) := h
  obtain ⟨w1, hrun, hown, hgrow⟩ := run_make_full (P := Try.prog) w w.heap.size 24 2 i0 (.int .i64 0) 1 Try.underlying24 hi hz0 hz1 .i64 .i64 (ds.length + 1) (by rw [hz2]; omega) (by unfold maxLen; omega) (Nat.le_refl _)
  have hb1 : Below w.heap.size w w1 := Below.grown (Below.refl _ _) hgrow (Nat.le_refl _) (fun k hk => by cases hk)
  have Ho : Hid (Has w1 w.heap.size (.slice (some ⟨w.heap.size, 0, none⟩) (ds.length + 1) (ds.length + 1)) (fil (sv ds) (ds.length + 1) 0)) := by
    rw [fil_none]; exact made_own _ w w1 _ (by simpa using hown)
  have hrun' : (Instr.makeSlice 24 (.int .i64 ((ds.length : Int) + 1)) (.int .i64 ((ds.length : Int) + 1))).run Try.prog w = .ok (.slice (some ⟨w.heap.size, 0, none⟩) (ds.length + 1) (ds.length + 1)) w1 := hrun
  have h1' : ¬ (ds.length : Int) < 1 := by omega
  have h2' : ¬ (40 : Int) < (ds.length : Int) := by omega
  rw [hk]
  clear h hk hca hfz hrun hown hgrow
  generalize hn : ds.length = n at *
  go_enter Try.func8, Try.ntmps8
  go_wp2_with fail
  refine (l1Digits_rng _ ds base _ H.out).mono ?_
  rintro e w' ⟨rfl, hw⟩
  obtain rfl := hw.symm
  rw [Hr.out]
  go_wp2
  go_loopw [6, 7] (fun c i wr => ∃ k : Nat, k ≤ n ∧ i = .int .i64 ((n : Int) - 1 - (k : Int)) ∧ c = .int .i64 (sc ds k) ∧ Hid (Has wr w.heap.size (.slice (some ⟨w.heap.size, 0, none⟩) (n + 1) (n + 1)) (fil (sv ds) (n + 1) k)) ∧ Below w.heap.size w wr) (fun _ i _ => ((intOf i) + 1).toNat)
  case atStart => exact ⟨0, Nat.zero_le _, Ln.val_int (by omega), rfl, Ho, hb1⟩
  case round =>
    obtain ⟨k, hk, rfl, rfl, hown, hbel⟩ := hrel
    by_cases hlt : k < n
    · obtain ⟨j, hj1, hj2⟩ : ∃ j, n ≤ k + 1 + j ∧ k + 1 + j ≤ n := ⟨n - k - 1, by omega, by omega⟩
      have ei : (n : Int) - 1 - (k : Int) = (j : Int) := by omega
      rw [ei]
      have hin : (j : Int) < (n : Int) := by omega
      have hc0 := (hbel.cell (p := ⟨g, j, none⟩) hgl).trans (Hlo.out j (by omega))
      rw [show n - 1 - j = k by omega] at hc0
      have hd := Hbd.out k
      have hcy := sc_bd ds k
      have hst : wr.ownsRow w.heap.size 2 1 (.slice (some ⟨w.heap.size, 0, none⟩) (n + 1) (n + 1)) (n + 1) ((fil (sv ds) (n + 1) k).map (Value.int .i64)) := by
        have := hown.out; unfold Has at this; rw [fil_length _ _ _ (by omega)] at this; exact this
      have hf := World.ownsRow.frozenAt hst (j + 1)
      have hcs : wr.cell? ⟨w.heap.size, j + 1, none⟩ = some (.int .i64 ((fil (sv ds) (n + 1) k).getD (j + 1) 0)) := by
        rw [World.ownsRow.cellAt hst (j + 1) (by omega)]
        simp only [List.getElem?_map, List.getD]
        rw [List.getElem?_eq_getElem (by rw [fil_length _ _ _ (by omega)]; omega)]
        rfl
      have Hend : Hid (∀ x y i, y = sc ds (k + 1) → x = sv ds k → i = (j : Int) - 1 → ∃ q : Nat, q ≤ n ∧ Value.int .i64 i = .int .i64 ((n : Int) - 1 - (q : Int)) ∧ Value.int .i64 y = .int .i64 (sc ds q) ∧ Hid (Has (wr.setCell ⟨w.heap.size, j + 1, none⟩ (.int .i64 x)) w.heap.size (.slice (some ⟨w.heap.size, 0, none⟩) (n + 1) (n + 1)) (fil (sv ds) (n + 1) q)) ∧ Below w.heap.size w (wr.setCell ⟨w.heap.size, j + 1, none⟩ (.int .i64 x))) := fun x y i hy hx hi => by
        refine ⟨k + 1, by omega, Ln.val_int (by omega), Ln.val_int hy, ?_, hbel.setCell (Nat.le_refl _) _⟩
        have := (World.ownsRow.stored hst (j + 1) (.int .i64 x)).1
        show Has _ _ _ _
        unfold Has
        rw [← fil_set _ _ _ (show k < n + 1 by omega), List.length_set, fil_length _ _ _ (by omega), show n + 1 - 1 - k = j + 1 by omega, ← hx]
        simpa using this
      have Hy : Hid ((6 ≤ lo ds k + sc ds k ∨ (lo ds k + sc ds k = 5 ∧ 5 ≤ lo ds (k + 1))) → sc ds (k + 1) = 1) := fun h => by show (if _ then _ else _) = _; rw [if_pos h]
      have Hn : Hid (¬ (6 ≤ lo ds k + sc ds k ∨ (lo ds k + sc ds k = 5 ∧ 5 ≤ lo ds (k + 1))) → sc ds (k + 1) = 0) := fun h => by show (if _ then _ else _) = _; rw [if_neg h]
      have Hs : Hid (sv ds k = lo ds k + sc ds k - 10 * sc ds (k + 1)) := rfl
      have Ha0 : Hid (j = 0 → lo ds (k + 1) = 0) := fun h => lo_out ds _ (by omega)
      have Ha1 : Hid (∀ i, j = i + 1 → wr.cell? ⟨g, i, none⟩ = some (.int .i64 (lo ds (k + 1)))) := fun i h => by
        have := (hbel.cell (p := ⟨g, i, none⟩) hgl).trans (Hlo.out i (by omega))
        rw [show n - 1 - i = k + 1 by omega] at this
        exact this
      clear hst hown
      generalize lo ds k = d at *
      generalize sc ds k = c at *
      generalize lo ds (k + 1) = a at *
      generalize sc ds (k + 1) = c' at *
      generalize sv ds k = s at *
      generalize (fil (sv ds) (n + 1) k).getD (j + 1) 0 = o at *
      cases j with
      | zero =>
        have ea : a = 0 := Ha0.out rfl
        subst ea
        by_cases h6 : 6 ≤ d + c
        · have e' := Hy.out (.inl h6)
          have E : Hid (c' = 1) := e'
          clear e'
          go_wp2
          go_roundw
          case rel => exact Hend.out _ _ _ E.out.symm (by have := Hs.out; have := E.out; omega) (by omega)
          case measure => simp [intOf] <;> omega
        · by_cases h5 : d + c = 5
          · have H5 : Hid (d + c = 5) := h5
            have h5' : (d + c == 5) = true := by simpa using h5
            clear h5
            · have E : Hid (c' = 0) := Hn.out (by have := H5.out; omega)
              go_wp2
              go_roundw
              case rel => exact Hend.out _ _ _ E.out.symm (by have := Hs.out; have := E.out; omega) (by omega)
              case measure => simp [intOf] <;> omega
          · have h5' : (d + c == 5) = false := by simpa using h5
            have E : Hid (c' = 0) := Hn.out (by omega)
            go_wp2
            go_roundw
            case rel => exact Hend.out _ _ _ E.out.symm (by have := Hs.out; have := E.out; omega) (by omega)
            case measure => simp [intOf] <;> omega
      | succ j =>
        have hca := Ha1.out j rfl
        have ej : ((j + 1 : Nat) : Int) = (j : Int) + 1 := by omega
        rw [ej]
        by_cases h6 : 6 ≤ d + c
        · have e' := Hy.out (.inl h6)
          have E : Hid (c' = 1) := e'
          clear e'
          go_wp2
          go_roundw
          case rel => exact Hend.out _ _ _ E.out.symm (by have := Hs.out; have := E.out; omega) (by omega)
          case measure => simp [intOf]; omega
        · by_cases h5 : d + c = 5
          · have H5 : Hid (d + c = 5) := h5
            have h5' : (d + c == 5) = true := by simpa using h5
            clear h5
            by_cases ha : 5 ≤ a
            · have E : Hid (c' = 1) := Hy.out (.inr ⟨H5.out, ha⟩)
              go_wp2
              go_roundw
              case rel => exact Hend.out _ _ _ E.out.symm (by have := Hs.out; have := E.out; omega) (by omega)
              case measure => simp [intOf]; omega
            · have E : Hid (c' = 0) := Hn.out (by have := H5.out; omega)
              go_wp2
              go_roundw
              case rel => exact Hend.out _ _ _ E.out.symm (by have := Hs.out; have := E.out; omega) (by omega)
              case measure => simp [intOf]; omega
          · have h5' : (d + c == 5) = false := by simpa using h5
            have E : Hid (c' = 0) := Hn.out (by omega)
            go_wp2
            go_roundw
            case rel => exact Hend.out _ _ _ E.out.symm (by have := Hs.out; have := E.out; omega) (by omega)
            case measure => simp [intOf]; omega
    · have ek : k = n := by omega
      subst ek
      have hd : decide ((0 : Int) ≤ (k : Int) - 1 - (k : Int)) = false := by simp; omega
      have hst : wr.ownsRow w.heap.size 2 1 (.slice (some ⟨w.heap.size, 0, none⟩) (k + 1) (k + 1)) (k + 1) ((fil (sv ds) (k + 1) k).map (Value.int .i64)) := by
        have := hown.out; unfold Has at this; rw [fil_length _ _ _ (by omega)] at this; exact this
      have hf := World.ownsRow.frozenAt hst 0
      have hcs : wr.cell? ⟨w.heap.size, 0, none⟩ = some (.int .i64 ((fil (sv ds) (k + 1) k).getD 0 0)) := by
        rw [World.ownsRow.cellAt hst 0 (by omega)]
        simp only [List.getElem?_map, List.getD]
        rw [List.getElem?_eq_getElem (by rw [fil_length _ _ _ (by omega)]; omega)]
        rfl
      have Hend : Hid (Has (wr.setCell ⟨w.heap.size, 0, none⟩ (.int .i64 (sc ds k))) w.heap.size (.slice (some ⟨w.heap.size, 0, none⟩) (k + 1) (k + 1)) (sgo ds)) := by
        have := (World.ownsRow.stored hst 0 (.int .i64 (sc ds k))).1
        show Has _ _ _ _
        rw [He.out]
        unfold Has
        rw [sgnd_length, hn]
        unfold sgnd
        rw [hn, ← fil_last]
        simpa using this
      clear hst hown
      generalize (fil (sv ds) (k + 1) k).getD 0 0 = o at *
      generalize sc ds k = c at *
      go_wp2
      go_ret2
      exact ⟨_, rfl, Hend.out, hbel.setCell (Nat.le_refl _) _⟩
end Go.Proofs.Ytlbkhiphnllfpab
