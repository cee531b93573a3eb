/-
  Signed digits made plain by the model, walked.
-/
import Derived.Test.YtlbkhiphnllfpajSgn2
namespace Go.Proofs.Ytlbkhiphnllfpaj
open Go.RowKit
set_option linter.unusedVariables false
theorem ret_pair {u : Value} {a b : Bool} (h : a = b) : Ending.returned (.tuple #[u, .bool a]) = .returned (.tuple #[u, .bool b]) := by rw [h]
/-- What Plain takes. -/
def pok (ds : List Int) : Bool := decide (1 ≤ ds.length) && l3 ds && !ng ds
theorem pok_few (ds : List Int) (h : ds.length < 1) : pok ds = false := by
  unfold pok; rw [decide_eq_false (by omega)]; rfl
theorem pok_not (ds : List Int) (h : l3 ds = false) : pok ds = false := by
  unfold pok; rw [h]; simp
theorem pok_ng (ds : List Int) (h1 : 1 ≤ ds.length) (h : l3 ds = true) : pok ds = !ng ds := by
  unfold pok; rw [decide_eq_true h1, h]; rfl
theorem l3_parts (ds : List Int) (h : l3 ds = true) : ds.length ≤ 41 ∧ rng (-9) 9 ds = true := by
  unfold l3 at h
  simpa using h
/-- What Plain gives. -/
def plo (ds : List Int) : List Int := if pok ds then plain ds else []
theorem plo_length (ds : List Int) : (plo ds).length ≤ 41 := by
  unfold plo; split
  · rename_i h; rw [plain_length]
    rcases Nat.lt_or_ge 41 ds.length with h' | h'
    · rw [pok_not ds (l3_big ds h')] at h; cases h
    · omega
  · simp
theorem sPlain_no (v : Value) (ds : List Int) (base : Nat) (w : World) (h : Has w base v ds) (hk : ds.length < 1 ∨ l3 ds = false) :
    Calls Try.prog 13 #[v] w fun e w' => ∃ u, e = .returned (.tuple #[u, .bool (pok ds)]) ∧ Has w' w.heap.size u (plo ds) ∧ Below w.heap.size w w' := by
  have hp : pok ds = false := by
    rcases hk with h | h
    · exact pok_few ds h
    · exact pok_not ds h
  have He : Hid (plo ds = []) := by show _ = _; unfold plo; rw [hp]; rfl
  obtain ⟨a, ca, rfl, hm⟩ := h.len
  rw [hp]
  by_cases h1 : ds.length < 1
  · have h1' : (ds.length : Int) < 1 := by omega
    clear h hk hp
    go_enter Try.func13, Try.ntmps13
    go_wp2
    go_ret2
    exact ⟨_, rfl, by rw [He.out]; exact none_own w, (Below.refl _ _).alloc (Nat.le_refl _) _⟩
  · have h1' : ¬ (ds.length : Int) < 1 := by omega
    have Hr : Hid (l3 ds = false) := by rcases hk with h | h; exact absurd h h1; exact h
    have H : Hid (Has w base (.slice a ds.length ca) ds) := h
    clear h hk hp
    go_enter Try.func13, Try.ntmps13
    go_wp2_with fail
    refine (l3Ok_any _ ds base _ H.out).mono ?_
    rintro e w' ⟨rfl, hw⟩
    obtain rfl := hw.symm
    rw [Hr.out]
    go_wp2
    go_ret2
    exact ⟨_, rfl, by rw [He.out]; exact none_own w, (Below.refl _ _).alloc (Nat.le_refl _) _⟩
theorem sPlain_yes (v : Value) (ds : List Int) (base : Nat) (w : World) (h : Has w base v ds) (hl1 : 1 ≤ ds.length) (hk : l3 ds = true) :
    Calls Try.prog 13 #[v] w fun e w' => ∃ u, e = .returned (.tuple #[u, .bool (pok ds)]) ∧ Has w' w.heap.size u (plo ds) ∧ Below w.heap.size w w' := by
  obtain ⟨i0, hi, hz0, hz1, hz2⟩ := info_parts info64
  obtain ⟨hl2, hr⟩ := l3_parts ds hk
  have Hr : Hid (l3 ds = true) := hk
  have Hp : Hid (pok ds = !ng ds) := pok_ng ds hl1 hk
  have He : Hid (plo ds = if ng ds then [] else plain ds) := by
    show _ = _; unfold plo; rw [Hp.out]; cases ng ds <;> rfl
  have Hb : Hid (bw ds ds.length = if ng ds then 1 else 0) := bw_ng ds hr
  rcases h.form with ⟨rfl, rfl⟩ | ⟨g, ca, rfl, hgb, hgl, hmx, hca, hfz⟩
  · simp at hl1
  have Hlo : Hid (∀ j, j < ds.length → w.cell? ⟨g, j, none⟩ = some (.int .i64 (lo ds (ds.length - 1 - j)))) := fun j hj => by
    rw [hca j hj, lo_in ds _ (by omega), show ds.length - 1 - (ds.length - 1 - j) = j by omega]
  have Hbd : Hid (∀ k, -9 ≤ lo ds k ∧ lo ds k ≤ 9) := fun k => rng_lo (-9) 9 ds hr (by decide) (by decide) k
  have H : Hid (Has w base (.slice (some ⟨g, 0, none⟩) ds.length ca) ds) := h
  obtain ⟨w1, hrun, hown, hgrow⟩ := run_make_full (P := Try.prog) w w.heap.size 22 2 i0 (.int .i64 0) 1 Try.underlying22 hi hz0 hz1 .i64 .i64 ds.length (by rw [hz2]; omega) (by unfold maxLen; omega) (Nat.le_refl _)
  have hb1 : Below w.heap.size w w1 := Below.grown (Below.refl _ _) hgrow (Nat.le_refl _) (fun k hk => by cases hk)
  have Ho : Hid (Has w1 w.heap.size (.slice (some ⟨w.heap.size, 0, none⟩) ds.length ds.length) (fil (pd ds) ds.length 0)) := by
    rw [fil_none]; exact made_own _ w w1 _ (by simpa using hown)
  have hrun' : (Instr.makeSlice 22 (.int .i64 (ds.length : Int)) (.int .i64 (ds.length : Int))).run Try.prog w = .ok (.slice (some ⟨w.heap.size, 0, none⟩) ds.length ds.length) w1 := hrun
  have h1' : ¬ (ds.length : Int) < 1 := by omega
  have Hpl : Hid (plain ds = fl (pd ds) ds.length) := rfl
  clear h hk hca hfz hrun hown hgrow hr
  generalize hn : ds.length = n at *
  go_enter Try.func13, Try.ntmps13
  go_wp2_with fail
  refine (l3Ok_any _ ds base _ H.out).mono ?_
  rintro e w' ⟨rfl, hw⟩
  obtain rfl := hw.symm
  rw [Hr.out]
  go_wp2
  go_loopw [6, 7] (fun c i wr => ∃ k : Nat, k ≤ n ∧ i = .int .i64 ((n : Int) - 1 - (k : Int)) ∧ c = .int .i64 (bw ds k) ∧ Hid (Has wr w.heap.size (.slice (some ⟨w.heap.size, 0, none⟩) n n) (fil (pd ds) n k)) ∧ Below w.heap.size w wr) (fun _ i _ => ((intOf i) + 1).toNat)
  case atStart => exact ⟨0, Nat.zero_le _, Ln.val_int (by omega), rfl, Ho, hb1⟩
  case round =>
    obtain ⟨k, hk, rfl, rfl, hown, hbel⟩ := hrel
    by_cases hlt : k < n
    · obtain ⟨j, hj1, hj2⟩ : ∃ j, n ≤ k + 1 + j ∧ k + 1 + j ≤ n := ⟨n - k - 1, by omega, by omega⟩
      have ei : (n : Int) - 1 - (k : Int) = (j : Int) := by omega
      rw [ei]
      have hin : (j : Int) < (n : Int) := by omega
      have hc0 := (hbel.cell (p := ⟨g, j, none⟩) hgl).trans (Hlo.out j (by omega))
      rw [show n - 1 - j = k by omega] at hc0
      have hd := Hbd.out k
      have hcy := bw_bd ds k
      have hst : wr.ownsRow w.heap.size 2 1 (.slice (some ⟨w.heap.size, 0, none⟩) n n) n ((fil (pd ds) n k).map (Value.int .i64)) := by
        have := hown.out; unfold Has at this; rw [fil_length _ _ _ (by omega)] at this; exact this
      have hf := World.ownsRow.frozenAt hst j
      have hcs : wr.cell? ⟨w.heap.size, j, none⟩ = some (.int .i64 ((fil (pd ds) n k).getD j 0)) := by
        rw [World.ownsRow.cellAt hst j (by omega)]
        simp only [List.getElem?_map, List.getD]
        rw [List.getElem?_eq_getElem (by rw [fil_length _ _ _ (by omega)]; omega)]
        rfl
      have Hend : Hid (∀ x y i, y = bw ds (k + 1) → x = pd ds k → i = (j : Int) - 1 → ∃ q : Nat, q ≤ n ∧ Value.int .i64 i = .int .i64 ((n : Int) - 1 - (q : Int)) ∧ Value.int .i64 y = .int .i64 (bw ds q) ∧ Hid (Has (wr.setCell ⟨w.heap.size, j, none⟩ (.int .i64 x)) w.heap.size (.slice (some ⟨w.heap.size, 0, none⟩) n n) (fil (pd ds) n q)) ∧ Below w.heap.size w (wr.setCell ⟨w.heap.size, j, none⟩ (.int .i64 x))) := fun x y i hy hx hi => by
        refine ⟨k + 1, by omega, Ln.val_int (by omega), Ln.val_int hy, ?_, hbel.setCell (Nat.le_refl _) _⟩
        have := (World.ownsRow.stored hst j (.int .i64 x)).1
        show Has _ _ _ _
        unfold Has
        rw [← fil_set _ _ _ (show k < n by omega), List.length_set, fil_length _ _ _ (by omega), show n - 1 - k = j by omega, ← hx]
        simpa using this
      have Hc : Hid (bw ds (k + 1) = if lo ds k - bw ds k < 0 then 1 else 0) := rfl
      have Hs : Hid (pd ds k = lo ds k - bw ds k + 10 * bw ds (k + 1)) := rfl
      clear hst hown
      generalize lo ds k = d at *
      generalize bw ds k = c at *
      generalize bw ds (k + 1) = c' at *
      generalize pd ds k = s at *
      generalize (fil (pd ds) n k).getD j 0 = o at *
      by_cases h0 : d - c < 0
      · have E : Hid (c' = 1) := by have := Hc.out; rw [if_pos h0] at this; exact this
        go_wp2
        go_roundw
        case rel => exact Hend.out _ _ _ E.out.symm (by have := Hs.out; have := E.out; omega) (by omega)
        case measure => simp [intOf] <;> omega
      · have E : Hid (c' = 0) := by have := Hc.out; rw [if_neg h0] at this; exact this
        go_wp2
        go_roundw
        case rel => exact Hend.out _ _ _ E.out.symm (by have := Hs.out; have := E.out; omega) (by omega)
        case measure => simp [intOf] <;> omega
    · have ek : k = n := by omega
      subst ek
      have hd : decide ((0 : Int) ≤ (k : Int) - 1 - (k : Int)) = false := by simp; omega
      have Hw : Hid (Has wr w.heap.size (.slice (some ⟨w.heap.size, 0, none⟩) k k) (fl (pd ds) k)) := by
        have := hown.out
        rw [show fil (pd ds) k k = fl (pd ds) k by simp [fil]] at this
        exact this
      have hsz := hbel.size
      clear hown
      rw [Hb.out]
      cases hng : ng ds
      · have HE : Hid (plo ds = plain ds) := by have := He.out; rw [hng] at this; exact this
        have HK : Hid (pok ds = true) := by have := Hp.out; rw [hng] at this; exact this
        clear hng
        go_wp2
        go_ret2
        exact ⟨_, ret_pair HK.out.symm, by rw [HE.out, Hpl.out]; exact Hw.out, hbel⟩
      · have HE : Hid (plo ds = []) := by have := He.out; rw [hng] at this; exact this
        have HK : Hid (pok ds = false) := by have := Hp.out; rw [hng] at this; exact this
        clear hng
        go_wp2
        go_ret2
        exact ⟨_, ret_pair HK.out.symm, by rw [HE.out]; exact World.ownsRow_made wr #[] 0 hsz (Nat.zero_le _) rfl, hbel.alloc hsz _⟩
end Go.Proofs.Ytlbkhiphnllfpaj
