/-
  Looks at signed digits, the model's and the program's, walked.
-/
import Derived.Test.YtlbkhiphnllfpabRng
import Derived.Test.YtlbkhiphnllfpabSgnP
namespace Go.Proofs.Ytlbkhiphnllfpab
open Go.RowKit
set_option linter.unusedVariables false
/-- What the model takes for signed digits. -/
def l3 (ds : List Int) : Bool := decide (ds.length ≤ 41) && rng (-9) 9 ds
theorem l3_big (ds : List Int) (h : 41 < ds.length) : l3 ds = false := by
  unfold l3; rw [decide_eq_false (by omega)]; rfl
theorem l3_rng (ds : List Int) (h : ds.length ≤ 41) : l3 ds = rng (-9) 9 ds := by
  unfold l3; rw [decide_eq_true h]; rfl
theorem l3Ok_any (v : Value) (ds : List Int) (base : Nat) (w : World) (h : Has w base v ds) :
    Calls Try.prog 26 #[v] w fun e w' => e = .returned (.bool (l3 ds)) ∧ w' = w := by
  by_cases hbig : 41 < ds.length
  · obtain ⟨a, ca, rfl, hm⟩ := h.len
    have hb' : (41 : Int) < (ds.length : Int) := by omega
    rw [l3_big ds hbig]
    clear h
    go_enter Try.func26, Try.ntmps26
    go_wp2
    go_ret
    exact ⟨rfl, rfl⟩
  have hb' : ¬ (41 : Int) < (ds.length : Int) := by omega
  rw [l3_rng ds (by omega)]
  rcases h.form with ⟨rfl, rfl⟩ | ⟨g, ca, rfl, hgb, hgl, hmx, hca, hfz⟩
  · clear h
    go_enter Try.func26, Try.ntmps26
    go_wp2
    go_loop [3] (fun i => i = .int .i64 0) (fun _ => 0)
    case atStart => rfl
    case round =>
      subst hrel
      go_wp2
      go_ret
      exact ⟨rfl, rfl⟩
  · have Hc : Hid (∀ i, i < ds.length → w.cell? ⟨g, i, none⟩ = some (.int .i64 (ds.getD i 0))) := hca
    have hN : Hid (∀ i, i < ds.length → (ds.getD i 0 < -9 ∨ 9 < ds.getD i 0) → rng (-9) 9 ds = false) := fun i hi hx => rng_no (-9) 9 ds i hi hx
    have hY : Hid ((∀ i, i < ds.length → -9 ≤ ds.getD i 0 ∧ ds.getD i 0 ≤ 9) → rng (-9) 9 ds = true) := rng_yes (-9) 9 ds
    clear h hca hfz
    generalize rng (-9) 9 ds = r at *
    go_enter Try.func26, Try.ntmps26
    go_wp2
    go_loop [3] (fun i => ∃ k : Nat, k ≤ ds.length ∧ i = .int .i64 k ∧ Hid (∀ j, j < k → -9 ≤ ds.getD j 0 ∧ ds.getD j 0 ≤ 9)) (fun i => ds.length - (intOf i).toNat)
    case atStart => exact ⟨0, Nat.zero_le _, rfl, fun j hj => absurd hj (Nat.not_lt_zero j)⟩
    case round =>
      obtain ⟨k, hk, rfl, hz⟩ := hrel
      by_cases hlt : k < ds.length
      · have hc := Hc.out k hlt
        have hlt' : (k : Int) < (ds.length : Int) := by omega
        obtain ⟨d, hdd⟩ : ∃ d, d = ds.getD k 0 := ⟨_, rfl⟩
        rw [← hdd] at hc
        have Hd : Hid (d = ds.getD k 0) := hdd
        clear hdd
        by_cases hin : d < -9 ∨ 9 < d
        · go_wp2_with fail
          refine (l1In_no d (-9) 9 _ hin).mono ?_
          rintro e w' ⟨rfl, rfl⟩
          go_wp2
          go_ret
          exact ⟨Ln.ret_bool (hN.out k hlt (by rw [← Hd.out]; exact hin)).symm, rfl⟩
        · go_wp2_with fail
          refine (l1In_yes d (-9) 9 _ (by omega) (by omega)).mono ?_
          rintro e w' ⟨rfl, rfl⟩
          go_wp2
          go_round
          case rel => exact ⟨k + 1, by omega, by go_num, fun j hj => by rcases Nat.lt_or_ge j k with h | h; exact hz.out j h; rw [show j = k by omega, ← Hd.out]; omega⟩
          case measure => simp [intOf]; omega
      · go_wp2
        go_ret
        exact ⟨Ln.ret_bool (hY.out (fun i hi => hz.out i (by omega))).symm, rfl⟩
theorem allWithin_any (v : Value) (ds : List Int) (a b : Int) (base : Nat) (w : World) (h : Has w base v ds) :
    Calls Try.prog 19 #[v, .int .i64 a, .int .i64 b] w fun e w' => e = .returned (.bool (rng a b ds)) ∧ w' = w := by
  rcases h.form with ⟨rfl, rfl⟩ | ⟨g, ca, rfl, hgb, hgl, hmx, hca, hfz⟩
  · clear h
    go_enter Try.func19, Try.ntmps19
    go_wp2
    go_loop [11] (fun i => i = .int .i64 0) (fun _ => 0)
    case atStart => rfl
    case round =>
      subst hrel
      go_wp2
      go_ret
      exact ⟨rfl, rfl⟩
  · have Hc : Hid (∀ i, i < ds.length → w.cell? ⟨g, i, none⟩ = some (.int .i64 (ds.getD i 0))) := hca
    have hN : Hid (∀ i, i < ds.length → (ds.getD i 0 < a ∨ b < ds.getD i 0) → rng a b ds = false) := fun i hi hx => rng_no a b ds i hi hx
    have hY : Hid ((∀ i, i < ds.length → a ≤ ds.getD i 0 ∧ ds.getD i 0 ≤ b) → rng a b ds = true) := rng_yes a b ds
    clear h hca hfz
    generalize rng a b ds = r at *
    go_enter Try.func19, Try.ntmps19
    go_wp2
    go_loop [11] (fun i => ∃ k : Nat, k ≤ ds.length ∧ i = .int .i64 k ∧ Hid (∀ j, j < k → a ≤ ds.getD j 0 ∧ ds.getD j 0 ≤ b)) (fun i => ds.length - (intOf i).toNat)
    case atStart => exact ⟨0, Nat.zero_le _, rfl, fun j hj => absurd hj (Nat.not_lt_zero j)⟩
    case round =>
      obtain ⟨k, hk, rfl, hz⟩ := hrel
      by_cases hlt : k < ds.length
      · have hc := Hc.out k hlt
        have hlt' : (k : Int) < (ds.length : Int) := by omega
        obtain ⟨d, hdd⟩ : ∃ d, d = ds.getD k 0 := ⟨_, rfl⟩
        rw [← hdd] at hc
        have Hd : Hid (d = ds.getD k 0) := hdd
        clear hdd
        by_cases h1 : d < a
        · go_wp2
          go_ret
          exact ⟨Ln.ret_bool (hN.out k hlt (by rw [← Hd.out]; exact .inl h1)).symm, rfl⟩
        · by_cases h2 : b < d
          · go_wp2
            go_ret
            exact ⟨Ln.ret_bool (hN.out k hlt (by rw [← Hd.out]; exact .inr h2)).symm, rfl⟩
          · go_wp2
            go_round
            case rel => exact ⟨k + 1, by omega, by go_num, fun j hj => by rcases Nat.lt_or_ge j k with h | h; exact hz.out j h; rw [show j = k by omega, ← Hd.out]; omega⟩
            case measure => simp [intOf]; omega
      · go_wp2
        go_ret
        exact ⟨Ln.ret_bool (hY.out (fun i hi => hz.out i (by omega))).symm, rfl⟩
theorem allSigned_any (v : Value) (ds : List Int) (base : Nat) (w : World) (h : Has w base v ds) :
    Calls Try.prog 22 #[v] w fun e w' => e = .returned (.bool (rng (-9) 9 ds)) ∧ w' = w := by
  have H : Hid (Has w base v ds) := h
  clear h
  go_enter Try.func22, Try.ntmps22
  go_wp2_with fail
  refine (allWithin_any v ds (-9) 9 base _ H.out).mono ?_
  rintro e w' ⟨rfl, rfl⟩
  go_wp2
  go_ret
  exact ⟨rfl, rfl⟩
theorem belowNought_any (v : Value) (ds : List Int) (base : Nat) (w : World) (h : Has w base v ds) (hr : rng (-9) 9 ds = true) :
    Calls Try.prog 23 #[v] w fun e w' => e = .returned (.bool (ng ds)) ∧ w' = w := by
  rcases h.form with ⟨rfl, rfl⟩ | ⟨g, ca, rfl, hgb, hgl, hmx, hca, hfz⟩
  · clear h
    go_enter Try.func23, Try.ntmps23
    go_wp2
    go_loop [7] (fun i => i = .int .i64 0) (fun _ => 0)
    case atStart => rfl
    case round =>
      subst hrel
      go_wp2
      go_ret
      exact ⟨rfl, rfl⟩
  · have Hc : Hid (∀ i, i < ds.length → w.cell? ⟨g, i, none⟩ = some (.int .i64 (ds.getD i 0))) := hca
    have hF : Hid (∀ i, i < ds.length → (∀ j, j < i → ds.getD j 0 = 0) → ds.getD i 0 ≠ 0 → ng ds = decide (ds.getD i 0 < 0)) := ng_first ds hr
    have hZ : Hid ((∀ j, j < ds.length → ds.getD j 0 = 0) → ng ds = false) := ng_nought ds
    clear h hca hfz hr
    generalize ng ds = r at *
    go_enter Try.func23, Try.ntmps23
    go_wp2
    go_loop [7] (fun i => ∃ k : Nat, k ≤ ds.length ∧ i = .int .i64 k ∧ Hid (∀ j, j < k → ds.getD j 0 = 0)) (fun i => ds.length - (intOf i).toNat)
    case atStart => exact ⟨0, Nat.zero_le _, rfl, fun j hj => absurd hj (Nat.not_lt_zero j)⟩
    case round =>
      obtain ⟨k, hk, rfl, hz⟩ := hrel
      by_cases hlt : k < ds.length
      · have hc := Hc.out k hlt
        have hlt' : (k : Int) < (ds.length : Int) := by omega
        obtain ⟨d, hdd⟩ : ∃ d, d = ds.getD k 0 := ⟨_, rfl⟩
        rw [← hdd] at hc
        have Hd : Hid (d = ds.getD k 0) := hdd
        clear hdd
        by_cases h1 : d = 0
        · have Hz : Hid (∀ j, j < k + 1 → ds.getD j 0 = 0) := fun j hj => by
            rcases Nat.lt_or_ge j k with h | h
            · exact hz.out j h
            · rw [show j = k by omega, ← Hd.out]; exact h1
          subst h1
          go_wp2
          go_round
          case rel => exact ⟨k + 1, by omega, by go_num, Hz⟩
          case measure => simp [intOf]; omega
        · have h1' : (d == 0) = false := by simpa using h1
          have He : Hid (r = decide (d < 0)) := by
            have := hF.out k hlt hz.out (by rw [← Hd.out]; exact h1)
            rw [← Hd.out] at this; exact this
          go_wp2
          go_ret
          exact ⟨Ln.ret_bool He.out.symm, rfl⟩
      · go_wp2
        go_ret
        exact ⟨Ln.ret_bool (hZ.out (fun i hi => hz.out i (by omega))).symm, rfl⟩
/-- One digit made signed. -/
theorem signOne_any (t a c : Int) (w : World) (ht0 : 0 ≤ t) (ht1 : t ≤ 10) (hc : c = if 6 ≤ t ∨ (t = 5 ∧ 5 ≤ a) then 1 else 0) :
    Calls Try.prog 20 #[.int .i64 t, .int .i64 a] w fun e w' => e = .returned (.tuple #[.int .i64 (t - 10 * c), .int .i64 c]) ∧ w' = w := by
  by_cases h1 : 5 < t
  · rw [if_pos (.inl (by omega))] at hc
    subst hc
    go_enter Try.func20, Try.ntmps20
    go_wp2
    go_ret2
    exact ⟨by simp, rfl⟩
  · by_cases h2 : t = 5
    · subst h2
      by_cases h3 : 5 ≤ a
      · rw [if_pos (.inr ⟨rfl, h3⟩)] at hc
        subst hc
        go_enter Try.func20, Try.ntmps20
        go_wp2
        go_ret2
        exact ⟨by simp, rfl⟩
      · rw [if_neg (by omega)] at hc
        have h3' : decide (5 ≤ a) = false := by simpa using h3
        subst hc
        go_enter Try.func20, Try.ntmps20
        go_wp2
        go_ret2
        exact ⟨by simp, rfl⟩
    · rw [if_neg (by omega)] at hc
      have h2' : (t == 5) = false := by simpa using h2
      have h1' : decide (5 < t) = false := by simpa using h1
      subst hc
      go_enter Try.func20, Try.ntmps20
      go_wp2
      go_ret2
      exact ⟨by simp, rfl⟩
end Go.Proofs.Ytlbkhiphnllfpab
