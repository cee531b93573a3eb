/-
  Looks at signed digits, the model's and the program's, walked.
-/
import Derived.Test.YtmeicjbeibmmganDoorRng
import Derived.Test.YtmeicjbeibmmganDoorSgnP
namespace Go.Proofs.YtmeicjbeibmmganDoor
open Go.RowKit
set_option linter.unusedVariables false
/-- What the model takes for signed digits. -/
def l3 (ds : List Int) : Bool := decide (ds.length ≤ 41) && rng (-9) 9 ds
theorem l3_big (ds : List Int) (h : 41 < ds.length) : l3 ds = false := by
  unfold l3; rw [decide_eq_false (by omega)]; rfl
theorem l3_rng (ds : List Int) (h : ds.length ≤ 41) : l3 ds = rng (-9) 9 ds := by
  unfold l3; rw [decide_eq_true h]; rfl
theorem allWithin_any (v : Value) (ds : List Int) (a b : Int) (base : Nat) (w : World) (h : Has w base v ds) :
    Calls Tryd.prog 20 #[v, .int .i64 a, .int .i64 b] w fun e w' => e = .returned (.bool (rng a b ds)) ∧ w' = w := by
  rcases h.form with ⟨rfl, rfl⟩ | ⟨g, ca, rfl, hgb, hgl, hmx, hca, hfz⟩
  · clear h
    go_enter Tryd.func20, Tryd.ntmps20
    go_wp2
    go_loop [11] (fun i => i = .int .i64 0) (fun _ => 0)
    case atStart => rfl
    case round =>
      subst hrel
      go_wp2
      go_ret
      exact ⟨rfl, rfl⟩
  · have Hc : Hid (∀ i, i < ds.length → w.cell? ⟨g, i, none⟩ = some (.int .i64 (ds.getD i 0))) := hca
    have hN : Hid (∀ i, i < ds.length → (ds.getD i 0 < a ∨ b < ds.getD i 0) → rng a b ds = false) := fun i hi hx => rng_no a b ds i hi hx
    have hY : Hid ((∀ i, i < ds.length → a ≤ ds.getD i 0 ∧ ds.getD i 0 ≤ b) → rng a b ds = true) := rng_yes a b ds
    clear h hca hfz
    generalize rng a b ds = r at *
    go_enter Tryd.func20, Tryd.ntmps20
    go_wp2
    go_loop [11] (fun i => ∃ k : Nat, k ≤ ds.length ∧ i = .int .i64 k ∧ Hid (∀ j, j < k → a ≤ ds.getD j 0 ∧ ds.getD j 0 ≤ b)) (fun i => ds.length - (intOf i).toNat)
    case atStart => exact ⟨0, Nat.zero_le _, rfl, fun j hj => absurd hj (Nat.not_lt_zero j)⟩
    case round =>
      obtain ⟨k, hk, rfl, hz⟩ := hrel
      by_cases hlt : k < ds.length
      · have hc := Hc.out k hlt
        have hlt' : (k : Int) < (ds.length : Int) := by omega
        obtain ⟨d, hdd⟩ : ∃ d, d = ds.getD k 0 := ⟨_, rfl⟩
        rw [← hdd] at hc
        have Hd : Hid (d = ds.getD k 0) := hdd
        clear hdd
        by_cases h1 : d < a
        · go_wp2
          go_ret
          exact ⟨Ln.ret_bool (hN.out k hlt (by rw [← Hd.out]; exact .inl h1)).symm, rfl⟩
        · by_cases h2 : b < d
          · go_wp2
            go_ret
            exact ⟨Ln.ret_bool (hN.out k hlt (by rw [← Hd.out]; exact .inr h2)).symm, rfl⟩
          · go_wp2
            go_round
            case rel => exact ⟨k + 1, by omega, by go_num, fun j hj => by rcases Nat.lt_or_ge j k with h | h; exact hz.out j h; rw [show j = k by omega, ← Hd.out]; omega⟩
            case measure => simp [intOf]; omega
      · go_wp2
        go_ret
        exact ⟨Ln.ret_bool (hY.out (fun i hi => hz.out i (by omega))).symm, rfl⟩
theorem allSigned_any (v : Value) (ds : List Int) (base : Nat) (w : World) (h : Has w base v ds) :
    Calls Tryd.prog 30 #[v] w fun e w' => e = .returned (.bool (rng (-9) 9 ds)) ∧ w' = w := by
  have H : Hid (Has w base v ds) := h
  clear h
  go_enter Tryd.func30, Tryd.ntmps30
  go_wp2_with fail
  refine (allWithin_any v ds (-9) 9 base _ H.out).mono ?_
  rintro e w' ⟨rfl, rfl⟩
  go_wp2
  go_ret
  exact ⟨rfl, rfl⟩
end Go.Proofs.YtmeicjbeibmmganDoor
