/-
  The model's look at digits, of whatever number, walked.
-/
import Derived.Test.YtmeicjbeibmmganDoorSl
import Derived.Test.YtmeicjbeibmmganDoorIn
import Derived.Test.YtmeicjbeibmmganDoorSgnM
namespace Go.Proofs.YtmeicjbeibmmganDoor
open Go.RowKit
set_option linter.unusedVariables false
theorem l1Digits_rng (v : Value) (ds : List Int) (base : Nat) (w : World) (h : Has w base v ds) :
    Calls Tryd.prog 19 #[v] w fun e w' => e = .returned (.bool (rng 0 9 ds)) ∧ w' = w := by
  rcases h.form with ⟨rfl, rfl⟩ | ⟨g, ca, rfl, hgb, hgl, hmx, hca, hfz⟩
  · clear h
    go_enter Tryd.func19, Tryd.ntmps19
    go_wp2
    go_loop [3] (fun i => i = .int .i64 0) (fun _ => 0)
    case atStart => rfl
    case round =>
      subst hrel
      go_wp2
      go_ret
      exact ⟨rfl, rfl⟩
  · have Hc : Hid (∀ i, i < ds.length → w.cell? ⟨g, i, none⟩ = some (.int .i64 (ds.getD i 0))) := hca
    have hN : Hid (∀ i, i < ds.length → (ds.getD i 0 < 0 ∨ 9 < ds.getD i 0) → rng 0 9 ds = false) := fun i hi hx => rng_no 0 9 ds i hi hx
    have hY : Hid ((∀ i, i < ds.length → 0 ≤ ds.getD i 0 ∧ ds.getD i 0 ≤ 9) → rng 0 9 ds = true) := rng_yes 0 9 ds
    clear h hca hfz
    generalize rng 0 9 ds = r at *
    go_enter Tryd.func19, Tryd.ntmps19
    go_wp2
    go_loop [3] (fun i => ∃ k : Nat, k ≤ ds.length ∧ i = .int .i64 k ∧ Hid (∀ j, j < k → 0 ≤ ds.getD j 0 ∧ ds.getD j 0 ≤ 9)) (fun i => ds.length - (intOf i).toNat)
    case atStart => exact ⟨0, Nat.zero_le _, rfl, fun j hj => absurd hj (Nat.not_lt_zero j)⟩
    case round =>
      obtain ⟨k, hk, rfl, hz⟩ := hrel
      by_cases hlt : k < ds.length
      · have hc := Hc.out k hlt
        have hlt' : (k : Int) < (ds.length : Int) := by omega
        obtain ⟨d, hdd⟩ : ∃ d, d = ds.getD k 0 := ⟨_, rfl⟩
        rw [← hdd] at hc
        have Hd : Hid (d = ds.getD k 0) := hdd
        clear hdd
        by_cases hin : d < 0 ∨ 9 < d
        · go_wp2_with fail
          refine (l1In_no d 0 9 _ hin).mono ?_
          rintro e w' ⟨rfl, rfl⟩
          go_wp2
          go_ret
          exact ⟨Ln.ret_bool (hN.out k hlt (by rw [← Hd.out]; exact hin)).symm, rfl⟩
        · go_wp2_with fail
          refine (l1In_yes d 0 9 _ (by omega) (by omega)).mono ?_
          rintro e w' ⟨rfl, rfl⟩
          go_wp2
          go_round
          case rel => exact ⟨k + 1, by omega, by go_num, fun j hj => by rcases Nat.lt_or_ge j k with h | h; exact hz.out j h; rw [show j = k by omega, ← Hd.out]; omega⟩
          case measure => simp [intOf]; omega
      · go_wp2
        go_ret
        exact ⟨Ln.ret_bool (hY.out (fun i hi => hz.out i (by omega))).symm, rfl⟩
end Go.Proofs.YtmeicjbeibmmganDoor
