/-
  What LanePack answers, for the program and for its model alike, walked.
-/
import Derived.Test.YtmeicjbeibmmganDoorPackM
import Derived.Test.YtmeicjbeibmmganDoorDigits
namespace Go.Proofs.YtmeicjbeibmmganDoor
open Go.RowKit
set_option linter.unusedVariables false

/-- The program's firstForm. -/
theorem firstForm_any (m : Nat) (d : Int) (w : World) (ht : Tab w) (hm : m < 3) (h0 : 0 ≤ d) (h9 : d ≤ 9) :
    Calls Tryd.prog 32 #[.int .i64 ((m : Int) + 1), .int .i64 d] w fun e w' => e = .returned (.int .u64 (Ln.ff m d)) ∧ w' = w := by
  obtain ⟨l0, hl0, he0⟩ := Ln.ff_ex m d hm h0 h9
  have He : Hid (Ln.dig m (l0 : Int) = d) := he0
  clear he0
  go_enter Tryd.func32, Tryd.ntmps32
  go_wp2
  go_loop [5] (fun i => ∃ k : Nat, k ≤ 15 ∧ i = .int .u64 k ∧ Hid (∀ j : Nat, j < k → Ln.dig m (j : Int) ≠ d)) (fun i => 15 - (intOf i).toNat)
  case atStart => exact ⟨0, Nat.zero_le _, rfl, fun j hj => absurd hj (Nat.not_lt_zero j)⟩
  case round =>
    obtain ⟨k, hk, rfl, hz⟩ := hrel
    by_cases hlt : k < 15
    · have hlt' : (k : Int) < 15 := by omega
      by_cases hd : Ln.dig m (k : Int) = d
      · have hb : (Ln.dig m (k : Int) != d) = false := by simp [hd]
        have Hd : Hid (Ln.dig m (k : Int) = d) := hd
        clear hd
        go_wp2_with fail
        refine (laneValue_any m _ _ ht hm (by omega) (by omega)).mono ?_
        rintro e w' ⟨rfl, rfl⟩
        go_wp2
        go_ret
        exact ⟨Ln.ret_int (by rw [Ln.ff_of m d k (by omega) Hd.out hz.out]), rfl⟩
      · have hb : (Ln.dig m (k : Int) != d) = true := by simp [hd]
        have Hd : Hid (Ln.dig m (k : Int) ≠ d) := hd
        clear hd
        go_wp2_with fail
        refine (laneValue_any m _ _ ht hm (by omega) (by omega)).mono ?_
        rintro e w' ⟨rfl, rfl⟩
        go_wp2
        go_round
        case rel => exact ⟨k + 1, by omega, by go_num, fun j hj => by rcases Nat.lt_or_ge j k with h | h; exact hz.out j h; rw [show j = k by omega]; exact Hd.out⟩
        case measure => simp [intOf]; omega
    · have hd : decide ((k : Int) < 15) = false := by simp; omega
      go_wp2
      go_ret
      refine ⟨Ln.ret_int ?_, rfl⟩
      have e : l0 = k := by
        rcases Nat.lt_or_ge l0 k with h | h
        · exact absurd He.out (hz.out l0 h)
        · omega
      rw [Ln.ff_of m d k (by omega) (by rw [← e]; exact He.out) hz.out]
/-- The program's LanePack at one of the three weightings. -/
theorem ipack_any (m : Nat) (v : Value) (ds : List Int) (base : Nat) (w : World) (ht : Tab w) (hm : m < 3) (h : Has w base v ds) :
    Calls Tryd.prog 22 #[.int .i64 ((m : Int) + 1), v] w fun e w' => e = .returned (.tuple #[.int .u64 (Ln.packV m ds), .bool (Ln.okDs ds)]) ∧ w' = w := by
  rcases Nat.lt_or_ge 16 ds.length with hl | hl
  · obtain ⟨a, cap, rfl, hmx⟩ := h.len
    have hd : (16 : Int) < (ds.length : Int) := by omega
    have e := Ln.okDs_long ds hl
    have E : Hid (Ln.okDs ds = false) := e
    clear h e
    go_enter Tryd.func22, Tryd.ntmps22
    go_wp2_with fail
    refine (isWeighting_yes m _ hm).mono ?_
    rintro e w' ⟨rfl, rfl⟩
    go_wp2
    go_ret2
    exact ⟨by unfold Ln.packV; rw [E.out]; rfl, rfl⟩
  · rcases h.form with ⟨rfl, rfl⟩ | ⟨g, ca, rfl, hgb, hgl, hmx, hca, hfz⟩
    · clear h hl
      go_enter Tryd.func22, Tryd.ntmps22
      go_wp2_with fail
      refine (isWeighting_yes m _ hm).mono ?_
      rintro e w' ⟨rfl, rfl⟩
      go_wp2
      go_loop [6, 19] (fun a i => i = .int .i64 0 ∧ a = .int .u64 0) (fun _ _ => 0)
      case atStart => exact ⟨rfl, rfl⟩
      case round =>
        obtain ⟨rfl, rfl⟩ := hrel
        go_wp2
        go_ret2
        exact ⟨rfl, rfl⟩
    · have Hc : Hid (∀ i, i < ds.length → w.cell? ⟨g, i, none⟩ = some (.int .i64 (ds.getD i 0))) := hca
      have hd : ¬ (16 : Int) < (ds.length : Int) := by omega
      clear h hca hfz
      go_enter Tryd.func22, Tryd.ntmps22
      go_wp2_with fail
      refine (isWeighting_yes m _ hm).mono ?_
      rintro e w' ⟨rfl, rfl⟩
      go_wp2
      go_loop [6, 19] (fun a i => ∃ k : Nat, k ≤ ds.length ∧ i = .int .i64 k ∧ a = .int .u64 (Ln.pk m ds k) ∧ Hid (∀ j, j < k → 0 ≤ ds.getD j 0 ∧ ds.getD j 0 ≤ 9)) (fun _ i => ds.length - (intOf i).toNat)
      case atStart => exact ⟨0, Nat.zero_le _, rfl, rfl, fun j hj => absurd hj (Nat.not_lt_zero j)⟩
      case round =>
        obtain ⟨k, hk, rfl, rfl, hz⟩ := hrel
        by_cases hlt : k < ds.length
        · have hc := Hc.out k hlt
          have hlt' : (k : Int) < (ds.length : Int) := by omega
          have hN : Hid (∀ i, i < ds.length → (ds.getD i 0 < 0 ∨ 9 < ds.getD i 0) → Ln.okDs ds = false) := fun i hi hx => Ln.okDs_no ds i hi hx
          have hP : Hid (Ln.pk m ds (k + 1) = Ln.pk m ds k * 16 + (Ln.ff m (ds.getD k 0) : Int)) := Ln.pk_succ m ds k hlt
          have hrm := Ln.pk_room m ds k hlt hl
          obtain ⟨d, hdd⟩ : ∃ d, d = ds.getD k 0 := ⟨_, rfl⟩
          rw [← hdd] at hc
          have Hd : Hid (d = ds.getD k 0) := hdd
          clear hdd
          by_cases h0 : d < 0
          · go_wp2
            go_ret2
            have E := hN.out k hlt (by rw [← Hd.out]; exact .inl h0)
            exact ⟨by unfold Ln.packV; rw [E]; rfl, rfl⟩
          · have h0' : decide (d < 0) = false := by simpa using h0
            by_cases h9 : 9 < d
            · go_wp2
              go_ret2
              have E := hN.out k hlt (by rw [← Hd.out]; exact .inr h9)
              exact ⟨by unfold Ln.packV; rw [E]; rfl, rfl⟩
            · have hfl := Ln.ff_lt m d
              have hor := Ln.or16 (Ln.pk m ds k) (Ln.ff m d) hrm.1 hrm.2 hfl
              go_wp2_with fail
              refine (firstForm_any m d _ ht hm (by omega) (by omega)).mono ?_
              rintro e w' ⟨rfl, rfl⟩
              go_wp2
              go_round
              case rel => exact ⟨k + 1, by omega, by go_num, Ln.val_int (by rw [hP.out, ← Hd.out]), fun j hj => by rcases Nat.lt_or_ge j k with h | h; exact hz.out j h; rw [show j = k by omega, ← Hd.out]; omega⟩
              case measure => simp [intOf]; omega
        · go_wp2
          go_ret2
          have E := Ln.okDs_yes ds hl (fun i hi => hz.out i (by omega))
          exact ⟨by unfold Ln.packV; rw [E, if_pos rfl, Ln.pk_all m ds k (by omega)]; rfl, rfl⟩
end Go.Proofs.YtmeicjbeibmmganDoor
