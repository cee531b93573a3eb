/-
  The program's Weight of a few digits that lie anywhere, and Declets, walked.
-/
import Derived.Test.YtmeicjbeibmmganDoorTbs
import Derived.Test.YtmeicjbeibmmganDoorSgn9
import Derived.Test.YtmeicjbeibmmganDoorDcs
namespace Go.Proofs.YtmeicjbeibmmganDoor
open Go.RowKit
set_option linter.unusedVariables false
/-- Numbers in a row, from a place on. -/
def Lies (w : World) (g o : Nat) (ds : List Int) : Prop := ∀ i, i < ds.length → w.cell? ⟨g, o + i, none⟩ = some (.int .i64 (ds.getD i 0))
theorem Lies.below {B : Nat} {w w' : World} {g o : Nat} {ds : List Int} (h : Lies w g o ds) (hb : Below B w w') (hg : g < B) : Lies w' g o ds := fun i hi => by
  rw [hb.cell (p := ⟨g, o + i, none⟩) hg]; exact h i hi
theorem allWithin_at (g o ca : Nat) (ds : List Int) (a b : Int) (w : World) (h : Lies w g o ds) (hl : ds.length ≤ 9223372036854775807) :
    Calls Tryd.prog 20 #[.slice (some ⟨g, o, none⟩) ds.length ca, .int .i64 a, .int .i64 b] w fun e w' => e = .returned (.bool (rng a b ds)) ∧ w' = w := by
  have Hc : Hid (∀ i, i < ds.length → w.cell? ⟨g, o + i, none⟩ = some (.int .i64 (ds.getD i 0))) := h
  have hN : Hid (∀ i, i < ds.length → (ds.getD i 0 < a ∨ b < ds.getD i 0) → rng a b ds = false) := fun i hi hx => rng_no a b ds i hi hx
  have hY : Hid ((∀ i, i < ds.length → a ≤ ds.getD i 0 ∧ ds.getD i 0 ≤ b) → rng a b ds = true) := rng_yes a b ds
  clear h
  generalize rng a b ds = r at *
  go_enter Tryd.func20, Tryd.ntmps20
  go_wp2
  go_loop [11] (fun i => ∃ k : Nat, k ≤ ds.length ∧ i = .int .i64 k ∧ Hid (∀ j, j < k → a ≤ ds.getD j 0 ∧ ds.getD j 0 ≤ b)) (fun i => ds.length - (intOf i).toNat)
  case atStart => exact ⟨0, Nat.zero_le _, rfl, fun j hj => absurd hj (Nat.not_lt_zero j)⟩
  case round =>
    obtain ⟨k, hk, rfl, hz⟩ := hrel
    by_cases hlt : k < ds.length
    · have hc := Hc.out k hlt
      have hlt' : (k : Int) < (ds.length : Int) := by omega
      obtain ⟨d, hdd⟩ : ∃ d, d = ds.getD k 0 := ⟨_, rfl⟩
      rw [← hdd] at hc
      have Hd : Hid (d = ds.getD k 0) := hdd
      clear hdd
      by_cases h1 : d < a
      · go_wp2
        go_ret
        exact ⟨Ln.ret_bool (hN.out k hlt (by rw [← Hd.out]; exact .inl h1)).symm, rfl⟩
      · by_cases h2 : b < d
        · go_wp2
          go_ret
          exact ⟨Ln.ret_bool (hN.out k hlt (by rw [← Hd.out]; exact .inr h2)).symm, rfl⟩
        · go_wp2
          go_round
          case rel => exact ⟨k + 1, by omega, by go_num, fun j hj => by rcases Nat.lt_or_ge j k with h | h; exact hz.out j h; rw [show j = k by omega, ← Hd.out]; omega⟩
          case measure => simp [intOf]; omega
    · go_wp2
      go_ret
      exact ⟨Ln.ret_bool (hY.out (fun i hi => hz.out i (by omega))).symm, rfl⟩
theorem allSigned_at (g o ca : Nat) (ds : List Int) (w : World) (h : Lies w g o ds) (hl : ds.length ≤ 9223372036854775807) :
    Calls Tryd.prog 30 #[.slice (some ⟨g, o, none⟩) ds.length ca] w fun e w' => e = .returned (.bool (rng (-9) 9 ds)) ∧ w' = w := by
  have H : Hid (Lies w g o ds) := h
  clear h
  go_enter Tryd.func30, Tryd.ntmps30
  go_wp2_with fail
  refine (allWithin_at g o ca ds (-9) 9 _ H.out hl).mono ?_
  rintro e w' ⟨rfl, rfl⟩
  go_wp2
  go_ret
  exact ⟨rfl, rfl⟩
theorem iWeight_at (g o ca : Nat) (ds : List Int) (w : World) (h : Lies w g o ds) (h18 : ds.length ≤ 18) (hr : rng (-9) 9 ds = true) :
    Calls Tryd.prog 21 #[.slice (some ⟨g, o, none⟩) ds.length ca] w fun e w' => e = .returned (.tuple #[.int .i64 (vl ds), .bool true]) ∧ w' = w := by
  have h2' : ¬ (18 : Int) < (ds.length : Int) := by omega
  have H : Hid (Calls Tryd.prog 30 #[.slice (some ⟨g, o, none⟩) ds.length ca] w fun e w' => e = .returned (.bool true) ∧ w' = w) := by
    have := allSigned_at g o ca ds w h (by omega)
    rw [hr] at this
    exact this
  have Hr : Hid (rng (-9) 9 ds = true) := hr
  have Hds : Hid (∀ i, i < ds.length → w.cell? ⟨g, o + i, none⟩ = some (.int .i64 (ds.getD i 0))) := h
  have Hall : Hid (vl (ds.take ds.length) = vl ds) := by show _ = _; rw [List.take_length]
  have Hnx : Hid (∀ k, k < ds.length → vl (ds.take (k + 1)) = vl (ds.take k) * 10 + ds.getD k 0) := vl_take ds
  have Hbd : Hid (∀ k, k ≤ 17 → -100000000000000000 < vl (ds.take k) ∧ vl (ds.take k) < 100000000000000000) := vl_take_bd ds hr
  clear hr h
  generalize hn : ds.length = n at *
  go_enter Tryd.func21, Tryd.ntmps21
  go_wp2_with fail
  refine H.out.mono ?_
  rintro e w' ⟨rfl, hw⟩
  obtain rfl := hw.symm
  go_wp2
  go_loop [4, 17] (fun s i => ∃ k : Nat, k ≤ n ∧ i = .int .i64 k ∧ s = .int .i64 (vl (ds.take k))) (fun _ i => n - (intOf i).toNat)
  case atStart => exact ⟨0, Nat.zero_le _, rfl, by simp [vl, lv]⟩
  case round =>
    obtain ⟨k, hk, rfl, rfl⟩ := hrel
    by_cases hlt : k < n
    · have hlt' : (k : Int) < (n : Int) := by omega
      have hc := Hds.out k hlt
      have hb := Hbd.out k (by omega)
      have hdb := rng_at _ _ ds Hr.out k (by omega)
      have Hfin : Hid (∃ q : Nat, q ≤ n ∧ Value.int .i64 ((k : Int) + 1) = .int .i64 q ∧ Value.int .i64 (vl (ds.take k) * 10 + ds.getD k 0) = .int .i64 (vl (ds.take q))) := ⟨k + 1, by omega, by go_num, by rw [Hnx.out k hlt]⟩
      generalize vl (ds.take k) = N at *
      generalize ds.getD k 0 = d at *
      go_wp2
      go_round
      case rel => exact Hfin.out
      case measure => simp [intOf]; omega
    · obtain rfl : k = n := by omega
      rw [Hall.out]
      go_wp2
      go_ret2
      exact ⟨rfl, rfl⟩
/-- Three digits that lie anywhere. -/
theorem weight3 (g o ca : Nat) (x y z : Int) (w : World) (hx : 0 ≤ x ∧ x ≤ 9) (hy : 0 ≤ y ∧ y ≤ 9) (hz : 0 ≤ z ∧ z ≤ 9) (c0 : w.cell? ⟨g, o, none⟩ = some (.int .i64 x)) (c1 : w.cell? ⟨g, o + 1, none⟩ = some (.int .i64 y)) (c2 : w.cell? ⟨g, o + 2, none⟩ = some (.int .i64 z)) :
    Calls Tryd.prog 21 #[.slice (some ⟨g, o, none⟩) 3 ca] w fun e w' => e = .returned (.tuple #[.int .i64 (x * 100 + y * 10 + z), .bool true]) ∧ w' = w := by
  have hL : Lies w g o [x, y, z] := fun i hi => by
    match i, hi with
    | 0, _ => exact c0
    | 1, _ => exact c1
    | 2, _ => exact c2
  have := iWeight_at g o ca [x, y, z] w hL (by simp) (rng_yes _ _ _ fun i hi => by
    match i, hi with
    | 0, _ => simp; omega
    | 1, _ => simp; omega
    | 2, _ => simp; omega)
  rw [show vl [x, y, z] = x * 100 + y * 10 + z by simp [vl, lv]; omega] at this
  exact this
end Go.Proofs.YtmeicjbeibmmganDoor
