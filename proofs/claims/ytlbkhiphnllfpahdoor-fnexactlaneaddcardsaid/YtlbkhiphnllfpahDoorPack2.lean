/-
  What the model's l1Digits, l1Pack and LanePack answer, and the laws' copy of a slice, walked.
-/
import Derived.Test.YtlbkhiphnllfpahDoorPack
import Derived.Test.YtlbkhiphnllfpahDoorIn
namespace Go.Proofs.YtlbkhiphnllfpahDoor
open Go.RowKit
set_option linter.unusedVariables false

theorem ipack_no (n : Int) (v : Value) (ds : List Int) (base : Nat) (w : World) (hn : n < 1 ∨ 3 < n) (h : Has w base v ds) :
    Calls Tryd.prog 17 #[.int .i64 n, v] w fun e w' => e = .returned (.tuple #[.int .u64 0, .bool false]) ∧ w' = w := by
  obtain ⟨a, cap, rfl, hmx⟩ := h.len
  clear h
  go_enter Tryd.func17, Tryd.ntmps17
  go_wp2_with fail
  refine (isWeighting_no n _ hn).mono ?_
  rintro e w' ⟨rfl, rfl⟩
  go_wp2
  go_ret2
  exact ⟨rfl, rfl⟩
/-- The model's look at digits. -/
theorem l1Digits_any (v : Value) (ds : List Int) (base : Nat) (w : World) (h : Has w base v ds) (hl : ds.length ≤ 16) :
    Calls Tryd.prog 28 #[v] w fun e w' => e = .returned (.bool (Ln.okDs ds)) ∧ w' = w := by
  rcases h.form with ⟨rfl, rfl⟩ | ⟨g, ca, rfl, hgb, hgl, hmx, hca, hfz⟩
  · clear h hl
    go_enter Tryd.func28, Tryd.ntmps28
    go_wp2
    go_loop [3] (fun i => i = .int .i64 0) (fun _ => 0)
    case atStart => rfl
    case round =>
      subst hrel
      go_wp2
      go_ret
      exact ⟨rfl, rfl⟩
  · have Hc : Hid (∀ i, i < ds.length → w.cell? ⟨g, i, none⟩ = some (.int .i64 (ds.getD i 0))) := hca
    clear h hca hfz
    go_enter Tryd.func28, Tryd.ntmps28
    go_wp2
    go_loop [3] (fun i => ∃ k : Nat, k ≤ ds.length ∧ i = .int .i64 k ∧ Hid (∀ j, j < k → 0 ≤ ds.getD j 0 ∧ ds.getD j 0 ≤ 9)) (fun i => ds.length - (intOf i).toNat)
    case atStart => exact ⟨0, Nat.zero_le _, rfl, fun j hj => absurd hj (Nat.not_lt_zero j)⟩
    case round =>
      obtain ⟨k, hk, rfl, hz⟩ := hrel
      by_cases hlt : k < ds.length
      · have hc := Hc.out k hlt
        have hlt' : (k : Int) < (ds.length : Int) := by omega
        have hN : Hid (∀ i, i < ds.length → (ds.getD i 0 < 0 ∨ 9 < ds.getD i 0) → Ln.okDs ds = false) := fun i hi hx => Ln.okDs_no ds i hi hx
        obtain ⟨d, hdd⟩ : ∃ d, d = ds.getD k 0 := ⟨_, rfl⟩
        rw [← hdd] at hc
        have Hd : Hid (d = ds.getD k 0) := hdd
        clear hdd
        by_cases hin : d < 0 ∨ 9 < d
        · go_wp2_with fail
          refine (l1In_no d 0 9 _ hin).mono ?_
          rintro e w' ⟨rfl, rfl⟩
          go_wp2
          go_ret
          exact ⟨Ln.ret_bool (hN.out k hlt (by rw [← Hd.out]; exact hin)).symm, rfl⟩
        · go_wp2_with fail
          refine (l1In_yes d 0 9 _ (by omega) (by omega)).mono ?_
          rintro e w' ⟨rfl, rfl⟩
          go_wp2
          go_round
          case rel => exact ⟨k + 1, by omega, by go_num, fun j hj => by rcases Nat.lt_or_ge j k with h | h; exact hz.out j h; rw [show j = k by omega, ← Hd.out]; omega⟩
          case measure => simp [intOf]; omega
      · go_wp2
        go_ret
        exact ⟨Ln.ret_bool (Ln.okDs_yes ds hl (fun i hi => hz.out i (by omega))).symm, rfl⟩
/-- The model's packing. -/
theorem l1Pack_any (m : Nat) (v : Value) (ds : List Int) (base : Nat) (w : World) (hm : m < 3) (h : Has w base v ds) (hok : Ln.okDs ds = true) :
    Calls Tryd.prog 29 #[.int .i64 ((m : Int) + 1), v] w fun e w' => e = .returned (.int .u64 (Ln.packN m ds)) ∧ Below w.heap.size w w' := by
  have hl := Ln.okDs_len ds hok
  have Hok : Hid (∀ i, i < ds.length → 0 ≤ ds.getD i 0 ∧ ds.getD i 0 ≤ 9) := fun i hi => Ln.okDs_at ds hok i hi
  clear hok
  rcases h.form with ⟨rfl, rfl⟩ | ⟨g, ca, rfl, hgb, hgl, hmx, hca, hfz⟩
  · clear h hl Hok
    go_enter Tryd.func29, Tryd.ntmps29
    go_wp2
    go_loop [5, 6] (fun a i => i = .int .i64 0 ∧ a = .int .u64 0) (fun _ _ => 0)
    case atStart => exact ⟨rfl, rfl⟩
    case round =>
      obtain ⟨rfl, rfl⟩ := hrel
      go_wp2
      go_ret
      exact ⟨rfl, Below.refl _ _⟩
  · have Hc : Hid (∀ i, i < ds.length → w.cell? ⟨g, i, none⟩ = some (.int .i64 (ds.getD i 0))) := hca
    clear h hca hfz
    go_enter Tryd.func29, Tryd.ntmps29
    go_wp2
    go_loopw [5, 6] (fun a i wr => ∃ k : Nat, k ≤ ds.length ∧ i = .int .i64 k ∧ a = .int .u64 (Ln.pk m ds k) ∧ Below w.heap.size w wr) (fun _ i _ => ds.length - (intOf i).toNat)
    case atStart => exact ⟨0, Nat.zero_le _, rfl, rfl, Below.refl _ _⟩
    case round =>
      obtain ⟨k, hk, rfl, rfl, hbel⟩ := hrel
      have hsz := hbel.size
      by_cases hlt : k < ds.length
      · have hc := (hbel.cell (p := ⟨g, k, none⟩) hgl).trans (Hc.out k hlt)
        have hlt' : (k : Int) < (ds.length : Int) := by omega
        have hP : Hid (Ln.pk m ds (k + 1) = Ln.pk m ds k * 16 + (Ln.ff m (ds.getD k 0) : Int)) := Ln.pk_succ m ds k hlt
        have hrm := Ln.pk_room m ds k hlt hl
        have hin := Hok.out k hlt
        obtain ⟨d, hdd⟩ : ∃ d, d = ds.getD k 0 := ⟨_, rfl⟩
        rw [← hdd] at hc hin
        have Hd : Hid (d = ds.getD k 0) := hdd
        clear hdd
        have hfl := Ln.ff_lt m d
        go_wp2_with fail
        refine (l1FirstForm_any m d _ hm (by omega) (by omega)).mono ?_
        rintro e w1 ⟨rfl, hb1⟩
        go_wp2
        go_roundw
        case rel => exact ⟨k + 1, by omega, by go_num, Ln.val_int (by rw [hP.out, ← Hd.out]), hbel.trans (hb1.mono hsz)⟩
        case measure => simp [intOf]; omega
      · go_wp2
        go_ret
        exact ⟨Ln.ret_int (Ln.pk_all m ds k (by omega)), hbel⟩
/-- The model's LanePack. -/
theorem spack_any (m : Nat) (v : Value) (ds : List Int) (base : Nat) (w : World) (hm : m < 3) (h : Has w base v ds) :
    Calls Tryd.prog 15 #[.int .i64 ((m : Int) + 1), v] w fun e w' => e = .returned (.tuple #[.int .u64 (Ln.packV m ds), .bool (Ln.okDs ds)]) ∧ Below w.heap.size w w' := by
  obtain ⟨a, cap, rfl, hmx⟩ := h.len
  have HH : Hid (Has w base (.slice a ds.length cap) ds) := h
  clear h
  by_cases hl : 16 < ds.length
  · have hd : (16 : Int) < (ds.length : Int) := by omega
    have E : Hid (Ln.okDs ds = false) := Ln.okDs_long ds hl
    go_enter Tryd.func15, Tryd.ntmps15
    go_wp2_with fail
    refine (l1Weights_yes m _ hm).mono ?_
    rintro e w1 ⟨rfl, T, rfl⟩
    go_wp2
    go_ret2
    exact ⟨by unfold Ln.packV; rw [E.out]; rfl, (Below.refl _ _).alloc (Nat.le_refl _) _⟩
  · have hd : decide ((16 : Int) < (ds.length : Int)) = false := by simp; omega
    cases hok : Ln.okDs ds with
    | false =>
      have E : Hid (Ln.okDs ds = false) := hok
      clear hok
      go_enter Tryd.func15, Tryd.ntmps15
      go_wp2_with fail
      refine (l1Weights_yes m _ hm).mono ?_
      rintro e w1 ⟨rfl, T, rfl⟩
      have hb1 : Below w.heap.size w (w.alloc (.cells #[.int .i64 (Ln.wt m 0), .int .i64 (Ln.wt m 1), .int .i64 (Ln.wt m 2), .int .i64 (Ln.wt m 3)] T)) := (Below.refl _ _).alloc (Nat.le_refl _) _
      go_wp2_with fail
      refine (l1Digits_any _ ds _ _ (HH.out.below hb1 (Nat.le_refl _)) (by omega)).mono ?_
      rintro e w' ⟨rfl, rfl⟩
      rw [E.out]
      go_wp2
      go_ret2
      exact ⟨by unfold Ln.packV; rw [E.out]; rfl, hb1⟩
    | true =>
      have E : Hid (Ln.okDs ds = true) := hok
      clear hok
      go_enter Tryd.func15, Tryd.ntmps15
      go_wp2_with fail
      refine (l1Weights_yes m _ hm).mono ?_
      rintro e w1 ⟨rfl, T, rfl⟩
      have hb1 : Below w.heap.size w (w.alloc (.cells #[.int .i64 (Ln.wt m 0), .int .i64 (Ln.wt m 1), .int .i64 (Ln.wt m 2), .int .i64 (Ln.wt m 3)] T)) := (Below.refl _ _).alloc (Nat.le_refl _) _
      go_wp2_with fail
      refine (l1Digits_any _ ds _ _ (HH.out.below hb1 (Nat.le_refl _)) (by omega)).mono ?_
      rintro e w' ⟨rfl, rfl⟩
      rw [E.out]
      go_wp2_with fail
      refine (l1Pack_any m _ ds _ _ hm (HH.out.below hb1 (Nat.le_refl _)) E.out).mono ?_
      rintro e w2 ⟨rfl, hb2⟩
      go_wp2
      go_ret2
      exact ⟨by unfold Ln.packV; rw [E.out]; rfl, hb1.trans (hb2.mono hb1.size)⟩
theorem spack_no (n : Int) (v : Value) (ds : List Int) (base : Nat) (w : World) (hn : n < 1 ∨ 3 < n) (h : Has w base v ds) :
    Calls Tryd.prog 15 #[.int .i64 n, v] w fun e w' => e = .returned (.tuple #[.int .u64 0, .bool false]) ∧ Below w.heap.size w w' := by
  obtain ⟨a, cap, rfl, hmx⟩ := h.len
  clear h
  go_enter Tryd.func15, Tryd.ntmps15
  go_wp2_with fail
  refine (l1Weights_no n _ hn).mono ?_
  rintro e w1 ⟨⟨a, c, rfl⟩, hb⟩
  go_wp2
  go_ret2
  exact ⟨rfl, hb⟩
end Go.Proofs.YtlbkhiphnllfpahDoor
