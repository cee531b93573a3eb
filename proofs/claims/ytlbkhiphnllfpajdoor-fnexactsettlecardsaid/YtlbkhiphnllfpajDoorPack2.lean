/-
  What the model's l1Digits, l1Pack and LanePack answer, and the laws' copy of a slice, walked.
-/
import Derived.Test.YtlbkhiphnllfpajDoorPack
import Derived.Test.YtlbkhiphnllfpajDoorIn
namespace Go.Proofs.YtlbkhiphnllfpajDoor
open Go.RowKit
set_option linter.unusedVariables false

theorem ipack_no (n : Int) (v : Value) (ds : List Int) (base : Nat) (w : World) (hn : n < 1 ∨ 3 < n) (h : Has w base v ds) :
    Calls Tryd.prog 22 #[.int .i64 n, v] w fun e w' => e = .returned (.tuple #[.int .u64 0, .bool false]) ∧ w' = w := by
  obtain ⟨a, cap, rfl, hmx⟩ := h.len
  clear h
  go_enter Tryd.func22, Tryd.ntmps22
  go_wp2_with fail
  refine (isWeighting_no n _ hn).mono ?_
  rintro e w' ⟨rfl, rfl⟩
  go_wp2
  go_ret2
  exact ⟨rfl, rfl⟩
/-- The model's packing. -/
theorem l1Pack_any (m : Nat) (v : Value) (ds : List Int) (base : Nat) (w : World) (hm : m < 3) (h : Has w base v ds) (hok : Ln.okDs ds = true) :
    Calls Tryd.prog 12 #[.int .i64 ((m : Int) + 1), v] w fun e w' => e = .returned (.int .u64 (Ln.packN m ds)) ∧ Below w.heap.size w w' := by
  have hl := Ln.okDs_len ds hok
  have Hok : Hid (∀ i, i < ds.length → 0 ≤ ds.getD i 0 ∧ ds.getD i 0 ≤ 9) := fun i hi => Ln.okDs_at ds hok i hi
  clear hok
  rcases h.form with ⟨rfl, rfl⟩ | ⟨g, ca, rfl, hgb, hgl, hmx, hca, hfz⟩
  · clear h hl Hok
    go_enter Tryd.func12, Tryd.ntmps12
    go_wp2
    go_loop [5, 6] (fun a i => i = .int .i64 0 ∧ a = .int .u64 0) (fun _ _ => 0)
    case atStart => exact ⟨rfl, rfl⟩
    case round =>
      obtain ⟨rfl, rfl⟩ := hrel
      go_wp2
      go_ret
      exact ⟨rfl, Below.refl _ _⟩
  · have Hc : Hid (∀ i, i < ds.length → w.cell? ⟨g, i, none⟩ = some (.int .i64 (ds.getD i 0))) := hca
    clear h hca hfz
    go_enter Tryd.func12, Tryd.ntmps12
    go_wp2
    go_loopw [5, 6] (fun a i wr => ∃ k : Nat, k ≤ ds.length ∧ i = .int .i64 k ∧ a = .int .u64 (Ln.pk m ds k) ∧ Below w.heap.size w wr) (fun _ i _ => ds.length - (intOf i).toNat)
    case atStart => exact ⟨0, Nat.zero_le _, rfl, rfl, Below.refl _ _⟩
    case round =>
      obtain ⟨k, hk, rfl, rfl, hbel⟩ := hrel
      have hsz := hbel.size
      by_cases hlt : k < ds.length
      · have hc := (hbel.cell (p := ⟨g, k, none⟩) hgl).trans (Hc.out k hlt)
        have hlt' : (k : Int) < (ds.length : Int) := by omega
        have hP : Hid (Ln.pk m ds (k + 1) = Ln.pk m ds k * 16 + (Ln.ff m (ds.getD k 0) : Int)) := Ln.pk_succ m ds k hlt
        have hrm := Ln.pk_room m ds k hlt hl
        have hin := Hok.out k hlt
        obtain ⟨d, hdd⟩ : ∃ d, d = ds.getD k 0 := ⟨_, rfl⟩
        rw [← hdd] at hc hin
        have Hd : Hid (d = ds.getD k 0) := hdd
        clear hdd
        have hfl := Ln.ff_lt m d
        go_wp2_with fail
        refine (l1FirstForm_any m d _ hm (by omega) (by omega)).mono ?_
        rintro e w1 ⟨rfl, hb1⟩
        go_wp2
        go_roundw
        case rel => exact ⟨k + 1, by omega, by go_num, Ln.val_int (by rw [hP.out, ← Hd.out]), hbel.trans (hb1.mono hsz)⟩
        case measure => simp [intOf]; omega
      · go_wp2
        go_ret
        exact ⟨Ln.ret_int (Ln.pk_all m ds k (by omega)), hbel⟩
end Go.Proofs.YtlbkhiphnllfpajDoor
