/-
  What signed digits stand for, by the model and by the program, walked.
-/
import Derived.Test.YtmeicjbeibmmganDoorSgn
namespace Go.Proofs.YtmeicjbeibmmganDoor
open Go.RowKit
set_option linter.unusedVariables false
/-- What Weight takes. -/
def wok (ds : List Int) : Bool := decide (ds.length ≤ 18) && rng (-9) 9 ds
/-- What Weight gives. -/
def wgt (ds : List Int) : Int := if wok ds then vl ds else 0
theorem wok_big (ds : List Int) (h : 18 < ds.length) : wok ds = false := by
  unfold wok; rw [decide_eq_false (by omega)]; rfl
theorem wok_rng (ds : List Int) (h : ds.length ≤ 18) : wok ds = rng (-9) 9 ds := by
  unfold wok; rw [decide_eq_true h]; rfl
theorem iWeight_any (v : Value) (ds : List Int) (base : Nat) (w : World) (h : Has w base v ds) :
    Calls Tryd.prog 21 #[v] w fun e w' => e = .returned (.tuple #[.int .i64 (wgt ds), .bool (wok ds)]) ∧ w' = w := by
  obtain ⟨a, ca, rfl, hm⟩ := h.len
  have H : Hid (Has w base (.slice a ds.length ca) ds) := h
  by_cases h2 : 18 < ds.length
  · have h2' : (18 : Int) < (ds.length : Int) := by omega
    have HK : Hid (wok ds = false) := wok_big ds h2
    have He : Hid (wgt ds = 0) := by show _ = _; unfold wgt; rw [HK.out]; rfl
    clear h
    go_enter Tryd.func21, Tryd.ntmps21
    go_wp2
    go_ret2
    exact ⟨by rw [HK.out, He.out]; rfl, rfl⟩
  have h2' : ¬ (18 : Int) < (ds.length : Int) := by omega
  cases hr : rng (-9) 9 ds with
  | false =>
    have Hr : Hid (rng (-9) 9 ds = false) := hr
    have HK : Hid (wok ds = false) := by show _ = _; rw [wok_rng ds (by omega)]; exact hr
    have He : Hid (wgt ds = 0) := by show _ = _; unfold wgt; rw [HK.out]; rfl
    have HL : Hid (l3 ds = rng (-9) 9 ds) := l3_rng ds (by omega)
    clear hr h
    go_enter Tryd.func21, Tryd.ntmps21
    go_wp2_with fail
    refine (allSigned_any _ ds base _ H.out).mono ?_
    rintro e w' ⟨rfl, hw⟩
    obtain rfl := hw.symm
    rw [Hr.out]
    go_wp2
    go_ret2
    exact ⟨by rw [HK.out, He.out]; rfl, rfl⟩
  | true =>
    have Hr : Hid (rng (-9) 9 ds = true) := hr
    have HK : Hid (wok ds = true) := by show _ = _; rw [wok_rng ds (by omega)]; exact hr
    have He : Hid (wgt ds = vl ds) := by show _ = _; unfold wgt; rw [HK.out]; rfl
    have HL : Hid (l3 ds = rng (-9) 9 ds) := l3_rng ds (by omega)
    have Hds : Hid (∀ i, i < ds.length → ∃ g, a = some ⟨g, 0, none⟩ ∧ g < w.heap.size ∧ w.cell? ⟨g, i, none⟩ = some (.int .i64 (ds.getD i 0))) := fun i hi => by
      rcases h.form with ⟨-, e⟩ | ⟨g, cap, e, -, hg, -, hc, -⟩
      · rw [e] at hi; simp at hi
      · exact ⟨g, by cases e; rfl, hg, hc i hi⟩
    have Hall : Hid (vl (ds.take ds.length) = vl ds) := by show _ = _; rw [List.take_length]
    have Hnx : Hid (∀ k, k < ds.length → vl (ds.take (k + 1)) = vl (ds.take k) * 10 + ds.getD k 0) := vl_take ds
    have Hbd : Hid (∀ k, k ≤ 17 → -100000000000000000 < vl (ds.take k) ∧ vl (ds.take k) < 100000000000000000) := vl_take_bd ds hr
    clear hr h
    generalize hn : ds.length = n at *
    go_enter Tryd.func21, Tryd.ntmps21
    go_wp2_with fail
    refine (allSigned_any _ ds base _ H.out).mono ?_
    rintro e w' ⟨rfl, hw⟩
    obtain rfl := hw.symm
    rw [Hr.out]
    go_wp2
    go_loop [4, 17] (fun s i => ∃ k : Nat, k ≤ n ∧ i = .int .i64 k ∧ s = .int .i64 (vl (ds.take k))) (fun _ i => n - (intOf i).toNat)
    case atStart => exact ⟨0, Nat.zero_le _, rfl, by simp [vl, lv]⟩
    case round =>
      obtain ⟨k, hk, rfl, rfl⟩ := hrel
      by_cases hlt : k < n
      · have hlt' : (k : Int) < (n : Int) := by omega
        obtain ⟨g, rfl, hg, hc⟩ := Hds.out k hlt
        have hb := Hbd.out k (by omega)
        have hdb := rng_at _ _ ds Hr.out k (by omega)
        have Hfin : Hid (∃ q : Nat, q ≤ n ∧ Value.int .i64 ((k : Int) + 1) = .int .i64 q ∧ Value.int .i64 (vl (ds.take k) * 10 + ds.getD k 0) = .int .i64 (vl (ds.take q))) := ⟨k + 1, by omega, by go_num, by rw [Hnx.out k hlt]⟩
        generalize vl (ds.take k) = N at *
        generalize ds.getD k 0 = d at *
        go_wp2
        go_round
        case rel => exact Hfin.out
        case measure => simp [intOf]; omega
      · obtain rfl : k = n := by omega
        rw [Hall.out]
        go_wp2
        go_ret2
        exact ⟨by rw [HK.out, He.out]; rfl, rfl⟩
end Go.Proofs.YtmeicjbeibmmganDoor
