/-
  What LaneAdd answers, for the program and for its model alike, and the model's sum of two lists of sixteen digits, walked.
-/
import Derived.Test.YtlbkhiphnllfpajDoorSumM
import Derived.Test.YtlbkhiphnllfpajDoorPlain
namespace Go.Proofs.YtlbkhiphnllfpajDoor
open Go.RowKit
set_option linter.unusedVariables false

/-- The model's sum of two lists of sixteen digits. -/
theorem l1Sum_any (va vb : Value) (fa fb : Nat → Int) (c : Int) (ba bb : Nat) (w : World) (ha : Has w ba va (highsF fa 16)) (hb : Has w bb vb (highsF fb 16)) (na : Nine fa) (nb : Nine fb) (h0 : 0 ≤ c) (h1 : c ≤ 1) :
    Calls Tryd.prog 10 #[va, vb, .int .i64 c] w fun e w' => ∃ v, e = .returned (.tuple #[v, .int .i64 (cyF fa fb c 16)]) ∧ Has w' w.heap.size v (highsF (sdF fa fb c) 16) ∧ Below w.heap.size w w' := by
  have hmk : ∀ w, (Instr.makeSlice 28 (.int .i64 16) (.int .i64 16)).run Tryd.prog w = .ok (.slice (some ⟨w.heap.size, 0, none⟩) 16 16) (w.alloc (.cells noughts 2)) := fun _ => by kernel_rfl
  rcases ha.form with ⟨_, e⟩ | ⟨g, ca, rfl, -, hgl, -, hca, -⟩
  · have := congrArg List.length e; rw [highsF_length] at this; cases this
  rcases hb.form with ⟨_, e⟩ | ⟨g', cb, rfl, -, hgl', -, hcb, -⟩
  · have := congrArg List.length e; rw [highsF_length] at this; cases this
  have Hca : Hid (∀ i, i < 16 → w.cell? ⟨g, i, none⟩ = some (.int .i64 (fa (15 - i)))) := fun i hi => by
    have := hca i (by rw [highsF_length]; exact hi); rw [List.getD, highsF_at fa 16 i hi] at this; exact this
  have Hcb : Hid (∀ i, i < 16 → w.cell? ⟨g', i, none⟩ = some (.int .i64 (fb (15 - i)))) := fun i hi => by
    have := hcb i (by rw [highsF_length]; exact hi); rw [List.getD, highsF_at fb 16 i hi] at this; exact this
  rw [highsF_length, highsF_length]
  have Hna : Hid (Nine fa) := na
  have Hnb : Hid (Nine fb) := nb
  clear ha hb hca hcb na nb
  go_enter Tryd.func10, Tryd.ntmps10
  go_wp2
  go_loopw [2, 9] (fun cv i wr => ∃ k : Nat, k ≤ 16 ∧ i = .int .i64 (15 - (k : Int)) ∧ cv = .int .i64 (cyF fa fb c k) ∧ Hid (wr.ownsRow w.heap.size 2 1 (.slice (some ⟨w.heap.size, 0, none⟩) 16 16) 16 ((lowsF (sdF fa fb c) k).map (Value.int .i64))) ∧ Below w.heap.size w wr) (fun _ i _ => (intOf i + 1).toNat)
  case atStart => exact ⟨0, Nat.zero_le _, Ln.val_int (by simp), rfl, by have := noughts_own 0 0 w; exact this, (Below.refl _ _).alloc (Nat.le_refl _) _⟩
  case round =>
    obtain ⟨k, hk, rfl, rfl, hown, hbel⟩ := hrel
    by_cases hlt : k < 16
    · have hge : (0 : Int) ≤ 15 - (k : Int) := by omega
      have hA := Hna.out k hlt
      have hB := Hnb.out k hlt
      have hC := cyF_bd fa fb c Hna.out Hnb.out h0 h1 k (by omega)
      have c1 : wr.cell? ⟨g, 15 - k, none⟩ = some (.int .i64 (fa k)) := (hbel.cell (p := ⟨g, 15 - k, none⟩) hgl).trans (by rw [Hca.out (15 - k) (by omega), show 15 - (15 - k) = k by omega])
      have c2 : wr.cell? ⟨g', 15 - k, none⟩ = some (.int .i64 (fb k)) := (hbel.cell (p := ⟨g', 15 - k, none⟩) hgl').trans (by rw [Hcb.out (15 - k) (by omega), show 15 - (15 - k) = k by omega])
      have hf := World.ownsRow.frozenAt hown.out (15 - k)
      have hc : wr.cell? ⟨w.heap.size, 15 - k, none⟩ = some (.int .i64 ((lowsF (sdF fa fb c) k).getD (15 - k) 0)) := by
        rw [World.ownsRow.cellAt hown.out (15 - k) (by omega)]
        simp only [List.getElem?_map, List.getD]
        rw [List.getElem?_eq_getElem (by rw [lowsF_length]; omega)]
        rfl
      obtain ⟨y, hy⟩ : ∃ y, y = cyF fa fb c k := ⟨_, rfl⟩
      have Hs : Hid (cyF fa fb c (k + 1) = (fa k + fb k + y) / 10) := by rw [hy]; exact cyF_succ fa fb c k
      have Hd : Hid (sdF fa fb c k = (fa k + fb k + y) % 10) := by rw [hy]; exact sdF_def fa fb c k
      rw [← hy] at hC ⊢
      have Hy : Hid (y = cyF fa fb c k) := hy
      clear hy
      have Hst : Hid (_ ∧ _) := World.ownsRow.stored hown.out (15 - k) (.int .i64 ((fa k + fb k + y) % 10))
      have hlt15 : 15 - (k : Int) < 16 := by omega
      go_wp2
      go_quiet (fail)
      go_wp2
      go_roundw
      case rel =>
        refine ⟨k + 1, by omega, Ln.val_int (by omega), Ln.val_int Hs.out.symm, ?_, ?_⟩
        · have := Hst.out.1
          rw [lowsF, Hd.out, List.map_set]
          exact this
        · exact below_drewN (hbel.setCell (Nat.le_refl _) _) _
      case measure => simp [intOf]; omega
    · have hd : decide ((0 : Int) ≤ 15 - (k : Int)) = false := by simp; omega
      go_wp2
      go_ret2
      have e : k = 16 := by omega
      subst e
      refine ⟨_, rfl, ?_, hbel⟩
      have := hown.out
      rw [lowsF_all] at this
      unfold Has
      rw [highsF_length]
      exact this
end Go.Proofs.YtlbkhiphnllfpajDoor
