/-
  Weight of the program answers as Weight of its model, whatever the signed digits, and writes nothing into them.
-/
import Derived.Test.YtlbkhiphnllfpakRows
import Derived.WalkKit
import Derived.ProofKit
import Derived.OpenShut
import Derived.ShutString
import Derived.ChangeOld
import Derived.Below
import Derived.Test.YtlbkhiphnllfpakSgn9
import Derived.Test.YtlbkhiphnllfpakCopy
namespace Go.Proofs.Ytlbkhiphnllfpak.fnExactWeight
open Go.ChangeShapes Go.WideShapes Go.ChangeAt Go.RowKit
open Go.ChangeMaps (open_string shut_string)
set_option linter.unusedVariables false

theorem own : ownKnob Try.prog.godebug = none := by kernel_rfl
theorem laidOut : laidOutB Try.prog = true := by kernel_rfl

/-- WHAT THE WALK IS TOLD OF A SLICE OF INTEGERS THAT CAME IN: it is nil; or it leads to a row of 'cap' cells, the numbers 'zs' (the first 'len' are its elements, the rest its spare room), each fitting its kind. -/
def IsRow (k : IntKind) (w : World) (a : Option Addr) (len cap : Nat) (zs : List Int) : Prop :=
  (a = none ∧ len = 0 ∧ cap = 0 ∧ zs = []) ∨
  ∃ x, a = some x ∧ len ≤ cap ∧ cap ≤ maxLen ∧ zs.length = cap ∧ (∀ i, i < zs.length → w.cell? (x.add i) = some (.int k (zs.getD i 0))) ∧ ∀ n ∈ zs, (Lit.int k n).wf = true

theorem walk (a0 : Option Addr) (len0 cap0 : Nat) (z0 : List Int) (w : World) (w0 : IsRow .i64 w a0 len0 cap0 z0) :
    Calls Try.prog 3 #[.slice a0 len0 cap0] w fun e w' => e = .returned (.bool true) ∧ Below w.heap.size w w' := by
  by_cases hbig : 1048576 < len0
  · have hb' : (1048576 : Int) < (len0 : Int) := by omega
    clear w0
    go_enter Try.func3, Try.ntmps3
    go_wp2
    go_ret
    exact ⟨rfl, Below.refl _ _⟩
  · have hb' : ¬ (1048576 : Int) < (len0 : Int) := by omega
    generalize hds : z0.take len0 = ds at *
    have Hds : Hid (z0.take len0 = ds) := hds
    clear hds
    have Hc : Hid (∀ W, Below w.heap.size w W → Calls Try.prog 5 #[.slice a0 len0 cap0] W fun e w' => ∃ v, e = .returned v ∧ Has w' W.heap.size v ds ∧ Below W.heap.size W w') := fun W hb => by
      have := toInt64S_any a0 len0 cap0 z0 W (IsRow.below (k := .i64) w0 hb) (by omega)
      rw [Hds.out] at this
      exact this
    clear w0 Hds
    have Hs : Hid (∀ W v base, Has W base v ds → Calls Try.prog 4 #[v] W fun e w' => e = .returned (.tuple #[.int .i64 (wgt ds), .bool (wok ds)]) ∧ w' = W) := fun W v base h => sWeight_any v ds base W h
    have Hi : Hid (∀ W v base, Has W base v ds → Calls Try.prog 6 #[v] W fun e w' => e = .returned (.tuple #[.int .i64 (wgt ds), .bool (wok ds)]) ∧ w' = W) := fun W v base h => iWeight_any v ds base W h
    generalize wgt ds = n at *
    generalize wok ds = b at *
    go_enter Try.func3, Try.ntmps3
    go_wp2_with fail
    refine (Hc.out _ (Below.refl _ _)).mono ?_
    rintro e w1 ⟨v0, rfl, hv0, hb1⟩
    have hs1 := hb1.size
    go_wp2_with fail
    refine (Hs.out _ _ _ hv0).mono ?_
    rintro e w' ⟨rfl, hw⟩
    obtain rfl := hw.symm
    go_wp2_with fail
    refine (Hc.out _ hb1).mono ?_
    rintro e w3 ⟨x0, rfl, hx, hb3⟩
    have hs3 := hb3.size
    have hb03 : Below w.heap.size w w3 := hb1.trans (hb3.mono (by omega))
    clear hb1 hb3 hv0
    go_wp2_with fail
    refine (Hi.out _ _ _ hx).mono ?_
    rintro e w' ⟨rfl, hw⟩
    obtain rfl := hw.symm
    go_wp2_with fail
    refine (Hc.out _ hb03).mono ?_
    rintro e w5 ⟨x1, rfl, hx1, hb5⟩
    have hs5 := hb5.size
    have hb05 : Below w.heap.size w w5 := hb03.trans (hb5.mono (by omega))
    have hx5 := hx.below hb5 (Nat.le_refl _)
    clear hb03 hb5 hx
    go_wp2_with fail
    refine (eq_same _ _ ds _ _ _ hx5 hx1).mono ?_
    rintro e w6 ⟨rfl, hb6⟩
    go_wp2
    go_ret
    exact ⟨rfl, hb05.trans (hb6.mono (by omega))⟩

/-! ### THE ROW's STEP: WRITTEN OUT: LEAVE IT -/
set_option maxRecDepth 100000 in
theorem lifted (os : Os) (started : os.Started) (H : Type) (enc : TypeId × Value → H) :
    ReturnsInHanded {} Try.checked os 3 .any (Rows.fnExactWeightSpec.pre6 enc Try.prog Try.f3 Rows.fnExactWeightRow.domain false) (Rows.fnExactWeightSpec.post enc Try.prog Try.f3 false true false false) := by
  refine returnsInHanded_of_change (C := Try.checked) own started (by kernel_rfl) Try.func3
    (ChangeSpec.witness6 (enc := enc) (C := Try.checked) false ⟨#[], #[.slice none 0 0], []⟩ 8 (by kernel_rfl) (by kernel_rfl) (by kernel_rfl) (by kernel_rfl)) ?_
  intro W base args ds gs before hval0 hW hcnd _
  have hval : ∀ (j : Nat) t v, Try.f3.params[j]? = some t → args[j]? = some v → Value.okWide Try.prog W .any base t v := hval0
  have hW' := hW
  obtain ⟨p, q, hA0, hV, rfl, hfz, hnd⟩ := hW
  have hA : DataW.TrodAll enc Try.prog W 0 (fun _ => true) true Try.f3.params.toList args.toList ds p := hA0
  rw [Try.params3] at hA hval
  obtain ⟨v0, vs0, d0, ds0, p0, q0, hargs, rfl, rfl, h0, r0⟩ := trodAll_cons hA
  obtain ⟨rfl, rfl, rfl⟩ := trodAll_nil r0
  obtain rfl : args = #[v0] := by cases args; simp_all
  obtain ⟨rfl, rfl⟩ := trodVars_none hV
  obtain ⟨a0, len0, cap0, rfl⟩ := okWide_slice Try.underlying22 (hval 0 22 v0 rfl rfl)
  have k0 := h0
  have lt0 : ∀ x ∈ p0, x.block < W.heap.size := by obtain ⟨m, hm⟩ := k0; exact DataW.trod_lt m _ _ _ hm
  obtain ⟨z0, w0⟩ : ∃ zs, IsRow .i64 W a0 len0 cap0 zs := by
    obtain ⟨fuel, hf⟩ := h0
    rcases open_ints Try.underlying22 Try.underlying2 (by kernel_rfl) hf with ⟨hcs, _⟩ | ⟨x, l, c, zs, hcs, _, hl, hm, hz, _, hcell, hwz⟩
    · simp [Value.cells] at hcs
      obtain ⟨rfl, rfl, rfl⟩ := hcs
      exact ⟨[], .inl ⟨rfl, rfl, rfl, rfl⟩⟩
    · simp [Value.cells] at hcs
      obtain ⟨rfl, rfl, rfl⟩ := hcs
      exact ⟨zs, .inr ⟨_, rfl, hl, hm, by simpa using hz, hcell, hwz⟩⟩
  clear hA0 hval0
  refine (walk a0 len0 cap0 z0 W w0).mono fun e W' ⟨he, bel⟩ => ?_
  subst he
  exact ⟨_, rfl, _, _, _, [], _, [], hW', trodAll_mk1 (shut_bool Try.underlying4 _), (trodAll_cons_mk (Below.trod laidOut (by kernel_rfl) (of_decide_eq_true (by kernel_rfl)) k0 bel lt0) trodAll_mk0), rfl, bel.frame _, fun h => by cases h⟩

theorem over : Rows.fnExactWeightRow.holds Try.pinned (OpenSpec.ofChange Rows.fnExactWeightSpec) :=
  OpenClaim.holds_of_wide 3 Try.f3 rfl rfl rfl rfl rfl rfl rfl ⟨rfl, rfl, rfl, rfl, rfl⟩ rfl rfl rfl rfl rfl (by kernel_rfl) Try.func3 (by kernel_rfl)
    (of_decide_eq_true (by kernel_rfl)) (by unfold Func.isWrapper; first | (rw [if_pos (by decide +kernel)]; kernel_rfl) | (rw [if_neg (by decide +kernel)]; exact ⟨rfl, rfl⟩))
    (fun os started H enc _ => lifted os started H enc)

/-- ████ THE STATEMENT ████ -/
theorem proved : Rows.FnExactWeightSaid := over
#print axioms proved
end Go.Proofs.Ytlbkhiphnllfpak.fnExactWeight
namespace Go.Proofs.Ytlbkhiphnllfpak
/-- The given statement. -/
theorem fnExactWeight_holds : Rows.FnExactWeightSaid := fnExactWeight.proved
end Go.Proofs.Ytlbkhiphnllfpak
