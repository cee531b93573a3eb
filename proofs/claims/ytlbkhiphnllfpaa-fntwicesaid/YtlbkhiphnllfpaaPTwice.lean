/-
  A drawn word in fives doubled is the word in fours and what left, whatever the code that it is drawn from.
-/
import Derived.Test.YtlbkhiphnllfpaaRows
import Derived.WalkKit
import Derived.ProofKit
import Derived.OpenShut
import Derived.ShutString
import Derived.ChangeOld
import Derived.Below
import Derived.Test.YtlbkhiphnllfpaaDrawTw
import Derived.Test.YtlbkhiphnllfpaaTwM
import Derived.Test.YtlbkhiphnllfpaaValue
namespace Go.Proofs.Ytlbkhiphnllfpaa.fnTwice
open Go.ChangeShapes Go.WideShapes Go.ChangeAt Go.RowKit
open Go.ChangeMaps (open_string shut_string)
set_option linter.unusedVariables false

theorem own : ownKnob Try.prog.godebug = none := by kernel_rfl
theorem laidOut : laidOutB Try.prog = true := by kernel_rfl

/-- WHAT THE WALK IS TOLD OF A SLICE OF INTEGERS THAT CAME IN: it is nil; or it leads to a row of 'cap' cells, the numbers 'zs' (the first 'len' are its elements, the rest its spare room), each fitting its kind. -/
def IsRow (k : IntKind) (w : World) (a : Option Addr) (len cap : Nat) (zs : List Int) : Prop :=
  (a = none ∧ len = 0 ∧ cap = 0 ∧ zs = []) ∨
  ∃ x, a = some x ∧ len ≤ cap ∧ cap ≤ maxLen ∧ zs.length = cap ∧ (∀ i, i < zs.length → w.cell? (x.add i) = some (.int k (zs.getD i 0))) ∧ ∀ n ∈ zs, (Lit.int k n).wf = true

theorem walk (a0 : Option Addr) (len0 cap0 : Nat) (z0 : List Int) (w : World) (w0 : IsRow .u8 w a0 len0 cap0 z0) :
    Calls Try.prog 4 #[.slice a0 len0 cap0] w fun e w' => e = .returned (.bool true) ∧ Below w.heap.size w w' := by
  by_cases hbig : 4096 < len0
  · clear w0
    go_enter Try.func4, Try.ntmps4
    go_wp2_with fail
    refine (big_yes _ _ _ _ hbig).mono ?_
    rintro e w' ⟨rfl, rfl⟩
    go_wp2
    go_ret
    exact ⟨rfl, Below.refl _ _⟩
  have hB : Hid (Bytes w.heap.size w a0 len0) := bytes_of_row w0
  clear w0
  go_enter Try.func4, Try.ntmps4
  go_wp2_with fail
  refine (big_no _ _ _ _ hbig).mono ?_
  rintro e w' ⟨rfl, hw⟩
  obtain rfl := hw.symm
  go_wp2_with fail
  refine (DrawTwice_any _ _ _ _ (by omega) hB.out).mono ?_
  rintro e w1 ⟨x, rfl, hx, hb1⟩
  have hs1 := hb1.size
  have htw := tw_bd x
  have hto := twOut_bd x hx.1 hx.2
  have HT : Hid (2 * W 2 x = W 1 (tw x) + twOut x * 10 ^ 16) := twice_W x hx.1 hx.2
  go_wp2_with fail
  refine (itwice_any x _ hx.1 hx.2).mono ?_
  rintro e w' ⟨rfl, hw⟩
  obtain rfl := hw.symm
  go_wp2_with fail
  refine (stwice_any x _ hx.1 hx.2).mono ?_
  rintro e w' ⟨rfl, hw⟩
  obtain rfl := hw.symm
  go_wp2_with fail
  refine (value_any 2 x _ (by decide) hx.1 hx.2 (ok_five x)).mono ?_
  rintro e w2 ⟨R1, rfl, c1, v1, l1, hb2⟩
  have H1 : Hid (Canon R1 ∧ vl R1 = W 2 x) := ⟨c1, by rw [v1, W_vl 2 x (ok_five x)]⟩
  have hb02 : Below w.heap.size w w2 := hb1.trans (hb2.mono (by omega))
  have hs2 := hb02.size
  clear c1 v1
  go_wp2_with fail
  refine (NatAdd_any R1 R1 _ H1.out.1 H1.out.1 (by omega) (by omega)).mono ?_
  rintro e w3 ⟨R2, rfl, c2, v2, l2, hb3⟩
  have H2 : Hid (Canon R2 ∧ vl R2 = 2 * W 2 x) := ⟨c2, by rw [v2, H1.out.2]; omega⟩
  have hb03 : Below w.heap.size w w3 := hb02.trans (hb3.mono (by omega))
  have hs3 := hb03.size
  clear c2 v2
  go_wp2_with fail
  refine (value_any 1 (tw x) _ (by decide) htw.1 htw.2 (ok_four _)).mono ?_
  rintro e w4 ⟨R3, rfl, c3, v3, l3, hb4⟩
  have H3 : Hid (Canon R3 ∧ vl R3 = W 1 (tw x)) := ⟨c3, by rw [v3, W_vl 1 _ (ok_four _)]⟩
  have hb04 : Below w.heap.size w w4 := hb03.trans (hb4.mono (by omega))
  have hs4 := hb04.size
  clear c3 v3
  go_wp2_with fail
  refine (above_any R3 (twOut x) _ H3.out.1 (by omega) hto.1 (by omega)).mono ?_
  rintro e w5 ⟨R4, rfl, c4, v4, l4, hb5⟩
  have hb05 : Below w.heap.size w w5 := hb04.trans (hb5.mono (by omega))
  have heq : R2 = R4 := canon_unique R2 R4 H2.out.1 c4 (by rw [H2.out.2, v4, H3.out.2, HT.out])
  clear c4 v4
  subst heq
  go_wp2
  go_ret
  exact ⟨rfl, hb05⟩

/-! ### THE ROW's STEP: WRITTEN OUT: LEAVE IT -/
set_option maxRecDepth 100000 in
theorem lifted (os : Os) (started : os.Started) (H : Type) (enc : TypeId × Value → H) :
    ReturnsInHanded {} Try.checked os 4 .any (Rows.fnTwiceSpec.pre6 enc Try.prog Try.f4 Rows.fnTwiceRow.domain false) (Rows.fnTwiceSpec.post enc Try.prog Try.f4 false true false false) := by
  refine returnsInHanded_of_change (C := Try.checked) own started (by kernel_rfl) Try.func4
    (ChangeSpec.witness6 (enc := enc) (C := Try.checked) false ⟨#[], #[.slice none 0 0], []⟩ 8 (by kernel_rfl) (by kernel_rfl) (by kernel_rfl) (by kernel_rfl)) ?_
  intro W base args ds gs before hval0 hW hcnd _
  have hval : ∀ (j : Nat) t v, Try.f4.params[j]? = some t → args[j]? = some v → Value.okWide Try.prog W .any base t v := hval0
  have hW' := hW
  obtain ⟨p, q, hA0, hV, rfl, hfz, hnd⟩ := hW
  have hA : DataW.TrodAll enc Try.prog W 0 (fun _ => true) true Try.f4.params.toList args.toList ds p := hA0
  rw [Try.params4] at hA hval
  obtain ⟨v0, vs0, d0, ds0, p0, q0, hargs, rfl, rfl, h0, r0⟩ := trodAll_cons hA
  obtain ⟨rfl, rfl, rfl⟩ := trodAll_nil r0
  obtain rfl : args = #[v0] := by cases args; simp_all
  obtain ⟨rfl, rfl⟩ := trodVars_none hV
  obtain ⟨a0, len0, cap0, rfl⟩ := okWide_slice Try.underlying22 (hval 0 22 v0 rfl rfl)
  have k0 := h0
  have lt0 : ∀ x ∈ p0, x.block < W.heap.size := by obtain ⟨m, hm⟩ := k0; exact DataW.trod_lt m _ _ _ hm
  obtain ⟨z0, w0⟩ : ∃ zs, IsRow .u8 W a0 len0 cap0 zs := by
    obtain ⟨fuel, hf⟩ := h0
    rcases open_ints Try.underlying22 Try.underlying5 (by kernel_rfl) hf with ⟨hcs, _⟩ | ⟨x, l, c, zs, hcs, _, hl, hm, hz, _, hcell, hwz⟩
    · simp [Value.cells] at hcs
      obtain ⟨rfl, rfl, rfl⟩ := hcs
      exact ⟨[], .inl ⟨rfl, rfl, rfl, rfl⟩⟩
    · simp [Value.cells] at hcs
      obtain ⟨rfl, rfl, rfl⟩ := hcs
      exact ⟨zs, .inr ⟨_, rfl, hl, hm, by simpa using hz, hcell, hwz⟩⟩
  clear hA0 hval0
  refine (walk a0 len0 cap0 z0 W w0).mono fun e W' ⟨he, bel⟩ => ?_
  subst he
  exact ⟨_, rfl, _, _, _, [], _, [], hW', trodAll_mk1 (shut_bool Try.underlying4 _), (trodAll_cons_mk (Below.trod laidOut (by kernel_rfl) (of_decide_eq_true (by kernel_rfl)) k0 bel lt0) trodAll_mk0), rfl, bel.frame _, fun h => by cases h⟩

theorem over : Rows.fnTwiceRow.holds Try.pinned (OpenSpec.ofChange Rows.fnTwiceSpec) :=
  OpenClaim.holds_of_wide 4 Try.f4 rfl rfl rfl rfl rfl rfl rfl ⟨rfl, rfl, rfl, rfl, rfl⟩ rfl rfl rfl rfl rfl (by kernel_rfl) Try.func4 (by kernel_rfl)
    (of_decide_eq_true (by kernel_rfl)) (by unfold Func.isWrapper; first | (rw [if_pos (by decide +kernel)]; kernel_rfl) | (rw [if_neg (by decide +kernel)]; exact ⟨rfl, rfl⟩))
    (fun os started H enc _ => lifted os started H enc)

/-- ████ THE STATEMENT ████ -/
theorem proved : Rows.FnTwiceSaid := over
#print axioms proved
end Go.Proofs.Ytlbkhiphnllfpaa.fnTwice
namespace Go.Proofs.Ytlbkhiphnllfpaa
/-- The given statement. -/
theorem fnTwice_holds : Rows.FnTwiceSaid := fnTwice.proved
end Go.Proofs.Ytlbkhiphnllfpaa
