/-
  Lanes that go up and down again are there, but for those that left, whatever the code that the word and the number of lanes are drawn from.
-/
import Derived.Test.YtlbkhiphnllfpaaRows
import Derived.WalkKit
import Derived.ProofKit
import Derived.OpenShut
import Derived.ShutString
import Derived.ChangeOld
import Derived.Below
import Derived.Test.YtlbkhiphnllfpaaDraw3
import Derived.Test.YtlbkhiphnllfpaaShift
import Derived.Test.YtlbkhiphnllfpaaLead
import Derived.Test.YtlbkhiphnllfpaaLeadM
namespace Go.Proofs.Ytlbkhiphnllfpaa.fnShifted
open Go.ChangeShapes Go.WideShapes Go.ChangeAt Go.RowKit
open Go.ChangeMaps (open_string shut_string)
set_option linter.unusedVariables false

theorem own : ownKnob Try.prog.godebug = none := by kernel_rfl
theorem laidOut : laidOutB Try.prog = true := by kernel_rfl

/-- WHAT THE WALK IS TOLD OF A SLICE OF INTEGERS THAT CAME IN: it is nil; or it leads to a row of 'cap' cells, the numbers 'zs' (the first 'len' are its elements, the rest its spare room), each fitting its kind. -/
def IsRow (k : IntKind) (w : World) (a : Option Addr) (len cap : Nat) (zs : List Int) : Prop :=
  (a = none ∧ len = 0 ∧ cap = 0 ∧ zs = []) ∨
  ∃ x, a = some x ∧ len ≤ cap ∧ cap ≤ maxLen ∧ zs.length = cap ∧ (∀ i, i < zs.length → w.cell? (x.add i) = some (.int k (zs.getD i 0))) ∧ ∀ n ∈ zs, (Lit.int k n).wf = true

theorem walk (a0 : Option Addr) (len0 cap0 : Nat) (z0 : List Int) (w : World) (w0 : IsRow .u8 w a0 len0 cap0 z0) :
    Calls Try.prog 3 #[.slice a0 len0 cap0] w fun e w' => e = .returned (.bool true) ∧ Below w.heap.size w w' := by
  by_cases hbig : 4096 < len0
  · clear w0
    go_enter Try.func3, Try.ntmps3
    go_wp2_with fail
    refine (big_yes _ _ _ _ hbig).mono ?_
    rintro e w' ⟨rfl, rfl⟩
    go_wp2
    go_ret
    exact ⟨rfl, Below.refl _ _⟩
  have hB : Hid (Bytes w.heap.size w a0 len0) := bytes_of_row w0
  clear w0
  go_enter Try.func3, Try.ntmps3
  go_wp2_with fail
  refine (big_no _ _ _ _ hbig).mono ?_
  rintro e w' ⟨rfl, rfl⟩
  go_wp2_with fail
  refine (DrawLaneShift_any _ _ _ _ (by omega) hB.out).mono ?_
  rintro e w1 ⟨x, n, rfl, hx, hn, hb1⟩
  by_cases ho : n < -16 ∨ 16 < n
  · go_wp2_with fail
    refine (ishift_out _ _ _ ho).mono ?_
    rintro e w' ⟨rfl, rfl⟩
    go_wp2_with fail
    refine (sshift_out _ _ _ ho).mono ?_
    rintro e w' ⟨rfl, rfl⟩
    rcases ho with ho | ho
    · go_wp2
      go_ret
      exact ⟨rfl, hb1⟩
    · have h1 : decide (n < -16) = false := by simp; omega
      go_wp2
      go_ret
      exact ⟨rfl, hb1⟩
  have h1 : decide (n < -16) = false := by simp; omega
  have h2 : decide (16 < n) = false := by simp; omega
  by_cases hs : 0 ≤ n
  · obtain ⟨m, rfl⟩ := Int.eq_ofNat_of_zero_le hs
    have hm : m ≤ 16 := by omega
    have u0 := Ln.up_lo x m
    have u1 := Ln.up_hi x m
    clear ho hn
    have hdn : ∀ W, Calls Try.prog 7 #[.int .u64 (Ln.up x m), .int .i64 (-(m : Int))] W fun e w' => e = .returned (.int .u64 (Ln.down (Ln.up x m) m)) ∧ w' = W := fun W => by
      rcases Nat.eq_zero_or_pos m with h0 | hp
      · subst h0
        have := ishift_up (Ln.up x 0) 0 W u0 u1 (by decide)
        rw [Ln.up_zero _ u0 u1] at this
        rw [Ln.down_zero]
        exact this
      · exact ishift_down (Ln.up x m) m W u0 u1 hp hm
    have Hdn : Hid (∀ W, Calls Try.prog 7 #[.int .u64 (Ln.up x m), .int .i64 (-(m : Int))] W fun e w' => e = .returned (.int .u64 (Ln.down (Ln.up x m) m)) ∧ w' = W) := hdn
    clear hdn
    go_wp2_with fail
    refine (ishift_up _ _ _ hx.1 hx.2 hm).mono ?_
    rintro e w' ⟨rfl, rfl⟩
    go_wp2_with fail
    refine (sshift_up _ _ _ hx.1 hx.2 hm).mono ?_
    rintro e w' ⟨rfl, rfl⟩
    go_wp2_with fail
    refine (Hdn.out _).mono ?_
    rintro e w' ⟨rfl, rfl⟩
    go_wp2_with fail
    refine (ilead_any x _ hx.1 hx.2).mono ?_
    rintro e w' ⟨k, rfl, hk, rfl⟩
    have HK : Hid (Ln.IsLead x k) := hk
    have hk16 : k ≤ 16 := hk.1
    clear hk
    by_cases hmk : m ≤ k
    · have hmk' : (m : Int) ≤ (k : Int) := by omega
      have hr := Ln.lead_room x m hx.1 hx.2 hm (fun j hj => HK.out.2.1 j (by omega))
      rw [Ln.down_up x m hm hx.1 hr]
      clear hr
      by_cases hx0 : x = 0
      · have hxb : (x == 0) = true := by simp [hx0]
        clear hx0
        go_wp2
        go_ret
        exact ⟨rfl, hb1⟩
      · have hxb : (x == 0) = false := by simp [hx0]
        have HL : Hid (Ln.IsLead (Ln.up x m) (k - m)) := Ln.lead_up x m k hx.1 hx.2 hx0 hmk HK.out
        clear hx0
        go_wp2_with fail
        refine (ilead_any _ _ u0 u1).mono ?_
        rintro e w' ⟨j, rfl, hj, rfl⟩
        have hjk : j = k - m := Ln.lead_unique _ _ _ hj HL.out
        have hjb : ((j : Int) == (k : Int) - (m : Int)) = true := by simp; omega
        clear hj hjk
        go_wp2
        go_ret
        exact ⟨rfl, hb1⟩
    · have hmk' : decide ((m : Int) ≤ (k : Int)) = false := by simp; omega
      go_wp2
      go_ret
      exact ⟨rfl, hb1⟩
  · obtain ⟨m, hm0⟩ := Int.eq_ofNat_of_zero_le (show 0 ≤ -n by omega)
    obtain rfl : n = -(m : Int) := by omega
    have hp : 0 < m := by omega
    have hm : m ≤ 16 := by omega
    have d0 := Ln.down_lo x m hx.1
    have d1 := Ln.down_hi x m hx.1 hx.2
    have hr := Ln.down_room x m hm hx.2
    have hdu : Hid (Ln.down (Ln.up (Ln.down x m) m) m = Ln.down x m) := Ln.down_up _ m hm d0 hr
    have hge : decide ((0 : Int) ≤ -(m : Int)) = false := by simp; omega
    have u0 := Ln.up_lo (Ln.down x m) m
    have u1 := Ln.up_hi (Ln.down x m) m
    clear ho hn hm0 hs hr
    go_wp2_with fail
    refine (ishift_down _ _ _ hx.1 hx.2 hp hm).mono ?_
    rintro e w' ⟨rfl, rfl⟩
    go_wp2_with fail
    refine (sshift_down _ _ _ hx.1 hx.2 hp hm).mono ?_
    rintro e w' ⟨rfl, rfl⟩
    go_wp2_with fail
    refine (ishift_up _ m _ d0 d1 hm).mono ?_
    rintro e w' ⟨rfl, rfl⟩
    go_wp2_with fail
    refine (ilead_any x _ hx.1 hx.2).mono ?_
    rintro e w' ⟨k, rfl, hk, rfl⟩
    clear hk
    go_wp2_with fail
    refine (ishift_down _ m _ u0 u1 hp hm).mono ?_
    rintro e w' ⟨rfl, rfl⟩
    rw [hdu.out]
    go_wp2
    go_ret
    exact ⟨rfl, hb1⟩

/-! ### THE ROW's STEP: WRITTEN OUT: LEAVE IT -/
set_option maxRecDepth 100000 in
theorem lifted (os : Os) (started : os.Started) (H : Type) (enc : TypeId × Value → H) :
    ReturnsInHanded {} Try.checked os 3 .any (Rows.fnShiftedSpec.pre6 enc Try.prog Try.f3 Rows.fnShiftedRow.domain false) (Rows.fnShiftedSpec.post enc Try.prog Try.f3 false true false false) := by
  refine returnsInHanded_of_change (C := Try.checked) own started (by kernel_rfl) Try.func3
    (ChangeSpec.witness6 (enc := enc) (C := Try.checked) false ⟨#[], #[.slice none 0 0], []⟩ 8 (by kernel_rfl) (by kernel_rfl) (by kernel_rfl) (by kernel_rfl)) ?_
  intro W base args ds gs before hval0 hW hcnd _
  have hval : ∀ (j : Nat) t v, Try.f3.params[j]? = some t → args[j]? = some v → Value.okWide Try.prog W .any base t v := hval0
  have hW' := hW
  obtain ⟨p, q, hA0, hV, rfl, hfz, hnd⟩ := hW
  have hA : DataW.TrodAll enc Try.prog W 0 (fun _ => true) true Try.f3.params.toList args.toList ds p := hA0
  rw [Try.params3] at hA hval
  obtain ⟨v0, vs0, d0, ds0, p0, q0, hargs, rfl, rfl, h0, r0⟩ := trodAll_cons hA
  obtain ⟨rfl, rfl, rfl⟩ := trodAll_nil r0
  obtain rfl : args = #[v0] := by cases args; simp_all
  obtain ⟨rfl, rfl⟩ := trodVars_none hV
  obtain ⟨a0, len0, cap0, rfl⟩ := okWide_slice Try.underlying22 (hval 0 22 v0 rfl rfl)
  have k0 := h0
  have lt0 : ∀ x ∈ p0, x.block < W.heap.size := by obtain ⟨m, hm⟩ := k0; exact DataW.trod_lt m _ _ _ hm
  obtain ⟨z0, w0⟩ : ∃ zs, IsRow .u8 W a0 len0 cap0 zs := by
    obtain ⟨fuel, hf⟩ := h0
    rcases open_ints Try.underlying22 Try.underlying5 (by kernel_rfl) hf with ⟨hcs, _⟩ | ⟨x, l, c, zs, hcs, _, hl, hm, hz, _, hcell, hwz⟩
    · simp [Value.cells] at hcs
      obtain ⟨rfl, rfl, rfl⟩ := hcs
      exact ⟨[], .inl ⟨rfl, rfl, rfl, rfl⟩⟩
    · simp [Value.cells] at hcs
      obtain ⟨rfl, rfl, rfl⟩ := hcs
      exact ⟨zs, .inr ⟨_, rfl, hl, hm, by simpa using hz, hcell, hwz⟩⟩
  clear hA0 hval0
  refine (walk a0 len0 cap0 z0 W w0).mono fun e W' ⟨he, bel⟩ => ?_
  subst he
  exact ⟨_, rfl, _, _, _, [], _, [], hW', trodAll_mk1 (shut_bool Try.underlying4 _), (trodAll_cons_mk (Below.trod laidOut (by kernel_rfl) (of_decide_eq_true (by kernel_rfl)) k0 bel lt0) trodAll_mk0), rfl, bel.frame _, fun h => by cases h⟩

theorem over : Rows.fnShiftedRow.holds Try.pinned (OpenSpec.ofChange Rows.fnShiftedSpec) :=
  OpenClaim.holds_of_wide 3 Try.f3 rfl rfl rfl rfl rfl rfl rfl ⟨rfl, rfl, rfl, rfl, rfl⟩ rfl rfl rfl rfl rfl (by kernel_rfl) Try.func3 (by kernel_rfl)
    (of_decide_eq_true (by kernel_rfl)) (by unfold Func.isWrapper; first | (rw [if_pos (by decide +kernel)]; kernel_rfl) | (rw [if_neg (by decide +kernel)]; exact ⟨rfl, rfl⟩))
    (fun os started H enc _ => lifted os started H enc)

/-- ████ THE STATEMENT ████ -/
theorem proved : Rows.FnShiftedSaid := over
#print axioms proved
end Go.Proofs.Ytlbkhiphnllfpaa.fnShifted
namespace Go.Proofs.Ytlbkhiphnllfpaa
/-- The given statement. -/
theorem fnShifted_holds : Rows.FnShiftedSaid := fnShifted.proved
end Go.Proofs.Ytlbkhiphnllfpaa
