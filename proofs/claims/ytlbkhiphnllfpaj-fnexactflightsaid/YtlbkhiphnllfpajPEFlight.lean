/-
  Flight of the program answers as Flight of its model, whatever the signed digits; it writes nothing into them, and its two registers are memory of their own, apart from each other: what is written there stays, behind another call too.
-/
import Derived.Test.YtlbkhiphnllfpajRows
import Derived.WalkKit
import Derived.ProofKit
import Derived.OpenShut
import Derived.ShutString
import Derived.ChangeOld
import Derived.Below
import Derived.Test.YtlbkhiphnllfpajSgn7
import Derived.Test.YtlbkhiphnllfpajCopy
import Derived.Test.YtlbkhiphnllfpajMark
namespace Go.Proofs.Ytlbkhiphnllfpaj.fnExactFlight
open Go.ChangeShapes Go.WideShapes Go.ChangeAt Go.RowKit
open Go.ChangeMaps (open_string shut_string)
set_option linter.unusedVariables false

theorem own : ownKnob Try.prog.godebug = none := by kernel_rfl
theorem laidOut : laidOutB Try.prog = true := by kernel_rfl

/-- WHAT THE WALK IS TOLD OF A SLICE OF INTEGERS THAT CAME IN: it is nil; or it leads to a row of 'cap' cells, the numbers 'zs' (the first 'len' are its elements, the rest its spare room), each fitting its kind. -/
def IsRow (k : IntKind) (w : World) (a : Option Addr) (len cap : Nat) (zs : List Int) : Prop :=
  (a = none ∧ len = 0 ∧ cap = 0 ∧ zs = []) ∨
  ∃ x, a = some x ∧ len ≤ cap ∧ cap ≤ maxLen ∧ zs.length = cap ∧ (∀ i, i < zs.length → w.cell? (x.add i) = some (.int k (zs.getD i 0))) ∧ ∀ n ∈ zs, (Lit.int k n).wf = true

theorem walk (a0 : Option Addr) (len0 cap0 : Nat) (z0 : List Int) (w : World) (w0 : IsRow .i64 w a0 len0 cap0 z0) :
    Calls Try.prog 5 #[.slice a0 len0 cap0] w fun e w' => e = .returned (.bool true) ∧ Below w.heap.size w w' := by
  by_cases hbig : 1048576 < len0
  · have hb' : (1048576 : Int) < (len0 : Int) := by omega
    clear w0
    go_enter Try.func5, Try.ntmps5
    go_wp2
    go_ret
    exact ⟨rfl, Below.refl _ _⟩
  · have hb' : ¬ (1048576 : Int) < (len0 : Int) := by omega
    generalize hds : z0.take len0 = ds at *
    have Hds : Hid (z0.take len0 = ds) := hds
    have hlen : ds.length ≤ 1048576 := by rw [← hds, List.length_take]; omega
    clear hds
    have Hc : Hid (∀ W, Below w.heap.size w W → Calls Try.prog 8 #[.slice a0 len0 cap0] W fun e w' => ∃ v, e = .returned v ∧ Has w' W.heap.size v ds ∧ Below W.heap.size W w') := fun W hb => by
      have := toInt64S_any a0 len0 cap0 z0 W (IsRow.below (k := .i64) w0 hb) (by omega)
      rw [Hds.out] at this
      exact this
    clear w0 Hds
    have hol : (flo ds).1.length ≤ 40 ∧ (flo ds).2.length ≤ 40 := flo_length ds
    have Hs : Hid (∀ W v base, Has W base v ds → Calls Try.prog 15 #[v] W fun e w' => ∃ u0 u1, e = .returned (.tuple #[u0, u1]) ∧ Has w' W.heap.size u0 (flo ds).1 ∧ Has w' W.heap.size u1 (flo ds).2 ∧ Below W.heap.size W w') := fun W v base h => by
      by_cases h1 : 40 < ds.length
      · exact sFlight_no v ds base W h (.inr h1)
      · cases hk : l3 ds with
        | true => exact sFlight_yes v ds base W h hk (by omega)
        | false => exact sFlight_no v ds base W h (.inl hk)
    have Hi : Hid (∀ W v base, Has W base v ds → Calls Try.prog 16 #[v] W fun e w' => ∃ u0 u1, e = .returned (.tuple #[u0, u1]) ∧ Has w' W.heap.size u0 (flo ds).1 ∧ Has w' W.heap.size u1 (flo ds).2 ∧ (∀ k, u0.ownBlock = some k → u1.ownBlock ≠ some k) ∧ Below W.heap.size W w') := fun W v base h => by
      exact iFlight_any v ds base W h
    generalize (flo ds).1 = D0 at *
    generalize (flo ds).2 = D1 at *
    go_enter Try.func5, Try.ntmps5
    go_wp2_with fail
    refine (Hc.out _ (Below.refl _ _)).mono ?_
    rintro e w1 ⟨v0, rfl, hv0, hb⟩
    have hs_w1 := hb.size
    have hB_w1 : Below w.heap.size w w1 := hb
    clear hb
    go_wp2_with fail
    refine (Hs.out _ _ _ hv0).mono ?_
    rintro e w2 ⟨u0, u1, rfl, hu0, hu1, hb⟩
    have hs_w2 := hb.size
    have hB_w2 : Below w.heap.size w w2 := hB_w1.trans (hb.mono (by omega))
    clear hB_w1
    clear hb hv0
    have Ou0 : Hid (∀ k, u0.ownBlock = some k → k < w2.heap.size) := fun k hk => (hu0.own k hk).2
    have Ou1 : Hid (∀ k, u1.ownBlock = some k → k < w2.heap.size) := fun k hk => (hu1.own k hk).2
    go_wp2_with fail
    refine (Hc.out _ hB_w2).mono ?_
    rintro e w3 ⟨x0, rfl, hx, hb⟩
    have hs_w3 := hb.size
    have hB_w3 : Below w.heap.size w w3 := hB_w2.trans (hb.mono (by omega))
    have hu0_w3 := hu0.below hb (Nat.le_refl _)
    have hu1_w3 := hu1.below hb (Nat.le_refl _)
    clear hu0 hu1 hB_w2
    clear hb
    have Ox : Hid (∀ k, x0.ownBlock = some k → w2.heap.size ≤ k ∧ k < w3.heap.size) := fun k hk => hx.own k hk
    go_wp2_with fail
    refine (Hi.out _ _ _ hx).mono ?_
    rintro e w4 ⟨g0, g1, rfl, hg0, hg1, hap, hb⟩
    have hs_w4 := hb.size
    have hB_w4 : Below w.heap.size w w4 := hB_w3.trans (hb.mono (by omega))
    have hu0_w4 := hu0_w3.below hb (Nat.le_refl _)
    have hu1_w4 := hu1_w3.below hb (Nat.le_refl _)
    have hx_w4 := hx.below hb (Nat.le_refl _)
    clear hu0_w3 hu1_w3 hx hB_w3
    clear hb
    have Hap : Hid (∀ k, g0.ownBlock = some k → g1.ownBlock ≠ some k) := hap
    clear hap
    have Og0 : Hid (∀ k, g0.ownBlock = some k → w3.heap.size ≤ k) := fun k hk => (hg0.own k hk).1
    have Og1 : Hid (∀ k, g1.ownBlock = some k → w3.heap.size ≤ k) := fun k hk => (hg1.own k hk).1
    go_wp2_with fail
    refine (eq_same _ _ D0 _ _ _ hg0 hu0_w4).mono ?_
    rintro e w5 ⟨rfl, hb⟩
    have hs_w5 := hb.size
    have hB_w5 : Below w.heap.size w w5 := hB_w4.trans (hb.mono (by omega))
    have hu0_w5 := hu0_w4.below hb (Nat.le_refl _)
    have hu1_w5 := hu1_w4.below hb (Nat.le_refl _)
    have hx_w5 := hx_w4.below hb (Nat.le_refl _)
    have hg0_w5 := hg0.below hb (Nat.le_refl _)
    have hg1_w5 := hg1.below hb (Nat.le_refl _)
    clear hu0_w4 hu1_w4 hx_w4 hg0 hg1 hB_w4
    clear hb
    go_wp2_with fail
    refine (eq_same _ _ D1 _ _ _ hg1_w5 hu1_w5).mono ?_
    rintro e w6 ⟨rfl, hb⟩
    have hs_w6 := hb.size
    have hB_w6 : Below w.heap.size w w6 := hB_w5.trans (hb.mono (by omega))
    have hu0_w6 := hu0_w5.below hb (Nat.le_refl _)
    have hu1_w6 := hu1_w5.below hb (Nat.le_refl _)
    have hx_w6 := hx_w5.below hb (Nat.le_refl _)
    have hg0_w6 := hg0_w5.below hb (Nat.le_refl _)
    have hg1_w6 := hg1_w5.below hb (Nat.le_refl _)
    clear hu0_w5 hu1_w5 hx_w5 hg0_w5 hg1_w5 hB_w5
    clear hb
    go_wp2_with fail
    refine (Hc.out _ hB_w6).mono ?_
    rintro e w7 ⟨x1, rfl, hx1, hb⟩
    have hs_w7 := hb.size
    have hB_w7 : Below w.heap.size w w7 := hB_w6.trans (hb.mono (by omega))
    have hu0_w7 := hu0_w6.below hb (Nat.le_refl _)
    have hu1_w7 := hu1_w6.below hb (Nat.le_refl _)
    have hx_w7 := hx_w6.below hb (Nat.le_refl _)
    have hg0_w7 := hg0_w6.below hb (Nat.le_refl _)
    have hg1_w7 := hg1_w6.below hb (Nat.le_refl _)
    clear hu0_w6 hu1_w6 hx_w6 hg0_w6 hg1_w6 hB_w6
    clear hb
    go_wp2_with fail
    refine (eq_same _ _ ds _ _ _ hx_w7 hx1).mono ?_
    rintro e w8 ⟨rfl, hb⟩
    have hs_w8 := hb.size
    have hB_w8 : Below w.heap.size w w8 := hB_w7.trans (hb.mono (by omega))
    have hu0_w8 := hu0_w7.below hb (Nat.le_refl _)
    have hu1_w8 := hu1_w7.below hb (Nat.le_refl _)
    have hx_w8 := hx_w7.below hb (Nat.le_refl _)
    have hg0_w8 := hg0_w7.below hb (Nat.le_refl _)
    have hg1_w8 := hg1_w7.below hb (Nat.le_refl _)
    have hx1_w8 := hx1.below hb (Nat.le_refl _)
    clear hu0_w7 hu1_w7 hx_w7 hg0_w7 hg1_w7 hx1 hB_w7
    clear hb
    clear hx1_w8
    go_wp2_with fail
    refine (mark_own _ ds 1 _ _ hx_w8 (by omega) (by omega)).mono ?_
    rintro e w9 ⟨rfl, hmk, hgr⟩
    have hs_w9 := hgr.size
    have hB_w9 : Below w.heap.size w w9 := Below.grown hB_w8 hgr (by omega) (fun k hk => (by have := (Ox.out k hk).1; omega))
    have hu0_w9 := hu0_w8.apart hgr (fun k hk e => (by have := (Ox.out k e).1; have := Ou0.out k hk; omega))
    have hu1_w9 := hu1_w8.apart hgr (fun k hk e => (by have := (Ox.out k e).1; have := Ou1.out k hk; omega))
    have hg0_w9 := hg0_w8.apart hgr (fun k hk e => (by have := (Ox.out k e).2; have := Og0.out k hk; omega))
    have hg1_w9 := hg1_w8.apart hgr (fun k hk e => (by have := (Ox.out k e).2; have := Og1.out k hk; omega))
    clear hu0_w8 hu1_w8 hx_w8 hg0_w8 hg1_w8 hB_w8 hgr
    clear hmk
    have hk0 : ¬ (1 + (ds.length : Int)) < 0 := by omega
    go_wp2_with fail
    refine (eq_same _ _ D0 _ _ _ hg0_w9 hu0_w9).mono ?_
    rintro e w10 ⟨rfl, hb⟩
    have hs_w10 := hb.size
    have hB_w10 : Below w.heap.size w w10 := hB_w9.trans (hb.mono (by omega))
    have hu0_w10 := hu0_w9.below hb (Nat.le_refl _)
    have hu1_w10 := hu1_w9.below hb (Nat.le_refl _)
    have hg0_w10 := hg0_w9.below hb (Nat.le_refl _)
    have hg1_w10 := hg1_w9.below hb (Nat.le_refl _)
    clear hu0_w9 hu1_w9 hg0_w9 hg1_w9 hB_w9
    clear hb
    go_wp2_with fail
    refine (eq_same _ _ D1 _ _ _ hg1_w10 hu1_w10).mono ?_
    rintro e w11 ⟨rfl, hb⟩
    have hs_w11 := hb.size
    have hB_w11 : Below w.heap.size w w11 := hB_w10.trans (hb.mono (by omega))
    have hu0_w11 := hu0_w10.below hb (Nat.le_refl _)
    have hu1_w11 := hu1_w10.below hb (Nat.le_refl _)
    have hg0_w11 := hg0_w10.below hb (Nat.le_refl _)
    have hg1_w11 := hg1_w10.below hb (Nat.le_refl _)
    clear hu0_w10 hu1_w10 hg0_w10 hg1_w10 hB_w10
    clear hb
    go_wp2_with fail
    refine (mark_own _ D0 1 _ _ hg0_w11 (by omega) (by omega)).mono ?_
    rintro e w12 ⟨rfl, hmk, hgr⟩
    have hs_w12 := hgr.size
    have hB_w12 : Below w.heap.size w w12 := Below.grown hB_w11 hgr (by omega) (fun k hk => (by have := Og0.out k hk; omega))
    have hu0_w12 := hu0_w11.apart hgr (fun k hk e => (by have := Og0.out k e; have := Ou0.out k hk; omega))
    have hu1_w12 := hu1_w11.apart hgr (fun k hk e => (by have := Og0.out k e; have := Ou1.out k hk; omega))
    have hg1_w12 := hg1_w11.apart hgr (fun k hk e => (Hap.out k e hk))
    clear hu0_w11 hu1_w11 hg0_w11 hg1_w11 hB_w11 hgr
    have hheld0 : ∀ j, j < (marked 1 D0 D0.length).length → (marked 1 D0 D0.length).getD j 0 = 1 + j := fun j hj => by
      rw [marked_length] at hj; exact marked_at 1 D0 D0.length j hj hj
    have hml0 : (marked 1 D0 D0.length).length = D0.length := marked_length 1 D0 D0.length
    generalize marked 1 D0 D0.length = M0 at *
    have HM0 : Hid (∀ j, j < M0.length → M0.getD j 0 = 1 + j) := hheld0
    clear hheld0
    have hm0 := hmk
    clear hmk
    go_wp2_with fail
    refine (mark_own _ D1 (1 + (D0.length : Int)) _ _ hg1_w12 (by omega) (by omega)).mono ?_
    rintro e w13 ⟨rfl, hmk, hgr⟩
    have hs_w13 := hgr.size
    have hB_w13 : Below w.heap.size w w13 := Below.grown hB_w12 hgr (by omega) (fun k hk => (by have := Og1.out k hk; omega))
    have hu0_w13 := hu0_w12.apart hgr (fun k hk e => (by have := Og1.out k e; have := Ou0.out k hk; omega))
    have hu1_w13 := hu1_w12.apart hgr (fun k hk e => (by have := Og1.out k e; have := Ou1.out k hk; omega))
    have hm0_w13 := hm0.apart hgr (fun k hk e => (Hap.out k hk e))
    clear hu0_w12 hu1_w12 hg1_w12 hm0 hB_w12 hgr
    have hheld1 : ∀ j, j < (marked (1 + (D0.length : Int)) D1 D1.length).length → (marked (1 + (D0.length : Int)) D1 D1.length).getD j 0 = (1 + (D0.length : Int)) + j := fun j hj => by
      rw [marked_length] at hj; exact marked_at (1 + (D0.length : Int)) D1 D1.length j hj hj
    have hml1 : (marked (1 + (D0.length : Int)) D1 D1.length).length = D1.length := marked_length (1 + (D0.length : Int)) D1 D1.length
    generalize marked (1 + (D0.length : Int)) D1 D1.length = M1 at *
    have HM1 : Hid (∀ j, j < M1.length → M1.getD j 0 = (1 + (D0.length : Int)) + j) := hheld1
    clear hheld1
    have hm1 := hmk
    clear hmk
    go_wp2_with fail
    refine (held_any _ M0 1 _ _ hm0_w13 (by omega) (by omega) HM0.out).mono ?_
    rintro e w' ⟨rfl, hw⟩
    obtain rfl := hw.symm
    rw [hml0]
    have hq0 : ¬ (1 + (D0.length : Int)) < 0 := by omega
    go_wp2_with fail
    refine (held_any _ M1 (1 + (D0.length : Int)) _ _ hm1 (by omega) (by omega) HM1.out).mono ?_
    rintro e w' ⟨rfl, hw⟩
    obtain rfl := hw.symm
    rw [hml1]
    have hq1 : ¬ ((1 + (D0.length : Int)) + (D1.length : Int)) < 0 := by omega
    go_wp2_with fail
    refine (Hc.out _ hB_w13).mono ?_
    rintro e w14 ⟨x2, rfl, hx2, hb⟩
    have hs_w14 := hb.size
    have hB_w14 : Below w.heap.size w w14 := hB_w13.trans (hb.mono (by omega))
    have hu0_w14 := hu0_w13.below hb (Nat.le_refl _)
    have hu1_w14 := hu1_w13.below hb (Nat.le_refl _)
    have hm0_w14 := hm0_w13.below hb (Nat.le_refl _)
    have hm1_w14 := hm1.below hb (Nat.le_refl _)
    clear hu0_w13 hu1_w13 hm0_w13 hm1 hB_w13
    clear hb
    go_wp2_with fail
    refine (Hi.out _ _ _ hx2).mono ?_
    rintro e w15 ⟨h0, h1, rfl, hh0, hh1, -, hb⟩
    have hs_w15 := hb.size
    have hB_w15 : Below w.heap.size w w15 := hB_w14.trans (hb.mono (by omega))
    have hu0_w15 := hu0_w14.below hb (Nat.le_refl _)
    have hu1_w15 := hu1_w14.below hb (Nat.le_refl _)
    have hm0_w15 := hm0_w14.below hb (Nat.le_refl _)
    have hm1_w15 := hm1_w14.below hb (Nat.le_refl _)
    clear hu0_w14 hu1_w14 hm0_w14 hm1_w14 hB_w14
    clear hb hx2
    go_wp2_with fail
    refine (eq_same _ _ D0 _ _ _ hh0 hu0_w15).mono ?_
    rintro e w16 ⟨rfl, hb⟩
    have hs_w16 := hb.size
    have hB_w16 : Below w.heap.size w w16 := hB_w15.trans (hb.mono (by omega))
    have hu0_w16 := hu0_w15.below hb (Nat.le_refl _)
    have hu1_w16 := hu1_w15.below hb (Nat.le_refl _)
    have hm0_w16 := hm0_w15.below hb (Nat.le_refl _)
    have hm1_w16 := hm1_w15.below hb (Nat.le_refl _)
    have hh0_w16 := hh0.below hb (Nat.le_refl _)
    have hh1_w16 := hh1.below hb (Nat.le_refl _)
    clear hu0_w15 hu1_w15 hm0_w15 hm1_w15 hh0 hh1 hB_w15
    clear hb
    go_wp2_with fail
    refine (eq_same _ _ D1 _ _ _ hh1_w16 hu1_w16).mono ?_
    rintro e w17 ⟨rfl, hb⟩
    have hs_w17 := hb.size
    have hB_w17 : Below w.heap.size w w17 := hB_w16.trans (hb.mono (by omega))
    have hu0_w17 := hu0_w16.below hb (Nat.le_refl _)
    have hu1_w17 := hu1_w16.below hb (Nat.le_refl _)
    have hm0_w17 := hm0_w16.below hb (Nat.le_refl _)
    have hm1_w17 := hm1_w16.below hb (Nat.le_refl _)
    have hh0_w17 := hh0_w16.below hb (Nat.le_refl _)
    have hh1_w17 := hh1_w16.below hb (Nat.le_refl _)
    clear hu0_w16 hu1_w16 hm0_w16 hm1_w16 hh0_w16 hh1_w16 hB_w16
    clear hb
    go_wp2_with fail
    refine (held_any _ M0 1 _ _ hm0_w17 (by omega) (by omega) HM0.out).mono ?_
    rintro e w' ⟨rfl, hw⟩
    obtain rfl := hw.symm
    rw [hml0]
    skip
    go_wp2_with fail
    refine (held_any _ M1 (1 + (D0.length : Int)) _ _ hm1_w17 (by omega) (by omega) HM1.out).mono ?_
    rintro e w' ⟨rfl, hw⟩
    obtain rfl := hw.symm
    rw [hml1]
    skip
    go_wp2
    go_ret
    exact ⟨rfl, hB_w17⟩

/-! ### THE ROW's STEP: WRITTEN OUT: LEAVE IT -/
set_option maxRecDepth 100000 in
theorem lifted (os : Os) (started : os.Started) (H : Type) (enc : TypeId × Value → H) :
    ReturnsInHanded {} Try.checked os 5 .any (Rows.fnExactFlightSpec.pre6 enc Try.prog Try.f5 Rows.fnExactFlightRow.domain false) (Rows.fnExactFlightSpec.post enc Try.prog Try.f5 false true false false) := by
  refine returnsInHanded_of_change (C := Try.checked) own started (by kernel_rfl) Try.func5
    (ChangeSpec.witness6 (enc := enc) (C := Try.checked) false ⟨#[], #[.slice none 0 0], []⟩ 8 (by kernel_rfl) (by kernel_rfl) (by kernel_rfl) (by kernel_rfl)) ?_
  intro W base args ds gs before hval0 hW hcnd _
  have hval : ∀ (j : Nat) t v, Try.f5.params[j]? = some t → args[j]? = some v → Value.okWide Try.prog W .any base t v := hval0
  have hW' := hW
  obtain ⟨p, q, hA0, hV, rfl, hfz, hnd⟩ := hW
  have hA : DataW.TrodAll enc Try.prog W 0 (fun _ => true) true Try.f5.params.toList args.toList ds p := hA0
  rw [Try.params5] at hA hval
  obtain ⟨v0, vs0, d0, ds0, p0, q0, hargs, rfl, rfl, h0, r0⟩ := trodAll_cons hA
  obtain ⟨rfl, rfl, rfl⟩ := trodAll_nil r0
  obtain rfl : args = #[v0] := by cases args; simp_all
  obtain ⟨rfl, rfl⟩ := trodVars_none hV
  obtain ⟨a0, len0, cap0, rfl⟩ := okWide_slice Try.underlying22 (hval 0 22 v0 rfl rfl)
  have k0 := h0
  have lt0 : ∀ x ∈ p0, x.block < W.heap.size := by obtain ⟨m, hm⟩ := k0; exact DataW.trod_lt m _ _ _ hm
  obtain ⟨z0, w0⟩ : ∃ zs, IsRow .i64 W a0 len0 cap0 zs := by
    obtain ⟨fuel, hf⟩ := h0
    rcases open_ints Try.underlying22 Try.underlying2 (by kernel_rfl) hf with ⟨hcs, _⟩ | ⟨x, l, c, zs, hcs, _, hl, hm, hz, _, hcell, hwz⟩
    · simp [Value.cells] at hcs
      obtain ⟨rfl, rfl, rfl⟩ := hcs
      exact ⟨[], .inl ⟨rfl, rfl, rfl, rfl⟩⟩
    · simp [Value.cells] at hcs
      obtain ⟨rfl, rfl, rfl⟩ := hcs
      exact ⟨zs, .inr ⟨_, rfl, hl, hm, by simpa using hz, hcell, hwz⟩⟩
  clear hA0 hval0
  refine (walk a0 len0 cap0 z0 W w0).mono fun e W' ⟨he, bel⟩ => ?_
  subst he
  exact ⟨_, rfl, _, _, _, [], _, [], hW', trodAll_mk1 (shut_bool Try.underlying4 _), (trodAll_cons_mk (Below.trod laidOut (by kernel_rfl) (of_decide_eq_true (by kernel_rfl)) k0 bel lt0) trodAll_mk0), rfl, bel.frame _, fun h => by cases h⟩

theorem over : Rows.fnExactFlightRow.holds Try.pinned (OpenSpec.ofChange Rows.fnExactFlightSpec) :=
  OpenClaim.holds_of_wide 5 Try.f5 rfl rfl rfl rfl rfl rfl rfl ⟨rfl, rfl, rfl, rfl, rfl⟩ rfl rfl rfl rfl rfl (by kernel_rfl) Try.func5 (by kernel_rfl)
    (of_decide_eq_true (by kernel_rfl)) (by unfold Func.isWrapper; first | (rw [if_pos (by decide +kernel)]; kernel_rfl) | (rw [if_neg (by decide +kernel)]; exact ⟨rfl, rfl⟩))
    (fun os started H enc _ => lifted os started H enc)

/-- ████ THE STATEMENT ████ -/
theorem proved : Rows.FnExactFlightSaid := over
#print axioms proved
end Go.Proofs.Ytlbkhiphnllfpaj.fnExactFlight
namespace Go.Proofs.Ytlbkhiphnllfpaj
/-- The given statement. -/
theorem fnExactFlight_holds : Rows.FnExactFlightSaid := fnExactFlight.proved
end Go.Proofs.Ytlbkhiphnllfpaj
