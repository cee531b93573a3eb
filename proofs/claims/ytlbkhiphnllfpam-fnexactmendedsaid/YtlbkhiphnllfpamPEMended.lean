/-
  Mended of the program answers as Mended of its model, whatever the turns and the divisor; it writes nothing into them, and its answer is memory of its own.
-/
import Derived.Test.YtlbkhiphnllfpamRows
import Derived.WalkKit
import Derived.ProofKit
import Derived.OpenShut
import Derived.ShutString
import Derived.ChangeOld
import Derived.Below
import Derived.Test.YtlbkhiphnllfpamMnd
import Derived.Test.YtlbkhiphnllfpamTrnO
import Derived.Test.YtlbkhiphnllfpamMark
namespace Go.Proofs.Ytlbkhiphnllfpam.fnExactMended
open Go.ChangeShapes Go.WideShapes Go.ChangeAt Go.RowKit
open Go.ChangeMaps (open_string shut_string)
set_option linter.unusedVariables false

theorem own : ownKnob Try.prog.godebug = none := by kernel_rfl
theorem laidOut : laidOutB Try.prog = true := by kernel_rfl

/-- WHAT THE WALK IS TOLD OF A SLICE OF INTEGERS THAT CAME IN: it is nil; or it leads to a row of 'cap' cells, the numbers 'zs' (the first 'len' are its elements, the rest its spare room), each fitting its kind. -/
def IsRow (k : IntKind) (w : World) (a : Option Addr) (len cap : Nat) (zs : List Int) : Prop :=
  (a = none ∧ len = 0 ∧ cap = 0 ∧ zs = []) ∨
  ∃ x, a = some x ∧ len ≤ cap ∧ cap ≤ maxLen ∧ zs.length = cap ∧ (∀ i, i < zs.length → w.cell? (x.add i) = some (.int k (zs.getD i 0))) ∧ ∀ n ∈ zs, (Lit.int k n).wf = true

theorem walk (a0 : Option Addr) (len0 cap0 : Nat) (z0 : List (Int × Int)) (a1 : Int) (w : World) (w0 : IsTurns w a0 len0 z0) (w1 : (Lit.int .i64 a1).wf = true) :
    Calls Try.prog 6 #[.slice a0 len0 cap0, .int .i64 a1] w fun e w' => e = .returned (.bool true) ∧ Below w.heap.size w w' := by
  have Hd : Hid (-9223372036854775808 ≤ a1 ∧ a1 ≤ 9223372036854775807) := by show _ ∧ _; simp only [Lit.wf, IntKind.min, IntKind.max, IntKind.signed, IntKind.bits, Bool.and_eq_true, decide_eq_true_eq, if_true] at w1; omega
  obtain ⟨hlz, hlm, -⟩ := id w0
  by_cases hbig : 1048576 - (len0 : Int) < 0
  · clear w0 Hd
    go_enter Try.func6, Try.ntmps6
    go_wp2_with fail
    refine (szTurnS_any a0 len0 cap0 1048576 _ hlm (by omega)).mono ?_
    rintro e w' ⟨rfl, hw⟩
    obtain rfl := hw.symm
    rw [if_pos hbig]
    go_wp2
    go_ret
    exact ⟨rfl, Below.refl _ _⟩
  have hlen : z0.length ≤ 1048576 := by omega
  have Hc : Hid (∀ W, Below w.heap.size w W → Calls Try.prog 23 #[.slice a0 len0 cap0] W fun e w' => ∃ v, e = .returned v ∧ HasT w' W.heap.size v z0 ∧ Below W.heap.size W w') := fun W hb => toTurnS_any a0 len0 cap0 z0 W (IsTurns.below w0 hb) (by omega)
  clear w0
  have hol : (mdL z0 a1).length ≤ 40 := mdL_length z0 a1
  have Hs : Hid (∀ W v base, HasT W base v z0 → Calls Try.prog 22 #[v, .int .i64 a1] W fun e w' => ∃ u, e = .returned (.tuple #[u, .int .i64 (mdR z0 a1), .bool (mok z0 a1)]) ∧ Has w' W.heap.size u (mdL z0 a1) ∧ Below W.heap.size W w') := fun W v base h => sMended_any v z0 a1 base W h (by omega) Hd.out
  have Hi : Hid (∀ W v base, HasT W base v z0 → Calls Try.prog 24 #[v, .int .i64 a1] W fun e w' => ∃ u, e = .returned (.tuple #[u, .int .i64 (mdR z0 a1), .bool (mok z0 a1)]) ∧ Has w' W.heap.size u (mdL z0 a1) ∧ Below W.heap.size W w') := fun W v base h => iMended_any v z0 a1 base W h (by omega) Hd.out
  have Hl : Hid ((flt z0).length = z0.length * 2) := flt_len z0
  clear Hd
  generalize mdL z0 a1 = D at *
  generalize mdR z0 a1 = R at *
  generalize mok z0 a1 = B at *
  go_enter Try.func6, Try.ntmps6
  go_wp2_with fail
  refine (szTurnS_any a0 len0 cap0 1048576 _ hlm (by omega)).mono ?_
  rintro e w' ⟨rfl, hw⟩
  obtain rfl := hw.symm
  rw [if_neg (by omega)]
  go_wp2_with fail
  refine (Hc.out _ (Below.refl _ _)).mono ?_
  rintro e w1 ⟨v0, rfl, hv0, hB1⟩
  have hs1 := hB1.size
  go_wp2_with fail
  refine (Hs.out _ _ _ hv0).mono ?_
  rintro e w2 ⟨u, rfl, hu, hb⟩
  have hs2 := hb.size
  have hB2 : Below w.heap.size w w2 := bel1 hB1 hb
  clear hb hv0 hB1
  have Ou : Hid (∀ k, u.ownBlock = some k → k < w2.heap.size) := fun k hk => (hu.own k hk).2
  go_wp2_with fail
  refine (Hc.out _ hB2).mono ?_
  rintro e w3 ⟨x0, rfl, hx, hb⟩
  have hs3 := hb.size
  have hB3 : Below w.heap.size w w3 := bel1 hB2 hb
  have hu3 := hu.below hb (Nat.le_refl _)
  clear hu hB2 hb
  have Ox : Hid (∀ k, x0.ownBlock = some k → w2.heap.size ≤ k ∧ k < w3.heap.size) := fun k hk => hx.own k hk
  go_wp2_with fail
  refine (Hi.out _ _ _ hx).mono ?_
  rintro e w4 ⟨g0, rfl, hg, hb⟩
  have hs4 := hb.size
  have hB4 : Below w.heap.size w w4 := bel1 hB3 hb
  have hu4 := hu3.below hb (Nat.le_refl _)
  have hx4 := hx.below hb (Nat.le_refl _)
  clear hu3 hx hB3 hb
  have Og : Hid (∀ k, g0.ownBlock = some k → w3.heap.size ≤ k) := fun k hk => (hg.own k hk).1
  go_wp2_with fail
  refine (eq_same _ _ D _ _ _ hg hu4).mono ?_
  rintro e w5 ⟨rfl, hb⟩
  have hs5 := hb.size
  have hB5 : Below w.heap.size w w5 := bel1 hB4 hb
  have hu5 := hu4.below hb (Nat.le_refl _)
  have hx5 := hx4.below hb (Nat.le_refl _)
  have hg5 := hg.below hb (Nat.le_refl _)
  clear hu4 hx4 hg hB4 hb
  go_wp2_with fail
  refine (Hc.out _ hB5).mono ?_
  rintro e w6 ⟨x1, rfl, hx1, hb⟩
  have hs6 := hb.size
  have hB6 : Below w.heap.size w w6 := bel1 hB5 hb
  have hu6 := hu5.below hb (Nat.le_refl _)
  have hx6 := hx5.below hb (Nat.le_refl _)
  have hg6 := hg5.below hb (Nat.le_refl _)
  clear hu5 hx5 hg5 hB5 hb
  go_wp2_with fail
  refine (eqTurnS_same _ _ z0 _ _ _ hx6 hx1 (by omega)).mono ?_
  rintro e w7 ⟨rfl, hb⟩
  have hs7 := hb.size
  have hB7 : Below w.heap.size w w7 := bel1 hB6 hb
  have hu7 := hu6.below hb (Nat.le_refl _)
  have hx7 := (hx6.below hb (Nat.le_refl _)).flat
  have hg7 := hg6.below hb (Nat.le_refl _)
  clear hu6 hx6 hx1 hg6 hB6 hb
  go_wp2_with fail
  refine (markT_own _ (flt z0) 1 _ _ _ hx7 Hl.out (by omega) (by omega) (by omega)).mono ?_
  rintro e w8 ⟨rfl, -, hgr⟩
  have hs8 := hgr.size
  have hB8 : Below w.heap.size w w8 := Below.grown hB7 hgr (by omega) (fun k hk => (by have := (Ox.out k hk).1; omega))
  have hu8 := hu7.apart hgr (fun k hk e => (by have := (Ox.out k e).1; have := Ou.out k hk; omega))
  have hg8 := hg7.apart hgr (fun k hk e => (by have := (Ox.out k e).2; have := Og.out k hk; omega))
  clear hu7 hx7 hg7 hB7 hgr
  have hk0 : ¬ (1 + ((flt z0).length : Int)) < 0 := by omega
  go_wp2_with fail
  refine (eq_same _ _ D _ _ _ hg8 hu8).mono ?_
  rintro e w9 ⟨rfl, hb⟩
  have hs9 := hb.size
  have hB9 : Below w.heap.size w w9 := bel1 hB8 hb
  have hu9 := hu8.below hb (Nat.le_refl _)
  have hg9 := hg8.below hb (Nat.le_refl _)
  clear hu8 hg8 hB8 hb hk0
  go_wp2_with fail
  refine (mark_own _ D 1 _ _ hg9 (by omega) (by omega)).mono ?_
  rintro e w10 ⟨rfl, hmk, hgr⟩
  have hs10 := hgr.size
  have hB10 : Below w.heap.size w w10 := Below.grown hB9 hgr (by omega) (fun k hk => (by have := Og.out k hk; omega))
  have hu10 := hu9.apart hgr (fun k hk e => (by have := Og.out k e; have := Ou.out k hk; omega))
  clear hu9 hg9 hB9 hgr
  have hheld0 : ∀ j, j < (marked 1 D D.length).length → (marked 1 D D.length).getD j 0 = 1 + j := fun j hj => by
    rw [marked_length] at hj; exact marked_at 1 D D.length j hj hj
  have hml0 : (marked 1 D D.length).length = D.length := marked_length 1 D D.length
  generalize marked 1 D D.length = M0 at *
  have HM0 : Hid (∀ j, j < M0.length → M0.getD j 0 = 1 + j) := hheld0
  clear hheld0
  go_wp2_with fail
  refine (held_any _ M0 1 _ _ hmk (by omega) (by omega) HM0.out).mono ?_
  rintro e w' ⟨rfl, hw⟩
  obtain rfl := hw.symm
  rw [hml0]
  have hq0 : ¬ (1 + (D.length : Int)) < 0 := by omega
  go_wp2_with fail
  refine (Hc.out _ hB10).mono ?_
  rintro e w11 ⟨x2, rfl, hx2, hb⟩
  have hs11 := hb.size
  have hB11 : Below w.heap.size w w11 := bel1 hB10 hb
  have hu11 := hu10.below hb (Nat.le_refl _)
  have hm11 := hmk.below hb (Nat.le_refl _)
  clear hu10 hmk hB10 hb
  go_wp2_with fail
  refine (Hi.out _ _ _ hx2).mono ?_
  rintro e w12 ⟨h0, rfl, hh, hb⟩
  have hs12 := hb.size
  have hB12 : Below w.heap.size w w12 := bel1 hB11 hb
  have hu12 := hu11.below hb (Nat.le_refl _)
  have hm12 := hm11.below hb (Nat.le_refl _)
  clear hu11 hm11 hB11 hb hx2
  go_wp2_with fail
  refine (eq_same _ _ D _ _ _ hh hu12).mono ?_
  rintro e w13 ⟨rfl, hb⟩
  have hs13 := hb.size
  have hB13 : Below w.heap.size w w13 := bel1 hB12 hb
  have hm13 := hm12.below hb (Nat.le_refl _)
  clear hu12 hm12 hh hB12 hb
  go_wp2_with fail
  refine (held_any _ M0 1 _ _ hm13 (by omega) (by omega) HM0.out).mono ?_
  rintro e w' ⟨rfl, hw⟩
  obtain rfl := hw.symm
  rw [hml0]
  go_wp2
  go_ret
  exact ⟨rfl, hB13⟩

/-! ### THE ROW's STEP: WRITTEN OUT: LEAVE IT -/
set_option maxRecDepth 100000 in
theorem lifted (os : Os) (started : os.Started) (H : Type) (enc : TypeId × Value → H) :
    ReturnsInHanded {} Try.checked os 6 .any (Rows.fnExactMendedSpec.pre6 enc Try.prog Try.f6 Rows.fnExactMendedRow.domain false) (Rows.fnExactMendedSpec.post enc Try.prog Try.f6 false true false false) := by
  refine returnsInHanded_of_change (C := Try.checked) own started (by kernel_rfl) Try.func6
    (ChangeSpec.witness6 (enc := enc) (C := Try.checked) false ⟨#[], #[.slice none 0 0, .int .i64 0], []⟩ 8 (by kernel_rfl) (by kernel_rfl) (by kernel_rfl) (by kernel_rfl)) ?_
  intro W base args ds gs before hval0 hW hcnd _
  have hval : ∀ (j : Nat) t v, Try.f6.params[j]? = some t → args[j]? = some v → Value.okWide Try.prog W .any base t v := hval0
  have hW' := hW
  obtain ⟨p, q, hA0, hV, rfl, hfz, hnd⟩ := hW
  have hA : DataW.TrodAll enc Try.prog W 0 (fun _ => true) true Try.f6.params.toList args.toList ds p := hA0
  rw [Try.params6] at hA hval
  obtain ⟨v0, vs0, d0, ds0, p0, q0, hargs, rfl, rfl, h0, r0⟩ := trodAll_cons hA
  obtain ⟨v1, vs1, d1, ds1, p1, q1, rfl, rfl, rfl, h1, r1⟩ := trodAll_cons r0
  obtain ⟨rfl, rfl, rfl⟩ := trodAll_nil r1
  obtain rfl : args = #[v0, v1] := by cases args; simp_all
  obtain ⟨rfl, rfl⟩ := trodVars_none hV
  have k0 := h0
  have lt0 : ∀ x ∈ p0, x.block < W.heap.size := by obtain ⟨m, hm⟩ := k0; exact DataW.trod_lt m _ _ _ hm
  obtain ⟨a0, len0, cap0, z0, rfl, w0⟩ := open_turns (hval 0 35 v0 rfl rfl) h0
  obtain ⟨a1, rfl, rfl, rfl, w1⟩ := open_int Try.underlying2 (hval 1 2 v1 rfl rfl) h1
  clear hA0 hval0
  refine (walk a0 len0 cap0 z0 a1 W w0 w1).mono fun e W' ⟨he, bel⟩ => ?_
  subst he
  exact ⟨_, rfl, _, _, _, [], _, [], hW', trodAll_mk1 (shut_bool Try.underlying4 _), (trodAll_cons_mk (Below.trod laidOut (by kernel_rfl) (of_decide_eq_true (by kernel_rfl)) k0 bel lt0) (trodAll_cons_mk (shut_int Try.underlying2 w1) trodAll_mk0)), rfl, bel.frame _, fun h => by cases h⟩

theorem over : Rows.fnExactMendedRow.holds Try.pinned (OpenSpec.ofChange Rows.fnExactMendedSpec) :=
  OpenClaim.holds_of_wide 6 Try.f6 rfl rfl rfl rfl rfl rfl rfl ⟨rfl, rfl, rfl, rfl, rfl⟩ rfl rfl rfl rfl rfl (by kernel_rfl) Try.func6 (by kernel_rfl)
    (of_decide_eq_true (by kernel_rfl)) (by unfold Func.isWrapper; first | (rw [if_pos (by decide +kernel)]; kernel_rfl) | (rw [if_neg (by decide +kernel)]; exact ⟨rfl, rfl⟩))
    (fun os started H enc _ => lifted os started H enc)

/-- ████ THE STATEMENT ████ -/
theorem proved : Rows.FnExactMendedSaid := over
#print axioms proved
end Go.Proofs.Ytlbkhiphnllfpam.fnExactMended
namespace Go.Proofs.Ytlbkhiphnllfpam
/-- The given statement. -/
theorem fnExactMended_holds : Rows.FnExactMendedSaid := fnExactMended.proved
end Go.Proofs.Ytlbkhiphnllfpam
