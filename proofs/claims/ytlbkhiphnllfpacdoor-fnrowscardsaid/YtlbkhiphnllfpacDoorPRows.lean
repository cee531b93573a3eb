/-
  The rows of two drawn words, each ten times farther than the one ahead, with what leaves them, make the product, whatever the code that they are drawn from.
  The card ties the listed package-level variables to the program's text, in the pruned copy that the seat holds; it says nothing of the project's other packages, commands or tests.
-/
import Derived.Test.YtlbkhiphnllfpacDoorCards
import Derived.Test.YtlbkhiphnllfpacDoorTie
import Derived.WalkKit
import Derived.ProofKit
import Derived.OpenShut
import Derived.ShutString
import Derived.ChangeOld
import Derived.Below
import Derived.OpenVars
import Derived.LaidMore
import Derived.Stop.Joined
import Derived.Test.YtlbkhiphnllfpacDoorPrdW
import Derived.Test.YtlbkhiphnllfpacDoorPrdL
import Derived.Test.YtlbkhiphnllfpacDoorRow
import Derived.Test.YtlbkhiphnllfpacDoorDoor
namespace Go.Proofs.YtlbkhiphnllfpacDoor.fnRows
open Go.ChangeShapes Go.WideShapes Go.ChangeAt Go.RowKit
set_option linter.unusedVariables false

theorem walk (a0 : Option Addr) (len0 cap0 : Nat) (z0 : List Int) (w : World) (w0 : IsRow .u8 w a0 len0 cap0 z0) (ht : Tab w ∧ 0 < w.heap.size) :
    Calls Tryd.prog 3 #[.slice a0 len0 cap0] w fun e w' => e = .returned (.bool true) ∧ Below w.heap.size w w' := by
  have HT : Hid (Tab w ∧ 0 < w.heap.size) := ht
  clear ht
  by_cases hbig : 4096 < len0
  · clear w0
    go_enter Tryd.func3, Tryd.ntmps3
    go_wp2_with fail
    refine (big_yes _ _ _ _ hbig).mono ?_
    rintro e w' ⟨rfl, rfl⟩
    go_wp2
    go_ret
    exact ⟨rfl, Below.refl _ _⟩
  have hB : Hid (Bytes w.heap.size w a0 len0) := bytes_of_row w0
  clear w0
  go_enter Tryd.func3, Tryd.ntmps3
  go_wp2_with fail
  refine (big_no _ _ _ _ hbig).mono ?_
  rintro e w' ⟨rfl, hw⟩
  obtain rfl := hw.symm
  go_wp2_with fail
  refine (DrawRows_any _ _ _ _ (by omega) hB.out).mono ?_
  rintro e w1 ⟨x, y, rfl, hx, hy, hb1⟩
  have hs1 := hb1.size
  have hz := HT.out.2
  by_cases hbad : Ln.okB 0 x = false ∨ Ln.okB 0 y = false
  · have Hbad : Hid (Ln.okB 0 x = false ∨ Ln.okB 0 y = false) := hbad
    clear hbad
    go_wp2_with fail
    refine (irows_no x y _ (Tab.below HT.out.1 hb1 hz) hx.1 hx.2 hy.1 hy.2 Hbad.out).mono ?_
    rintro e w2 ⟨v2, rfl, hv2, hb2⟩
    obtain ⟨g2, c2, rfl, -⟩ := hv2.len
    clear hv2
    have hb02 : Below w.heap.size w w2 := hb1.trans (hb2.mono hs1)
    have hs2 := hb02.size
    go_wp2_with fail
    refine (srows_no x y _ hx.1 hx.2 hy.1 hy.2 Hbad.out).mono ?_
    rintro e w3 ⟨v3, rfl, hv3, hb3⟩
    obtain ⟨g3, c3, rfl, -⟩ := hv3.len
    clear hv3
    go_wp2
    go_ret
    exact ⟨rfl, hb02.trans (hb3.mono (by omega))⟩
  have Kx : Hid (Ln.okB 0 x = true) := by
    cases h : Ln.okB 0 x with
    | true => rfl
    | false => exact absurd (.inl h) hbad
  have Ky : Hid (Ln.okB 0 y = true) := by
    cases h : Ln.okB 0 y with
    | true => rfl
    | false => exact absurd (.inr h) hbad
  clear hbad
  go_wp2_with fail
  refine (irows_yes x y _ (Tab.below HT.out.1 hb1 hz) (by omega) hx.1 hx.2 hy.1 hy.2 Kx.out Ky.out).mono ?_
  rintro e w2 ⟨v2, rfl, hv2, hb2⟩
  have hb02 : Below w.heap.size w w2 := hb1.trans (hb2.mono hs1)
  have hs2 := hb02.size
  have hn2 : (rowsL x y 16).length = 16 := rowsL_length x y 16
  rcases hv2.form with ⟨-, hem⟩ | ⟨g2, c2, rfl, -, hgl, -, hcell, -⟩
  · rw [hem] at hn2; cases hn2
  rw [hn2]
  have HC : Hid (∀ i, i < 16 → w2.cell? ⟨g2, i, none⟩ = some (.int .u64 (mulV x (Ln.ln y i)))) := fun i hi => by
    rw [hcell i (by rw [hn2]; exact hi), rowsL_at x y 16 i hi]
  clear hcell hv2
  go_wp2_with fail
  refine (srows_yes x y _ hx.1 hx.2 hy.1 hy.2 Kx.out Ky.out).mono ?_
  rintro e w3 ⟨v3, rfl, hv3, hb3⟩
  obtain ⟨g3, c3, rfl, -⟩ := hv3.len
  rw [hn2]
  clear hv3 hn2
  have hb03 : Below w.heap.size w w3 := hb02.trans (hb3.mono (by omega))
  have hgl3 : g2 < w3.heap.size := Nat.lt_of_lt_of_le hgl hb3.size
  have HC3 : Hid (∀ i, i < 16 → w3.cell? ⟨g2, i, none⟩ = some (.int .u64 (mulV x (Ln.ln y i)))) := fun i hi => by
    rw [hb3.cell (p := ⟨g2, i, none⟩) hgl]; exact HC.out i hi
  have hs3 := hb03.size
  clear HC hb1 hb2 hb3 hb02 hs1 hs2 hgl hB
  have tz : Hid (({ data := #[48] } : ByteArray) = tx [0]) := by rw [Hid]; decide +kernel
  go_wp2
  go_loopw [9, 10] (fun s i wr => ∃ (j : Nat) (R : List Int), j ≤ 16 ∧ i = .int .i64 j ∧ s = .string (tx R) ∧ Hid (Canon R ∧ vl R = vl (digits 0 x) * pv (Ln.ln y) j) ∧ Below w3.heap.size w3 wr) (fun _ i _ => 16 - (intOf i).toNat)
  case atStart => exact ⟨0, [0], Nat.zero_le _, rfl, by rw [tz.out], ⟨canon_zero, by simp [pv, vl, lv]⟩, Below.refl _ _⟩
  case round =>
    obtain ⟨j, R, hj, rfl, rfl, HR, hbel⟩ := hrel
    have hsz := hbel.size
    have hrx := vl_room x Kx.out
    have hb0r : Below w.heap.size w wr := hb03.trans (hbel.mono hs3)
    by_cases hlt : j < 16
    · have hd := ok_nine y Ky.out j hlt
      have hp := pv_low (Ln.ln y) (ok_nine y Ky.out) j (by omega)
      have hm := mul_room16 _ _ hrx.1 hrx.2 hp.1 hp.2
      have hRl := canon_33 R HR.out.1 (by rw [HR.out.2]; exact hm.2)
      have hc := (hbel.cell (p := ⟨g2, j, none⟩) hgl3).trans (HC3.out j hlt)
      have Hrs : Hid (vl (digits 0 x) * pv (Ln.ln y) j + (vl (digits 0 (mulV x (Ln.ln y j))) + mulC x (Ln.ln y j) * 10 ^ 16) * 10 ^ j = vl (digits 0 x) * pv (Ln.ln y) (j + 1)) := rows_sum x y Kx.out j
      have hMu : Hid (∀ W, Tab W → 0 < W.heap.size → Calls Tryd.prog 9 #[.int .u64 x, .int .i64 (Ln.ln y j)] W fun e w' => e = .returned (.tuple #[.int .u64 (mulV x (Ln.ln y j)), .int .i64 (mulC x (Ln.ln y j)), .bool true]) ∧ Below W.heap.size W w') := fun W hT hz => imul_yes x _ W hT hz hx.1 hx.2 Kx.out hd.1 (by omega)
      have hmb := mulV_bd x (Ln.ln y j)
      have hmk : Hid (Ln.okB 0 (mulV x (Ln.ln y j)) = true) := mulV_ok x (Ln.ln y j)
      have hcb := mulC_bd x (Ln.ln y j) Kx.out hd.1 (by omega)
      have hln := Ln.ln_mod y j hy.1
      clear hm hp hrx
      generalize mulV x (Ln.ln y j) = m at *
      generalize mulC x (Ln.ln y j) = o at *
      generalize Ln.ln y j = d at *
      go_wp2_with fail
      refine (hMu.out _ (Tab.below HT.out.1 hb0r hz) (by omega)).mono ?_
      rintro e w4 ⟨rfl, hb4⟩
      have hc4 := (hb4.cell (p := ⟨g2, j, none⟩) (Nat.lt_of_lt_of_le hgl3 hsz)).trans hc
      have hb34 : Below w3.heap.size w3 w4 := hbel.trans (hb4.mono hsz)
      have hs4 := hb34.size
      clear hMu hc hbel hb4 hln hb0r hsz
      go_wp2_with fail
      refine (value_plain m _ hmb.1 hmb.2 hmk.out).mono ?_
      rintro e w5 ⟨R1, rfl, c1, v1, l1, hb5⟩
      have H1 : Hid (Canon R1 ∧ vl R1 = vl (digits 0 m)) := ⟨c1, v1⟩
      have hb35 : Below w3.heap.size w3 w5 := hb34.trans (hb5.mono hs4)
      have hs5 := hb35.size
      clear c1 v1 hb5 hb34 hs4 hc4
      go_wp2_with fail
      refine (above_any R1 o _ H1.out.1 (by omega) hcb.1 (by omega)).mono ?_
      rintro e w6 ⟨R2, rfl, c2', v2, l2, hb6⟩
      have H2 : Hid (Canon R2 ∧ vl R2 = vl (digits 0 m) + o * 10 ^ 16) := ⟨c2', by rw [v2, H1.out.2]⟩
      have hb36 : Below w3.heap.size w3 w6 := hb35.trans (hb6.mono hs5)
      have hs6 := hb36.size
      clear c2' v2 hb6 hb35 hs5 H1
      go_wp2_with fail
      refine (NatShift_all R2 j _ H2.out.1 (by omega)).mono ?_
      rintro e w7 ⟨R3, rfl, c3', v3, l3, hb7⟩
      have H3 : Hid (Canon R3 ∧ vl R3 = (vl (digits 0 m) + o * 10 ^ 16) * 10 ^ j) := ⟨c3', by rw [v3, H2.out.2]⟩
      have hb37 : Below w3.heap.size w3 w7 := hb36.trans (hb7.mono hs6)
      have hs7 := hb37.size
      clear c3' v3 hb7 hb36 hs6 H2
      go_wp2_with fail
      refine (NatAdd_any R R3 _ HR.out.1 H3.out.1 (by omega) (by omega)).mono ?_
      rintro e w8 ⟨R4, rfl, c4, v4, l4, hb8⟩
      have H4 : Hid (Canon R4 ∧ vl R4 = vl (digits 0 x) * pv (Ln.ln y) (j + 1)) := ⟨c4, by rw [v4, HR.out.2, H3.out.2, Hrs.out]⟩
      have hb38 : Below w3.heap.size w3 w8 := hb37.trans (hb8.mono hs7)
      clear c4 v4 hb8 hb37 hs7 H3 HR Hrs
      go_wp2
      go_roundw
      case rel => exact ⟨j + 1, R4, by omega, by go_num, rfl, H4, hb38⟩
      case measure => simp [intOf]; omega
    · have ej : j = 16 := by omega
      subst ej
      obtain ⟨kH, kL, bH, bL, hv⟩ := pr_facts x y Kx.out Ky.out
      have hpv : pv (Ln.ln y) 16 = vl (digits 0 y) := (pv0 y Ky.out).symm
      have HRv : Hid (Canon R ∧ vl R = vl (digits 0 (prL x y)) + 10 ^ 16 * vl (digits 0 (prH x y))) := ⟨HR.out.1, by rw [HR.out.2, hpv, hv]⟩
      have hPr : Hid (∀ W, Tab W → 0 < W.heap.size → Calls Tryd.prog 14 #[.int .u64 x, .int .u64 y] W fun e w' => e = .returned (.tuple #[.int .u64 (prH x y), .int .u64 (prL x y), .bool true]) ∧ Below W.heap.size W w') := fun W hT hz => iprod_yes x y W hT hz hx.1 hx.2 hy.1 hy.2 Kx.out Ky.out
      have KH : Hid (Ln.okB 0 (prH x y) = true) := kH
      have KL : Hid (Ln.okB 0 (prL x y) = true) := kL
      clear HR hv hpv HC3 kH kL hrx
      generalize prH x y = H at *
      generalize prL x y = L at *
      go_wp2_with fail
      refine (hPr.out _ (Tab.below HT.out.1 hb0r hz) (by omega)).mono ?_
      rintro e w4 ⟨rfl, hb4⟩
      have hb34 : Below w3.heap.size w3 w4 := hbel.trans (hb4.mono hsz)
      have hs4 := hb34.size
      clear hPr hbel hb4 hb0r hsz
      go_wp2_with fail
      refine (value_plain H _ bH.1 bH.2 KH.out).mono ?_
      rintro e w5 ⟨R1, rfl, c1, v1, l1, hb5⟩
      have H1 : Hid (Canon R1 ∧ vl R1 = vl (digits 0 H)) := ⟨c1, v1⟩
      have hb35 : Below w3.heap.size w3 w5 := hb34.trans (hb5.mono hs4)
      have hs5 := hb35.size
      clear c1 v1 hb5 hb34 hs4
      go_wp2_with fail
      refine (NatShift_all R1 16 _ H1.out.1 (by omega)).mono ?_
      rintro e w6 ⟨R2, rfl, c2', v2, l2, hb6⟩
      have H2 : Hid (Canon R2 ∧ vl R2 = vl (digits 0 H) * 10 ^ 16) := ⟨c2', by rw [v2, H1.out.2]⟩
      have hb36 : Below w3.heap.size w3 w6 := hb35.trans (hb6.mono hs5)
      have hs6 := hb36.size
      clear c2' v2 hb6 hb35 hs5 H1
      go_wp2_with fail
      refine (value_plain L _ bL.1 bL.2 KL.out).mono ?_
      rintro e w7 ⟨R3, rfl, c3', v3, l3, hb7⟩
      have H3 : Hid (Canon R3 ∧ vl R3 = vl (digits 0 L)) := ⟨c3', v3⟩
      have hb37 : Below w3.heap.size w3 w7 := hb36.trans (hb7.mono hs6)
      have hs7 := hb37.size
      clear c3' v3 hb7 hb36 hs6
      go_wp2_with fail
      refine (NatAdd_any R2 R3 _ H2.out.1 H3.out.1 (by omega) (by omega)).mono ?_
      rintro e w8 ⟨R4, rfl, c4, v4, l4, hb8⟩
      have heq : R = R4 := canon_unique R R4 HRv.out.1 c4 (by rw [HRv.out.2, v4, H2.out.2, H3.out.2]; omega)
      have hb38 : Below w3.heap.size w3 w8 := hb37.trans (hb8.mono hs7)
      clear c4 v4 hb8 hb37 hs7 H3 H2 HRv
      subst heq
      go_wp2
      go_ret
      exact ⟨Ln.ret_bool (by simp), hb03.trans (hb38.mono hs3)⟩

/-- The door's own heap meets the condition. -/
theorem door_met (os : Os) (args : Array Value) : laidMetH Tryd.prog Rows.fnRowsRow.laid ((World.doorLaid Tryd.prog 400 os).forCall (fun _ _ => 0) ⟨#[], args, []⟩).memory :=
  laidMetH_of_parts3 (fuel := 8) (laidMet_of_run' 8 (by kernel_rfl) (by kernel_rfl)) (by kernel_rfl) (by kernel_rfl)

set_option maxRecDepth 100000 in
theorem lifted (os : Os) (started : os.Started) (H : Type) (enc : TypeId × Value → H) :
    ReturnsInHanded {} Tryd.checked os 3 .any (fun w args => (Rows.fnRowsSpec.pre enc Tryd.prog Tryd.f3 [] false w args ∧ laidMetH Tryd.prog Rows.fnRowsRow.laid w) ∧ sizedMet enc Tryd.prog Tryd.f3 (OpenSpec.ofChange Rows.fnRowsSpec) false w args)
      (Rows.fnRowsSpec.post enc Tryd.prog Tryd.f3 false true false false) := by
  refine returnsInHanded_of_change_and (C := Tryd.checked) (X := fun w _ => laidMetH Tryd.prog Rows.fnRowsRow.laid w) (fun _ _ _ hh h => h.of_heap hh) own started (by kernel_rfl) Tryd.func3
    (ChangeSpec.witness_shaped (enc := enc) (C := Tryd.checked) (os := os) (X := fun w _ => laidMetH Tryd.prog Rows.fnRowsRow.laid w) false (World.doorLaid Tryd.prog 400 os) #[.slice none 0 0] 8 rfl (World.shaped_of_RefB (by kernel_rfl) (by kernel_rfl)) (by kernel_rfl) (by kernel_rfl) (by kernel_rfl) (door_met os _)) ?_
  intro W base args ds gs before hval0 hW _ _ hL _
  have hval : ∀ (j : Nat) t v, Tryd.f3.params[j]? = some t → args[j]? = some v → Value.okWide Tryd.prog W .any base t v := hval0
  have hW' := hW
  obtain ⟨p, q, hA0, hV, rfl, hfz, hnd⟩ := hW
  have hA : DataW.TrodAll enc Tryd.prog W 0 (fun _ => true) true Tryd.f3.params.toList args.toList ds p := hA0
  rw [Tryd.params3] at hA hval
  obtain ⟨v0, vs0, d0, ds0, p0, q0, hargs, rfl, rfl, h0, r0⟩ := trodAll_cons hA
  obtain ⟨rfl, rfl, rfl⟩ := trodAll_nil r0
  obtain rfl : args = #[v0] := by cases args; simp_all
  obtain ⟨a0, len0, cap0, rfl⟩ := okWide_slice Tryd.underlying22 (hval 0 22 v0 rfl rfl)
  have k0 := h0
  have lt0 : ∀ x ∈ p0, x.block < W.heap.size := by obtain ⟨m, hm⟩ := k0; exact DataW.trod_lt m _ _ _ hm
  obtain ⟨z0, w0⟩ : ∃ zs, IsRow .u8 W a0 len0 cap0 zs := by
    obtain ⟨fuel, hf⟩ := h0
    rcases open_ints Tryd.underlying22 Tryd.underlying5 (by kernel_rfl) hf with ⟨hcs, _⟩ | ⟨x, l, c, zs, hcs, _, hl, hm, hz, _, hcell, hwz⟩
    · simp [Value.cells] at hcs
      obtain ⟨rfl, rfl, rfl⟩ := hcs
      exact ⟨[], .inl ⟨rfl, rfl, rfl, rfl⟩⟩
    · simp [Value.cells] at hcs
      obtain ⟨rfl, rfl, rfl⟩ := hcs
      exact ⟨zs, .inr ⟨_, rfl, hl, hm, by simpa using hz, hcell, hwz⟩⟩
  rw [MakeChecks.laidMetH_plain _ _ _ (by kernel_rfl)] at hL
  have ht := tab_of_laid hL
  obtain ⟨g0, rfl⟩ : ∃ g0, gs = [g0] := vars1 hV
  clear hA0 hval0
  refine (walk a0 len0 cap0 z0 W w0 ht).mono fun e W' ⟨he, bel⟩ => ?_
  subst he
  exact ⟨_, rfl, _, _, _, [], _, _, hW', trodAll_mk1 (shut_bool Tryd.underlying4 _), (trodAll_cons_mk (Below.trod laidOut (by kernel_rfl) (of_decide_eq_true (by kernel_rfl)) k0 bel lt0) trodAll_mk0), Below.trodVars laidOut bel (by kernel_rfl) hV, bel.frame _, fun h => by cases h⟩

theorem said : Rows.FnRowsSaid :=
  OpenClaim.holds_of_wide 3 Tryd.f3 rfl rfl rfl rfl rfl rfl rfl ⟨rfl, rfl, rfl, rfl, rfl⟩ rfl rfl rfl rfl rfl (by kernel_rfl) Tryd.func3 (by kernel_rfl)
    (of_decide_eq_true (by kernel_rfl)) (by unfold Func.isWrapper; first | (rw [if_pos (by decide +kernel)]; kernel_rfl) | (rw [if_neg (by decide +kernel)]; exact ⟨rfl, rfl⟩))
    (fun os started H enc _ => lifted os started H enc)

/-- No parameter wants a stand-in; the program's own looks are off. -/
theorem plain (f : FuncId) (fn : Func) (hf : Tryd.pinned.checked.prog.funcNamed "loop.example/g00085/laws.FnRows" = some f) (hfn : Tryd.pinned.checked.prog.funcs[f]? = some fn) :
    false = Tryd.pinned.checked.prog.looks [] ∧ ∀ (j : Nat) t, fn.params[j]? = some t → Tryd.pinned.checked.prog.wantsStandIn t = false := by
  obtain rfl : f = 3 := Option.some.inj ((show Tryd.prog.funcNamed "loop.example/g00085/laws.FnRows" = some 3 by kernel_rfl).symm.trans hf) |>.symm
  obtain rfl : fn = Tryd.f3 := (Option.some.inj (Tryd.func3.symm.trans hfn)).symm
  refine ⟨by kernel_rfl, fun j t ht => ?_⟩
  rw [Tryd.params3] at ht
  have hm : t = 22 := by simpa using Array.mem_of_getElem? ht
  subst hm
  · exact (show Tryd.prog.wantsStandIn 22 = false by kernel_rfl)
end Go.Proofs.YtlbkhiphnllfpacDoor.fnRows
namespace Go.Proofs.YtlbkhiphnllfpacDoor
/-- The given statement: the card. -/
theorem fnRows_card : Rows.FnRowsCardSaid :=
  Claim7.holds_tied_plain_at .later [] _ _ _ _ fnRows.said (fun _ h => by cases h) (by kernel_rfl) (fun _ h => by cases h) fnRows_row_tie rfl ⟨rfl, rfl⟩ (by kernel_rfl) rfl fnRows.plain (by kernel_rfl)
#print axioms fnRows_card
end Go.Proofs.YtlbkhiphnllfpacDoor
