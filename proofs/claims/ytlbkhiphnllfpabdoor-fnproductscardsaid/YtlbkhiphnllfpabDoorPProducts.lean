/-
  A product of two drawn words goes both ways, is that of what they stand for, and its columns, each ten times the one behind, make it, whatever the code that they are drawn from.
  The card ties the listed package-level variables to the program's text, in the pruned copy that the seat holds; it says nothing of the project's other packages, commands or tests.
-/
import Derived.Test.YtlbkhiphnllfpabDoorCards
import Derived.Test.YtlbkhiphnllfpabDoorTie
import Derived.WalkKit
import Derived.ProofKit
import Derived.OpenShut
import Derived.ShutString
import Derived.ChangeOld
import Derived.Below
import Derived.OpenVars
import Derived.LaidMore
import Derived.Stop.Joined
import Derived.Test.YtlbkhiphnllfpabDoorPrdW
import Derived.Test.YtlbkhiphnllfpabDoorTxt8
import Derived.Test.YtlbkhiphnllfpabDoorRow
import Derived.Test.YtlbkhiphnllfpabDoorDoor
namespace Go.Proofs.YtlbkhiphnllfpabDoor.fnProducts
open Go.ChangeShapes Go.WideShapes Go.ChangeAt Go.RowKit
set_option linter.unusedVariables false

theorem walk (a0 : Option Addr) (len0 cap0 : Nat) (z0 : List Int) (w : World) (w0 : IsRow .u8 w a0 len0 cap0 z0) (ht : Tab w ∧ 0 < w.heap.size) :
    Calls Tryd.prog 6 #[.slice a0 len0 cap0] w fun e w' => e = .returned (.bool true) ∧ Below w.heap.size w w' := by
  have HT : Hid (Tab w ∧ 0 < w.heap.size) := ht
  clear ht
  by_cases hbig : 4096 < len0
  · clear w0
    go_enter Tryd.func6, Tryd.ntmps6
    go_wp2_with fail
    refine (big_yes _ _ _ _ hbig).mono ?_
    rintro e w' ⟨rfl, rfl⟩
    go_wp2
    go_ret
    exact ⟨rfl, Below.refl _ _⟩
  have hB : Hid (Bytes w.heap.size w a0 len0) := bytes_of_row w0
  clear w0
  go_enter Tryd.func6, Tryd.ntmps6
  go_wp2_with fail
  refine (big_no _ _ _ _ hbig).mono ?_
  rintro e w' ⟨rfl, hw⟩
  obtain rfl := hw.symm
  go_wp2_with fail
  refine (DrawProduct_any _ _ _ _ (by omega) hB.out).mono ?_
  rintro e w1 ⟨x, y, rfl, hx, hy, hb1⟩
  have hs1 := hb1.size
  have hz := HT.out.2
  by_cases hbad : Ln.okB 0 x = false ∨ Ln.okB 0 y = false
  · have Hbad : Hid (Ln.okB 0 x = false ∨ Ln.okB 0 y = false) := hbad
    clear hbad
    go_wp2_with fail
    refine (iprod_no x y _ (Tab.below HT.out.1 hb1 hz) hx.1 hx.2 hy.1 hy.2 Hbad.out).mono ?_
    rintro e w2 ⟨rfl, hw⟩
    obtain rfl := hw.symm
    go_wp2_with fail
    refine (iprod_no y x _ (Tab.below HT.out.1 hb1 hz) hy.1 hy.2 hx.1 hx.2 Hbad.out.symm).mono ?_
    rintro e w2 ⟨rfl, hw⟩
    obtain rfl := hw.symm
    go_wp2_with fail
    refine (sprod_no x y _ hx.1 hx.2 hy.1 hy.2 Hbad.out).mono ?_
    rintro e w3 ⟨rfl, hb3⟩
    have hb03 : Below w.heap.size w w3 := hb1.trans (hb3.mono hs1)
    go_wp2_with fail
    refine (icol_no x y 3 _ (Tab.below HT.out.1 hb03 hz) hx.1 hx.2 hy.1 hy.2 (by rcases Hbad.out with h | h; exact .inl h; exact .inr (.inl h))).mono ?_
    rintro e w4 ⟨rfl, hw⟩
    obtain rfl := hw.symm
    go_wp2
    go_ret
    exact ⟨rfl, hb03⟩
  have Kx : Hid (Ln.okB 0 x = true) := by
    cases h : Ln.okB 0 x with
    | true => rfl
    | false => exact absurd (.inl h) hbad
  have Ky : Hid (Ln.okB 0 y = true) := by
    cases h : Ln.okB 0 y with
    | true => rfl
    | false => exact absurd (.inr h) hbad
  clear hbad hB
  obtain ⟨kH, kL, bH, bL, hv⟩ := pr_facts x y Kx.out Ky.out
  have hcm := pr_comm x y Kx.out Ky.out
  have hPr : Hid (∀ W, Tab W → 0 < W.heap.size → Calls Tryd.prog 30 #[.int .u64 x, .int .u64 y] W fun e w' => e = .returned (.tuple #[.int .u64 (prH x y), .int .u64 (prL x y), .bool true]) ∧ Below W.heap.size W w') := fun W hT hz => iprod_yes x y W hT hz hx.1 hx.2 hy.1 hy.2 Kx.out Ky.out
  have hPb : Hid (∀ W, Tab W → 0 < W.heap.size → Calls Tryd.prog 30 #[.int .u64 y, .int .u64 x] W fun e w' => e = .returned (.tuple #[.int .u64 (prH x y), .int .u64 (prL x y), .bool true]) ∧ Below W.heap.size W w') := fun W hT hz => by
    have := iprod_yes y x W hT hz hy.1 hy.2 hx.1 hx.2 Ky.out Kx.out
    rw [hcm.1, hcm.2] at this
    exact this
  have hPs : Hid (∀ W, Calls Tryd.prog 31 #[.int .u64 x, .int .u64 y] W fun e w' => e = .returned (.tuple #[.int .u64 (prH x y), .int .u64 (prL x y), .bool true]) ∧ Below W.heap.size W w') := fun W => sprod_yes x y W hx.1 hx.2 hy.1 hy.2 Kx.out Ky.out
  have hPx : Hid (∀ W, Tab W → 0 < W.heap.size → Calls Tryd.prog 30 #[.int .u64 x, .int .u64 x] W fun e w' => e = .returned (.tuple #[.int .u64 (prH x x), .int .u64 (prL x x), .bool true]) ∧ Below W.heap.size W w') := fun W hT hz => iprod_yes x x W hT hz hx.1 hx.2 hx.1 hx.2 Kx.out Kx.out
  have hSq : Hid (∀ W, Tab W → 0 < W.heap.size → Calls Tryd.prog 34 #[.int .u64 x] W fun e w' => e = .returned (.tuple #[.int .u64 (prH x x), .int .u64 (prL x x), .bool true]) ∧ Below W.heap.size W w') := fun W hT hz => by
    have := isq_any x W hT hz hx.1 hx.2
    rw [Kx.out, if_pos rfl, if_pos rfl] at this
    exact this
  have KH : Hid (Ln.okB 0 (prH x y) = true) := kH
  have KL : Hid (Ln.okB 0 (prL x y) = true) := kL
  have Hv : Hid (vl (digits 0 (prL x y)) + 10 ^ 16 * vl (digits 0 (prH x y)) = vl (digits 0 x) * vl (digits 0 y)) := hv
  clear kH kL hv hcm
  generalize prH x y = H at *
  generalize prL x y = L at *
  generalize prH x x = H' at *
  generalize prL x x = L' at *
  go_wp2_with fail
  refine (hPr.out _ (Tab.below HT.out.1 hb1 hz) (by omega)).mono ?_
  rintro e w2 ⟨rfl, hb2⟩
  have hb02 : Below w.heap.size w w2 := hb1.trans (hb2.mono hs1)
  have hs2 := hb02.size
  clear hPr hb1 hb2 hs1
  go_wp2_with fail
  refine (hPb.out _ (Tab.below HT.out.1 hb02 hz) (by omega)).mono ?_
  rintro e w3 ⟨rfl, hb3⟩
  have hb03 : Below w.heap.size w w3 := hb02.trans (hb3.mono hs2)
  have hs3 := hb03.size
  clear hPb hb02 hb3 hs2
  go_wp2_with fail
  refine (hPs.out _).mono ?_
  rintro e w4 ⟨rfl, hb4⟩
  have hb04 : Below w.heap.size w w4 := hb03.trans (hb4.mono hs3)
  have hs4 := hb04.size
  clear hPs hb03 hb4 hs3
  go_wp2_with fail
  refine (value_plain x _ hx.1 hx.2 Kx.out).mono ?_
  rintro e w5 ⟨Rx, rfl, cx, vx, lx, hb5⟩
  have HX : Hid (Canon Rx ∧ vl Rx = vl (digits 0 x)) := ⟨cx, vx⟩
  have hb05 : Below w.heap.size w w5 := hb04.trans (hb5.mono hs4)
  have hs5 := hb05.size
  clear cx vx hb5 hb04 hs4
  go_wp2_with fail
  refine (value_plain y _ hy.1 hy.2 Ky.out).mono ?_
  rintro e w6 ⟨Ry, rfl, cy, vy, ly, hb6⟩
  have HY : Hid (Canon Ry ∧ vl Ry = vl (digits 0 y)) := ⟨cy, vy⟩
  have hb06 : Below w.heap.size w w6 := hb05.trans (hb6.mono hs5)
  have hs6 := hb06.size
  clear cy vy hb6 hb05 hs5
  go_wp2_with fail
  refine (NatMul_any Rx Ry _ HX.out.1 HY.out.1 (by omega)).mono ?_
  rintro e w7 ⟨R1, rfl, c1, v1, l1, hb7⟩
  have H1 : Hid (Canon R1 ∧ vl R1 = vl (digits 0 x) * vl (digits 0 y)) := ⟨c1, by rw [v1, HX.out.2, HY.out.2]⟩
  have hb07 : Below w.heap.size w w7 := hb06.trans (hb7.mono hs6)
  have hs7 := hb07.size
  clear c1 v1 hb7 hb06 hs6 HX HY lx ly l1
  go_wp2_with fail
  refine (value_plain H _ bH.1 bH.2 KH.out).mono ?_
  rintro e w8 ⟨R2, rfl, c2, v2, l2, hb8⟩
  have H2 : Hid (Canon R2 ∧ vl R2 = vl (digits 0 H)) := ⟨c2, v2⟩
  have hb08 : Below w.heap.size w w8 := hb07.trans (hb8.mono hs7)
  have hs8 := hb08.size
  clear c2 v2 hb8 hb07 hs7
  go_wp2_with fail
  refine (NatShift_all R2 16 _ H2.out.1 (by omega)).mono ?_
  rintro e w9 ⟨R3, rfl, c3, v3, l3, hb9⟩
  have H3 : Hid (Canon R3 ∧ vl R3 = vl (digits 0 H) * 10 ^ 16) := ⟨c3, by rw [v3, H2.out.2]⟩
  have hb09 : Below w.heap.size w w9 := hb08.trans (hb9.mono hs8)
  have hs9 := hb09.size
  clear c3 v3 hb9 hb08 hs8 H2
  go_wp2_with fail
  refine (value_plain L _ bL.1 bL.2 KL.out).mono ?_
  rintro e w10 ⟨R4, rfl, c4, v4, l4, hb10⟩
  have H4 : Hid (Canon R4 ∧ vl R4 = vl (digits 0 L)) := ⟨c4, v4⟩
  have hb010 : Below w.heap.size w w10 := hb09.trans (hb10.mono hs9)
  have hs10 := hb010.size
  clear c4 v4 hb10 hb09 hs9
  go_wp2_with fail
  refine (NatAdd_any R3 R4 _ H3.out.1 H4.out.1 (by omega) (by omega)).mono ?_
  rintro e w11 ⟨R5, rfl, c5, v5, l5, hb11⟩
  have hb011 : Below w.heap.size w w11 := hb010.trans (hb11.mono hs10)
  have hs11 := hb011.size
  have heq : R1 = R5 := canon_unique R1 R5 H1.out.1 c5 (by rw [H1.out.2, v5, H3.out.2, H4.out.2, ← Hv.out]; omega)
  clear c5 v5 hb11 hb010 hs10 H3 H4 Hv KH KL l2 l3 l4 l5
  subst heq
  have tz : Hid (({ data := #[48] } : ByteArray) = tx [0]) := by rw [Hid]; decide +kernel
  have te : Hid (({ data := #[49, 48] } : ByteArray) = tx [1, 0]) := by rw [Hid]; decide +kernel
  have cten : Hid (Canon [1, 0]) := canon_cons 1 [0] (by decide) (by decide) canon_zero.1
  go_wp2
  go_loopw [16, 17] (fun s i wr => ∃ (j : Nat) (R : List Int), j ≤ 31 ∧ i = .int .i64 (30 - (j : Int)) ∧ s = .string (tx R) ∧ Hid (Canon R ∧ vl R = hs (fun n => colS (Ln.ln x) (Ln.ln y) n 16) j) ∧ Below w11.heap.size w11 wr) (fun _ i _ => (intOf i + 1).toNat)
  case atStart => exact ⟨0, [0], Nat.zero_le _, rfl, by rw [tz.out], ⟨canon_zero, rfl⟩, Below.refl _ _⟩
  case round =>
    obtain ⟨j, R, hj, rfl, rfl, HR, hbel⟩ := hrel
    have hsz := hbel.size
    have hb0r : Below w.heap.size w wr := hb011.trans (hbel.mono hs11)
    by_cases hlt : j < 31
    · have hrm := hs_room x y Kx.out Ky.out j (by omega)
      have hRl := canon_33 R HR.out.1 (by rw [HR.out.2]; exact hrm.2)
      have hcb := colS_bd (Ln.ln x) (Ln.ln y) (ok_nine x Kx.out) (ok_nine y Ky.out) (30 - j) 16 (Nat.le_refl _)
      have Hst : Hid (hs (fun n => colS (Ln.ln x) (Ln.ln y) n 16) (j + 1) = hs (fun n => colS (Ln.ln x) (Ln.ln y) n 16) j * 10 + colS (Ln.ln x) (Ln.ln y) (30 - j) 16) := rfl
      have hCo : Hid (∀ W, Tab W → Calls Tryd.prog 32 #[.int .u64 x, .int .u64 y, .int .i64 (30 - (j : Int))] W fun e w' => e = .returned (.int .i64 (colS (Ln.ln x) (Ln.ln y) (30 - j) 16)) ∧ w' = W) := fun W hT => by
        have := icol_yes x y (30 - j) W hT hx.1 hx.2 hy.1 hy.2 Kx.out Ky.out (by omega)
        rw [show ((30 - j : Nat) : Int) = 30 - (j : Int) by omega] at this
        exact this
      have hge : (0 : Int) ≤ 30 - (j : Int) := by omega
      clear hrm
      generalize hs (fun n => colS (Ln.ln x) (Ln.ln y) n 16) j = S at *
      generalize colS (Ln.ln x) (Ln.ln y) (30 - j) 16 = c at *
      go_wp2_with fail
      rw [te.out]
      refine (NatMul_any R [1, 0] _ HR.out.1 cten.out (by simp; omega)).mono ?_
      rintro e w12 ⟨R2, rfl, c2, v2, l2, hb12⟩
      have H2 : Hid (Canon R2 ∧ vl R2 = S * 10) := ⟨c2, by rw [v2, HR.out.2]; rfl⟩
      have hl2 : R2.length ≤ 60 := by simp at l2; omega
      have hb112 : Below w11.heap.size w11 w12 := hbel.trans (hb12.mono hsz)
      have hb012 : Below w.heap.size w w12 := hb011.trans (hb112.mono hs11)
      have hs12 := hb112.size
      clear c2 v2 l2 hb12 hbel hsz hb0r HR
      go_wp2_with fail
      refine (hCo.out _ (Tab.below HT.out.1 hb012 hz)).mono ?_
      rintro e w13 ⟨rfl, hw⟩
      obtain rfl := hw.symm
      go_wp2_with fail
      refine (digits_any c _ hcb.1 (by omega)).mono ?_
      rintro e w14 ⟨R3, rfl, c3, v3, l3, hb14⟩
      have H3 : Hid (Canon R3 ∧ vl R3 = c) := ⟨c3, v3⟩
      have hb114 : Below w11.heap.size w11 w14 := hb112.trans (hb14.mono hs12)
      have hs14 := hb114.size
      clear c3 v3 hb14 hb112 hs12 hCo hb012
      go_wp2_with fail
      refine (NatAdd_any R2 R3 _ H2.out.1 H3.out.1 (by omega) (by omega)).mono ?_
      rintro e w15 ⟨R4, rfl, c4, v4, l4, hb15⟩
      have H4 : Hid (Canon R4 ∧ vl R4 = hs (fun n => colS (Ln.ln x) (Ln.ln y) n 16) (j + 1)) := ⟨c4, by rw [v4, H2.out.2, H3.out.2, Hst.out]⟩
      have hb115 : Below w11.heap.size w11 w15 := hb114.trans (hb15.mono hs14)
      clear c4 v4 hb15 hb114 hs14 H2 H3 Hst
      go_wp2
      go_roundw
      case rel => exact ⟨j + 1, R4, by omega, Ln.val_int (by omega), rfl, H4, hb115⟩
      case measure => simp [intOf]; omega
    · have ej : j = 31 := by omega
      subst ej
      have heq : R = R1 := canon_unique R R1 HR.out.1 H1.out.1 (by rw [HR.out.2, H1.out.2, hs_all x y Kx.out Ky.out])
      clear HR
      subst heq
      go_wp2_with fail
      refine (hSq.out _ (Tab.below HT.out.1 hb0r hz) (by omega)).mono ?_
      rintro e w12 ⟨rfl, hb12⟩
      have hb012 : Below w.heap.size w w12 := hb0r.trans (hb12.mono (by omega))
      have hs12 := hb012.size
      clear hSq hb12 hbel hsz hb0r
      go_wp2_with fail
      refine (hPx.out _ (Tab.below HT.out.1 hb012 hz) (by omega)).mono ?_
      rintro e w13 ⟨rfl, hb13⟩
      go_wp2
      go_ret
      exact ⟨Ln.ret_bool (by simp), hb012.trans (hb13.mono (by omega))⟩

/-- The door's own heap meets the condition. -/
theorem door_met (os : Os) (args : Array Value) : laidMetH Tryd.prog Rows.fnProductsRow.laid ((World.doorLaid Tryd.prog 400 os).forCall (fun _ _ => 0) ⟨#[], args, []⟩).memory :=
  laidMetH_of_parts3 (fuel := 8) (laidMet_of_run' 8 (by kernel_rfl) (by kernel_rfl)) (by kernel_rfl) (by kernel_rfl)

set_option maxRecDepth 100000 in
theorem lifted (os : Os) (started : os.Started) (H : Type) (enc : TypeId × Value → H) :
    ReturnsInHanded {} Tryd.checked os 6 .any (fun w args => (Rows.fnProductsSpec.pre enc Tryd.prog Tryd.f6 [] false w args ∧ laidMetH Tryd.prog Rows.fnProductsRow.laid w) ∧ sizedMet enc Tryd.prog Tryd.f6 (OpenSpec.ofChange Rows.fnProductsSpec) false w args)
      (Rows.fnProductsSpec.post enc Tryd.prog Tryd.f6 false true false false) := by
  refine returnsInHanded_of_change_and (C := Tryd.checked) (X := fun w _ => laidMetH Tryd.prog Rows.fnProductsRow.laid w) (fun _ _ _ hh h => h.of_heap hh) own started (by kernel_rfl) Tryd.func6
    (ChangeSpec.witness_shaped (enc := enc) (C := Tryd.checked) (os := os) (X := fun w _ => laidMetH Tryd.prog Rows.fnProductsRow.laid w) false (World.doorLaid Tryd.prog 400 os) #[.slice none 0 0] 8 rfl (World.shaped_of_RefB (by kernel_rfl) (by kernel_rfl)) (by kernel_rfl) (by kernel_rfl) (by kernel_rfl) (door_met os _)) ?_
  intro W base args ds gs before hval0 hW _ _ hL _
  have hval : ∀ (j : Nat) t v, Tryd.f6.params[j]? = some t → args[j]? = some v → Value.okWide Tryd.prog W .any base t v := hval0
  have hW' := hW
  obtain ⟨p, q, hA0, hV, rfl, hfz, hnd⟩ := hW
  have hA : DataW.TrodAll enc Tryd.prog W 0 (fun _ => true) true Tryd.f6.params.toList args.toList ds p := hA0
  rw [Tryd.params6] at hA hval
  obtain ⟨v0, vs0, d0, ds0, p0, q0, hargs, rfl, rfl, h0, r0⟩ := trodAll_cons hA
  obtain ⟨rfl, rfl, rfl⟩ := trodAll_nil r0
  obtain rfl : args = #[v0] := by cases args; simp_all
  obtain ⟨a0, len0, cap0, rfl⟩ := okWide_slice Tryd.underlying22 (hval 0 22 v0 rfl rfl)
  have k0 := h0
  have lt0 : ∀ x ∈ p0, x.block < W.heap.size := by obtain ⟨m, hm⟩ := k0; exact DataW.trod_lt m _ _ _ hm
  obtain ⟨z0, w0⟩ : ∃ zs, IsRow .u8 W a0 len0 cap0 zs := by
    obtain ⟨fuel, hf⟩ := h0
    rcases open_ints Tryd.underlying22 Tryd.underlying5 (by kernel_rfl) hf with ⟨hcs, _⟩ | ⟨x, l, c, zs, hcs, _, hl, hm, hz, _, hcell, hwz⟩
    · simp [Value.cells] at hcs
      obtain ⟨rfl, rfl, rfl⟩ := hcs
      exact ⟨[], .inl ⟨rfl, rfl, rfl, rfl⟩⟩
    · simp [Value.cells] at hcs
      obtain ⟨rfl, rfl, rfl⟩ := hcs
      exact ⟨zs, .inr ⟨_, rfl, hl, hm, by simpa using hz, hcell, hwz⟩⟩
  rw [MakeChecks.laidMetH_plain _ _ _ (by kernel_rfl)] at hL
  have ht := tab_of_laid hL
  obtain ⟨g0, rfl⟩ : ∃ g0, gs = [g0] := vars1 hV
  clear hA0 hval0
  refine (walk a0 len0 cap0 z0 W w0 ht).mono fun e W' ⟨he, bel⟩ => ?_
  subst he
  exact ⟨_, rfl, _, _, _, [], _, _, hW', trodAll_mk1 (shut_bool Tryd.underlying4 _), (trodAll_cons_mk (Below.trod laidOut (by kernel_rfl) (of_decide_eq_true (by kernel_rfl)) k0 bel lt0) trodAll_mk0), Below.trodVars laidOut bel (by kernel_rfl) hV, bel.frame _, fun h => by cases h⟩

theorem said : Rows.FnProductsSaid :=
  OpenClaim.holds_of_wide 6 Tryd.f6 rfl rfl rfl rfl rfl rfl rfl ⟨rfl, rfl, rfl, rfl, rfl⟩ rfl rfl rfl rfl rfl (by kernel_rfl) Tryd.func6 (by kernel_rfl)
    (of_decide_eq_true (by kernel_rfl)) (by unfold Func.isWrapper; first | (rw [if_pos (by decide +kernel)]; kernel_rfl) | (rw [if_neg (by decide +kernel)]; exact ⟨rfl, rfl⟩))
    (fun os started H enc _ => lifted os started H enc)

/-- No parameter wants a stand-in; the program's own looks are off. -/
theorem plain (f : FuncId) (fn : Func) (hf : Tryd.pinned.checked.prog.funcNamed "loop.example/g00085/laws.FnProducts" = some f) (hfn : Tryd.pinned.checked.prog.funcs[f]? = some fn) :
    false = Tryd.pinned.checked.prog.looks [] ∧ ∀ (j : Nat) t, fn.params[j]? = some t → Tryd.pinned.checked.prog.wantsStandIn t = false := by
  obtain rfl : f = 6 := Option.some.inj ((show Tryd.prog.funcNamed "loop.example/g00085/laws.FnProducts" = some 6 by kernel_rfl).symm.trans hf) |>.symm
  obtain rfl : fn = Tryd.f6 := (Option.some.inj (Tryd.func6.symm.trans hfn)).symm
  refine ⟨by kernel_rfl, fun j t ht => ?_⟩
  rw [Tryd.params6] at ht
  have hm : t = 22 := by simpa using Array.mem_of_getElem? ht
  subst hm
  · exact (show Tryd.prog.wantsStandIn 22 = false by kernel_rfl)
end Go.Proofs.YtlbkhiphnllfpabDoor.fnProducts
namespace Go.Proofs.YtlbkhiphnllfpabDoor
/-- The given statement: the card. -/
theorem fnProducts_card : Rows.FnProductsCardSaid :=
  Claim7.holds_tied_plain_at .later [] _ _ _ _ fnProducts.said (fun _ h => by cases h) (by kernel_rfl) (fun _ h => by cases h) fnProducts_row_tie rfl ⟨rfl, rfl⟩ (by kernel_rfl) rfl fnProducts.plain (by kernel_rfl)
#print axioms fnProducts_card
end Go.Proofs.YtlbkhiphnllfpabDoor
