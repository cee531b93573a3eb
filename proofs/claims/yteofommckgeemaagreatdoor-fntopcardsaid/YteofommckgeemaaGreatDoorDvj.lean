/-
  Div of the program, walked.
-/
import Derived.Test.YteofommckgeemaaGreatDoorDvp
import Derived.Test.YteofommckgeemaaGreatDoorFnr
import Derived.Deep.RegionWith
import Derived.Deep.DeepCutAuto

namespace Go.Proofs.YteofommckgeemaaGreatDoor
open Go.RowKit
set_option linter.unusedVariables false
set_option maxRecDepth 100000
/-- Two numbers' boxes and an infinity's. -/
def TQ (w : World) (i : Nat) (ka : Int) (na : Bool) (ea : Int) (sa : ByteArray) (kb : Int) (nb : Bool) (eb : Int) (sb : ByteArray) (ng : Bool) (W : World) : Prop :=
  At4r W w.heap.size (.int .i64 ka) (.bool na) (.int .i64 ea) (.string sa) ∧ At4r W (w.heap.size + 1) (.int .i64 kb) (.bool nb) (.int .i64 eb) (.string sb) ∧ At4r W i (.int .i64 2) (.bool ng) (.int .i64 0) (.string { data := #[] }) ∧ Below w.heap.size w W
theorem TQ.next {w W W' : World} {i : Nat} {ka : Int} {na : Bool} {ea : Int} {sa : ByteArray} {kb : Int} {nb : Bool} {eb : Int} {sb : ByteArray} {ng : Bool} (h : TQ w i ka na ea sa kb nb eb sb ng W) (hb : Below W.heap.size W W') : TQ w i ka na ea sa kb nb eb sb ng W' :=
  ⟨h.1.next hb, h.2.1.next hb, h.2.2.1.next hb, h.2.2.2.trans (hb.mono h.2.2.2.size)⟩
/-- How throwQuotient ends. -/
def tqE (f : Int) (ng : Bool) (ka kb : Int) (za zb : Bool) : Ending :=
  if (ka = 2 ∧ kb = 2) ∨ (za = true ∧ zb = true) then thrown (rsV 3 false 0 { data := #[] } 1)
  else if ka = 2 then thrown (rsV 2 ng 0 { data := #[] } 0)
  else if kb = 2 then thrown (rsV 1 ng (limL f) { data := #[48] } 0)
  else if zb = true then thrown (rsV 2 ng 0 { data := #[] } 2)
  else .returned (.tuple #[])
set_option maxRecDepth 100000 in
set_option maxHeartbeats 2000000 in
theorem throwQuotient_any (f : Int) (ka : Int) (na : Bool) (ea : Int) (sa : ByteArray) (kb : Int) (nb : Bool) (eb : Int) (sb : ByteArray) (w : World) (hr : Rgn f ka ea sa) (hrb : Rgn f kb eb sb) :
    Calls Tryz.prog 84 #[.int .i64 f, numV ka na ea sa, numV kb nb eb sb] w fun x w' => x = tqE f (!(na == nb)) ka kb (zB ka sa) (zB kb sb) ∧ Below w.heap.size w w' := by
  have HLm : Hid (∀ X, Calls Tryz.prog 157 #[.int .i64 f] X fun e w' => e = .returned (.tuple #[.int .i64 (limP f), .int .i64 (limL f), .int .i64 (limH f)]) ∧ Below X.heap.size X w') := fun X => iLimits_any f X
  have HNa : Hid (∀ X, Calls Tryz.prog 93 #[numV ka na ea sa] X fun x w' => x = .returned (.bool (zB ka sa)) ∧ Below X.heap.size X w') := fun X => isNought_rgn hr na X
  have HNb : Hid (∀ X, Calls Tryz.prog 93 #[numV kb nb eb sb] X fun x w' => x = .returned (.bool (zB kb sb)) ∧ Below X.heap.size X w') := fun X => isNought_rgn hrb nb X
  obtain ⟨ng, hng⟩ : ∃ ng, (!(na == nb)) = ng := ⟨_, rfl⟩
  rw [hng]
  have hza : ka = 2 → zB ka sa = false := fun h => by rw [h]; rfl
  have hzb : kb = 2 → zB kb sb = false := fun h => by rw [h]; rfl
  obtain ⟨RE, hRE⟩ : ∃ r, tqE f ng ka kb (zB ka sa) (zB kb sb) = r := ⟨_, rfl⟩
  rw [hRE]
  unfold tqE at hRE
  generalize zB ka sa = za at *
  generalize zB kb sb = zb at *
  generalize limL f = L0 at *
  generalize limH f = H0 at *
  generalize limP f = P0 at *
  have hbi := build_inf ng
  have HT : Hid (∀ W, Below (((w.alloc (.cells #[.int .i64 ka, .bool na, .int .i64 ea, .string sa] 78)).alloc (.cells #[.int .i64 kb, .bool nb, .int .i64 eb, .string sb] 78))).heap.size ((w.alloc (.cells #[.int .i64 ka, .bool na, .int .i64 ea, .string sa] 78)).alloc (.cells #[.int .i64 kb, .bool nb, .int .i64 eb, .string sb] 78)) W → TQ w W.heap.size ka na ea sa kb nb eb sb ng (W.alloc (.cells #[.int .i64 2, .bool ng, .int .i64 0, .string { data := #[] }] 78)) ∧ At4r W w.heap.size (.int .i64 ka) (.bool na) (.int .i64 ea) (.string sa) ∧ At4r W (w.heap.size + 1) (.int .i64 kb) (.bool nb) (.int .i64 eb) (.string sb)) := fun W hW => by
    have h1 := at4r_new w (.int .i64 ka) (.bool na) (.int .i64 ea) (.string sa)
    have z1 := new_size w (.cells #[.int .i64 ka, .bool na, .int .i64 ea, .string sa] 78)
    have b1 : Below w.heap.size w (w.alloc (.cells #[.int .i64 ka, .bool na, .int .i64 ea, .string sa] 78)) := (Below.refl _ _).alloc (Nat.le_refl _) _
    generalize w.alloc (.cells #[.int .i64 ka, .bool na, .int .i64 ea, .string sa] 78) = w1 at *
    have h2 := at4r_new w1 (.int .i64 kb) (.bool nb) (.int .i64 eb) (.string sb)
    have b2 : Below w1.heap.size w1 (w1.alloc (.cells #[.int .i64 kb, .bool nb, .int .i64 eb, .string sb] 78)) := (Below.refl _ _).alloc (Nat.le_refl _) _
    rw [z1] at h2
    have h1' := (h1.next b2).next hW
    have h2' := h2.next hW
    have b12 := b1.trans (b2.mono b1.size)
    have b1W := b12.trans (hW.mono b12.size)
    have bn : Below W.heap.size W (W.alloc (.cells #[.int .i64 2, .bool ng, .int .i64 0, .string { data := #[] }] 78)) := (Below.refl _ _).alloc (Nat.le_refl _) _
    exact ⟨⟨h1'.next bn, h2'.next bn, at4r_new W _ _ _ _, b1W.trans (bn.mono b1W.size)⟩, h1', h2'⟩
  by_cases hA : ka = 2
  · have hza' := hza hA
    subst hza' hA
    by_cases hB : kb = 2
    · have hzb' := hzb hB
      subst hzb' hB
      rw [if_pos (.inl ⟨rfl, rfl⟩)] at hRE
      have ERE : Hid (thrown (rsV 3 false 0 { data := #[] } 1) = RE) := hRE
      clear hRE hza hzb hr hrb HNa HNb
      go_enter Tryz.func84, Tryz.ntmps84
      go_wp2_with fail
      refine (HLm.out _).mono ?_
      rintro x w1 ⟨rfl, hb1⟩
      obtain ⟨hT1, hA1, hB1⟩ := HT.out _ hb1
      obtain ⟨a0, a1, a2, a3, a4⟩ := hA1.cells
      obtain ⟨c0, c1, c2, c3, c4⟩ := hB1.cells
      obtain ⟨a0', a1', a2', a3', a4'⟩ := hT1.1.cells
      obtain ⟨c0', c1', c2', c3', c4'⟩ := hT1.2.1.cells
      have HT1 : Hid (TQ w w1.heap.size 2 na ea sa 2 nb eb sb ng (w1.alloc (.cells #[.int .i64 2, .bool ng, .int .i64 0, .string { data := #[] }] 78))) := hT1
      clear hb1 hT1 hA1 hB1 HT HLm
      go_wp2_with fail
      refine (iInvalid_any _).mono ?_
      rintro x wz ⟨rfl, hbz⟩
      go_wp2
      exact ⟨rfl, by rw [← ERE.out], (HT1.out.next hbz).2.2.2⟩
    · rw [if_neg (by rintro (c | c); exact hB c.2; cases c.1), if_pos rfl] at hRE
      have ERE : Hid (thrown (rsV 2 ng 0 { data := #[] } 0) = RE) := hRE
      have hkb : (kb == 2) = false := beq_eq_false_iff_ne.2 hB
      clear hRE hza hzb hr hrb hB HNb
      go_enter Tryz.func84, Tryz.ntmps84
      go_wp2_with fail
      refine (HLm.out _).mono ?_
      rintro x w1 ⟨rfl, hb1⟩
      obtain ⟨hT1, hA1, hB1⟩ := HT.out _ hb1
      obtain ⟨a0, a1, a2, a3, a4⟩ := hA1.cells
      obtain ⟨c0, c1, c2, c3, c4⟩ := hB1.cells
      obtain ⟨a0', a1', a2', a3', a4'⟩ := hT1.1.cells
      obtain ⟨c0', c1', c2', c3', c4'⟩ := hT1.2.1.cells
      have HT1 : Hid (TQ w w1.heap.size 2 na ea sa kb nb eb sb ng (w1.alloc (.cells #[.int .i64 2, .bool ng, .int .i64 0, .string { data := #[] }] 78))) := hT1
      clear hb1 hT1 hA1 hB1 HT HLm
      go_wp2_with fail
      generalize w1.heap.size = b1 at *
      refine (HNa.out _).mono ?_
      rintro x w2 ⟨rfl, hb2⟩
      have HT2 : Hid (TQ w b1 2 na ea sa kb nb eb sb ng w2) := HT1.out.next hb2
      clear a0 a1 a2 a3 a4 c0 c1 c2 c3 c4 a0' a1' a2' a3' a4' c0' c1' c2' c3' c4' hng
      obtain ⟨a0, a1, a2, a3, a4⟩ := HT2.out.1.cells
      obtain ⟨c0, c1, c2, c3, c4⟩ := HT2.out.2.1.cells
      obtain ⟨g0, g1, g2, g3, g4⟩ := HT2.out.2.2.1.cells
      clear hb2 HT1
      have hbl0 := build_res0 2 ng 0 { data := #[] }
      have hbl1 := build_sp 2 ng 0 { data := #[] } 0
      go_wp2
      exact ⟨rfl, by rw [← ERE.out], HT2.out.2.2.2⟩
  · have hk1 : ka = 1 := hr.2.2.1.resolve_right hA
    subst hk1
    by_cases hB : kb = 2
    · have hzb' := hzb hB
      subst hzb' hB
      rw [if_neg (by rintro (c | c); exact hA c.1; cases c.2), if_neg hA, if_pos rfl] at hRE
      have ERE : Hid (thrown (rsV 1 ng L0 { data := #[48] } 0) = RE) := hRE
      clear hRE hza hzb hr hrb hA
      cases za with
      | true =>
        go_enter Tryz.func84, Tryz.ntmps84
        go_wp2_with fail
        refine (HLm.out _).mono ?_
        rintro x w1 ⟨rfl, hb1⟩
        obtain ⟨hT1, hA1, hB1⟩ := HT.out _ hb1
        obtain ⟨a0, a1, a2, a3, a4⟩ := hA1.cells
        obtain ⟨c0, c1, c2, c3, c4⟩ := hB1.cells
        obtain ⟨a0', a1', a2', a3', a4'⟩ := hT1.1.cells
        obtain ⟨c0', c1', c2', c3', c4'⟩ := hT1.2.1.cells
        have HT1 : Hid (TQ w w1.heap.size 1 na ea sa 2 nb eb sb ng (w1.alloc (.cells #[.int .i64 2, .bool ng, .int .i64 0, .string { data := #[] }] 78))) := hT1
        clear hb1 hT1 hA1 hB1 HT HLm
        go_wp2_with fail
        generalize w1.heap.size = b1 at *
        refine (HNa.out _).mono ?_
        rintro x w2 ⟨rfl, hb2⟩
        have HT2 : Hid (TQ w b1 1 na ea sa 2 nb eb sb ng w2) := HT1.out.next hb2
        clear a0 a1 a2 a3 a4 c0 c1 c2 c3 c4 a0' a1' a2' a3' a4' c0' c1' c2' c3' c4' hng
        obtain ⟨a0, a1, a2, a3, a4⟩ := HT2.out.1.cells
        obtain ⟨c0, c1, c2, c3, c4⟩ := HT2.out.2.1.cells
        obtain ⟨g0, g1, g2, g3, g4⟩ := HT2.out.2.2.1.cells
        clear hb2 HT1
        go_wp2_with fail
        refine (HNb.out _).mono ?_
        rintro x w3 ⟨rfl, hb3⟩
        have HT3 : Hid (TQ w b1 1 na ea sa 2 nb eb sb ng w3) := HT2.out.next hb3
        clear a0 a1 a2 a3 a4 c0 c1 c2 c3 c4 g0 g1 g2 g3 g4
        obtain ⟨a0, a1, a2, a3, a4⟩ := HT3.out.1.cells
        obtain ⟨c0, c1, c2, c3, c4⟩ := HT3.out.2.1.cells
        obtain ⟨g0, g1, g2, g3, g4⟩ := HT3.out.2.2.1.cells
        clear hb3 HT2
        have hbl0 := build_num 1 ng L0 { data := #[48] }
        have hbl1 := build_res0 1 ng L0 { data := #[48] }
        have hbl2 := build_sp 1 ng L0 { data := #[48] } 0
        go_wp2
        exact ⟨rfl, by rw [← ERE.out], HT3.out.2.2.2⟩
      | false =>
        clear HNb
        go_enter Tryz.func84, Tryz.ntmps84
        go_wp2_with fail
        refine (HLm.out _).mono ?_
        rintro x w1 ⟨rfl, hb1⟩
        obtain ⟨hT1, hA1, hB1⟩ := HT.out _ hb1
        obtain ⟨a0, a1, a2, a3, a4⟩ := hA1.cells
        obtain ⟨c0, c1, c2, c3, c4⟩ := hB1.cells
        obtain ⟨a0', a1', a2', a3', a4'⟩ := hT1.1.cells
        obtain ⟨c0', c1', c2', c3', c4'⟩ := hT1.2.1.cells
        have HT1 : Hid (TQ w w1.heap.size 1 na ea sa 2 nb eb sb ng (w1.alloc (.cells #[.int .i64 2, .bool ng, .int .i64 0, .string { data := #[] }] 78))) := hT1
        clear hb1 hT1 hA1 hB1 HT HLm
        go_wp2_with fail
        generalize w1.heap.size = b1 at *
        refine (HNa.out _).mono ?_
        rintro x w2 ⟨rfl, hb2⟩
        have HT2 : Hid (TQ w b1 1 na ea sa 2 nb eb sb ng w2) := HT1.out.next hb2
        clear a0 a1 a2 a3 a4 c0 c1 c2 c3 c4 a0' a1' a2' a3' a4' c0' c1' c2' c3' c4' hng
        obtain ⟨a0, a1, a2, a3, a4⟩ := HT2.out.1.cells
        obtain ⟨c0, c1, c2, c3, c4⟩ := HT2.out.2.1.cells
        obtain ⟨g0, g1, g2, g3, g4⟩ := HT2.out.2.2.1.cells
        clear hb2 HT1
        have hbl0 := build_num 1 ng L0 { data := #[48] }
        have hbl1 := build_res0 1 ng L0 { data := #[48] }
        have hbl2 := build_sp 1 ng L0 { data := #[48] } 0
        go_wp2
        exact ⟨rfl, by rw [← ERE.out], HT2.out.2.2.2⟩
    · have hkb1 : kb = 1 := hrb.2.2.1.resolve_right hB
      subst hkb1
      cases zb with
      | true =>
        cases za with
        | true =>
          rw [if_pos (.inr ⟨rfl, rfl⟩)] at hRE
          have ERE : Hid (thrown (rsV 3 false 0 { data := #[] } 1) = RE) := hRE
          clear hRE hza hzb hr hrb hA hB
          go_enter Tryz.func84, Tryz.ntmps84
          go_wp2_with fail
          refine (HLm.out _).mono ?_
          rintro x w1 ⟨rfl, hb1⟩
          obtain ⟨hT1, hA1, hB1⟩ := HT.out _ hb1
          obtain ⟨a0, a1, a2, a3, a4⟩ := hA1.cells
          obtain ⟨c0, c1, c2, c3, c4⟩ := hB1.cells
          obtain ⟨a0', a1', a2', a3', a4'⟩ := hT1.1.cells
          obtain ⟨c0', c1', c2', c3', c4'⟩ := hT1.2.1.cells
          have HT1 : Hid (TQ w w1.heap.size 1 na ea sa 1 nb eb sb ng (w1.alloc (.cells #[.int .i64 2, .bool ng, .int .i64 0, .string { data := #[] }] 78))) := hT1
          clear hb1 hT1 hA1 hB1 HT HLm
          go_wp2_with fail
          generalize w1.heap.size = b1 at *
          refine (HNa.out _).mono ?_
          rintro x w2 ⟨rfl, hb2⟩
          have HT2 : Hid (TQ w b1 1 na ea sa 1 nb eb sb ng w2) := HT1.out.next hb2
          clear a0 a1 a2 a3 a4 c0 c1 c2 c3 c4 a0' a1' a2' a3' a4' c0' c1' c2' c3' c4' hng
          obtain ⟨a0, a1, a2, a3, a4⟩ := HT2.out.1.cells
          obtain ⟨c0, c1, c2, c3, c4⟩ := HT2.out.2.1.cells
          obtain ⟨g0, g1, g2, g3, g4⟩ := HT2.out.2.2.1.cells
          clear hb2 HT1
          go_wp2_with fail
          refine (HNb.out _).mono ?_
          rintro x w3 ⟨rfl, hb3⟩
          have HT3 : Hid (TQ w b1 1 na ea sa 1 nb eb sb ng w3) := HT2.out.next hb3
          clear a0 a1 a2 a3 a4 c0 c1 c2 c3 c4 g0 g1 g2 g3 g4
          obtain ⟨a0, a1, a2, a3, a4⟩ := HT3.out.1.cells
          obtain ⟨c0, c1, c2, c3, c4⟩ := HT3.out.2.1.cells
          obtain ⟨g0, g1, g2, g3, g4⟩ := HT3.out.2.2.1.cells
          clear hb3 HT2
          go_wp2_with fail
          refine (iInvalid_any _).mono ?_
          rintro x wz ⟨rfl, hbz⟩
          go_wp2
          exact ⟨rfl, by rw [← ERE.out], (HT3.out.next hbz).2.2.2⟩
        | false =>
          rw [if_neg (by rintro (c | c); exact hA c.1; cases c.1), if_neg hA, if_neg hB, if_pos rfl] at hRE
          have ERE : Hid (thrown (rsV 2 ng 0 { data := #[] } 2) = RE) := hRE
          clear hRE hza hzb hr hrb hA hB
          go_enter Tryz.func84, Tryz.ntmps84
          go_wp2_with fail
          refine (HLm.out _).mono ?_
          rintro x w1 ⟨rfl, hb1⟩
          obtain ⟨hT1, hA1, hB1⟩ := HT.out _ hb1
          obtain ⟨a0, a1, a2, a3, a4⟩ := hA1.cells
          obtain ⟨c0, c1, c2, c3, c4⟩ := hB1.cells
          obtain ⟨a0', a1', a2', a3', a4'⟩ := hT1.1.cells
          obtain ⟨c0', c1', c2', c3', c4'⟩ := hT1.2.1.cells
          have HT1 : Hid (TQ w w1.heap.size 1 na ea sa 1 nb eb sb ng (w1.alloc (.cells #[.int .i64 2, .bool ng, .int .i64 0, .string { data := #[] }] 78))) := hT1
          clear hb1 hT1 hA1 hB1 HT HLm
          go_wp2_with fail
          generalize w1.heap.size = b1 at *
          refine (HNa.out _).mono ?_
          rintro x w2 ⟨rfl, hb2⟩
          have HT2 : Hid (TQ w b1 1 na ea sa 1 nb eb sb ng w2) := HT1.out.next hb2
          clear a0 a1 a2 a3 a4 c0 c1 c2 c3 c4 a0' a1' a2' a3' a4' c0' c1' c2' c3' c4' hng
          obtain ⟨a0, a1, a2, a3, a4⟩ := HT2.out.1.cells
          obtain ⟨c0, c1, c2, c3, c4⟩ := HT2.out.2.1.cells
          obtain ⟨g0, g1, g2, g3, g4⟩ := HT2.out.2.2.1.cells
          clear hb2 HT1
          go_wp2_with fail
          refine (HNb.out _).mono ?_
          rintro x w3 ⟨rfl, hb3⟩
          have HT3 : Hid (TQ w b1 1 na ea sa 1 nb eb sb ng w3) := HT2.out.next hb3
          clear a0 a1 a2 a3 a4 c0 c1 c2 c3 c4 g0 g1 g2 g3 g4
          obtain ⟨a0, a1, a2, a3, a4⟩ := HT3.out.1.cells
          obtain ⟨c0, c1, c2, c3, c4⟩ := HT3.out.2.1.cells
          obtain ⟨g0, g1, g2, g3, g4⟩ := HT3.out.2.2.1.cells
          clear hb3 HT2
          have hbl0 := build_res 2 ng 0 { data := #[] } 2
          have hbl1 := build_sp 2 ng 0 { data := #[] } 2
          go_wp2
          exact ⟨rfl, by rw [← ERE.out], HT3.out.2.2.2⟩
      | false =>
        rw [if_neg (by rintro (c | c); exact hA c.1; cases c.2), if_neg hA, if_neg hB, if_neg (by decide)] at hRE
        have ERE : Hid (.returned (.tuple #[]) = RE) := hRE
        clear hRE hza hzb hr hrb hA hB
        cases za with
        | true =>
          go_enter Tryz.func84, Tryz.ntmps84
          go_wp2_with fail
          refine (HLm.out _).mono ?_
          rintro x w1 ⟨rfl, hb1⟩
          obtain ⟨hT1, hA1, hB1⟩ := HT.out _ hb1
          obtain ⟨a0, a1, a2, a3, a4⟩ := hA1.cells
          obtain ⟨c0, c1, c2, c3, c4⟩ := hB1.cells
          obtain ⟨a0', a1', a2', a3', a4'⟩ := hT1.1.cells
          obtain ⟨c0', c1', c2', c3', c4'⟩ := hT1.2.1.cells
          have HT1 : Hid (TQ w w1.heap.size 1 na ea sa 1 nb eb sb ng (w1.alloc (.cells #[.int .i64 2, .bool ng, .int .i64 0, .string { data := #[] }] 78))) := hT1
          clear hb1 hT1 hA1 hB1 HT HLm
          go_wp2_with fail
          generalize w1.heap.size = b1 at *
          refine (HNa.out _).mono ?_
          rintro x w2 ⟨rfl, hb2⟩
          have HT2 : Hid (TQ w b1 1 na ea sa 1 nb eb sb ng w2) := HT1.out.next hb2
          clear a0 a1 a2 a3 a4 c0 c1 c2 c3 c4 a0' a1' a2' a3' a4' c0' c1' c2' c3' c4' hng
          obtain ⟨a0, a1, a2, a3, a4⟩ := HT2.out.1.cells
          obtain ⟨c0, c1, c2, c3, c4⟩ := HT2.out.2.1.cells
          obtain ⟨g0, g1, g2, g3, g4⟩ := HT2.out.2.2.1.cells
          clear hb2 HT1
          go_wp2_with fail
          refine (HNb.out _).mono ?_
          rintro x w3 ⟨rfl, hb3⟩
          have HT3 : Hid (TQ w b1 1 na ea sa 1 nb eb sb ng w3) := HT2.out.next hb3
          clear a0 a1 a2 a3 a4 c0 c1 c2 c3 c4 g0 g1 g2 g3 g4
          obtain ⟨a0, a1, a2, a3, a4⟩ := HT3.out.1.cells
          obtain ⟨c0, c1, c2, c3, c4⟩ := HT3.out.2.1.cells
          obtain ⟨g0, g1, g2, g3, g4⟩ := HT3.out.2.2.1.cells
          clear hb3 HT2
          go_wp2_with fail
          refine (HNb.out _).mono ?_
          rintro x w4 ⟨rfl, hb4⟩
          have HT4 : Hid (TQ w b1 1 na ea sa 1 nb eb sb ng w4) := HT3.out.next hb4
          clear a0 a1 a2 a3 a4 c0 c1 c2 c3 c4 g0 g1 g2 g3 g4
          obtain ⟨a0, a1, a2, a3, a4⟩ := HT4.out.1.cells
          obtain ⟨c0, c1, c2, c3, c4⟩ := HT4.out.2.1.cells
          obtain ⟨g0, g1, g2, g3, g4⟩ := HT4.out.2.2.1.cells
          clear hb4 HT3
          go_wp2
          first | go_end0 | refine bodyPost_ret (results_none rfl _ _ _) rfl ?_
          exact ⟨by rw [← ERE.out], HT4.out.2.2.2⟩
        | false =>
          go_enter Tryz.func84, Tryz.ntmps84
          go_wp2_with fail
          refine (HLm.out _).mono ?_
          rintro x w1 ⟨rfl, hb1⟩
          obtain ⟨hT1, hA1, hB1⟩ := HT.out _ hb1
          obtain ⟨a0, a1, a2, a3, a4⟩ := hA1.cells
          obtain ⟨c0, c1, c2, c3, c4⟩ := hB1.cells
          obtain ⟨a0', a1', a2', a3', a4'⟩ := hT1.1.cells
          obtain ⟨c0', c1', c2', c3', c4'⟩ := hT1.2.1.cells
          have HT1 : Hid (TQ w w1.heap.size 1 na ea sa 1 nb eb sb ng (w1.alloc (.cells #[.int .i64 2, .bool ng, .int .i64 0, .string { data := #[] }] 78))) := hT1
          clear hb1 hT1 hA1 hB1 HT HLm
          go_wp2_with fail
          generalize w1.heap.size = b1 at *
          refine (HNa.out _).mono ?_
          rintro x w2 ⟨rfl, hb2⟩
          have HT2 : Hid (TQ w b1 1 na ea sa 1 nb eb sb ng w2) := HT1.out.next hb2
          clear a0 a1 a2 a3 a4 c0 c1 c2 c3 c4 a0' a1' a2' a3' a4' c0' c1' c2' c3' c4' hng
          obtain ⟨a0, a1, a2, a3, a4⟩ := HT2.out.1.cells
          obtain ⟨c0, c1, c2, c3, c4⟩ := HT2.out.2.1.cells
          obtain ⟨g0, g1, g2, g3, g4⟩ := HT2.out.2.2.1.cells
          clear hb2 HT1
          go_wp2_with fail
          refine (HNb.out _).mono ?_
          rintro x w3 ⟨rfl, hb3⟩
          have HT3 : Hid (TQ w b1 1 na ea sa 1 nb eb sb ng w3) := HT2.out.next hb3
          clear a0 a1 a2 a3 a4 c0 c1 c2 c3 c4 g0 g1 g2 g3 g4
          obtain ⟨a0, a1, a2, a3, a4⟩ := HT3.out.1.cells
          obtain ⟨c0, c1, c2, c3, c4⟩ := HT3.out.2.1.cells
          obtain ⟨g0, g1, g2, g3, g4⟩ := HT3.out.2.2.1.cells
          clear hb3 HT2
          go_wp2
          first | go_end0 | refine bodyPost_ret (results_none rfl _ _ _) rfl ?_
          exact ⟨by rw [← ERE.out], HT3.out.2.2.2⟩
end Go.Proofs.YteofommckgeemaaGreatDoor
namespace Go.Proofs.YteofommckgeemaaGreatDoor
open Go.RowKit
set_option linter.unusedVariables false
set_option maxRecDepth 100000
/-- What is thrown is what is told. -/
theorem tq_thrown (f mode : Int) (ka : Int) (na : Bool) (ea : Int) (sa : ByteArray) (kb : Int) (nb : Bool) (eb : Int) (sb : ByteArray) (ha : ka = 1 ∨ ka = 2) (hb : kb = 1 ∨ kb = 2) (h : ¬ (ka = 1 ∧ kb = 1 ∧ zB kb sb = false)) :
    tqE f (!(na == nb)) ka kb (zB ka sa) (zB kb sb) = thrown (rsD (dvX f mode ka na ea sa kb nb eb sb).1 (dvX f mode ka na ea sa kb nb eb sb).2) := by
  unfold tqE dvX
  split
  · rfl
  · rename_i h1
    split
    · rfl
    · rename_i h2
      split
      · rfl
      · rename_i h3
        split
        · rfl
        · rename_i h4
          refine absurd ⟨ha.resolve_right h2, hb.resolve_right h3, ?_⟩ h
          simpa using h4
/-- Where a closure over the format's digits lies. -/
def ZJ (X : World) (p : Nat) (f mode : Int) (na : Bool) (ea : Int) (sa : ByteArray) (nb : Bool) (eb : Int) (sb : ByteArray) (b : Nat) (P : Int) (W : World) : Prop :=
  At5 W X.heap.size (.int .i64 0) (.bool false) (.int .i64 0) (.string { data := #[] }) (.int .i64 0) ∧ Below X.heap.size X W ∧ Cp2 W p f mode 1 na ea sa 1 nb eb sb ∧ W.cell? ⟨b, 0, none⟩ = some (.int .i64 P) ∧ b < W.heap.size
theorem ZJ.next {X W W' : World} {p : Nat} {f mode : Int} {na : Bool} {ea : Int} {sa : ByteArray} {nb : Bool} {eb : Int} {sb : ByteArray} {b : Nat} {P : Int} (h : ZJ X p f mode na ea sa nb eb sb b P W) (hb : Below W.heap.size W W') : ZJ X p f mode na ea sa nb eb sb b P W' :=
  ⟨h.1.below hb h.1.lt, h.2.1.trans (hb.mono h.2.1.size), h.2.2.1.next hb, (hb.cell (p := ⟨b, 0, none⟩) h.2.2.2.2).trans h.2.2.2.1, Nat.lt_of_lt_of_le h.2.2.2.2 hb.size⟩
set_option maxRecDepth 100000 in
set_option maxHeartbeats 4000000 in
theorem div1_any (p : Nat) (f mode : Int) (ka : Int) (na : Bool) (ea : Int) (sa : ByteArray) (kb : Int) (nb : Bool) (eb : Int) (sb : ByteArray) (X : World) (hm : 1 ≤ mode ∧ mode ≤ 5) (hr : Rgn f ka ea sa) (hrb : Rgn f kb eb sb) (hC : Cp2 X p f mode ka na ea sa kb nb eb sb) :
    Calls Tryz.prog 83 #[.pointer (some ⟨p, 0, none⟩), .pointer (some ⟨p + 2, 0, none⟩), .pointer (some ⟨p + 3, 0, none⟩), .pointer (some ⟨p + 1, 0, none⟩)] X fun x w' => (x = .returned (rsD (dvX f mode ka na ea sa kb nb eb sb).1 (dvX f mode ka na ea sa kb nb eb sb).2) ∨ x = thrown (rsD (dvX f mode ka na ea sa kb nb eb sb).1 (dvX f mode ka na ea sa kb nb eb sb).2)) ∧ Below X.heap.size X w' := by
  have hb0 : Below X.heap.size X (X.alloc (.cells #[.int .i64 0, .bool false, .int .i64 0, .string { data := #[] }, .int .i64 0] 90)) := (Below.refl _ _).alloc (Nat.le_refl _) _
  have HZ : Hid (At5 (X.alloc (.cells #[.int .i64 0, .bool false, .int .i64 0, .string { data := #[] }, .int .i64 0] 90)) X.heap.size (.int .i64 0) (.bool false) (.int .i64 0) (.string { data := #[] }) (.int .i64 0) ∧ Below X.heap.size X (X.alloc (.cells #[.int .i64 0, .bool false, .int .i64 0, .string { data := #[] }, .int .i64 0] 90)) ∧ Cp2 (X.alloc (.cells #[.int .i64 0, .bool false, .int .i64 0, .string { data := #[] }, .int .i64 0] 90)) p f mode ka na ea sa kb nb eb sb) := ⟨at5_new X _ _ _ _ _, hb0, hC.next hb0⟩
  have HTq : Hid (∀ Y, Calls Tryz.prog 84 #[.int .i64 f, numV ka na ea sa, numV kb nb eb sb] Y fun x w' => x = tqE f (!(na == nb)) ka kb (zB ka sa) (zB kb sb) ∧ Below Y.heap.size Y w') := fun Y => throwQuotient_any f ka na ea sa kb nb eb sb Y hr hrb
  obtain ⟨q0, q1, qa, qb⟩ := HZ.out.2.2
  obtain ⟨a0, a1, a2, a3, a4⟩ := qa.cells
  obtain ⟨c0, c1, c2, c3, c4⟩ := qb.cells
  clear qa qb hb0 hC
  by_cases hfin : ka = 1 ∧ kb = 1 ∧ zB kb sb = false
  case neg =>
    have hE := tq_thrown f mode ka na ea sa kb nb eb sb hr.2.2.1 hrb.2.2.1 hfin
    rw [hE] at HTq
    generalize dvX f mode ka na ea sa kb nb eb sb = R at *
    obtain ⟨R0, F1, F2, F3, F4⟩ := R
    clear hE hfin hm hr hrb
    go_enter Tryz.func83, Tryz.ntmps83
    go_wp2_with fail
    refine (HTq.out _).mono ?_
    rintro x w1 ⟨rfl, hb1⟩
    go_wp2
    exact ⟨rfl, .inr rfl, HZ.out.2.1.trans (hb1.mono HZ.out.2.1.size)⟩
  obtain ⟨rfl, rfl, hzb⟩ := hfin
  have hvb : vl (dl sb) ≠ 0 := by
    unfold zB at hzb
    simpa using hzb
  have hE : tqE f (!(na == nb)) 1 1 (zB 1 sa) (zB 1 sb) = .returned (.tuple #[]) := by
    unfold tqE
    rw [hzb, if_neg (by rintro (c | c); exact absurd c.1 (by decide); cases c.2), if_neg (by decide), if_neg (by decide), if_neg (by decide)]
  rw [hE] at HTq
  obtain ⟨ng, hng⟩ : ∃ ng, (!(na == nb)) = ng := ⟨_, rfl⟩
  obtain ⟨hsa, nka, v0a, -, l34a, l1a, hza, hea⟩ := hr.tn rfl
  obtain ⟨hsb, nkb, v0b, -, l34b, l1b, hzb2, heb⟩ := hrb.tn rfl
  obtain ⟨ca, lpa, -, -⟩ := hr.2.2.2.1 rfl
  obtain ⟨cb, lpb, -, -⟩ := hrb.2.2.2.1 rfl
  have hP : 1 ≤ limP f ∧ limP f ≤ 34 := by rcases hr.1 with rfl | rfl <;> decide
  obtain ⟨n1, n2, n3, hlo, hhi⟩ := dv_size f hr.1 (dl sa) (dl sb) ca cb lpa lpb hvb
  obtain ⟨k, hk⟩ : ∃ k, dvK f (dl sa).length (dl sb).length = k := ⟨_, rfl⟩
  have hk2 : (k : Int) = limP f - sa.size + sb.size + 1 := by rw [← hk]; unfold dvK; omega
  have EX : dvX f mode 1 na ea sa 1 nb eb sb = (ng, finD f mode ng (nt (vl (dl sa) * 10 ^ k / vl (dl sb))) (ea - eb - k) (!decide (vl (dl sa) * 10 ^ k % vl (dl sb) = 0)) (ea - eb)) := by
    unfold dvX
    rw [if_neg (by rintro (c | c); exact absurd c.1 (by decide); rw [hzb] at c; cases c.2), if_neg (by decide), if_neg (by decide), if_neg (by rw [hzb]; decide), hng, hk]
  rw [hk] at n1 n2 n3 hlo hhi
  have HSh : Hid (∀ Y, Calls Tryz.prog 87 #[.string sa, .int .i64 k] Y fun e w' => e = .returned (.string (tn (vl (dl sa) * 10 ^ k))) ∧ Below Y.heap.size Y w') := fun Y => by
    have := iNatShift_any (tn (vl (dl sa))) k Y (tnSz _)
    rw [shift_tn nka (by simpa using n1) (by omega) (by omega), ← hsa] at this
    simpa using this
  have HDv : Hid (∀ Y, Calls Tryz.prog 86 #[.string (tn (vl (dl sa) * 10 ^ k)), .string sb] Y fun e w' => e = .returned (.tuple #[.string (tn (vl (dl sa) * 10 ^ k / vl (dl sb))), .string (tn (vl (dl sa) * 10 ^ k % vl (dl sb)))]) ∧ Below Y.heap.size Y w') := fun Y => by
    have := iNatDiv_any (tn (vl (dl sa) * 10 ^ k)) (tn (vl (dl sb))) Y (tnSz _) (tnSz _)
    rw [(div_tn n1 nkb hvb).1, (div_tn n1 nkb hvb).2, ← hsb] at this
    exact this
  obtain ⟨zz, hzz⟩ : ∃ z, decide (vl (dl sa) * 10 ^ k % vl (dl sb) = 0) = z := ⟨_, rfl⟩
  have hz0 : ((tn (vl (dl sa) * 10 ^ k % vl (dl sb))).toList == [48]) = zz := by
    rw [← hzz]
    by_cases c : vl (dl sa) * 10 ^ k % vl (dl sb) = 0
    · rw [c, tn_0]; rfl
    · rw [tn_is0 n3 c, decide_eq_false c]
  have HFi : Hid (∀ Y, Calls Tryz.prog 88 #[.int .i64 f, .int .i64 mode, .bool ng, .string (tn (vl (dl sa) * 10 ^ k / vl (dl sb))), .int .i64 (ea - eb - k), .bool (!zz), .int .i64 (ea - eb)] Y fun x w' => x = .returned (rsD (dvX f mode 1 na ea sa 1 nb eb sb).1 (dvX f mode 1 na ea sa 1 nb eb sb).2) ∧ Below Y.heap.size Y w') := fun Y => by
    obtain ⟨cq, vq⟩ := nok_spec n2
    have := iFinish_both f mode hr.1 hm ng (nt (vl (dl sa) * 10 ^ k / vl (dl sb))) (ea - eb - k) (!zz) (ea - eb) Y cq (nok_len n2) (fun h => by
      have hne : vl (dl sa) ≠ 0 := fun c => by
        rw [c, Int.zero_mul, Int.zero_emod] at hzz
        rw [← hzz] at h
        cases h
      have h1 := hlo hne
      have h2 := len_lo _ cq (limP f).toNat (by rw [vq]; exact h1)
      refine ⟨fun c => ?_, by omega⟩
      rw [c] at h2
      simp at h2
      omega) (by omega) (by omega)
    rw [EX, hzz]
    dsimp only
    exact this
  generalize dvX f mode 1 na ea sa 1 nb eb sb = R at *
  obtain ⟨R0, F1, F2, F3, F4⟩ := R
  have hw1 : IntKind.i64.wrap (ea - eb) = ea - eb := by rw [IntKind.wrap_i64]; omega
  have hw2 : IntKind.i64.wrap (limP f - (sa.size : Int) + (sb.size : Int)) = limP f - sa.size + sb.size := by rw [IntKind.wrap_i64]; omega
  have hw3 : IntKind.i64.wrap (limP f - (sa.size : Int) + (sb.size : Int) + 1) = (k : Int) := by rw [IntKind.wrap_i64]; omega
  have hw4 : IntKind.i64.wrap (ea - eb - (k : Int)) = ea - eb - k := by rw [IntKind.wrap_i64]; omega
  have HRm : Hid (∀ Y, Calls Tryz.prog 85 #[.int .i64 f] Y fun x w' => ∃ b, x = .returned (RmV b) ∧ w'.cell? ⟨b, 0, none⟩ = some (.int .i64 (limP f)) ∧ Y.heap.size ≤ b ∧ b < w'.heap.size ∧ Below Y.heap.size Y w') := fun Y => roomIn_any f Y
  have HR1 : Hid (∀ (b : Nat) Y, Y.cell? ⟨b, 0, none⟩ = some (.int .i64 (limP f)) → Calls Tryz.prog 158 #[.string sa, .pointer (some ⟨b, 0, none⟩)] Y fun x w' => x = .returned (.int .i64 (limP f - sa.size)) ∧ w' = Y) := fun b Y h => room1_any b (limP f) sa Y h (by omega) hr.small
  have HEn : Hid (∀ args w, (callFunc 158 args).run Tryz.prog w = .ok (.enter 158 args) w) := enters_of Tryz.func158 (by kernel_rfl) rfl
  have hngb : (!(na == nb)) = ng := hng
  clear hr hrb hm hE hvb hzb EX hsa nka v0a l34a l1a hza hea hsb nkb v0b l34b l1b hzb2 heb ca lpa cb lpb hP n1 n2 n3 hlo hhi hk hk2 hzz hng
  generalize tn (vl (dl sa) * 10 ^ k / vl (dl sb)) = TQ1 at *
  generalize tn (vl (dl sa) * 10 ^ k % vl (dl sb)) = TR1 at *
  generalize tn (vl (dl sa) * 10 ^ k) = TS1 at *
  generalize limP f = P at *
  generalize P - (sa.size : Int) = room at *
  generalize (k : Int) = K1 at *
  go_enter Tryz.func83, Tryz.ntmps83
  go_wp2_with fail
  refine (HTq.out _).mono ?_
  rintro x w1 ⟨rfl, hb1⟩
  have HZ1 : Hid (At5 w1 X.heap.size (.int .i64 0) (.bool false) (.int .i64 0) (.string { data := #[] }) (.int .i64 0) ∧ Below X.heap.size X w1 ∧ Cp2 w1 p f mode 1 na ea sa 1 nb eb sb) := ⟨HZ.out.1.below hb1 HZ.out.1.lt, HZ.out.2.1.trans (hb1.mono HZ.out.2.1.size), HZ.out.2.2.next hb1⟩
  clear hb1 HZ HTq q0 q1 a0 a1 a2 a3 a4 c0 c1 c2 c3 c4
  obtain ⟨q0, q1, qa, qb⟩ := HZ1.out.2.2
  obtain ⟨a0, a1, a2, a3, a4⟩ := qa.cells
  obtain ⟨c0, c1, c2, c3, c4⟩ := qb.cells
  clear qa qb
  go_upto_region 2 with fail
  go_cut [5, 6] (fun r t wx => ∃ b, r = RmV b ∧ t = .int .i64 (ea - eb) ∧ Hid (ZJ X p f mode na ea sa nb eb sb b P wx))
  case first =>
    go_region_with (go_at_call 85; refine (HRm.out _).mono ?_; rintro x w2 ⟨b, rfl, hb, hle, hlt, hb2x⟩; have hb2 : Below w1.heap.size w1 w2 := (Below.refl w1.heap.size w1).drew.trans (hb2x.mono (Nat.le_refl _)); have HJ : Hid (ZJ X p f mode na ea sa nb eb sb b P w2) := ⟨HZ1.out.1.below hb2 HZ1.out.1.lt, HZ1.out.2.1.trans (hb2.mono HZ1.out.2.1.size), HZ1.out.2.2.next hb2, hb, hlt⟩; clear hb hle hlt hb2x hb2 q0 q1 a0 a1 a2 a3 a4 c0 c1 c2 c3 c4; obtain ⟨a0, a1, a2, a3, a4⟩ := HJ.out.2.2.1.2.2.1.cells; obtain ⟨c0, c1, c2, c3, c4⟩ := HJ.out.2.2.1.2.2.2.cells)
    all_goals
      go_wp2
      go_meet
      case rel => exact ⟨b, rfl, rfl, HJ⟩
  case rest =>
    obtain ⟨b, rfl, rfl, HJ⟩ := hcut
    clear HZ1 HRm hw1 q0 q1 a0 a1 a2 a3 a4 c0 c1 c2 c3 c4
    unfold RmV
    have hE := HEn.out
    go_upto_region 3 with fail
    have HX0 : Hid (Below wc.heap.size wc wc.drew) := (Below.refl _ _).drew
    refine wp_region_class (C := fun W => Below wc.heap.size wc W) (by kernel_rfl) (by kernel_rfl) HX0.out ?_
    repeat (refine wpQuiet_step (fun K hK => ?_); go_simp; first | (refine hK _ ?_; clear hK K) | (apply Exists.intro; refine ⟨fun wx hC => ?_, hK _ ?_⟩; (first | exact rfl | (have hcc := (HJ.out.next hC).2.2.2.1; (with_reducible refine (HR1.out b wx hcc).mono ?_); rintro x w' ⟨rfl, rfl⟩; exact ⟨rfl, hC⟩) | (obtain ⟨a0, a1, a2, a3, a4⟩ := (HJ.out.next hC).2.2.1.2.2.1.cells; go_simp; exact rfl) | (obtain ⟨a0, a1, a2, a3, a4⟩ := (HJ.out.next hC).2.2.1.2.2.2.cells; go_simp; exact rfl)); clear hK K))
    refine wpQuiet_nil ?_
    intro w3 hb3
    have HJ3 : Hid (ZJ X p f mode na ea sa nb eb sb b P w3) := HJ.out.next hb3
    clear hb3 HJ HX0 HR1 hE hw2 hw3
    go_upto_region 4 with fail
    have HX1 : Hid (Below w3.heap.size w3 w3.drew) := (Below.refl _ _).drew
    refine wp_region_class (C := fun W => Below w3.heap.size w3 W) (by kernel_rfl) (by kernel_rfl) HX1.out ?_
    repeat (refine wpQuiet_step (fun K hK => ?_); go_simp; first | (refine hK _ ?_; clear hK K) | (apply Exists.intro; refine ⟨fun wx hC => ?_, hK _ ?_⟩; (first | exact rfl | ((with_reducible refine Calls.class_of (HSh.out wx) ?_); exact fun w' hb => bel1 hC hb) | ((with_reducible refine Calls.class_of (HDv.out wx) ?_); exact fun w' hb => bel1 hC hb) | (obtain ⟨a0, a1, a2, a3, a4⟩ := (HJ3.out.next hC).2.2.1.2.2.1.cells; go_simp; exact rfl) | (obtain ⟨a0, a1, a2, a3, a4⟩ := (HJ3.out.next hC).2.2.1.2.2.2.cells; go_simp; exact rfl)); clear hK K))
    refine wpQuiet_nil ?_
    intro w4 hb4
    have HJ4 : Hid (ZJ X p f mode na ea sa nb eb sb b P w4) := HJ3.out.next hb4
    clear hb4 HJ3 HX1 HSh HDv
    obtain ⟨q0, q1, qa, qb⟩ := HJ4.out.2.2.1
    obtain ⟨a0, a1, a2, a3, a4⟩ := qa.cells
    obtain ⟨c0, c1, c2, c3, c4⟩ := qb.cells
    clear qa qb
    go_wp2_with fail
    refine (HFi.out _).mono ?_
    rintro x w5 ⟨rfl, hb5⟩
    have HZ5 : Hid (At5 w5 X.heap.size (.int .i64 0) (.bool false) (.int .i64 0) (.string { data := #[] }) (.int .i64 0) ∧ Below X.heap.size X w5) := ⟨(HJ4.out.next hb5).1, (HJ4.out.next hb5).2.1⟩
    clear hb5 HJ4 HFi q0 q1 a0 a1 a2 a3 a4 c0 c1 c2 c3 c4
    go_wp2_with (refine wpList_store_row rfl 90 (.tmp 4) (.tmp 54) rfl X.heap.size #[.int .i64 F1, .bool R0, .int .i64 F2, .string F3, .int .i64 F4] rfl rfl _ _ HZ5.out.1 (by kernel_rfl) rfl (one5 _ _ _ _ _) ?_)
    have hP := (HZ5.out.1.row (.int .i64 F1) (.bool R0) (.int .i64 F2) (.string F3) (.int .i64 F4)).cells
    refine bodyPost_ret (results_res rfl _ _ rfl hP.1 hP.2.1 hP.2.2.1 hP.2.2.2.1 hP.2.2.2.2.1) rfl ?_
    exact ⟨.inl rfl, bel_row HZ5.out.2 (Nat.le_refl _) _⟩
set_option maxRecDepth 100000 in
set_option maxHeartbeats 1000000 in
theorem iDiv_any (f mode : Int) (ka : Int) (na : Bool) (ea : Int) (sa : ByteArray) (kb : Int) (nb : Bool) (eb : Int) (sb : ByteArray) (w : World) (hsa : sa.size ≤ 4611686018427387904) (hsb : sb.size ≤ 4611686018427387904) :
    Calls Tryz.prog 31 #[.int .i64 f, .int .i64 mode, numV ka na ea sa, numV kb nb eb sb] w fun x w' => x = .returned (rsD (dvR f mode ka na ea sa kb nb eb sb).1 (dvR f mode ka na ea sa kb nb eb sb).2) ∧ Below w.heap.size w w' := by
  have hmf : ∀ (fn : Fn) (first cap : Array Value) (w : World), (Instr.makeFunc fn first cap).run Tryz.prog w = .ok (.func fn first cap) w := fun _ _ _ _ => rfl
  have HE : Hid (∀ args w, (callFunc 83 args).run Tryz.prog w = .ok (.enter 83 args) w) := enters_of Tryz.func83 (by kernel_rfl) rfl
  obtain ⟨W, hW⟩ : ∃ W, cp2W w f mode ka na ea sa kb nb eb sb = W := ⟨_, rfl⟩
  have hN := cp2_new w f mode ka na ea sa kb nb eb sb
  rw [hW] at hN
  have hb5 : Below W.heap.size W (W.alloc (.cells #[.int .i64 ka, .bool na, .int .i64 ea, .string sa, .int .i64 kb, .bool nb, .int .i64 eb, .string sb] 78)) := (Below.refl _ _).alloc (Nat.le_refl _) _
  obtain ⟨hrw, hlt⟩ := row2_new W ka na ea sa kb nb eb sb
  have HO : Hid (Calls Tryz.prog 82 #[.int .i64 f, .int .i64 mode, .func (.func 83) #[] #[.pointer (some ⟨w.heap.size, 0, none⟩), .pointer (some ⟨w.heap.size + 2, 0, none⟩), .pointer (some ⟨w.heap.size + 3, 0, none⟩), .pointer (some ⟨w.heap.size + 1, 0, none⟩)], .slice (some ⟨W.heap.size, 0, none⟩) 2 2] (W.alloc (.cells #[.int .i64 ka, .bool na, .int .i64 ea, .string sa, .int .i64 kb, .bool nb, .int .i64 eb, .string sb] 78)) fun x w' => x = .returned (rsD (dvR f mode ka na ea sa kb nb eb sb).1 (dvR f mode ka na ea sa kb nb eb sb).2) ∧ Below (W.alloc (.cells #[.int .i64 ka, .bool na, .int .i64 ea, .string sa, .int .i64 kb, .bool nb, .int .i64 eb, .string sb] 78)).heap.size (W.alloc (.cells #[.int .i64 ka, .bool na, .int .i64 ea, .string sa, .int .i64 kb, .bool nb, .int .i64 eb, .string sb] 78)) w') :=
    ofNumbers_any f mode 83 _ HE.out 2 W.heap.size (tw2 ka kb) (tw2 na nb) (tw2 ea eb) (tw2 sa sb) (dvX f mode ka na ea sa kb nb eb sb) _ (by decide) (by decide) hlt hrw (fun i hi => by match i, hi with
      | 0, _ => exact hsa
      | 1, _ => exact hsb) (fun h1 h2 Y hY => by
      obtain ⟨hm, hr, hrb⟩ := rgn_two h1 h2
      exact div1_any w.heap.size f mode ka na ea sa kb nb eb sb Y hm hr hrb ((hN.1.next hb5).next hY))
  have HZ : Hid (At5 (W.alloc (.cells #[.int .i64 ka, .bool na, .int .i64 ea, .string sa, .int .i64 kb, .bool nb, .int .i64 eb, .string sb] 78)) (w.heap.size + 4) (.int .i64 0) (.bool false) (.int .i64 0) (.string { data := #[] }) (.int .i64 0) ∧ Below w.heap.size w (W.alloc (.cells #[.int .i64 ka, .bool na, .int .i64 ea, .string sa, .int .i64 kb, .bool nb, .int .i64 eb, .string sb] 78))) := ⟨hN.2.1.below hb5 hN.2.1.lt, hN.2.2.1.trans (hb5.mono hN.2.2.1.size)⟩
  rw [hN.2.2.2] at HO
  obtain ⟨q0, q1, qa, qb⟩ := hN.1
  obtain ⟨a0, a1, a2, a3, -⟩ := qa.cells
  obtain ⟨c0, c1, c2, c3, -⟩ := qb.cells
  rw [← hW] at HO HZ q0 q1 a0 a1 a2 a3 c0 c1 c2 c3
  clear hW hN hb5 hrw hlt hsa hsb HE qa qb
  generalize dvR f mode ka na ea sa kb nb eb sb = R at *
  obtain ⟨R0, F1, F2, F3, F4⟩ := R
  go_enter Tryz.func31, Tryz.ntmps31
  go_wp2_with fail
  refine HO.out.mono ?_
  rintro x w1 ⟨rfl, hb1⟩
  have HZ1 : Hid (At5 w1 (w.heap.size + 4) (.int .i64 0) (.bool false) (.int .i64 0) (.string { data := #[] }) (.int .i64 0) ∧ Below w.heap.size w w1) := ⟨HZ.out.1.below hb1 HZ.out.1.lt, HZ.out.2.trans (hb1.mono HZ.out.2.size)⟩
  clear hb1 HZ HO q0 q1 a0 a1 a2 a3 c0 c1 c2 c3
  go_wp2_with (refine wpList_store_row rfl 90 (.tmp 8) (.tmp 15) rfl (w.heap.size + 4) #[.int .i64 F1, .bool R0, .int .i64 F2, .string F3, .int .i64 F4] rfl rfl _ _ HZ1.out.1 (by kernel_rfl) rfl (one5 _ _ _ _ _) ?_)
  have hP := (HZ1.out.1.row (.int .i64 F1) (.bool R0) (.int .i64 F2) (.string F3) (.int .i64 F4)).cells
  refine bodyPost_ret (results_res rfl _ _ rfl hP.1 hP.2.1 hP.2.2.1 hP.2.2.2.1 hP.2.2.2.2.1) rfl ?_
  exact ⟨rfl, bel_row HZ1.out.2 (by omega) _⟩
end Go.Proofs.YteofommckgeemaaGreatDoor
