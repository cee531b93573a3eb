/-
  Div of the program: what is thrown, and its closure, walked.
-/
import Derived.Test.YtmndemegiimagarGreatDoorDvp
import Derived.Test.YtmndemegiimagarGreatDoorFnr
namespace Go.Proofs.YtmndemegiimagarGreatDoor
open Go.RowKit
set_option linter.unusedVariables false
set_option maxRecDepth 100000
/-- Two numbers' boxes and an infinity's. -/
def TQ (w : World) (i : Nat) (ka : Int) (na : Bool) (ea : Int) (sa : ByteArray) (kb : Int) (nb : Bool) (eb : Int) (sb : ByteArray) (ng : Bool) (W : World) : Prop :=
  At4r W w.heap.size (.int .i64 ka) (.bool na) (.int .i64 ea) (.string sa) ∧ At4r W (w.heap.size + 1) (.int .i64 kb) (.bool nb) (.int .i64 eb) (.string sb) ∧ At4r W i (.int .i64 2) (.bool ng) (.int .i64 0) (.string { data := #[] }) ∧ Below w.heap.size w W
theorem TQ.next {w W W' : World} {i : Nat} {ka : Int} {na : Bool} {ea : Int} {sa : ByteArray} {kb : Int} {nb : Bool} {eb : Int} {sb : ByteArray} {ng : Bool} (h : TQ w i ka na ea sa kb nb eb sb ng W) (hb : Below W.heap.size W W') : TQ w i ka na ea sa kb nb eb sb ng W' :=
  ⟨h.1.next hb, h.2.1.next hb, h.2.2.1.next hb, h.2.2.2.trans (hb.mono h.2.2.2.size)⟩
/-- How throwQuotient ends. -/
def tqE (f : Int) (ng : Bool) (ka kb : Int) (za zb : Bool) : Ending :=
  if (ka = 2 ∧ kb = 2) ∨ (za = true ∧ zb = true) then thrown (rsV 3 false 0 { data := #[] } 1)
  else if ka = 2 then thrown (rsV 2 ng 0 { data := #[] } 0)
  else if kb = 2 then thrown (rsV 1 ng (limL f) { data := #[48] } 0)
  else if zb = true then thrown (rsV 2 ng 0 { data := #[] } 2)
  else .returned (.tuple #[])
set_option maxRecDepth 100000 in
set_option maxHeartbeats 2000000 in
theorem throwQuotient_any (f : Int) (ka : Int) (na : Bool) (ea : Int) (sa : ByteArray) (kb : Int) (nb : Bool) (eb : Int) (sb : ByteArray) (w : World) (hr : Rgn f ka ea sa) (hrb : Rgn f kb eb sb) :
    Calls Tryz.prog 54 #[.int .i64 f, numV ka na ea sa, numV kb nb eb sb] w fun x w' => x = tqE f (!(na == nb)) ka kb (zB ka sa) (zB kb sb) ∧ Below w.heap.size w w' := by
  have HLm : Hid (∀ X, Calls Tryz.prog 86 #[.int .i64 f] X fun e w' => e = .returned (.tuple #[.int .i64 (limP f), .int .i64 (limL f), .int .i64 (limH f)]) ∧ Below X.heap.size X w') := fun X => iLimits_any f X
  have HNa : Hid (∀ X, Calls Tryz.prog 62 #[numV ka na ea sa] X fun x w' => x = .returned (.bool (zB ka sa)) ∧ Below X.heap.size X w') := fun X => isNought_rgn hr na X
  have HNb : Hid (∀ X, Calls Tryz.prog 62 #[numV kb nb eb sb] X fun x w' => x = .returned (.bool (zB kb sb)) ∧ Below X.heap.size X w') := fun X => isNought_rgn hrb nb X
  obtain ⟨ng, hng⟩ : ∃ ng, (!(na == nb)) = ng := ⟨_, rfl⟩
  rw [hng]
  have hza : ka = 2 → zB ka sa = false := fun h => by rw [h]; rfl
  have hzb : kb = 2 → zB kb sb = false := fun h => by rw [h]; rfl
  obtain ⟨RE, hRE⟩ : ∃ r, tqE f ng ka kb (zB ka sa) (zB kb sb) = r := ⟨_, rfl⟩
  rw [hRE]
  unfold tqE at hRE
  generalize zB ka sa = za at *
  generalize zB kb sb = zb at *
  generalize limL f = L0 at *
  generalize limH f = H0 at *
  generalize limP f = P0 at *
  have hbi := build_inf ng
  have HT : Hid (∀ W, Below (((w.alloc (.cells #[.int .i64 ka, .bool na, .int .i64 ea, .string sa] 25)).alloc (.cells #[.int .i64 kb, .bool nb, .int .i64 eb, .string sb] 25))).heap.size ((w.alloc (.cells #[.int .i64 ka, .bool na, .int .i64 ea, .string sa] 25)).alloc (.cells #[.int .i64 kb, .bool nb, .int .i64 eb, .string sb] 25)) W → TQ w W.heap.size ka na ea sa kb nb eb sb ng (W.alloc (.cells #[.int .i64 2, .bool ng, .int .i64 0, .string { data := #[] }] 25)) ∧ At4r W w.heap.size (.int .i64 ka) (.bool na) (.int .i64 ea) (.string sa) ∧ At4r W (w.heap.size + 1) (.int .i64 kb) (.bool nb) (.int .i64 eb) (.string sb)) := fun W hW => by
    have h1 := at4r_new w (.int .i64 ka) (.bool na) (.int .i64 ea) (.string sa)
    have z1 := new_size w (.cells #[.int .i64 ka, .bool na, .int .i64 ea, .string sa] 25)
    have b1 : Below w.heap.size w (w.alloc (.cells #[.int .i64 ka, .bool na, .int .i64 ea, .string sa] 25)) := (Below.refl _ _).alloc (Nat.le_refl _) _
    generalize w.alloc (.cells #[.int .i64 ka, .bool na, .int .i64 ea, .string sa] 25) = w1 at *
    have h2 := at4r_new w1 (.int .i64 kb) (.bool nb) (.int .i64 eb) (.string sb)
    have b2 : Below w1.heap.size w1 (w1.alloc (.cells #[.int .i64 kb, .bool nb, .int .i64 eb, .string sb] 25)) := (Below.refl _ _).alloc (Nat.le_refl _) _
    rw [z1] at h2
    have h1' := (h1.next b2).next hW
    have h2' := h2.next hW
    have b12 := b1.trans (b2.mono b1.size)
    have b1W := b12.trans (hW.mono b12.size)
    have bn : Below W.heap.size W (W.alloc (.cells #[.int .i64 2, .bool ng, .int .i64 0, .string { data := #[] }] 25)) := (Below.refl _ _).alloc (Nat.le_refl _) _
    exact ⟨⟨h1'.next bn, h2'.next bn, at4r_new W _ _ _ _, b1W.trans (bn.mono b1W.size)⟩, h1', h2'⟩
  by_cases hA : ka = 2
  · have hza' := hza hA
    subst hza' hA
    by_cases hB : kb = 2
    · have hzb' := hzb hB
      subst hzb' hB
      rw [if_pos (.inl ⟨rfl, rfl⟩)] at hRE
      have ERE : Hid (thrown (rsV 3 false 0 { data := #[] } 1) = RE) := hRE
      clear hRE hza hzb hr hrb HNa HNb
      go_enter Tryz.func54, Tryz.ntmps54
      go_wp2_with fail
      refine (HLm.out _).mono ?_
      rintro x w1 ⟨rfl, hb1⟩
      obtain ⟨hT1, hA1, hB1⟩ := HT.out _ hb1
      obtain ⟨a0, a1, a2, a3, a4⟩ := hA1.cells
      obtain ⟨c0, c1, c2, c3, c4⟩ := hB1.cells
      obtain ⟨a0', a1', a2', a3', a4'⟩ := hT1.1.cells
      obtain ⟨c0', c1', c2', c3', c4'⟩ := hT1.2.1.cells
      have HT1 : Hid (TQ w w1.heap.size 2 na ea sa 2 nb eb sb ng (w1.alloc (.cells #[.int .i64 2, .bool ng, .int .i64 0, .string { data := #[] }] 25))) := hT1
      clear hb1 hT1 hA1 hB1 HT HLm
      go_wp2_with fail
      refine (iInvalid_any _).mono ?_
      rintro x wz ⟨rfl, hbz⟩
      go_wp2
      exact ⟨rfl, by rw [← ERE.out], (HT1.out.next hbz).2.2.2⟩
    · rw [if_neg (by rintro (c | c); exact hB c.2; cases c.1), if_pos rfl] at hRE
      have ERE : Hid (thrown (rsV 2 ng 0 { data := #[] } 0) = RE) := hRE
      have hkb : (kb == 2) = false := beq_eq_false_iff_ne.2 hB
      clear hRE hza hzb hr hrb hB HNb
      go_enter Tryz.func54, Tryz.ntmps54
      go_wp2_with fail
      refine (HLm.out _).mono ?_
      rintro x w1 ⟨rfl, hb1⟩
      obtain ⟨hT1, hA1, hB1⟩ := HT.out _ hb1
      obtain ⟨a0, a1, a2, a3, a4⟩ := hA1.cells
      obtain ⟨c0, c1, c2, c3, c4⟩ := hB1.cells
      obtain ⟨a0', a1', a2', a3', a4'⟩ := hT1.1.cells
      obtain ⟨c0', c1', c2', c3', c4'⟩ := hT1.2.1.cells
      have HT1 : Hid (TQ w w1.heap.size 2 na ea sa kb nb eb sb ng (w1.alloc (.cells #[.int .i64 2, .bool ng, .int .i64 0, .string { data := #[] }] 25))) := hT1
      clear hb1 hT1 hA1 hB1 HT HLm
      go_wp2_with fail
      generalize w1.heap.size = b1 at *
      refine (HNa.out _).mono ?_
      rintro x w2 ⟨rfl, hb2⟩
      have HT2 : Hid (TQ w b1 2 na ea sa kb nb eb sb ng w2) := HT1.out.next hb2
      clear a0 a1 a2 a3 a4 c0 c1 c2 c3 c4 a0' a1' a2' a3' a4' c0' c1' c2' c3' c4' hng
      obtain ⟨a0, a1, a2, a3, a4⟩ := HT2.out.1.cells
      obtain ⟨c0, c1, c2, c3, c4⟩ := HT2.out.2.1.cells
      obtain ⟨g0, g1, g2, g3, g4⟩ := HT2.out.2.2.1.cells
      clear hb2 HT1
      have hbl0 := build_res0 2 ng 0 { data := #[] }
      have hbl1 := build_sp 2 ng 0 { data := #[] } 0
      go_wp2
      exact ⟨rfl, by rw [← ERE.out], HT2.out.2.2.2⟩
  · have hk1 : ka = 1 := hr.2.2.1.resolve_right hA
    subst hk1
    by_cases hB : kb = 2
    · have hzb' := hzb hB
      subst hzb' hB
      rw [if_neg (by rintro (c | c); exact hA c.1; cases c.2), if_neg hA, if_pos rfl] at hRE
      have ERE : Hid (thrown (rsV 1 ng L0 { data := #[48] } 0) = RE) := hRE
      clear hRE hza hzb hr hrb hA
      cases za with
      | true =>
        go_enter Tryz.func54, Tryz.ntmps54
        go_wp2_with fail
        refine (HLm.out _).mono ?_
        rintro x w1 ⟨rfl, hb1⟩
        obtain ⟨hT1, hA1, hB1⟩ := HT.out _ hb1
        obtain ⟨a0, a1, a2, a3, a4⟩ := hA1.cells
        obtain ⟨c0, c1, c2, c3, c4⟩ := hB1.cells
        obtain ⟨a0', a1', a2', a3', a4'⟩ := hT1.1.cells
        obtain ⟨c0', c1', c2', c3', c4'⟩ := hT1.2.1.cells
        have HT1 : Hid (TQ w w1.heap.size 1 na ea sa 2 nb eb sb ng (w1.alloc (.cells #[.int .i64 2, .bool ng, .int .i64 0, .string { data := #[] }] 25))) := hT1
        clear hb1 hT1 hA1 hB1 HT HLm
        go_wp2_with fail
        generalize w1.heap.size = b1 at *
        refine (HNa.out _).mono ?_
        rintro x w2 ⟨rfl, hb2⟩
        have HT2 : Hid (TQ w b1 1 na ea sa 2 nb eb sb ng w2) := HT1.out.next hb2
        clear a0 a1 a2 a3 a4 c0 c1 c2 c3 c4 a0' a1' a2' a3' a4' c0' c1' c2' c3' c4' hng
        obtain ⟨a0, a1, a2, a3, a4⟩ := HT2.out.1.cells
        obtain ⟨c0, c1, c2, c3, c4⟩ := HT2.out.2.1.cells
        obtain ⟨g0, g1, g2, g3, g4⟩ := HT2.out.2.2.1.cells
        clear hb2 HT1
        go_wp2_with fail
        refine (HNb.out _).mono ?_
        rintro x w3 ⟨rfl, hb3⟩
        have HT3 : Hid (TQ w b1 1 na ea sa 2 nb eb sb ng w3) := HT2.out.next hb3
        clear a0 a1 a2 a3 a4 c0 c1 c2 c3 c4 g0 g1 g2 g3 g4
        obtain ⟨a0, a1, a2, a3, a4⟩ := HT3.out.1.cells
        obtain ⟨c0, c1, c2, c3, c4⟩ := HT3.out.2.1.cells
        obtain ⟨g0, g1, g2, g3, g4⟩ := HT3.out.2.2.1.cells
        clear hb3 HT2
        have hbl0 := build_num 1 ng L0 { data := #[48] }
        have hbl1 := build_res0 1 ng L0 { data := #[48] }
        have hbl2 := build_sp 1 ng L0 { data := #[48] } 0
        go_wp2
        exact ⟨rfl, by rw [← ERE.out], HT3.out.2.2.2⟩
      | false =>
        clear HNb
        go_enter Tryz.func54, Tryz.ntmps54
        go_wp2_with fail
        refine (HLm.out _).mono ?_
        rintro x w1 ⟨rfl, hb1⟩
        obtain ⟨hT1, hA1, hB1⟩ := HT.out _ hb1
        obtain ⟨a0, a1, a2, a3, a4⟩ := hA1.cells
        obtain ⟨c0, c1, c2, c3, c4⟩ := hB1.cells
        obtain ⟨a0', a1', a2', a3', a4'⟩ := hT1.1.cells
        obtain ⟨c0', c1', c2', c3', c4'⟩ := hT1.2.1.cells
        have HT1 : Hid (TQ w w1.heap.size 1 na ea sa 2 nb eb sb ng (w1.alloc (.cells #[.int .i64 2, .bool ng, .int .i64 0, .string { data := #[] }] 25))) := hT1
        clear hb1 hT1 hA1 hB1 HT HLm
        go_wp2_with fail
        generalize w1.heap.size = b1 at *
        refine (HNa.out _).mono ?_
        rintro x w2 ⟨rfl, hb2⟩
        have HT2 : Hid (TQ w b1 1 na ea sa 2 nb eb sb ng w2) := HT1.out.next hb2
        clear a0 a1 a2 a3 a4 c0 c1 c2 c3 c4 a0' a1' a2' a3' a4' c0' c1' c2' c3' c4' hng
        obtain ⟨a0, a1, a2, a3, a4⟩ := HT2.out.1.cells
        obtain ⟨c0, c1, c2, c3, c4⟩ := HT2.out.2.1.cells
        obtain ⟨g0, g1, g2, g3, g4⟩ := HT2.out.2.2.1.cells
        clear hb2 HT1
        have hbl0 := build_num 1 ng L0 { data := #[48] }
        have hbl1 := build_res0 1 ng L0 { data := #[48] }
        have hbl2 := build_sp 1 ng L0 { data := #[48] } 0
        go_wp2
        exact ⟨rfl, by rw [← ERE.out], HT2.out.2.2.2⟩
    · have hkb1 : kb = 1 := hrb.2.2.1.resolve_right hB
      subst hkb1
      cases zb with
      | true =>
        cases za with
        | true =>
          rw [if_pos (.inr ⟨rfl, rfl⟩)] at hRE
          have ERE : Hid (thrown (rsV 3 false 0 { data := #[] } 1) = RE) := hRE
          clear hRE hza hzb hr hrb hA hB
          go_enter Tryz.func54, Tryz.ntmps54
          go_wp2_with fail
          refine (HLm.out _).mono ?_
          rintro x w1 ⟨rfl, hb1⟩
          obtain ⟨hT1, hA1, hB1⟩ := HT.out _ hb1
          obtain ⟨a0, a1, a2, a3, a4⟩ := hA1.cells
          obtain ⟨c0, c1, c2, c3, c4⟩ := hB1.cells
          obtain ⟨a0', a1', a2', a3', a4'⟩ := hT1.1.cells
          obtain ⟨c0', c1', c2', c3', c4'⟩ := hT1.2.1.cells
          have HT1 : Hid (TQ w w1.heap.size 1 na ea sa 1 nb eb sb ng (w1.alloc (.cells #[.int .i64 2, .bool ng, .int .i64 0, .string { data := #[] }] 25))) := hT1
          clear hb1 hT1 hA1 hB1 HT HLm
          go_wp2_with fail
          generalize w1.heap.size = b1 at *
          refine (HNa.out _).mono ?_
          rintro x w2 ⟨rfl, hb2⟩
          have HT2 : Hid (TQ w b1 1 na ea sa 1 nb eb sb ng w2) := HT1.out.next hb2
          clear a0 a1 a2 a3 a4 c0 c1 c2 c3 c4 a0' a1' a2' a3' a4' c0' c1' c2' c3' c4' hng
          obtain ⟨a0, a1, a2, a3, a4⟩ := HT2.out.1.cells
          obtain ⟨c0, c1, c2, c3, c4⟩ := HT2.out.2.1.cells
          obtain ⟨g0, g1, g2, g3, g4⟩ := HT2.out.2.2.1.cells
          clear hb2 HT1
          go_wp2_with fail
          refine (HNb.out _).mono ?_
          rintro x w3 ⟨rfl, hb3⟩
          have HT3 : Hid (TQ w b1 1 na ea sa 1 nb eb sb ng w3) := HT2.out.next hb3
          clear a0 a1 a2 a3 a4 c0 c1 c2 c3 c4 g0 g1 g2 g3 g4
          obtain ⟨a0, a1, a2, a3, a4⟩ := HT3.out.1.cells
          obtain ⟨c0, c1, c2, c3, c4⟩ := HT3.out.2.1.cells
          obtain ⟨g0, g1, g2, g3, g4⟩ := HT3.out.2.2.1.cells
          clear hb3 HT2
          go_wp2_with fail
          refine (iInvalid_any _).mono ?_
          rintro x wz ⟨rfl, hbz⟩
          go_wp2
          exact ⟨rfl, by rw [← ERE.out], (HT3.out.next hbz).2.2.2⟩
        | false =>
          rw [if_neg (by rintro (c | c); exact hA c.1; cases c.1), if_neg hA, if_neg hB, if_pos rfl] at hRE
          have ERE : Hid (thrown (rsV 2 ng 0 { data := #[] } 2) = RE) := hRE
          clear hRE hza hzb hr hrb hA hB
          go_enter Tryz.func54, Tryz.ntmps54
          go_wp2_with fail
          refine (HLm.out _).mono ?_
          rintro x w1 ⟨rfl, hb1⟩
          obtain ⟨hT1, hA1, hB1⟩ := HT.out _ hb1
          obtain ⟨a0, a1, a2, a3, a4⟩ := hA1.cells
          obtain ⟨c0, c1, c2, c3, c4⟩ := hB1.cells
          obtain ⟨a0', a1', a2', a3', a4'⟩ := hT1.1.cells
          obtain ⟨c0', c1', c2', c3', c4'⟩ := hT1.2.1.cells
          have HT1 : Hid (TQ w w1.heap.size 1 na ea sa 1 nb eb sb ng (w1.alloc (.cells #[.int .i64 2, .bool ng, .int .i64 0, .string { data := #[] }] 25))) := hT1
          clear hb1 hT1 hA1 hB1 HT HLm
          go_wp2_with fail
          generalize w1.heap.size = b1 at *
          refine (HNa.out _).mono ?_
          rintro x w2 ⟨rfl, hb2⟩
          have HT2 : Hid (TQ w b1 1 na ea sa 1 nb eb sb ng w2) := HT1.out.next hb2
          clear a0 a1 a2 a3 a4 c0 c1 c2 c3 c4 a0' a1' a2' a3' a4' c0' c1' c2' c3' c4' hng
          obtain ⟨a0, a1, a2, a3, a4⟩ := HT2.out.1.cells
          obtain ⟨c0, c1, c2, c3, c4⟩ := HT2.out.2.1.cells
          obtain ⟨g0, g1, g2, g3, g4⟩ := HT2.out.2.2.1.cells
          clear hb2 HT1
          go_wp2_with fail
          refine (HNb.out _).mono ?_
          rintro x w3 ⟨rfl, hb3⟩
          have HT3 : Hid (TQ w b1 1 na ea sa 1 nb eb sb ng w3) := HT2.out.next hb3
          clear a0 a1 a2 a3 a4 c0 c1 c2 c3 c4 g0 g1 g2 g3 g4
          obtain ⟨a0, a1, a2, a3, a4⟩ := HT3.out.1.cells
          obtain ⟨c0, c1, c2, c3, c4⟩ := HT3.out.2.1.cells
          obtain ⟨g0, g1, g2, g3, g4⟩ := HT3.out.2.2.1.cells
          clear hb3 HT2
          have hbl0 := build_res 2 ng 0 { data := #[] } 2
          have hbl1 := build_sp 2 ng 0 { data := #[] } 2
          go_wp2
          exact ⟨rfl, by rw [← ERE.out], HT3.out.2.2.2⟩
      | false =>
        rw [if_neg (by rintro (c | c); exact hA c.1; cases c.2), if_neg hA, if_neg hB, if_neg (by decide)] at hRE
        have ERE : Hid (.returned (.tuple #[]) = RE) := hRE
        clear hRE hza hzb hr hrb hA hB
        cases za with
        | true =>
          go_enter Tryz.func54, Tryz.ntmps54
          go_wp2_with fail
          refine (HLm.out _).mono ?_
          rintro x w1 ⟨rfl, hb1⟩
          obtain ⟨hT1, hA1, hB1⟩ := HT.out _ hb1
          obtain ⟨a0, a1, a2, a3, a4⟩ := hA1.cells
          obtain ⟨c0, c1, c2, c3, c4⟩ := hB1.cells
          obtain ⟨a0', a1', a2', a3', a4'⟩ := hT1.1.cells
          obtain ⟨c0', c1', c2', c3', c4'⟩ := hT1.2.1.cells
          have HT1 : Hid (TQ w w1.heap.size 1 na ea sa 1 nb eb sb ng (w1.alloc (.cells #[.int .i64 2, .bool ng, .int .i64 0, .string { data := #[] }] 25))) := hT1
          clear hb1 hT1 hA1 hB1 HT HLm
          go_wp2_with fail
          generalize w1.heap.size = b1 at *
          refine (HNa.out _).mono ?_
          rintro x w2 ⟨rfl, hb2⟩
          have HT2 : Hid (TQ w b1 1 na ea sa 1 nb eb sb ng w2) := HT1.out.next hb2
          clear a0 a1 a2 a3 a4 c0 c1 c2 c3 c4 a0' a1' a2' a3' a4' c0' c1' c2' c3' c4' hng
          obtain ⟨a0, a1, a2, a3, a4⟩ := HT2.out.1.cells
          obtain ⟨c0, c1, c2, c3, c4⟩ := HT2.out.2.1.cells
          obtain ⟨g0, g1, g2, g3, g4⟩ := HT2.out.2.2.1.cells
          clear hb2 HT1
          go_wp2_with fail
          refine (HNb.out _).mono ?_
          rintro x w3 ⟨rfl, hb3⟩
          have HT3 : Hid (TQ w b1 1 na ea sa 1 nb eb sb ng w3) := HT2.out.next hb3
          clear a0 a1 a2 a3 a4 c0 c1 c2 c3 c4 g0 g1 g2 g3 g4
          obtain ⟨a0, a1, a2, a3, a4⟩ := HT3.out.1.cells
          obtain ⟨c0, c1, c2, c3, c4⟩ := HT3.out.2.1.cells
          obtain ⟨g0, g1, g2, g3, g4⟩ := HT3.out.2.2.1.cells
          clear hb3 HT2
          go_wp2_with fail
          refine (HNb.out _).mono ?_
          rintro x w4 ⟨rfl, hb4⟩
          have HT4 : Hid (TQ w b1 1 na ea sa 1 nb eb sb ng w4) := HT3.out.next hb4
          clear a0 a1 a2 a3 a4 c0 c1 c2 c3 c4 g0 g1 g2 g3 g4
          obtain ⟨a0, a1, a2, a3, a4⟩ := HT4.out.1.cells
          obtain ⟨c0, c1, c2, c3, c4⟩ := HT4.out.2.1.cells
          obtain ⟨g0, g1, g2, g3, g4⟩ := HT4.out.2.2.1.cells
          clear hb4 HT3
          go_wp2
          first | go_end0 | refine bodyPost_ret (results_none rfl _ _ _) rfl ?_
          exact ⟨by rw [← ERE.out], HT4.out.2.2.2⟩
        | false =>
          go_enter Tryz.func54, Tryz.ntmps54
          go_wp2_with fail
          refine (HLm.out _).mono ?_
          rintro x w1 ⟨rfl, hb1⟩
          obtain ⟨hT1, hA1, hB1⟩ := HT.out _ hb1
          obtain ⟨a0, a1, a2, a3, a4⟩ := hA1.cells
          obtain ⟨c0, c1, c2, c3, c4⟩ := hB1.cells
          obtain ⟨a0', a1', a2', a3', a4'⟩ := hT1.1.cells
          obtain ⟨c0', c1', c2', c3', c4'⟩ := hT1.2.1.cells
          have HT1 : Hid (TQ w w1.heap.size 1 na ea sa 1 nb eb sb ng (w1.alloc (.cells #[.int .i64 2, .bool ng, .int .i64 0, .string { data := #[] }] 25))) := hT1
          clear hb1 hT1 hA1 hB1 HT HLm
          go_wp2_with fail
          generalize w1.heap.size = b1 at *
          refine (HNa.out _).mono ?_
          rintro x w2 ⟨rfl, hb2⟩
          have HT2 : Hid (TQ w b1 1 na ea sa 1 nb eb sb ng w2) := HT1.out.next hb2
          clear a0 a1 a2 a3 a4 c0 c1 c2 c3 c4 a0' a1' a2' a3' a4' c0' c1' c2' c3' c4' hng
          obtain ⟨a0, a1, a2, a3, a4⟩ := HT2.out.1.cells
          obtain ⟨c0, c1, c2, c3, c4⟩ := HT2.out.2.1.cells
          obtain ⟨g0, g1, g2, g3, g4⟩ := HT2.out.2.2.1.cells
          clear hb2 HT1
          go_wp2_with fail
          refine (HNb.out _).mono ?_
          rintro x w3 ⟨rfl, hb3⟩
          have HT3 : Hid (TQ w b1 1 na ea sa 1 nb eb sb ng w3) := HT2.out.next hb3
          clear a0 a1 a2 a3 a4 c0 c1 c2 c3 c4 g0 g1 g2 g3 g4
          obtain ⟨a0, a1, a2, a3, a4⟩ := HT3.out.1.cells
          obtain ⟨c0, c1, c2, c3, c4⟩ := HT3.out.2.1.cells
          obtain ⟨g0, g1, g2, g3, g4⟩ := HT3.out.2.2.1.cells
          clear hb3 HT2
          go_wp2
          first | go_end0 | refine bodyPost_ret (results_none rfl _ _ _) rfl ?_
          exact ⟨by rw [← ERE.out], HT3.out.2.2.2⟩
end Go.Proofs.YtmndemegiimagarGreatDoor
