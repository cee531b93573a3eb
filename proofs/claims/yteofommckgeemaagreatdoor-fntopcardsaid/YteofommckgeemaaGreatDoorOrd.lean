/-
  Order of the program: Compare, Total; walked.
-/
import Derived.Test.YteofommckgeemaaGreatDoorNbd
import Derived.Test.YteofommckgeemaaGreatDoorNatS
import Derived.Laws.Tables

namespace Go.Proofs.YteofommckgeemaaGreatDoor
open Go.RowKit
set_option linter.unusedVariables false
set_option maxRecDepth 100000
theorem oNan_any (k : Int) (b : Bool) (e : Int) (s : ByteArray) (w : World) : Calls Tryz.prog 180 #[numV k b e s] w fun x w' => x = .returned (.bool ((k == 3) || (k == 4))) ∧ Below w.heap.size w w' := by
  cases h1 : (k == 3) with
  | true =>
    go_enter Tryz.func180, Tryz.ntmps180
    go_wp2
    go_ret
    exact ⟨rfl, (Below.refl _ _).alloc (Nat.le_refl _) _⟩
  | false =>
    go_enter Tryz.func180, Tryz.ntmps180
    go_wp2
    go_ret
    exact ⟨rfl, (Below.refl _ _).alloc (Nat.le_refl _) _⟩
theorem oRight_any (f : Int) (ka : Int) (na : Bool) (ea : Int) (sa : ByteArray) (kb : Int) (nb : Bool) (eb : Int) (sb : ByteArray) (w : World) (hsa : sa.size ≤ 4611686018427387904) (hsb : sb.size ≤ 4611686018427387904) :
    Calls Tryz.prog 179 #[.int .i64 f, numV ka na ea sa, numV kb nb eb sb] w fun x w' => x = .returned (.bool (numB f ka na ea sa && numB f kb nb eb sb)) ∧ Below w.heap.size w w' := by
  have HA : Hid (∀ X, Calls Tryz.prog 152 #[.int .i64 f, numV ka na ea sa] X fun x w' => x = .returned (.bool (numB f ka na ea sa)) ∧ Below X.heap.size X w') := fun X => iNumOk_any f ka na ea sa X hsa
  have HB : Hid (∀ X, Calls Tryz.prog 152 #[.int .i64 f, numV kb nb eb sb] X fun x w' => x = .returned (.bool (numB f kb nb eb sb)) ∧ Below X.heap.size X w') := fun X => iNumOk_any f kb nb eb sb X hsb
  obtain ⟨hN0, hb0, -⟩ := n2o_new w ka na ea sa kb nb eb sb
  have HN : Hid (N2o w.heap.size ka na ea sa kb nb eb sb ((w.alloc (.cells #[.int .i64 ka, .bool na, .int .i64 ea, .string sa] 78)).alloc (.cells #[.int .i64 kb, .bool nb, .int .i64 eb, .string sb] 78)) ∧ Below w.heap.size w ((w.alloc (.cells #[.int .i64 ka, .bool na, .int .i64 ea, .string sa] 78)).alloc (.cells #[.int .i64 kb, .bool nb, .int .i64 eb, .string sb] 78))) := ⟨hN0, hb0⟩
  clear hN0 hb0 hsa hsb
  generalize numB f ka na ea sa = RA at *
  generalize numB f kb nb eb sb = RB at *
  cases RA with
  | false =>
    go_enter Tryz.func179, Tryz.ntmps179
    go_wp2_with fail
    refine (HA.out _).mono ?_
    rintro x w1 ⟨rfl, hb1⟩
    have HB1 := HN.out.2.trans (hb1.mono HN.out.2.size)
    clear hb1 HN HA HB
    go_wp2
    go_ret
    exact ⟨rfl, HB1⟩
  | true =>
    go_enter Tryz.func179, Tryz.ntmps179
    go_wp2_with fail
    refine (HA.out _).mono ?_
    rintro x w1 ⟨rfl, hb1⟩
    have HN1 : Hid (N2o w.heap.size ka na ea sa kb nb eb sb w1 ∧ Below w.heap.size w w1) := ⟨HN.out.1.next hb1, HN.out.2.trans (hb1.mono HN.out.2.size)⟩
    clear hb1 HN HA
    obtain ⟨d0, d1, d2, d3, d4⟩ := HN1.out.1.2.cells
    go_wp2_with fail
    refine (HB.out _).mono ?_
    rintro x w2 ⟨rfl, hb2⟩
    have HB2 := HN1.out.2.trans (hb2.mono HN1.out.2.size)
    clear hb2 HN1 HB d0 d1 d2 d3 d4
    go_wp2
    go_ret
    exact ⟨rfl, HB2⟩
end Go.Proofs.YteofommckgeemaaGreatDoor
namespace Go.Proofs.YteofommckgeemaaGreatDoor
open Go.RowKit
set_option linter.unusedVariables false
set_option maxRecDepth 100000
/-- What Compare and Total tell. -/
def cpR (f : Int) (ka : Int) (na : Bool) (ea : Int) (sa : ByteArray) (kb : Int) (nb : Bool) (eb : Int) (sb : ByteArray) : Int :=
  if numB f ka na ea sa && numB f kb nb eb sb then (if ((ka == 3) || (ka == 4)) || ((kb == 3) || (kb == 4)) then 2 else if nouB ka sa && nouB kb sb then 0 else cmpR false ka na ea sa kb nb eb sb) else 3
theorem oCompare_right (x : Bool) (f : Int) (ka : Int) (na : Bool) (ea : Int) (sa : ByteArray) (kb : Int) (nb : Bool) (eb : Int) (sb : ByteArray) (w : World) (hA : numB f ka na ea sa = true) (hB : numB f kb nb eb sb = true) (hT : KTab w) :
    Calls Tryz.prog 181 #[.agg #[.bool x], numV ka na ea sa, numV kb nb eb sb] w fun r w' => r = .returned (.int .i64 (cmpR x ka na ea sa kb nb eb sb)) ∧ Below w.heap.size w w' := by
  obtain ⟨-, a1, a2, a3, -, -⟩ := numB_bd f ka na ea sa hA
  obtain ⟨-, b1, b2, b3, -, -⟩ := numB_bd f kb nb eb sb hB
  obtain ⟨ka', rfl⟩ : ∃ k : Nat, ka = (k : Int) := ⟨ka.toNat, by omega⟩
  obtain ⟨kb', rfl⟩ : ∃ k : Nat, kb = (k : Int) := ⟨kb.toNat, by omega⟩
  exact oCompare_any x ka' na ea sa kb' nb eb sb w (by omega) (by omega) (by omega) (by omega) (by omega) (by omega) hT
theorem build_ord0 (w : World) : (Instr.build 204 #[]).run Tryz.prog w = .ok (.agg #[.bool false]) w := run_build w _ _ _ (by kernel_rfl)
set_option maxHeartbeats 1000000 in
theorem iCompare_any (f : Int) (ka : Int) (na : Bool) (ea : Int) (sa : ByteArray) (kb : Int) (nb : Bool) (eb : Int) (sb : ByteArray) (w : World) (hsa : sa.size ≤ 4611686018427387904) (hsb : sb.size ≤ 4611686018427387904) (hT : KTab w) :
    Calls Tryz.prog 104 #[.int .i64 f, numV ka na ea sa, numV kb nb eb sb] w fun r w' => r = .returned (.int .i64 (cpR f ka na ea sa kb nb eb sb)) ∧ Below w.heap.size w w' := by
  have HR : Hid (∀ X, Calls Tryz.prog 179 #[.int .i64 f, numV ka na ea sa, numV kb nb eb sb] X fun x w' => x = .returned (.bool (numB f ka na ea sa && numB f kb nb eb sb)) ∧ Below X.heap.size X w') := fun X => oRight_any f ka na ea sa kb nb eb sb X hsa hsb
  have HA : Hid (∀ X, Calls Tryz.prog 180 #[numV ka na ea sa] X fun x w' => x = .returned (.bool ((ka == 3) || (ka == 4))) ∧ Below X.heap.size X w') := fun X => oNan_any ka na ea sa X
  have HB : Hid (∀ X, Calls Tryz.prog 180 #[numV kb nb eb sb] X fun x w' => x = .returned (.bool ((kb == 3) || (kb == 4))) ∧ Below X.heap.size X w') := fun X => oNan_any kb nb eb sb X
  have HOa : Hid (∀ X, Calls Tryz.prog 93 #[numV ka na ea sa] X fun x w' => x = .returned (.bool (nouB ka sa)) ∧ Below X.heap.size X w') := fun X => oNought_any ka na ea sa X
  have HOb : Hid (∀ X, Calls Tryz.prog 93 #[numV kb nb eb sb] X fun x w' => x = .returned (.bool (nouB kb sb)) ∧ Below X.heap.size X w') := fun X => oNought_any kb nb eb sb X
  obtain ⟨hN0, hb0, -⟩ := n2o_new w ka na ea sa kb nb eb sb
  have HN : Hid (N2o w.heap.size ka na ea sa kb nb eb sb ((w.alloc (.cells #[.int .i64 ka, .bool na, .int .i64 ea, .string sa] 78)).alloc (.cells #[.int .i64 kb, .bool nb, .int .i64 eb, .string sb] 78)) ∧ Below w.heap.size w ((w.alloc (.cells #[.int .i64 ka, .bool na, .int .i64 ea, .string sa] 78)).alloc (.cells #[.int .i64 kb, .bool nb, .int .i64 eb, .string sb] 78))) := ⟨hN0, hb0⟩
  have HT : Hid (KTab w) := hT
  clear hN0 hb0 hsa hsb hT
  have HC : Hid ((numB f ka na ea sa && numB f kb nb eb sb) = true → ∀ X, KTab X → Calls Tryz.prog 181 #[.agg #[.bool false], numV ka na ea sa, numV kb nb eb sb] X fun r w' => r = .returned (.int .i64 (cmpR false ka na ea sa kb nb eb sb)) ∧ Below X.heap.size X w') := fun hR X h => oCompare_right false f ka na ea sa kb nb eb sb X (Bool.and_eq_true_iff.1 hR).1 (Bool.and_eq_true_iff.1 hR).2 h
  obtain ⟨RV, hRV⟩ : ∃ v, cpR f ka na ea sa kb nb eb sb = v := ⟨_, rfl⟩
  have HE : Hid ((if numB f ka na ea sa && numB f kb nb eb sb then (if ((ka == 3) || (ka == 4)) || ((kb == 3) || (kb == 4)) then 2 else if nouB ka sa && nouB kb sb then 0 else cmpR false ka na ea sa kb nb eb sb) else 3) = RV) := hRV
  rw [hRV]
  clear hRV
  generalize cmpR false ka na ea sa kb nb eb sb = C at *
  generalize (numB f ka na ea sa && numB f kb nb eb sb) = R at *
  generalize ((ka == 3) || (ka == 4)) = NA at *
  generalize ((kb == 3) || (kb == 4)) = NB at *
  generalize nouB ka sa = ZA at *
  generalize nouB kb sb = ZB at *
  have hbo := build_ord0
  cases R with
  | false =>
    go_enter Tryz.func104, Tryz.ntmps104
    go_wp2_with fail
    refine (HR.out _).mono ?_
    rintro x w1 ⟨rfl, hb1⟩
    have HN1 : Hid (N2o w.heap.size ka na ea sa kb nb eb sb w1 ∧ Below w.heap.size w w1) := ⟨HN.out.1.next hb1, HN.out.2.trans (hb1.mono HN.out.2.size)⟩
    clear hb1 HN
    try clear c0 c1 c2 c3 c4 d0 d1 d2 d3 d4
    obtain ⟨c0, c1, c2, c3, c4⟩ := HN1.out.1.1.cells
    obtain ⟨d0, d1, d2, d3, d4⟩ := HN1.out.1.2.cells
    go_wp2
    go_ret
    exact ⟨by rw [← HE.out]; rfl, HN1.out.2⟩
  | true =>
    cases NA with
    | true =>
      go_enter Tryz.func104, Tryz.ntmps104
      go_wp2_with fail
      refine (HR.out _).mono ?_
      rintro x w1 ⟨rfl, hb1⟩
      have HN1 : Hid (N2o w.heap.size ka na ea sa kb nb eb sb w1 ∧ Below w.heap.size w w1) := ⟨HN.out.1.next hb1, HN.out.2.trans (hb1.mono HN.out.2.size)⟩
      clear hb1 HN
      try clear c0 c1 c2 c3 c4 d0 d1 d2 d3 d4
      obtain ⟨c0, c1, c2, c3, c4⟩ := HN1.out.1.1.cells
      obtain ⟨d0, d1, d2, d3, d4⟩ := HN1.out.1.2.cells
      go_wp2_with fail
      refine (HA.out _).mono ?_
      rintro x w2 ⟨rfl, hb2⟩
      have HN2 : Hid (N2o w.heap.size ka na ea sa kb nb eb sb w2 ∧ Below w.heap.size w w2) := ⟨HN1.out.1.next hb2, HN1.out.2.trans (hb2.mono HN1.out.2.size)⟩
      clear hb2 HN1
      try clear c0 c1 c2 c3 c4 d0 d1 d2 d3 d4
      obtain ⟨c0, c1, c2, c3, c4⟩ := HN2.out.1.1.cells
      obtain ⟨d0, d1, d2, d3, d4⟩ := HN2.out.1.2.cells
      go_wp2
      go_ret
      exact ⟨by rw [← HE.out]; rfl, HN2.out.2⟩
    | false =>
      cases NB with
      | true =>
        go_enter Tryz.func104, Tryz.ntmps104
        go_wp2_with fail
        refine (HR.out _).mono ?_
        rintro x w1 ⟨rfl, hb1⟩
        have HN1 : Hid (N2o w.heap.size ka na ea sa kb nb eb sb w1 ∧ Below w.heap.size w w1) := ⟨HN.out.1.next hb1, HN.out.2.trans (hb1.mono HN.out.2.size)⟩
        clear hb1 HN
        try clear c0 c1 c2 c3 c4 d0 d1 d2 d3 d4
        obtain ⟨c0, c1, c2, c3, c4⟩ := HN1.out.1.1.cells
        obtain ⟨d0, d1, d2, d3, d4⟩ := HN1.out.1.2.cells
        go_wp2_with fail
        refine (HA.out _).mono ?_
        rintro x w2 ⟨rfl, hb2⟩
        have HN2 : Hid (N2o w.heap.size ka na ea sa kb nb eb sb w2 ∧ Below w.heap.size w w2) := ⟨HN1.out.1.next hb2, HN1.out.2.trans (hb2.mono HN1.out.2.size)⟩
        clear hb2 HN1
        try clear c0 c1 c2 c3 c4 d0 d1 d2 d3 d4
        obtain ⟨c0, c1, c2, c3, c4⟩ := HN2.out.1.1.cells
        obtain ⟨d0, d1, d2, d3, d4⟩ := HN2.out.1.2.cells
        go_wp2_with fail
        refine (HB.out _).mono ?_
        rintro x w3 ⟨rfl, hb3⟩
        have HN3 : Hid (N2o w.heap.size ka na ea sa kb nb eb sb w3 ∧ Below w.heap.size w w3) := ⟨HN2.out.1.next hb3, HN2.out.2.trans (hb3.mono HN2.out.2.size)⟩
        clear hb3 HN2
        try clear c0 c1 c2 c3 c4 d0 d1 d2 d3 d4
        obtain ⟨c0, c1, c2, c3, c4⟩ := HN3.out.1.1.cells
        obtain ⟨d0, d1, d2, d3, d4⟩ := HN3.out.1.2.cells
        go_wp2
        go_ret
        exact ⟨by rw [← HE.out]; rfl, HN3.out.2⟩
      | false =>
        cases ZA with
        | false =>
          go_enter Tryz.func104, Tryz.ntmps104
          go_wp2_with fail
          refine (HR.out _).mono ?_
          rintro x w1 ⟨rfl, hb1⟩
          have HN1 : Hid (N2o w.heap.size ka na ea sa kb nb eb sb w1 ∧ Below w.heap.size w w1) := ⟨HN.out.1.next hb1, HN.out.2.trans (hb1.mono HN.out.2.size)⟩
          clear hb1 HN
          try clear c0 c1 c2 c3 c4 d0 d1 d2 d3 d4
          obtain ⟨c0, c1, c2, c3, c4⟩ := HN1.out.1.1.cells
          obtain ⟨d0, d1, d2, d3, d4⟩ := HN1.out.1.2.cells
          go_wp2_with fail
          refine (HA.out _).mono ?_
          rintro x w2 ⟨rfl, hb2⟩
          have HN2 : Hid (N2o w.heap.size ka na ea sa kb nb eb sb w2 ∧ Below w.heap.size w w2) := ⟨HN1.out.1.next hb2, HN1.out.2.trans (hb2.mono HN1.out.2.size)⟩
          clear hb2 HN1
          try clear c0 c1 c2 c3 c4 d0 d1 d2 d3 d4
          obtain ⟨c0, c1, c2, c3, c4⟩ := HN2.out.1.1.cells
          obtain ⟨d0, d1, d2, d3, d4⟩ := HN2.out.1.2.cells
          go_wp2_with fail
          refine (HB.out _).mono ?_
          rintro x w3 ⟨rfl, hb3⟩
          have HN3 : Hid (N2o w.heap.size ka na ea sa kb nb eb sb w3 ∧ Below w.heap.size w w3) := ⟨HN2.out.1.next hb3, HN2.out.2.trans (hb3.mono HN2.out.2.size)⟩
          clear hb3 HN2
          try clear c0 c1 c2 c3 c4 d0 d1 d2 d3 d4
          obtain ⟨c0, c1, c2, c3, c4⟩ := HN3.out.1.1.cells
          obtain ⟨d0, d1, d2, d3, d4⟩ := HN3.out.1.2.cells
          go_wp2_with fail
          refine (HOa.out _).mono ?_
          rintro x w4 ⟨rfl, hb4⟩
          have HN4 : Hid (N2o w.heap.size ka na ea sa kb nb eb sb w4 ∧ Below w.heap.size w w4) := ⟨HN3.out.1.next hb4, HN3.out.2.trans (hb4.mono HN3.out.2.size)⟩
          clear hb4 HN3
          try clear c0 c1 c2 c3 c4 d0 d1 d2 d3 d4
          obtain ⟨c0, c1, c2, c3, c4⟩ := HN4.out.1.1.cells
          obtain ⟨d0, d1, d2, d3, d4⟩ := HN4.out.1.2.cells
          go_wp2_with fail
          refine (HC.out (by first | exact trivial | rfl) _ (HT.out.next HN4.out.2)).mono ?_
          rintro x w5 ⟨rfl, hb5⟩
          have HN5 : Hid (N2o w.heap.size ka na ea sa kb nb eb sb w5 ∧ Below w.heap.size w w5) := ⟨HN4.out.1.next hb5, HN4.out.2.trans (hb5.mono HN4.out.2.size)⟩
          clear hb5 HN4
          try clear c0 c1 c2 c3 c4 d0 d1 d2 d3 d4
          obtain ⟨c0, c1, c2, c3, c4⟩ := HN5.out.1.1.cells
          obtain ⟨d0, d1, d2, d3, d4⟩ := HN5.out.1.2.cells
          go_wp2
          go_ret
          exact ⟨by rw [← HE.out]; rfl, HN5.out.2⟩
        | true =>
          cases ZB with
          | false =>
            go_enter Tryz.func104, Tryz.ntmps104
            go_wp2_with fail
            refine (HR.out _).mono ?_
            rintro x w1 ⟨rfl, hb1⟩
            have HN1 : Hid (N2o w.heap.size ka na ea sa kb nb eb sb w1 ∧ Below w.heap.size w w1) := ⟨HN.out.1.next hb1, HN.out.2.trans (hb1.mono HN.out.2.size)⟩
            clear hb1 HN
            try clear c0 c1 c2 c3 c4 d0 d1 d2 d3 d4
            obtain ⟨c0, c1, c2, c3, c4⟩ := HN1.out.1.1.cells
            obtain ⟨d0, d1, d2, d3, d4⟩ := HN1.out.1.2.cells
            go_wp2_with fail
            refine (HA.out _).mono ?_
            rintro x w2 ⟨rfl, hb2⟩
            have HN2 : Hid (N2o w.heap.size ka na ea sa kb nb eb sb w2 ∧ Below w.heap.size w w2) := ⟨HN1.out.1.next hb2, HN1.out.2.trans (hb2.mono HN1.out.2.size)⟩
            clear hb2 HN1
            try clear c0 c1 c2 c3 c4 d0 d1 d2 d3 d4
            obtain ⟨c0, c1, c2, c3, c4⟩ := HN2.out.1.1.cells
            obtain ⟨d0, d1, d2, d3, d4⟩ := HN2.out.1.2.cells
            go_wp2_with fail
            refine (HB.out _).mono ?_
            rintro x w3 ⟨rfl, hb3⟩
            have HN3 : Hid (N2o w.heap.size ka na ea sa kb nb eb sb w3 ∧ Below w.heap.size w w3) := ⟨HN2.out.1.next hb3, HN2.out.2.trans (hb3.mono HN2.out.2.size)⟩
            clear hb3 HN2
            try clear c0 c1 c2 c3 c4 d0 d1 d2 d3 d4
            obtain ⟨c0, c1, c2, c3, c4⟩ := HN3.out.1.1.cells
            obtain ⟨d0, d1, d2, d3, d4⟩ := HN3.out.1.2.cells
            go_wp2_with fail
            refine (HOa.out _).mono ?_
            rintro x w4 ⟨rfl, hb4⟩
            have HN4 : Hid (N2o w.heap.size ka na ea sa kb nb eb sb w4 ∧ Below w.heap.size w w4) := ⟨HN3.out.1.next hb4, HN3.out.2.trans (hb4.mono HN3.out.2.size)⟩
            clear hb4 HN3
            try clear c0 c1 c2 c3 c4 d0 d1 d2 d3 d4
            obtain ⟨c0, c1, c2, c3, c4⟩ := HN4.out.1.1.cells
            obtain ⟨d0, d1, d2, d3, d4⟩ := HN4.out.1.2.cells
            go_wp2_with fail
            refine (HOb.out _).mono ?_
            rintro x w5 ⟨rfl, hb5⟩
            have HN5 : Hid (N2o w.heap.size ka na ea sa kb nb eb sb w5 ∧ Below w.heap.size w w5) := ⟨HN4.out.1.next hb5, HN4.out.2.trans (hb5.mono HN4.out.2.size)⟩
            clear hb5 HN4
            try clear c0 c1 c2 c3 c4 d0 d1 d2 d3 d4
            obtain ⟨c0, c1, c2, c3, c4⟩ := HN5.out.1.1.cells
            obtain ⟨d0, d1, d2, d3, d4⟩ := HN5.out.1.2.cells
            go_wp2_with fail
            refine (HC.out (by first | exact trivial | rfl) _ (HT.out.next HN5.out.2)).mono ?_
            rintro x w6 ⟨rfl, hb6⟩
            have HN6 : Hid (N2o w.heap.size ka na ea sa kb nb eb sb w6 ∧ Below w.heap.size w w6) := ⟨HN5.out.1.next hb6, HN5.out.2.trans (hb6.mono HN5.out.2.size)⟩
            clear hb6 HN5
            try clear c0 c1 c2 c3 c4 d0 d1 d2 d3 d4
            obtain ⟨c0, c1, c2, c3, c4⟩ := HN6.out.1.1.cells
            obtain ⟨d0, d1, d2, d3, d4⟩ := HN6.out.1.2.cells
            go_wp2
            go_ret
            exact ⟨by rw [← HE.out]; rfl, HN6.out.2⟩
          | true =>
            go_enter Tryz.func104, Tryz.ntmps104
            go_wp2_with fail
            refine (HR.out _).mono ?_
            rintro x w1 ⟨rfl, hb1⟩
            have HN1 : Hid (N2o w.heap.size ka na ea sa kb nb eb sb w1 ∧ Below w.heap.size w w1) := ⟨HN.out.1.next hb1, HN.out.2.trans (hb1.mono HN.out.2.size)⟩
            clear hb1 HN
            try clear c0 c1 c2 c3 c4 d0 d1 d2 d3 d4
            obtain ⟨c0, c1, c2, c3, c4⟩ := HN1.out.1.1.cells
            obtain ⟨d0, d1, d2, d3, d4⟩ := HN1.out.1.2.cells
            go_wp2_with fail
            refine (HA.out _).mono ?_
            rintro x w2 ⟨rfl, hb2⟩
            have HN2 : Hid (N2o w.heap.size ka na ea sa kb nb eb sb w2 ∧ Below w.heap.size w w2) := ⟨HN1.out.1.next hb2, HN1.out.2.trans (hb2.mono HN1.out.2.size)⟩
            clear hb2 HN1
            try clear c0 c1 c2 c3 c4 d0 d1 d2 d3 d4
            obtain ⟨c0, c1, c2, c3, c4⟩ := HN2.out.1.1.cells
            obtain ⟨d0, d1, d2, d3, d4⟩ := HN2.out.1.2.cells
            go_wp2_with fail
            refine (HB.out _).mono ?_
            rintro x w3 ⟨rfl, hb3⟩
            have HN3 : Hid (N2o w.heap.size ka na ea sa kb nb eb sb w3 ∧ Below w.heap.size w w3) := ⟨HN2.out.1.next hb3, HN2.out.2.trans (hb3.mono HN2.out.2.size)⟩
            clear hb3 HN2
            try clear c0 c1 c2 c3 c4 d0 d1 d2 d3 d4
            obtain ⟨c0, c1, c2, c3, c4⟩ := HN3.out.1.1.cells
            obtain ⟨d0, d1, d2, d3, d4⟩ := HN3.out.1.2.cells
            go_wp2_with fail
            refine (HOa.out _).mono ?_
            rintro x w4 ⟨rfl, hb4⟩
            have HN4 : Hid (N2o w.heap.size ka na ea sa kb nb eb sb w4 ∧ Below w.heap.size w w4) := ⟨HN3.out.1.next hb4, HN3.out.2.trans (hb4.mono HN3.out.2.size)⟩
            clear hb4 HN3
            try clear c0 c1 c2 c3 c4 d0 d1 d2 d3 d4
            obtain ⟨c0, c1, c2, c3, c4⟩ := HN4.out.1.1.cells
            obtain ⟨d0, d1, d2, d3, d4⟩ := HN4.out.1.2.cells
            go_wp2_with fail
            refine (HOb.out _).mono ?_
            rintro x w5 ⟨rfl, hb5⟩
            have HN5 : Hid (N2o w.heap.size ka na ea sa kb nb eb sb w5 ∧ Below w.heap.size w w5) := ⟨HN4.out.1.next hb5, HN4.out.2.trans (hb5.mono HN4.out.2.size)⟩
            clear hb5 HN4
            try clear c0 c1 c2 c3 c4 d0 d1 d2 d3 d4
            obtain ⟨c0, c1, c2, c3, c4⟩ := HN5.out.1.1.cells
            obtain ⟨d0, d1, d2, d3, d4⟩ := HN5.out.1.2.cells
            go_wp2
            go_ret
            exact ⟨by rw [← HE.out]; rfl, HN5.out.2⟩
end Go.Proofs.YteofommckgeemaaGreatDoor
