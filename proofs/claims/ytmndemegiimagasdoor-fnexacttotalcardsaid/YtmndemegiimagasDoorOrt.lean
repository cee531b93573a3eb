/-
  Order of the model: Compare, Total; walked.
-/
import Derived.Test.YtmndemegiimagasDoorOrs
import Derived.Test.YtmndemegiimagasDoorOrm
import Derived.Test.YtmndemegiimagasDoorOrd
namespace Go.Proofs.YtmndemegiimagasDoor
open Go.RowKit
set_option linter.unusedVariables false
set_option maxHeartbeats 1000000 in
theorem sCompare_any (f : Int) (ka : Int) (na : Bool) (ea : Int) (sa : ByteArray) (kb : Int) (nb : Bool) (eb : Int) (sb : ByteArray) (w : World) (hsa : sa.size ≤ 4611686018427387904) (hsb : sb.size ≤ 4611686018427387904) :
    Calls Tryd.prog 6 #[.int .i64 f, numV ka na ea sa, numV kb nb eb sb] w fun x w' => x = .returned (.int .i64 (cpR f ka na ea sa kb nb eb sb)) ∧ Below w.heap.size w w' := by
  have HA : Hid (∀ X, Calls Tryd.prog 11 #[.int .i64 f, numV ka na ea sa] X fun x w' => x = .returned (.bool (numB f ka na ea sa)) ∧ Below X.heap.size X w') := fun X => sNumOk_any f ka na ea sa X hsa
  have HB : Hid (∀ X, Calls Tryd.prog 11 #[.int .i64 f, numV kb nb eb sb] X fun x w' => x = .returned (.bool (numB f kb nb eb sb)) ∧ Below X.heap.size X w') := fun X => sNumOk_any f kb nb eb sb X hsb
  have HNa : Hid (∀ X, Calls Tryd.prog 12 #[numV ka na ea sa] X fun x w' => x = .returned (.bool ((ka == 3) || (ka == 4))) ∧ Below X.heap.size X w') := fun X => l15IsNan_any ka na ea sa X
  have HNb : Hid (∀ X, Calls Tryd.prog 12 #[numV kb nb eb sb] X fun x w' => x = .returned (.bool ((kb == 3) || (kb == 4))) ∧ Below X.heap.size X w') := fun X => l15IsNan_any kb nb eb sb X
  obtain ⟨hN0, hb0, -⟩ := n2_new w ka na ea sa kb nb eb sb
  have HN : Hid (N2 w.heap.size ka na ea sa kb nb eb sb ((w.alloc (.cells #[.int .i64 ka, .bool na, .int .i64 ea, .string sa] 26)).alloc (.cells #[.int .i64 kb, .bool nb, .int .i64 eb, .string sb] 26)) ∧ Below w.heap.size w ((w.alloc (.cells #[.int .i64 ka, .bool na, .int .i64 ea, .string sa] 26)).alloc (.cells #[.int .i64 kb, .bool nb, .int .i64 eb, .string sb] 26))) := ⟨hN0, hb0⟩
  clear hN0 hb0
  obtain ⟨RV, hRV⟩ : ∃ v, cpR f ka na ea sa kb nb eb sb = v := ⟨_, rfl⟩
  have HE : Hid ((if numB f ka na ea sa && numB f kb nb eb sb then (if ((ka == 3) || (ka == 4)) || ((kb == 3) || (kb == 4)) then 2 else mcV ka na ea sa kb nb eb sb) else 3) = RV) := hRV
  have HC : Hid (numB f ka na ea sa = true → numB f kb nb eb sb = true → ((ka == 3) || (ka == 4)) = false → ((kb == 3) || (kb == 4)) = false → ∀ X, Calls Tryd.prog 13 #[numV ka na ea sa, numV kb nb eb sb] X fun r w' => r = .returned (.int .i64 (mcV ka na ea sa kb nb eb sb)) ∧ Below X.heap.size X w') := fun a b h1 h2 X => by
    obtain ⟨-, k1, -⟩ := numB_bd f ka na ea sa a
    obtain ⟨-, k2, -⟩ := numB_bd f kb nb eb sb b
    simp only [Bool.or_eq_false_iff, beq_eq_false_iff_ne] at h1 h2
    exact l15Cmp_any f ka na ea sa kb nb eb sb X a b (by omega) (by omega)
  rw [hRV]
  clear hRV hsa hsb
  generalize mcV ka na ea sa kb nb eb sb = MC at *
  generalize numB f ka na ea sa = RA at *
  generalize numB f kb nb eb sb = RB at *
  generalize ((ka == 3) || (ka == 4)) = NA at *
  generalize ((kb == 3) || (kb == 4)) = NB at *
  cases RA with
  | false =>
    have E : 3 = RV := HE.out
    subst E
    clear HE HC
    go_enter Tryd.func6, Tryd.ntmps6
    go_wp2_with fail
    refine (HA.out _).mono ?_
    rintro x w1 ⟨rfl, hb1⟩
    have HN1 : Hid (N2 w.heap.size ka na ea sa kb nb eb sb w1 ∧ Below w.heap.size w w1) := ⟨HN.out.1.next hb1, HN.out.2.trans (hb1.mono HN.out.2.size)⟩
    clear hb1 HN
    try clear c0 c1 c2 c3 c4 d0 d1 d2 d3 d4
    obtain ⟨c0, c1, c2, c3, c4⟩ := HN1.out.1.1.cells
    obtain ⟨d0, d1, d2, d3, d4⟩ := HN1.out.1.2.cells
    go_wp2
    go_ret
    exact ⟨rfl, HN1.out.2⟩
  | true =>
    cases RB with
    | false =>
      have E : 3 = RV := HE.out
      subst E
      clear HE HC
      go_enter Tryd.func6, Tryd.ntmps6
      go_wp2_with fail
      refine (HA.out _).mono ?_
      rintro x w1 ⟨rfl, hb1⟩
      have HN1 : Hid (N2 w.heap.size ka na ea sa kb nb eb sb w1 ∧ Below w.heap.size w w1) := ⟨HN.out.1.next hb1, HN.out.2.trans (hb1.mono HN.out.2.size)⟩
      clear hb1 HN
      try clear c0 c1 c2 c3 c4 d0 d1 d2 d3 d4
      obtain ⟨c0, c1, c2, c3, c4⟩ := HN1.out.1.1.cells
      obtain ⟨d0, d1, d2, d3, d4⟩ := HN1.out.1.2.cells
      go_wp2_with fail
      refine (HB.out _).mono ?_
      rintro x w2 ⟨rfl, hb2⟩
      have HN2 : Hid (N2 w.heap.size ka na ea sa kb nb eb sb w2 ∧ Below w.heap.size w w2) := ⟨HN1.out.1.next hb2, HN1.out.2.trans (hb2.mono HN1.out.2.size)⟩
      clear hb2 HN1
      try clear c0 c1 c2 c3 c4 d0 d1 d2 d3 d4
      obtain ⟨c0, c1, c2, c3, c4⟩ := HN2.out.1.1.cells
      obtain ⟨d0, d1, d2, d3, d4⟩ := HN2.out.1.2.cells
      go_wp2
      go_ret
      exact ⟨rfl, HN2.out.2⟩
    | true =>
      cases NA with
      | true =>
        have E : 2 = RV := HE.out
        subst E
        clear HE HC
        go_enter Tryd.func6, Tryd.ntmps6
        go_wp2_with fail
        refine (HA.out _).mono ?_
        rintro x w1 ⟨rfl, hb1⟩
        have HN1 : Hid (N2 w.heap.size ka na ea sa kb nb eb sb w1 ∧ Below w.heap.size w w1) := ⟨HN.out.1.next hb1, HN.out.2.trans (hb1.mono HN.out.2.size)⟩
        clear hb1 HN
        try clear c0 c1 c2 c3 c4 d0 d1 d2 d3 d4
        obtain ⟨c0, c1, c2, c3, c4⟩ := HN1.out.1.1.cells
        obtain ⟨d0, d1, d2, d3, d4⟩ := HN1.out.1.2.cells
        go_wp2_with fail
        refine (HB.out _).mono ?_
        rintro x w2 ⟨rfl, hb2⟩
        have HN2 : Hid (N2 w.heap.size ka na ea sa kb nb eb sb w2 ∧ Below w.heap.size w w2) := ⟨HN1.out.1.next hb2, HN1.out.2.trans (hb2.mono HN1.out.2.size)⟩
        clear hb2 HN1
        try clear c0 c1 c2 c3 c4 d0 d1 d2 d3 d4
        obtain ⟨c0, c1, c2, c3, c4⟩ := HN2.out.1.1.cells
        obtain ⟨d0, d1, d2, d3, d4⟩ := HN2.out.1.2.cells
        go_wp2_with fail
        refine (HNa.out _).mono ?_
        rintro x w3 ⟨rfl, hb3⟩
        have HN3 : Hid (N2 w.heap.size ka na ea sa kb nb eb sb w3 ∧ Below w.heap.size w w3) := ⟨HN2.out.1.next hb3, HN2.out.2.trans (hb3.mono HN2.out.2.size)⟩
        clear hb3 HN2
        try clear c0 c1 c2 c3 c4 d0 d1 d2 d3 d4
        obtain ⟨c0, c1, c2, c3, c4⟩ := HN3.out.1.1.cells
        obtain ⟨d0, d1, d2, d3, d4⟩ := HN3.out.1.2.cells
        go_wp2
        go_ret
        exact ⟨rfl, HN3.out.2⟩
      | false =>
        cases NB with
        | true =>
          have E : 2 = RV := HE.out
          subst E
          clear HE HC
          go_enter Tryd.func6, Tryd.ntmps6
          go_wp2_with fail
          refine (HA.out _).mono ?_
          rintro x w1 ⟨rfl, hb1⟩
          have HN1 : Hid (N2 w.heap.size ka na ea sa kb nb eb sb w1 ∧ Below w.heap.size w w1) := ⟨HN.out.1.next hb1, HN.out.2.trans (hb1.mono HN.out.2.size)⟩
          clear hb1 HN
          try clear c0 c1 c2 c3 c4 d0 d1 d2 d3 d4
          obtain ⟨c0, c1, c2, c3, c4⟩ := HN1.out.1.1.cells
          obtain ⟨d0, d1, d2, d3, d4⟩ := HN1.out.1.2.cells
          go_wp2_with fail
          refine (HB.out _).mono ?_
          rintro x w2 ⟨rfl, hb2⟩
          have HN2 : Hid (N2 w.heap.size ka na ea sa kb nb eb sb w2 ∧ Below w.heap.size w w2) := ⟨HN1.out.1.next hb2, HN1.out.2.trans (hb2.mono HN1.out.2.size)⟩
          clear hb2 HN1
          try clear c0 c1 c2 c3 c4 d0 d1 d2 d3 d4
          obtain ⟨c0, c1, c2, c3, c4⟩ := HN2.out.1.1.cells
          obtain ⟨d0, d1, d2, d3, d4⟩ := HN2.out.1.2.cells
          go_wp2_with fail
          refine (HNa.out _).mono ?_
          rintro x w3 ⟨rfl, hb3⟩
          have HN3 : Hid (N2 w.heap.size ka na ea sa kb nb eb sb w3 ∧ Below w.heap.size w w3) := ⟨HN2.out.1.next hb3, HN2.out.2.trans (hb3.mono HN2.out.2.size)⟩
          clear hb3 HN2
          try clear c0 c1 c2 c3 c4 d0 d1 d2 d3 d4
          obtain ⟨c0, c1, c2, c3, c4⟩ := HN3.out.1.1.cells
          obtain ⟨d0, d1, d2, d3, d4⟩ := HN3.out.1.2.cells
          go_wp2_with fail
          refine (HNb.out _).mono ?_
          rintro x w4 ⟨rfl, hb4⟩
          have HN4 : Hid (N2 w.heap.size ka na ea sa kb nb eb sb w4 ∧ Below w.heap.size w w4) := ⟨HN3.out.1.next hb4, HN3.out.2.trans (hb4.mono HN3.out.2.size)⟩
          clear hb4 HN3
          try clear c0 c1 c2 c3 c4 d0 d1 d2 d3 d4
          obtain ⟨c0, c1, c2, c3, c4⟩ := HN4.out.1.1.cells
          obtain ⟨d0, d1, d2, d3, d4⟩ := HN4.out.1.2.cells
          go_wp2
          go_ret
          exact ⟨rfl, HN4.out.2⟩
        | false =>
          have E : MC = RV := HE.out
          subst E
          have HC1 : Hid (∀ X, Calls Tryd.prog 13 #[numV ka na ea sa, numV kb nb eb sb] X fun r w' => r = .returned (.int .i64 MC) ∧ Below X.heap.size X w') := HC.out rfl rfl rfl rfl
          clear HE HC
          go_enter Tryd.func6, Tryd.ntmps6
          go_wp2_with fail
          refine (HA.out _).mono ?_
          rintro x w1 ⟨rfl, hb1⟩
          have HN1 : Hid (N2 w.heap.size ka na ea sa kb nb eb sb w1 ∧ Below w.heap.size w w1) := ⟨HN.out.1.next hb1, HN.out.2.trans (hb1.mono HN.out.2.size)⟩
          clear hb1 HN
          try clear c0 c1 c2 c3 c4 d0 d1 d2 d3 d4
          obtain ⟨c0, c1, c2, c3, c4⟩ := HN1.out.1.1.cells
          obtain ⟨d0, d1, d2, d3, d4⟩ := HN1.out.1.2.cells
          go_wp2_with fail
          refine (HB.out _).mono ?_
          rintro x w2 ⟨rfl, hb2⟩
          have HN2 : Hid (N2 w.heap.size ka na ea sa kb nb eb sb w2 ∧ Below w.heap.size w w2) := ⟨HN1.out.1.next hb2, HN1.out.2.trans (hb2.mono HN1.out.2.size)⟩
          clear hb2 HN1
          try clear c0 c1 c2 c3 c4 d0 d1 d2 d3 d4
          obtain ⟨c0, c1, c2, c3, c4⟩ := HN2.out.1.1.cells
          obtain ⟨d0, d1, d2, d3, d4⟩ := HN2.out.1.2.cells
          go_wp2_with fail
          refine (HNa.out _).mono ?_
          rintro x w3 ⟨rfl, hb3⟩
          have HN3 : Hid (N2 w.heap.size ka na ea sa kb nb eb sb w3 ∧ Below w.heap.size w w3) := ⟨HN2.out.1.next hb3, HN2.out.2.trans (hb3.mono HN2.out.2.size)⟩
          clear hb3 HN2
          try clear c0 c1 c2 c3 c4 d0 d1 d2 d3 d4
          obtain ⟨c0, c1, c2, c3, c4⟩ := HN3.out.1.1.cells
          obtain ⟨d0, d1, d2, d3, d4⟩ := HN3.out.1.2.cells
          go_wp2_with fail
          refine (HNb.out _).mono ?_
          rintro x w4 ⟨rfl, hb4⟩
          have HN4 : Hid (N2 w.heap.size ka na ea sa kb nb eb sb w4 ∧ Below w.heap.size w w4) := ⟨HN3.out.1.next hb4, HN3.out.2.trans (hb4.mono HN3.out.2.size)⟩
          clear hb4 HN3
          try clear c0 c1 c2 c3 c4 d0 d1 d2 d3 d4
          obtain ⟨c0, c1, c2, c3, c4⟩ := HN4.out.1.1.cells
          obtain ⟨d0, d1, d2, d3, d4⟩ := HN4.out.1.2.cells
          go_wp2_with fail
          refine (HC1.out _).mono ?_
          rintro x w5 ⟨rfl, hb5⟩
          have HN5 : Hid (N2 w.heap.size ka na ea sa kb nb eb sb w5 ∧ Below w.heap.size w w5) := ⟨HN4.out.1.next hb5, HN4.out.2.trans (hb5.mono HN4.out.2.size)⟩
          clear hb5 HN4
          try clear c0 c1 c2 c3 c4 d0 d1 d2 d3 d4
          obtain ⟨c0, c1, c2, c3, c4⟩ := HN5.out.1.1.cells
          obtain ⟨d0, d1, d2, d3, d4⟩ := HN5.out.1.2.cells
          go_wp2
          go_ret
          exact ⟨rfl, HN5.out.2⟩
end Go.Proofs.YtmndemegiimagasDoor
