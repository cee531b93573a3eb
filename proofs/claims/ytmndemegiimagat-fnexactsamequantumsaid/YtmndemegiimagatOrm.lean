/-
  Order of the model: NaNs, quanta; walked.
-/
import Derived.Test.YtmndemegiimagatOrn
namespace Go.Proofs.Ytmndemegiimagat
open Go.RowKit
set_option linter.unusedVariables false
theorem l15IsNan_any (k : Int) (b : Bool) (e : Int) (s : ByteArray) (w : World) : Calls Try.prog 19 #[numV k b e s] w fun x w' => x = .returned (.bool ((k == 3) || (k == 4))) ∧ Below w.heap.size w w' := by
  cases h1 : (k == 3) with
  | true =>
    go_enter Try.func19, Try.ntmps19
    go_wp2
    go_ret
    exact ⟨rfl, (Below.refl _ _).alloc (Nat.le_refl _) _⟩
  | false =>
    go_enter Try.func19, Try.ntmps19
    go_wp2
    go_ret
    exact ⟨rfl, (Below.refl _ _).alloc (Nat.le_refl _) _⟩
theorem sq_nan (f : Int) (ka : Int) (na : Bool) (ea : Int) (sa : ByteArray) (kb : Int) (nb : Bool) (eb : Int) (sb : ByteArray) (hA : numB f ka na ea sa = true) (hB : numB f kb nb eb sb = true) (h : ((ka == 3) || (ka == 4)) = true ∨ ((kb == 3) || (kb == 4)) = true) : sqR f ka na ea sa kb nb eb sb = (((ka == 3) || (ka == 4)) && ((kb == 3) || (kb == 4))) := by
  obtain ⟨-, -, -, -, a4, -⟩ := numB_bd f ka na ea sa hA
  obtain ⟨-, -, -, -, b4, -⟩ := numB_bd f kb nb eb sb hB
  unfold sqR
  rw [hA, hB]
  simp only [Bool.or_eq_true, beq_iff_eq] at h
  by_cases hk : ka = kb
  · subst hk
    rw [(a4 (by omega)).1, (b4 (by omega)).1]
    have : ((ka == 3) || (ka == 4)) = true := by simp only [Bool.or_eq_true, beq_iff_eq]; omega
    rw [this]; simp
  · have hkb : (ka == kb) = false := beq_eq_false_iff_ne.2 hk
    rw [hkb]
    cases hx : (((ka == 3) || (ka == 4)) && ((kb == 3) || (kb == 4)))
    · simp
    · simp only [Bool.and_eq_true, Bool.or_eq_true, beq_iff_eq] at hx
      rw [(a4 (by omega)).1, (b4 (by omega)).1]; rfl
theorem sSame_any (f : Int) (ka : Int) (na : Bool) (ea : Int) (sa : ByteArray) (kb : Int) (nb : Bool) (eb : Int) (sb : ByteArray) (w : World) (hsa : sa.size ≤ 4611686018427387904) (hsb : sb.size ≤ 4611686018427387904) :
    Calls Try.prog 7 #[.int .i64 f, numV ka na ea sa, numV kb nb eb sb] w fun x w' => x = .returned (.bool (sqR f ka na ea sa kb nb eb sb)) ∧ Below w.heap.size w w' := by
  have HA : Hid (∀ X, Calls Try.prog 18 #[.int .i64 f, numV ka na ea sa] X fun x w' => x = .returned (.bool (numB f ka na ea sa)) ∧ Below X.heap.size X w') := fun X => sNumOk_any f ka na ea sa X hsa
  have HB : Hid (∀ X, Calls Try.prog 18 #[.int .i64 f, numV kb nb eb sb] X fun x w' => x = .returned (.bool (numB f kb nb eb sb)) ∧ Below X.heap.size X w') := fun X => sNumOk_any f kb nb eb sb X hsb
  have HNa : Hid (∀ X, Calls Try.prog 19 #[numV ka na ea sa] X fun x w' => x = .returned (.bool ((ka == 3) || (ka == 4))) ∧ Below X.heap.size X w') := fun X => l15IsNan_any ka na ea sa X
  have HNb : Hid (∀ X, Calls Try.prog 19 #[numV kb nb eb sb] X fun x w' => x = .returned (.bool ((kb == 3) || (kb == 4))) ∧ Below X.heap.size X w') := fun X => l15IsNan_any kb nb eb sb X
  obtain ⟨hN0, hb0, -⟩ := n2_new w ka na ea sa kb nb eb sb
  have HN : Hid (N2 w.heap.size ka na ea sa kb nb eb sb ((w.alloc (.cells #[.int .i64 ka, .bool na, .int .i64 ea, .string sa] 26)).alloc (.cells #[.int .i64 kb, .bool nb, .int .i64 eb, .string sb] 26)) ∧ Below w.heap.size w ((w.alloc (.cells #[.int .i64 ka, .bool na, .int .i64 ea, .string sa] 26)).alloc (.cells #[.int .i64 kb, .bool nb, .int .i64 eb, .string sb] 26))) := ⟨hN0, hb0⟩
  clear hN0 hb0
  obtain ⟨RV, hRV⟩ : ∃ v, sqR f ka na ea sa kb nb eb sb = v := ⟨_, rfl⟩
  have H1 : Hid ((numB f ka na ea sa && numB f kb nb eb sb) = false → RV = false) := fun h => by rw [← hRV]; unfold sqR; rw [h]; rfl
  have H2 : Hid (numB f ka na ea sa = true → numB f kb nb eb sb = true → ((ka == 3) || (ka == 4)) = true ∨ ((kb == 3) || (kb == 4)) = true → RV = (((ka == 3) || (ka == 4)) && ((kb == 3) || (kb == 4)))) := fun a b h => by rw [← hRV]; exact sq_nan f ka na ea sa kb nb eb sb a b h
  have H3 : Hid (numB f ka na ea sa = true → numB f kb nb eb sb = true → ((ka == 3) || (ka == 4)) = false → RV = ((ea == eb) && (ka == kb))) := fun a b h => by rw [← hRV]; unfold sqR; rw [a, b, h]; simp
  rw [hRV]
  clear hRV hsa hsb
  generalize numB f ka na ea sa = RA at *
  generalize numB f kb nb eb sb = RB at *
  generalize ((ka == 3) || (ka == 4)) = NA at *
  generalize ((kb == 3) || (kb == 4)) = NB at *
  cases RA with
  | false =>
    have E : RV = false := H1.out rfl
    subst E
    clear H1 H2 H3
    go_enter Try.func7, Try.ntmps7
    go_wp2_with fail
    refine (HA.out _).mono ?_
    rintro x w1 ⟨rfl, hb1⟩
    have HN1 : Hid (N2 w.heap.size ka na ea sa kb nb eb sb w1 ∧ Below w.heap.size w w1) := ⟨HN.out.1.next hb1, HN.out.2.trans (hb1.mono HN.out.2.size)⟩
    clear hb1 HN
    try clear c0 c1 c2 c3 c4 d0 d1 d2 d3 d4
    obtain ⟨c0, c1, c2, c3, c4⟩ := HN1.out.1.1.cells
    obtain ⟨d0, d1, d2, d3, d4⟩ := HN1.out.1.2.cells
    go_wp2
    go_ret
    exact ⟨rfl, HN1.out.2⟩
  | true =>
    cases RB with
    | false =>
      have E : RV = false := H1.out rfl
      subst E
      clear H1 H2 H3
      go_enter Try.func7, Try.ntmps7
      go_wp2_with fail
      refine (HA.out _).mono ?_
      rintro x w1 ⟨rfl, hb1⟩
      have HN1 : Hid (N2 w.heap.size ka na ea sa kb nb eb sb w1 ∧ Below w.heap.size w w1) := ⟨HN.out.1.next hb1, HN.out.2.trans (hb1.mono HN.out.2.size)⟩
      clear hb1 HN
      try clear c0 c1 c2 c3 c4 d0 d1 d2 d3 d4
      obtain ⟨c0, c1, c2, c3, c4⟩ := HN1.out.1.1.cells
      obtain ⟨d0, d1, d2, d3, d4⟩ := HN1.out.1.2.cells
      go_wp2_with fail
      refine (HB.out _).mono ?_
      rintro x w2 ⟨rfl, hb2⟩
      have HN2 : Hid (N2 w.heap.size ka na ea sa kb nb eb sb w2 ∧ Below w.heap.size w w2) := ⟨HN1.out.1.next hb2, HN1.out.2.trans (hb2.mono HN1.out.2.size)⟩
      clear hb2 HN1
      try clear c0 c1 c2 c3 c4 d0 d1 d2 d3 d4
      obtain ⟨c0, c1, c2, c3, c4⟩ := HN2.out.1.1.cells
      obtain ⟨d0, d1, d2, d3, d4⟩ := HN2.out.1.2.cells
      go_wp2
      go_ret
      exact ⟨rfl, HN2.out.2⟩
    | true =>
      cases NA with
      | true =>
        have E : RV = (true && NB) := H2.out rfl rfl (.inl rfl)
        rw [Bool.true_and] at E
        subst E
        clear H1 H2 H3
        go_enter Try.func7, Try.ntmps7
        go_wp2_with fail
        refine (HA.out _).mono ?_
        rintro x w1 ⟨rfl, hb1⟩
        have HN1 : Hid (N2 w.heap.size ka na ea sa kb nb eb sb w1 ∧ Below w.heap.size w w1) := ⟨HN.out.1.next hb1, HN.out.2.trans (hb1.mono HN.out.2.size)⟩
        clear hb1 HN
        try clear c0 c1 c2 c3 c4 d0 d1 d2 d3 d4
        obtain ⟨c0, c1, c2, c3, c4⟩ := HN1.out.1.1.cells
        obtain ⟨d0, d1, d2, d3, d4⟩ := HN1.out.1.2.cells
        go_wp2_with fail
        refine (HB.out _).mono ?_
        rintro x w2 ⟨rfl, hb2⟩
        have HN2 : Hid (N2 w.heap.size ka na ea sa kb nb eb sb w2 ∧ Below w.heap.size w w2) := ⟨HN1.out.1.next hb2, HN1.out.2.trans (hb2.mono HN1.out.2.size)⟩
        clear hb2 HN1
        try clear c0 c1 c2 c3 c4 d0 d1 d2 d3 d4
        obtain ⟨c0, c1, c2, c3, c4⟩ := HN2.out.1.1.cells
        obtain ⟨d0, d1, d2, d3, d4⟩ := HN2.out.1.2.cells
        go_wp2_with fail
        refine (HNa.out _).mono ?_
        rintro x w3 ⟨rfl, hb3⟩
        have HN3 : Hid (N2 w.heap.size ka na ea sa kb nb eb sb w3 ∧ Below w.heap.size w w3) := ⟨HN2.out.1.next hb3, HN2.out.2.trans (hb3.mono HN2.out.2.size)⟩
        clear hb3 HN2
        try clear c0 c1 c2 c3 c4 d0 d1 d2 d3 d4
        obtain ⟨c0, c1, c2, c3, c4⟩ := HN3.out.1.1.cells
        obtain ⟨d0, d1, d2, d3, d4⟩ := HN3.out.1.2.cells
        go_wp2_with fail
        refine (HNa.out _).mono ?_
        rintro x w4 ⟨rfl, hb4⟩
        have HN4 : Hid (N2 w.heap.size ka na ea sa kb nb eb sb w4 ∧ Below w.heap.size w w4) := ⟨HN3.out.1.next hb4, HN3.out.2.trans (hb4.mono HN3.out.2.size)⟩
        clear hb4 HN3
        try clear c0 c1 c2 c3 c4 d0 d1 d2 d3 d4
        obtain ⟨c0, c1, c2, c3, c4⟩ := HN4.out.1.1.cells
        obtain ⟨d0, d1, d2, d3, d4⟩ := HN4.out.1.2.cells
        go_wp2_with fail
        refine (HNb.out _).mono ?_
        rintro x w5 ⟨rfl, hb5⟩
        have HN5 : Hid (N2 w.heap.size ka na ea sa kb nb eb sb w5 ∧ Below w.heap.size w w5) := ⟨HN4.out.1.next hb5, HN4.out.2.trans (hb5.mono HN4.out.2.size)⟩
        clear hb5 HN4
        try clear c0 c1 c2 c3 c4 d0 d1 d2 d3 d4
        obtain ⟨c0, c1, c2, c3, c4⟩ := HN5.out.1.1.cells
        obtain ⟨d0, d1, d2, d3, d4⟩ := HN5.out.1.2.cells
        go_wp2
        go_ret
        exact ⟨rfl, HN5.out.2⟩
      | false =>
        cases NB with
        | true =>
          have E : RV = false := H2.out rfl rfl (.inr rfl)
          subst E
          clear H1 H2 H3
          go_enter Try.func7, Try.ntmps7
          go_wp2_with fail
          refine (HA.out _).mono ?_
          rintro x w1 ⟨rfl, hb1⟩
          have HN1 : Hid (N2 w.heap.size ka na ea sa kb nb eb sb w1 ∧ Below w.heap.size w w1) := ⟨HN.out.1.next hb1, HN.out.2.trans (hb1.mono HN.out.2.size)⟩
          clear hb1 HN
          try clear c0 c1 c2 c3 c4 d0 d1 d2 d3 d4
          obtain ⟨c0, c1, c2, c3, c4⟩ := HN1.out.1.1.cells
          obtain ⟨d0, d1, d2, d3, d4⟩ := HN1.out.1.2.cells
          go_wp2_with fail
          refine (HB.out _).mono ?_
          rintro x w2 ⟨rfl, hb2⟩
          have HN2 : Hid (N2 w.heap.size ka na ea sa kb nb eb sb w2 ∧ Below w.heap.size w w2) := ⟨HN1.out.1.next hb2, HN1.out.2.trans (hb2.mono HN1.out.2.size)⟩
          clear hb2 HN1
          try clear c0 c1 c2 c3 c4 d0 d1 d2 d3 d4
          obtain ⟨c0, c1, c2, c3, c4⟩ := HN2.out.1.1.cells
          obtain ⟨d0, d1, d2, d3, d4⟩ := HN2.out.1.2.cells
          go_wp2_with fail
          refine (HNa.out _).mono ?_
          rintro x w3 ⟨rfl, hb3⟩
          have HN3 : Hid (N2 w.heap.size ka na ea sa kb nb eb sb w3 ∧ Below w.heap.size w w3) := ⟨HN2.out.1.next hb3, HN2.out.2.trans (hb3.mono HN2.out.2.size)⟩
          clear hb3 HN2
          try clear c0 c1 c2 c3 c4 d0 d1 d2 d3 d4
          obtain ⟨c0, c1, c2, c3, c4⟩ := HN3.out.1.1.cells
          obtain ⟨d0, d1, d2, d3, d4⟩ := HN3.out.1.2.cells
          go_wp2_with fail
          refine (HNb.out _).mono ?_
          rintro x w4 ⟨rfl, hb4⟩
          have HN4 : Hid (N2 w.heap.size ka na ea sa kb nb eb sb w4 ∧ Below w.heap.size w w4) := ⟨HN3.out.1.next hb4, HN3.out.2.trans (hb4.mono HN3.out.2.size)⟩
          clear hb4 HN3
          try clear c0 c1 c2 c3 c4 d0 d1 d2 d3 d4
          obtain ⟨c0, c1, c2, c3, c4⟩ := HN4.out.1.1.cells
          obtain ⟨d0, d1, d2, d3, d4⟩ := HN4.out.1.2.cells
          go_wp2_with fail
          refine (HNa.out _).mono ?_
          rintro x w5 ⟨rfl, hb5⟩
          have HN5 : Hid (N2 w.heap.size ka na ea sa kb nb eb sb w5 ∧ Below w.heap.size w w5) := ⟨HN4.out.1.next hb5, HN4.out.2.trans (hb5.mono HN4.out.2.size)⟩
          clear hb5 HN4
          try clear c0 c1 c2 c3 c4 d0 d1 d2 d3 d4
          obtain ⟨c0, c1, c2, c3, c4⟩ := HN5.out.1.1.cells
          obtain ⟨d0, d1, d2, d3, d4⟩ := HN5.out.1.2.cells
          go_wp2
          go_ret
          exact ⟨rfl, HN5.out.2⟩
        | false =>
          have E : RV = ((ea == eb) && (ka == kb)) := H3.out rfl rfl rfl
          clear H1 H2 H3
          cases hk : (ka == kb) with
          | false =>
            rw [hk, Bool.and_false] at E
            subst E
            go_enter Try.func7, Try.ntmps7
            go_wp2_with fail
            refine (HA.out _).mono ?_
            rintro x w1 ⟨rfl, hb1⟩
            have HN1 : Hid (N2 w.heap.size ka na ea sa kb nb eb sb w1 ∧ Below w.heap.size w w1) := ⟨HN.out.1.next hb1, HN.out.2.trans (hb1.mono HN.out.2.size)⟩
            clear hb1 HN
            try clear c0 c1 c2 c3 c4 d0 d1 d2 d3 d4
            obtain ⟨c0, c1, c2, c3, c4⟩ := HN1.out.1.1.cells
            obtain ⟨d0, d1, d2, d3, d4⟩ := HN1.out.1.2.cells
            go_wp2_with fail
            refine (HB.out _).mono ?_
            rintro x w2 ⟨rfl, hb2⟩
            have HN2 : Hid (N2 w.heap.size ka na ea sa kb nb eb sb w2 ∧ Below w.heap.size w w2) := ⟨HN1.out.1.next hb2, HN1.out.2.trans (hb2.mono HN1.out.2.size)⟩
            clear hb2 HN1
            try clear c0 c1 c2 c3 c4 d0 d1 d2 d3 d4
            obtain ⟨c0, c1, c2, c3, c4⟩ := HN2.out.1.1.cells
            obtain ⟨d0, d1, d2, d3, d4⟩ := HN2.out.1.2.cells
            go_wp2_with fail
            refine (HNa.out _).mono ?_
            rintro x w3 ⟨rfl, hb3⟩
            have HN3 : Hid (N2 w.heap.size ka na ea sa kb nb eb sb w3 ∧ Below w.heap.size w w3) := ⟨HN2.out.1.next hb3, HN2.out.2.trans (hb3.mono HN2.out.2.size)⟩
            clear hb3 HN2
            try clear c0 c1 c2 c3 c4 d0 d1 d2 d3 d4
            obtain ⟨c0, c1, c2, c3, c4⟩ := HN3.out.1.1.cells
            obtain ⟨d0, d1, d2, d3, d4⟩ := HN3.out.1.2.cells
            go_wp2_with fail
            refine (HNb.out _).mono ?_
            rintro x w4 ⟨rfl, hb4⟩
            have HN4 : Hid (N2 w.heap.size ka na ea sa kb nb eb sb w4 ∧ Below w.heap.size w w4) := ⟨HN3.out.1.next hb4, HN3.out.2.trans (hb4.mono HN3.out.2.size)⟩
            clear hb4 HN3
            try clear c0 c1 c2 c3 c4 d0 d1 d2 d3 d4
            obtain ⟨c0, c1, c2, c3, c4⟩ := HN4.out.1.1.cells
            obtain ⟨d0, d1, d2, d3, d4⟩ := HN4.out.1.2.cells
            go_wp2
            go_ret
            exact ⟨rfl, HN4.out.2⟩
          | true =>
            rw [hk, Bool.and_true] at E
            subst E
            go_enter Try.func7, Try.ntmps7
            go_wp2_with fail
            refine (HA.out _).mono ?_
            rintro x w1 ⟨rfl, hb1⟩
            have HN1 : Hid (N2 w.heap.size ka na ea sa kb nb eb sb w1 ∧ Below w.heap.size w w1) := ⟨HN.out.1.next hb1, HN.out.2.trans (hb1.mono HN.out.2.size)⟩
            clear hb1 HN
            try clear c0 c1 c2 c3 c4 d0 d1 d2 d3 d4
            obtain ⟨c0, c1, c2, c3, c4⟩ := HN1.out.1.1.cells
            obtain ⟨d0, d1, d2, d3, d4⟩ := HN1.out.1.2.cells
            go_wp2_with fail
            refine (HB.out _).mono ?_
            rintro x w2 ⟨rfl, hb2⟩
            have HN2 : Hid (N2 w.heap.size ka na ea sa kb nb eb sb w2 ∧ Below w.heap.size w w2) := ⟨HN1.out.1.next hb2, HN1.out.2.trans (hb2.mono HN1.out.2.size)⟩
            clear hb2 HN1
            try clear c0 c1 c2 c3 c4 d0 d1 d2 d3 d4
            obtain ⟨c0, c1, c2, c3, c4⟩ := HN2.out.1.1.cells
            obtain ⟨d0, d1, d2, d3, d4⟩ := HN2.out.1.2.cells
            go_wp2_with fail
            refine (HNa.out _).mono ?_
            rintro x w3 ⟨rfl, hb3⟩
            have HN3 : Hid (N2 w.heap.size ka na ea sa kb nb eb sb w3 ∧ Below w.heap.size w w3) := ⟨HN2.out.1.next hb3, HN2.out.2.trans (hb3.mono HN2.out.2.size)⟩
            clear hb3 HN2
            try clear c0 c1 c2 c3 c4 d0 d1 d2 d3 d4
            obtain ⟨c0, c1, c2, c3, c4⟩ := HN3.out.1.1.cells
            obtain ⟨d0, d1, d2, d3, d4⟩ := HN3.out.1.2.cells
            go_wp2_with fail
            refine (HNb.out _).mono ?_
            rintro x w4 ⟨rfl, hb4⟩
            have HN4 : Hid (N2 w.heap.size ka na ea sa kb nb eb sb w4 ∧ Below w.heap.size w w4) := ⟨HN3.out.1.next hb4, HN3.out.2.trans (hb4.mono HN3.out.2.size)⟩
            clear hb4 HN3
            try clear c0 c1 c2 c3 c4 d0 d1 d2 d3 d4
            obtain ⟨c0, c1, c2, c3, c4⟩ := HN4.out.1.1.cells
            obtain ⟨d0, d1, d2, d3, d4⟩ := HN4.out.1.2.cells
            go_wp2
            go_ret
            exact ⟨rfl, HN4.out.2⟩
end Go.Proofs.Ytmndemegiimagat
