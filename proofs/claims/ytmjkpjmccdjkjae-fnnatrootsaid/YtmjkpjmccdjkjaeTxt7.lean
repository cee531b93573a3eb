/-
  What the model's root of a decimal text answers, walked.
-/
import Derived.Test.YtmjkpjmccdjkjaeTxt5
import Derived.Test.YtmjkpjmccdjkjaeTxt6
import Derived.Test.YtmjkpjmccdjkjaeRootM
namespace Go.Proofs.Ytmjkpjmccdjkjae
open Go.RowKit
set_option linter.unusedVariables false
theorem tx_two (a : List Int) (j : Nat) (hj : j + 1 < a.length) : (tx a).extract j (j + 2) = tx [a.getD j 0, a.getD (j + 1) 0] := by
  apply ByteArray.ext
  rw [ByteArray.data_extract, tx_data, tx_data]
  simp only [List.getD, List.getElem?_eq_getElem hj, List.getElem?_eq_getElem (show j < a.length by omega), Option.getD_some]
  apply Array.ext
  · simp; omega
  · intro i h1 h2
    simp at h2
    rcases (show i = 0 ∨ i = 1 by omega) with rfl | rfl
    · simp
    · simp
/-- A byte of a digit, as a text. -/
theorem conv_dig (d : Int) (W : World) : ∀ dst, Try.prog.underlying dst = some .string → (convert 22 dst (.slice (some ⟨W.heap.size, 0, none⟩) 1 1)).run Try.prog (W.alloc (.cells #[.int .u8 (48 + d)] 5)) = .ok (.string (tx [d])) (W.alloc (.cells #[.int .u8 (48 + d)] 5)) :=
  run_convert_bytes_arg (P := Try.prog) _ 22 5 Try.underlying22 Try.underlying5 W.heap.size 0 1 1 [48 + d] rfl (fun i hi => by
    match i, hi with
    | 0, _ => simp)
theorem dec_snoc' (a : List Int) (d : Int) (h : Dec a) (h0 : 0 ≤ d) (h9 : d ≤ 9) : Dec (a ++ [d]) := fun x hx => by
  rcases List.mem_append.1 hx with hx | hx
  · exact h x hx
  · rw [List.mem_singleton] at hx; rw [hx]; exact ⟨h0, h9⟩
/-- What is told between the turns: i digits of A done. -/
def RT (A : List Int) (i : Nat) (S R : List Int) : Prop := Canon S ∧ Canon R ∧ vl S * vl S + vl R = vl (A.take i) ∧ vl R ≤ 2 * vl S ∧ S.length ≤ i + 1 ∧ R.length ≤ i + 1
theorem RT_start (A : List Int) : RT A 0 [0] [0] := ⟨canon_zero, canon_zero, rfl, by decide, by decide, by decide⟩
theorem vl_take_two (A : List Int) (j : Nat) (hj : j + 1 < A.length) : vl (A.take (j + 2)) = vl (A.take j) * 100 + (A.getD j 0 * 10 + A.getD (j + 1) 0) := by
  rw [vl_take_next A (j + 1) hj, vl_take_next A j (by omega)]; omega
set_option maxHeartbeats 4000000 in
theorem l11Root_any (a : List Int) (w : World) (ha : Canon a) (la : a.length ≤ 290) :
    Calls Try.prog 24 #[.string (tx a)] w fun e w' => ∃ S R, e = .returned (.tuple #[.string (tx S), .string (tx R)]) ∧ Canon S ∧ Canon R ∧ vl S * vl S + vl R = vl a ∧ vl R ≤ 2 * vl S ∧ S.length ≤ a.length + 2 ∧ R.length ≤ a.length + 2 ∧ Below w.heap.size w w' := by
  have sa := tx_size a
  have t0 : ({ data := #[48] } : ByteArray) = tx [0] := by apply ByteArray.ext; rw [tx_data]; rfl
  have t20 : ({ data := #[50, 48] } : ByteArray) = tx [2, 0] := by apply ByteArray.ext; rw [tx_data]; rfl
  have c20 : Canon [2, 0] := ⟨fun d hd => by simp at hd; omega, by decide, .inr (by decide)⟩
  have hcase : (((((tx a).size : Int) % 2) == 1) = false ∧ a.length % 2 = 0) ∨ (((((tx a).size : Int) % 2) == 1) = true ∧ a.length % 2 = 1) := by
    rcases (show a.length % 2 = 0 ∨ a.length % 2 = 1 by omega) with h | h
    · exact .inl ⟨by simp; omega, h⟩
    · exact .inr ⟨by simp; omega, h⟩
  have hA : ∃ A : List Int, Dec A ∧ A.length % 2 = 0 ∧ vl A = vl a ∧ A.length ≤ a.length + 1 ∧ ((((((tx a).size : Int) % 2) == 1) = false ∧ A = a) ∨ ((((((tx a).size : Int) % 2) == 1) = true) ∧ ({ data := #[48] } : ByteArray) ++ tx a = tx A)) := by
    rcases hcase with ⟨h1, h2⟩ | ⟨h1, h2⟩
    · exact ⟨a, ha.1, h2, rfl, by omega, .inl ⟨h1, rfl⟩⟩
    · refine ⟨0 :: a, fun d hd => ?_, by simp; omega, by rw [vl_cons, Int.mul_zero, Int.add_zero], by simp, .inr ⟨h1, by rw [t0, tx_append]; rfl⟩⟩
      rcases List.mem_cons.1 hd with rfl | hd
      · exact ⟨by decide, by decide⟩
      · exact ha.1 d hd
  obtain ⟨A, dA, eA, vA, lA, hA⟩ := hA
  have HA : Hid (Dec A ∧ A.length % 2 = 0 ∧ vl A = vl a ∧ A.length ≤ a.length + 1) := ⟨dA, eA, vA, lA⟩
  have T0 : Hid (({ data := #[48] } : ByteArray) = tx [0]) := t0
  have T20 : Hid (({ data := #[50, 48] } : ByteArray) = tx [2, 0] ∧ Canon [2, 0]) := ⟨t20, c20⟩
  have sA : (tx A).size ≤ 291 := by rw [tx_size]; omega
  have la' : (tx a).size ≤ 290 := by omega
  have HsA : Hid ((tx A).size = A.length) := tx_size A
  have evA : Hid ((tx A).size % 2 = 0) := by rw [Hid, tx_size]; exact eA
  clear dA eA vA lA t0 t20 c20 hcase sa ha
  generalize hva : vl a = va at *
  generalize hna : a.length = na at *
  clear hva hna
  rcases hA with ⟨hpar, rfl⟩ | ⟨hpar, hcat⟩
  all_goals
    go_enter Try.func24, Try.ntmps24
    go_wp2
    go_loopw [4, 5, 6] (fun s r i wr => ∃ (j : Nat) (S R : List Int), j ≤ (tx A).size ∧ i = .int .i64 j ∧ s = .string (tx S) ∧ r = .string (tx R) ∧ Hid (RT A j S R ∧ j % 2 = 0) ∧ Below w.heap.size w wr) (fun _ _ i _ => (tx A).size - (intOf i).toNat)
    case atStart => exact ⟨0, [0], [0], Nat.zero_le _, rfl, by rw [T0.out], by rw [T0.out], ⟨RT_start A, rfl⟩, Below.refl _ _⟩
    case round =>
      obtain ⟨j, S, R, hj, rfl, rfl, rfl, HR, hbel⟩ := hrel
      have hsz := hbel.size
      by_cases hlt : j < (tx A).size
      · have hj1 : j + 2 ≤ (tx A).size := by have := evA.out; have := HR.out.2; omega
        have hjA : j + 1 < A.length := by rw [← HsA.out]; omega
        have Hx : Hid ((tx A).extract j (j + 2) = tx [A.getD j 0, A.getD (j + 1) 0]) := tx_two A j hjA
        have b1 := dec_at A HA.out.1 j
        have b2 := dec_at A HA.out.1 (j + 1)
        have HT : Hid (vl (A.take (j + 2)) = vl (A.take j) * 100 + (A.getD j 0 * 10 + A.getD (j + 1) 0)) := vl_take_two A j hjA
        generalize A.getD j 0 = d1 at *
        generalize A.getD (j + 1) 0 = d2 at *
        clear hjA
        have lR := HR.out.1.2.2.2.2.2
        have lS := HR.out.1.2.2.2.2.1
        have HD : Hid (Dec (R ++ [d1, d2])) := fun x hx => by
          rcases List.mem_append.1 hx with hx | hx
          · exact HR.out.1.2.1.1 x hx
          · simp at hx; omega
        have hlen : (R ++ [d1, d2]).length = R.length + 2 := by rw [List.length_append]; rfl
        have HC : Hid (Canon (strip (R ++ [d1, d2])) ∧ vl (strip (R ++ [d1, d2])) = vl R * 100 + (d1 * 10 + d2) ∧ (strip (R ++ [d1, d2])).length ≤ j + 3) := ⟨strip_canon _ HD.out (by rw [hlen]; omega), by rw [strip_vl, show R ++ [d1, d2] = (R ++ [d1]) ++ [d2] by simp, vl_snoc, vl_snoc]; omega, Nat.le_trans (strip_len _) (by rw [hlen]; omega)⟩
        have hsl1 : (j : Int) + 2 ≤ ((tx A).size : Int) := by omega
        have hsl2 : (j : Int) ≤ (j : Int) + 2 := by omega
        have hlt' : (j : Int) < ((tx A).size : Int) := by omega
        have hsR : (tx R).size ≤ 1000 := by rw [tx_size]; omega
        have hsS : (tx S).size ≤ 1000 := by rw [tx_size]; omega
        have hlR : (R ++ [d1, d2]).length ≤ 1000 := by rw [hlen]; omega
        clear hlen
        go_wp2_with fail
        rw [Hx.out, tx_append]
        refine (l10Strip_any (R ++ [d1, d2]) _ HD.out hlR).mono ?_
        rintro e w' ⟨rfl, hw⟩
        obtain rfl := hw.symm
        generalize strip (R ++ [d1, d2]) = R1 at *
        clear Hx HD hlR hsl1 hsl2
        go_wp2_with fail
        rw [T20.out.1]
        refine (l11Mul_any S [2, 0] _ HR.out.1.1 T20.out.2 (by omega) (by decide)).mono ?_
        rintro e w1 ⟨T, rfl, cT, vT, lT, hb1⟩
        have Ht : Hid (Canon T ∧ vl T = vl S * 20 ∧ T.length ≤ j + 3) := ⟨cT, vT, by have h2 : ([2, 0] : List Int).length = 2 := rfl; omega⟩
        have hb01 : Below w.heap.size w w1 := hbel.trans (hb1.mono hsz)
        have hs1 := hb01.size
        clear cT vT lT hb1 hbel hsz
        go_wp2
        go_loopw [8, 9] (fun k st wr => ∃ (q : Nat) (P : List Int), q ≤ 9 ∧ k = .int .u8 q ∧ st = .string (tx P) ∧ Hid (Canon P ∧ vl P = (vl S * 20 + q) * q ∧ vl P ≤ vl R1 ∧ P.length ≤ 400) ∧ Below w.heap.size w wr) (fun k _ _ => 9 - (intOf k).toNat)
        case atStart => exact ⟨0, [0], by omega, rfl, by rw [T0.out], ⟨canon_zero, by show (0 : Int) = (vl S * 20 + 0) * 0; rw [Int.mul_zero], (vl_bd R1 HC.out.1.1).1, by decide⟩, hb01⟩
        case round =>
          clear hb01 hs1
          obtain ⟨q, P, hq, rfl, rfl, HP, hbel⟩ := hrel
          have hsz := hbel.size
          by_cases hq9 : q < 9
          · have hcv := conv_dig ((q : Int) + 1) wr 9 Try.underlying9
            rw [show 48 + ((q : Int) + 1) = 48 + (q : Int) + 1 by omega] at hcv
            have hq9' : (q : Int) < 9 := by omega
            have cq : Hid (Canon [(q : Int) + 1] ∧ vl [(q : Int) + 1] = (q : Int) + 1) := ⟨canon_one _ (by omega) (by omega), by show (q : Int) + 1 + 10 * 0 = _; omega⟩
            go_wp2_with fail
            refine (l11Add_any T [(q : Int) + 1] _ Ht.out.1 cq.out.1 (by have := Ht.out.2.2; omega) (by show 1 ≤ 300; decide)).mono ?_
            rintro e w2 ⟨T1, rfl, c1, v1, l1, hb2⟩
            have lT1 : T1.length ≤ j + 4 := by
              have h1 := Ht.out.2.2
              have h2 : ([(q : Int) + 1] : List Int).length = 1 := rfl
              rw [h2] at l1
              omega
            have H1 : Hid (Canon T1 ∧ vl T1 = vl S * 20 + (q + 1)) := ⟨c1, by rw [v1, Ht.out.2.1, cq.out.2]⟩
            have hb02 : Below w.heap.size w w2 := (hbel.alloc hsz _).trans (hb2.mono (by simp; omega))
            have hs2 := hb02.size
            clear c1 v1 l1 hb2
            go_wp2_with fail
            refine (l11Mul_any T1 [(q : Int) + 1] _ H1.out.1 cq.out.1 (by omega) (by show 1 ≤ 400; decide)).mono ?_
            rintro e w3 ⟨X, rfl, cX, vX, lX, hb3⟩
            have HXX : Hid (Canon X ∧ vl X = (vl S * 20 + (q + 1)) * (q + 1) ∧ X.length ≤ 400) := ⟨cX, by rw [vX, H1.out.2, cq.out.2], by have h2 : ([(q : Int) + 1] : List Int).length = 1 := rfl; rw [h2] at lX; omega⟩
            have hb03 : Below w.heap.size w w3 := hb02.trans (hb3.mono hs2)
            have hs3 := hb03.size
            have Cc : Hid (∀ W, Calls Try.prog 44 #[.string (tx X), .string (tx R1)] W fun e w' => e = .returned (.int .i64 (cmpI (vl X) (vl R1))) ∧ Below W.heap.size W w') := fun W => l11Cmp_any X R1 W cX HC.out.1 (by have := HXX.out.2.2; omega) (by have := HC.out.2.2; omega)
            clear cX vX lX hb3 hcv
            by_cases hgt : vl R1 < vl X
            · have ec : cmpI (vl X) (vl R1) = 1 := cmpI_gt _ _ hgt
              have Cc' : Hid (∀ W, Calls Try.prog 44 #[.string (tx X), .string (tx R1)] W fun e w' => e = .returned (.int .i64 1) ∧ Below W.heap.size W w') := by rw [← ec]; exact Cc
              have HX : Hid ((q : Int) = 9 ∨ vl R1 < (vl S * 20 + ((q : Int) + 1)) * ((q : Int) + 1)) := .inr (by rw [← HXX.out.2.1]; exact hgt)
              clear Cc ec hgt HXX
              go_wp2_with fail
              refine (Cc'.out _).mono ?_
              rintro e w4 ⟨rfl, hb4⟩
              have hb0x : Below w.heap.size w w4 := hb03.trans (hb4.mono hs3)
              have hs0x := hb0x.size
              clear hb4 Cc'
              have CsT : Hid (∀ W, Calls Try.prog 45 #[.string (tx R1), .string (tx P)] W fun e w' => ∃ R2, e = .returned (.string (tx R2)) ∧ Canon R2 ∧ vl R2 = vl R1 - vl P ∧ R2.length ≤ R1.length ∧ Below W.heap.size W w') := fun W => l11Sub_any R1 P W HC.out.1 HP.out.1 (by have := HC.out.2.2; omega) HP.out.2.2.1
              have HN : Hid (∀ R2 : List Int, Canon R2 → vl R2 = vl R1 - vl P → R2.length ≤ R1.length → RT A (j + 2) (strip (S ++ [(q : Int)])) R2 ∧ (j + 2) % 2 = 0) := fun R2 c2 v2 l2 => by
                have rt := root_turn (vl S) (vl R) (vl (A.take j)) (d1 * 10 + d2) q HR.out.1.2.2.1 HR.out.1.2.2.2.1 (vl_bd R HR.out.1.2.1.1).1 (vl_bd S HR.out.1.1.1).1 (by omega) (by omega) (by omega) (by omega) (by rw [← HP.out.2.1, ← HC.out.2.1]; exact HP.out.2.2.1) (by rw [← HC.out.2.1]; exact HX.out)
                have dS : Dec (S ++ [(q : Int)]) := dec_snoc' S q HR.out.1.1.1 (by omega) (by omega)
                have lS := HR.out.1.2.2.2.2.1
                have lR1 := HC.out.2.2
                refine ⟨⟨strip_canon _ dS (by rw [List.length_append]; show 0 < S.length + 1; omega), c2, ?_, ?_, Nat.le_trans (strip_len _) (by rw [List.length_append]; show S.length + 1 ≤ j + 2 + 1; omega), by omega⟩, by have := HR.out.2; omega⟩
                · rw [strip_vl, vl_snoc, v2, HT.out, HP.out.2.1, HC.out.2.1]; exact rt.1
                · rw [strip_vl, vl_snoc, v2, HP.out.2.1, HC.out.2.1]; exact rt.2
              have DS : Hid (Dec (S ++ [(q : Int)]) ∧ (S ++ [(q : Int)]).length ≤ 1000) := ⟨dec_snoc' S q HR.out.1.1.1 (by omega) (by omega), by rw [List.length_append]; show S.length + 1 ≤ 1000; have := HR.out.1.2.2.2.2.1; omega⟩
              clear HX HP
              go_wp2_with fail
              refine (CsT.out _).mono ?_
              rintro e w5 ⟨R2, rfl, c2, v2, l2, hb5⟩
              have HR2 : Hid (RT A (j + 2) (strip (S ++ [(q : Int)])) R2 ∧ (j + 2) % 2 = 0) := HN.out R2 c2 v2 l2
              have hb05 : Below w.heap.size w w5 := hb0x.trans (hb5.mono hs0x)
              have hs5 := hb05.size
              have hcv5 := conv_dig (q : Int) w5 9 Try.underlying9
              have hsq : (tx [(q : Int)]).size ≤ 1000 := by rw [tx_size]; show 1 ≤ 1000; decide
              have hsq' : ((tx [(q : Int)]).size : Int) ≤ 1000 := by omega
              have hsS' : ((tx S).size : Int) ≤ 1000 := by omega
              clear c2 v2 l2 hb5 HN
              go_wp2_with fail
              rw [tx_append]
              refine (l10Strip_any (S ++ [(q : Int)]) _ DS.out.1 DS.out.2).mono ?_
              rintro e w' ⟨rfl, hw⟩
              obtain rfl := hw.symm
              have hb06 := hb05.alloc hs5 (.cells #[.int .u8 (48 + (q : Int))] 5)
              go_wp2
              go_roundw
              case rel => exact ⟨j + 2, _, R2, by omega, by go_num, rfl, rfl, HR2, hb06⟩
              case measure => simp [intOf]; omega
            · have hc0 : cmpI (vl X) (vl R1) ≤ 0 := by (unfold cmpI; split <;> (try split) <;> omega)
              have hc0' : decide (0 < cmpI (vl X) (vl R1)) = false := by simp; omega
              have HX2 : Hid (Canon X ∧ vl X = (vl S * 20 + ((q + 1 : Nat) : Int)) * ((q + 1 : Nat) : Int) ∧ vl X ≤ vl R1 ∧ X.length ≤ 400) := ⟨HXX.out.1, HXX.out.2.1, by omega, HXX.out.2.2⟩
              generalize cmpI (vl X) (vl R1) = c at *
              clear hgt HXX
              go_wp2_with fail
              refine (Cc.out _).mono ?_
              rintro e w4 ⟨rfl, hb4⟩
              have hb04 : Below w.heap.size w w4 := hb03.trans (hb4.mono hs3)
              clear hb4 Cc
              go_wp2
              go_roundw
              case rel => exact ⟨q + 1, X, by omega, by go_num, rfl, HX2, hb04⟩
              case measure => simp [intOf]; omega
          · have hq9' : decide ((q : Int) < 9) = false := by simp; omega
            have HX : Hid ((q : Int) = 9 ∨ vl R1 < (vl S * 20 + ((q : Int) + 1)) * ((q : Int) + 1)) := .inl (by omega)
            have hb0x := hbel
            have hs0x := hsz
            have CsT : Hid (∀ W, Calls Try.prog 45 #[.string (tx R1), .string (tx P)] W fun e w' => ∃ R2, e = .returned (.string (tx R2)) ∧ Canon R2 ∧ vl R2 = vl R1 - vl P ∧ R2.length ≤ R1.length ∧ Below W.heap.size W w') := fun W => l11Sub_any R1 P W HC.out.1 HP.out.1 (by have := HC.out.2.2; omega) HP.out.2.2.1
            have HN : Hid (∀ R2 : List Int, Canon R2 → vl R2 = vl R1 - vl P → R2.length ≤ R1.length → RT A (j + 2) (strip (S ++ [(q : Int)])) R2 ∧ (j + 2) % 2 = 0) := fun R2 c2 v2 l2 => by
              have rt := root_turn (vl S) (vl R) (vl (A.take j)) (d1 * 10 + d2) q HR.out.1.2.2.1 HR.out.1.2.2.2.1 (vl_bd R HR.out.1.2.1.1).1 (vl_bd S HR.out.1.1.1).1 (by omega) (by omega) (by omega) (by omega) (by rw [← HP.out.2.1, ← HC.out.2.1]; exact HP.out.2.2.1) (by rw [← HC.out.2.1]; exact HX.out)
              have dS : Dec (S ++ [(q : Int)]) := dec_snoc' S q HR.out.1.1.1 (by omega) (by omega)
              have lS := HR.out.1.2.2.2.2.1
              have lR1 := HC.out.2.2
              refine ⟨⟨strip_canon _ dS (by rw [List.length_append]; show 0 < S.length + 1; omega), c2, ?_, ?_, Nat.le_trans (strip_len _) (by rw [List.length_append]; show S.length + 1 ≤ j + 2 + 1; omega), by omega⟩, by have := HR.out.2; omega⟩
              · rw [strip_vl, vl_snoc, v2, HT.out, HP.out.2.1, HC.out.2.1]; exact rt.1
              · rw [strip_vl, vl_snoc, v2, HP.out.2.1, HC.out.2.1]; exact rt.2
            have DS : Hid (Dec (S ++ [(q : Int)]) ∧ (S ++ [(q : Int)]).length ≤ 1000) := ⟨dec_snoc' S q HR.out.1.1.1 (by omega) (by omega), by rw [List.length_append]; show S.length + 1 ≤ 1000; have := HR.out.1.2.2.2.2.1; omega⟩
            clear HX HP
            go_wp2_with fail
            refine (CsT.out _).mono ?_
            rintro e w5 ⟨R2, rfl, c2, v2, l2, hb5⟩
            have HR2 : Hid (RT A (j + 2) (strip (S ++ [(q : Int)])) R2 ∧ (j + 2) % 2 = 0) := HN.out R2 c2 v2 l2
            have hb05 : Below w.heap.size w w5 := hb0x.trans (hb5.mono hs0x)
            have hs5 := hb05.size
            have hcv5 := conv_dig (q : Int) w5 9 Try.underlying9
            have hsq : (tx [(q : Int)]).size ≤ 1000 := by rw [tx_size]; show 1 ≤ 1000; decide
            have hsq' : ((tx [(q : Int)]).size : Int) ≤ 1000 := by omega
            have hsS' : ((tx S).size : Int) ≤ 1000 := by omega
            clear c2 v2 l2 hb5 HN
            go_wp2_with fail
            rw [tx_append]
            refine (l10Strip_any (S ++ [(q : Int)]) _ DS.out.1 DS.out.2).mono ?_
            rintro e w' ⟨rfl, hw⟩
            obtain rfl := hw.symm
            have hb06 := hb05.alloc hs5 (.cells #[.int .u8 (48 + (q : Int))] 5)
            go_wp2
            go_roundw
            case rel => exact ⟨j + 2, _, R2, by omega, by go_num, rfl, rfl, HR2, hb06⟩
            case measure => simp [intOf]; omega
      · have hd : decide ((j : Int) < ((tx A).size : Int)) = false := by simp; omega
        have HF : Hid (Canon S ∧ Canon R ∧ vl S * vl S + vl R = va ∧ vl R ≤ 2 * vl S ∧ S.length ≤ na + 2 ∧ R.length ≤ na + 2) := by
          have h := HR.out.1
          have e : j = A.length := by have := HsA.out; omega
          have l := HA.out.2.2.2
          unfold RT at h
          rw [e, List.take_length, HA.out.2.2.1] at h
          exact ⟨h.1, h.2.1, h.2.2.1, h.2.2.2.1, by have := h.2.2.2.2.1; omega, by have := h.2.2.2.2.2; omega⟩
        clear HR
        go_wp2
        go_ret2
        exact ⟨S, R, rfl, HF.out.1, HF.out.2.1, HF.out.2.2.1, HF.out.2.2.2.1, HF.out.2.2.2.2.1, HF.out.2.2.2.2.2, hbel⟩
end Go.Proofs.Ytmjkpjmccdjkjae
