/-
  What the model's dividing of decimal texts answers, walked.
-/
import Derived.Test.YtmjkpjmccdjkjadTxt4
namespace Go.Proofs.Ytmjkpjmccdjkjad
open Go.RowKit
set_option linter.unusedVariables false
theorem tx_one (a : List Int) (j : Nat) (hj : j < a.length) : (tx a).extract j (j + 1) = tx [a.getD j 0] := by
  apply ByteArray.ext
  rw [ByteArray.data_extract, tx_data, tx_data]
  simp only [List.getD, List.getElem?_eq_getElem hj, Option.getD_some]
  apply Array.ext
  · simp; omega
  · intro i h1 h2
    simp at h2
    subst h2
    simp
theorem vl_take_next (a : List Int) (j : Nat) (hj : j < a.length) : vl (a.take (j + 1)) = vl (a.take j) * 10 + a.getD j 0 := by
  rw [List.take_succ_eq_append_getElem hj, vl_snoc]
  simp [List.getD, hj]
theorem div_told (A B Q R : Int) (h : Q * B + R = A) (r0 : 0 ≤ R) (r1 : R < B) : Q = A / B ∧ R = A % B := by
  have e : A = R + B * Q := by rw [Int.mul_comm]; omega
  have hB : B ≠ 0 := by omega
  constructor
  · rw [e, Int.add_mul_ediv_left _ _ hB, Int.ediv_eq_zero_of_lt r0 r1]; omega
  · rw [e, Int.add_mul_emod_self_left, Int.emod_eq_of_lt r0 r1]
theorem len_le (a b : List Int) (ha : Canon a) (hb : Canon b) (h : vl a ≤ vl b) : a.length ≤ b.length := by
  rcases Nat.lt_or_ge b.length a.length with c | c
  · have := vl_short b a hb ha c; omega
  · exact c
theorem cmp_yes (x y : Int) (h : y ≤ x) : 0 ≤ cmpI x y := by
  unfold cmpI; rw [if_neg (by omega)]; split <;> decide
set_option maxHeartbeats 2000000 in
theorem l11Div_any (a b : List Int) (w : World) (ha : Canon a) (hb : Canon b) (la : a.length ≤ 900) (lb : b.length ≤ 900) (hpos : 0 < vl b) :
    Calls Try.prog 54 #[.string (tx a), .string (tx b)] w fun e w' => ∃ Q R, e = .returned (.tuple #[.string (tx Q), .string (tx R)]) ∧ Canon Q ∧ Canon R ∧ vl Q = vl a / vl b ∧ vl R = vl a % vl b ∧ Q.length ≤ a.length ∧ R.length ≤ b.length ∧ Below w.heap.size w w' := by
  obtain ⟨i0, hi, hz0, hz1, hz2⟩ := info_parts info8
  have sa := tx_size a
  have la' : (tx a).size ≤ 900 := by omega
  have Hsa : Hid ((tx a).size = a.length) := sa
  have Ha : Hid (Canon a) := ha
  have Hb : Hid (Canon b) := hb
  have Hv : Hid (0 < vl b) := hpos
  have Hp : 0 < (tx a).size := by have := ha.2.1; omega
  have hR0 : Hid (({ data := #[48] } : ByteArray) = tx [0]) := by
    rw [Hid]; apply ByteArray.ext; rw [tx_data]; rfl
  clear ha hb hpos sa la
  go_enter Try.func54, Try.ntmps54
  go_wp2
  go_loopw [6, 7, 8] (fun q r i wr => ∃ (j : Nat) (Q R : List Int), j ≤ (tx a).size ∧ i = .int .i64 j ∧ r = .string (tx R) ∧ Hid (Canon R ∧ vl R < vl b ∧ Dec Q ∧ Q.length = j ∧ vl Q * vl b + vl R = vl (a.take j)) ∧ Hid (wr.ownsRow w.heap.size 5 1 q j ((Q.map (48 + ·)).map (Value.int .u8))) ∧ Below w.heap.size w wr) (fun _ _ i _ => (tx a).size - (intOf i).toNat)
  case atStart => exact ⟨0, [], [0], Nat.zero_le _, rfl, by rw [hR0.out], ⟨canon_zero, Hv.out, (fun d hd => by cases hd), rfl, by show (0 : Int) * vl b + 0 = 0; omega⟩, World.ownsRow_made w #[] 0 (Nat.le_refl _) (Nat.zero_le _) rfl, (Below.refl _ _).alloc (Nat.le_refl _) _⟩
  case round =>
    obtain ⟨j, Q, R, hj, rfl, rfl, HH, hown, hbel⟩ := hrel
    have hsz := hbel.size
    by_cases hlt : j < (tx a).size
    · have hlt' : (j : Int) < ((tx a).size : Int) := by omega
      have hja : j < a.length := by rw [← Hsa.out]; exact hlt
      have Hx : Hid ((tx a).extract j (j + 1) = tx [a.getD j 0]) := tx_one a j hja
      have bd := dec_at a Ha.out.1 j
      have HT : Hid (vl (a.take (j + 1)) = vl (a.take j) * 10 + a.getD j 0) := vl_take_next a j hja
      have lR : R.length ≤ b.length := len_le R b HH.out.1 Hb.out (by have := HH.out.2.1; omega)
      generalize a.getD j 0 = d at *
      clear hja
      have HD : Hid (Dec (R ++ [d])) := fun x hx => by
        rcases List.mem_append.1 hx with hx | hx
        · exact HH.out.1.1 x hx
        · rw [List.mem_singleton] at hx; rw [hx]; exact bd
      have hsl1 : (j : Int) + 1 ≤ ((tx a).size : Int) := by omega
      have hsl2 : (j : Int) ≤ (j : Int) + 1 := by omega
      have hsl3 : j + 1 ≤ (tx a).size := by omega
      have hsR : (tx R).size ≤ 1000 := by rw [tx_size]; omega
      have hlR : (R ++ [d]).length ≤ 1000 := by rw [List.length_append]; show R.length + 1 ≤ 1000; omega
      have HC : Hid (Canon (strip (R ++ [d])) ∧ vl (strip (R ++ [d])) = vl R * 10 + d ∧ (strip (R ++ [d])).length ≤ b.length + 1) := ⟨strip_canon _ HD.out (by rw [List.length_append]; show 0 < R.length + 1; omega), by rw [strip_vl, vl_snoc], Nat.le_trans (strip_len _) (by rw [List.length_append]; show R.length + 1 ≤ b.length + 1; omega)⟩
      have hL1 : b.length + 1 ≤ 901 := by omega
      go_wp2_with fail
      rw [Hx.out, tx_append]
      refine (l10Strip_any (R ++ [d]) _ HD.out hlR).mono ?_
      rintro e w' ⟨rfl, hw⟩
      obtain rfl := hw.symm
      generalize strip (R ++ [d]) = S at *
      have hT : Hid (vl S < 10 * vl b) := by
        rw [Hid, HC.out.2.1]; have := HH.out.2.1; omega
      clear Hx HD hlR hsR hsl1 hsl2 hsl3
      go_wp2
      go_loopw [7, 9] (fun r k wr => ∃ (q : Nat) (R' : List Int), q ≤ 9 ∧ r = .string (tx R') ∧ k = .int .u8 q ∧ Hid (Canon R' ∧ vl R' + q * vl b = vl S ∧ R'.length ≤ b.length + 1) ∧ Below w.heap.size w wr ∧ Hid (wr.ownsRow w.heap.size 5 1 u6 j ((Q.map (48 + ·)).map (Value.int .u8)))) (fun _ k _ => 10 - (intOf k).toNat)
      case atStart => exact ⟨0, S, by omega, rfl, rfl, ⟨HC.out.1, by show vl S + 0 * vl b = vl S; omega, HC.out.2.2⟩, hbel, hown⟩
      case round =>
        clear hown hbel hsz
        obtain ⟨q, R', hq, rfl, rfl, HR, hbel, hown⟩ := hrel
        have hsz := hbel.size
        have hlR' : R'.length ≤ 1000 := by have := HR.out.2.2; omega
        have Cc : Hid (∀ W, Calls Try.prog 69 #[.string (tx R'), .string (tx b)] W fun e w' => e = .returned (.int .i64 (cmpI (vl R') (vl b))) ∧ Below W.heap.size W w') := fun W => l11Cmp_any R' b W HR.out.1 Hb.out hlR' (by omega)
        by_cases hge : vl b ≤ vl R'
        · have hc := cmp_yes _ _ hge
          have Cs : Hid (∀ W, Calls Try.prog 70 #[.string (tx R'), .string (tx b)] W fun e w' => ∃ R2, e = .returned (.string (tx R2)) ∧ Canon R2 ∧ vl R2 = vl R' - vl b ∧ R2.length ≤ R'.length ∧ Below W.heap.size W w') := fun W => l11Sub_any R' b W HR.out.1 Hb.out hlR' hge
          have hq8 : q ≤ 8 := by
            have h1 := HR.out.2.1
            have h2 := hT.out
            rcases Nat.lt_or_ge q 9 with c | c
            · omega
            · have e9 : (q : Int) = 9 := by omega
              rw [e9] at h1; omega
          have Hn : Hid (vl R' - vl b + ((q + 1 : Nat) : Int) * vl b = vl S) := by
            have h1 := HR.out.2.1
            rw [Hid, Int.natCast_add, Int.add_mul]
            show vl R' - vl b + ((q : Int) * vl b + 1 * vl b) = vl S
            omega
          generalize cmpI (vl R') (vl b) = c at *
          clear hge
          go_wp2_with fail
          refine (Cc.out _).mono ?_
          rintro e w1 ⟨rfl, hb1⟩
          have hs1 := hb1.size
          have hown1 := own_below hown.out hb1 (Nat.le_refl _)
          go_wp2_with fail
          refine (Cs.out _).mono ?_
          rintro e w2 ⟨R2, rfl, c2, v2, l2, hb2⟩
          have H2 : Hid (Canon R2 ∧ vl R2 + ((q + 1 : Nat) : Int) * vl b = vl S ∧ R2.length ≤ b.length + 1) := ⟨c2, by rw [v2]; exact Hn.out, by have := HR.out.2.2; omega⟩
          have Ho2 : Hid (w2.ownsRow w.heap.size 5 1 u6 j ((Q.map (48 + ·)).map (Value.int .u8))) := own_below hown1 hb2 (Nat.le_refl _)
          have hb02 : Below w.heap.size w w2 := (hbel.trans (hb1.mono hsz)).trans (hb2.mono (by omega))
          clear c2 v2 hown1 hb1 hb2
          go_wp2
          go_roundw
          case rel => exact ⟨q + 1, R2, by omega, rfl, by go_num, H2, hb02, Ho2⟩
          case measure => simp [intOf]; omega
        · have hc : cmpI (vl R') (vl b) = -1 := cmpI_lt _ _ (by omega)
          have Hq : Hid (Canon R' ∧ vl R' < vl b ∧ Dec (Q ++ [(q : Int)]) ∧ (Q ++ [(q : Int)]).length = j + 1 ∧ vl (Q ++ [(q : Int)]) * vl b + vl R' = vl (a.take (j + 1))) := by
            refine ⟨HR.out.1, by omega, fun x hx => ?_, ?_, ?_⟩
            · rcases List.mem_append.1 hx with hx | hx
              · exact HH.out.2.2.1 x hx
              · rw [List.mem_singleton] at hx; rw [hx]; omega
            · rw [List.length_append, HH.out.2.2.2.1]; rfl
            · rw [vl_snoc, HT.out, Int.add_mul, Int.mul_assoc, Int.mul_comm 10, ← Int.mul_assoc]
              have h1 := HR.out.2.1
              have h2 := HC.out.2.1
              have h3 := HH.out.2.2.2.2
              generalize vl Q * vl b = X at *
              generalize (q : Int) * vl b = Y at *
              omega
          have Cc' : Hid (∀ W, Calls Try.prog 69 #[.string (tx R'), .string (tx b)] W fun e w' => e = .returned (.int .i64 (-1)) ∧ Below W.heap.size W w') := by rw [← hc]; exact Cc
          clear Cc hc hge
          go_wp2_with fail
          refine (Cc'.out _).mono ?_
          rintro e w1 ⟨rfl, hb1⟩
          have hs1 := hb1.size
          have hown1 := own_below hown.out hb1 (Nat.le_refl _)
          have hb01 : Below w.heap.size w w1 := hbel.trans (hb1.mono hsz)
          clear hb1 hown hbel
          go_wp2_with (first | (at_builtin; refine wpList_append_own _ rfl _ _ 22 rfl w.heap.size 5 i0 (.int .u8 0) 1 1 Try.underlying22 hi hz0 hz1 hz2 rfl (by decide) _ _ _ rfl (hown1.alloc _) ⟨w1.heap.size, 0, none⟩ 1 1 [.int .u8 (48 + (q : Int))] rfl rfl (one_new _ _ _) (one_cell _ _) (by unfold maxLen; omega) (by omega) (by simp; omega) ?_) | go_in)
          intro v' w3 hown3 hgrow _
          have hb3 : Below w.heap.size w w3 := Below.grown (hb01.alloc (by omega) _) hgrow (by simp; omega) (fun k hk => (hown1.lt k hk).1)
          have H3 : Hid (w3.ownsRow w.heap.size 5 1 v' (j + 1) (((Q ++ [(q : Int)]).map (48 + ·)).map (Value.int .u8))) := by
            rw [Hid]; simpa using hown3
          clear hown3 hgrow hown1
          go_wp2
          go_roundw
          case rel => exact ⟨j + 1, Q ++ [(q : Int)], R', by omega, by go_num, rfl, Hq, H3, hb3⟩
          case measure => simp [intOf]; omega
    · have hd : decide ((j : Int) < ((tx a).size : Int)) = false := by simp; omega
      have ej : j = a.length := by have := Hsa.out; omega
      obtain ⟨cR, rb, dQ, lQ, vQ⟩ := HH.out
      rw [ej, List.take_length] at vQ
      obtain ⟨g2, cap2, hv, hconv⟩ := text_of_row wr _ _ Q (by rw [lQ]; exact hown.out) (by rw [lQ]; omega)
      rw [lQ] at hv
      rw [hv] at hconv ⊢
      have hcv := hconv 9 Try.underlying9
      have dv := div_told _ _ _ _ vQ (vl_bd R cR.1).1 rb
      have HF : Hid (Canon (strip Q) ∧ Canon R ∧ vl (strip Q) = vl a / vl b ∧ vl R = vl a % vl b ∧ (strip Q).length ≤ a.length ∧ R.length ≤ b.length) := ⟨strip_canon Q dQ (by rw [lQ]; omega), cR, by rw [strip_vl]; exact dv.1, dv.2, Nat.le_trans (strip_len _) (by omega), len_le R b cR Hb.out (by omega)⟩
      have HdQ : Hid (Dec Q ∧ Q.length ≤ 1000) := ⟨dQ, by omega⟩
      clear hconv hv hown cR rb dQ lQ vQ dv ej HH
      go_wp2_with fail
      refine (l10Strip_any Q _ HdQ.out.1 HdQ.out.2).mono ?_
      rintro e w' ⟨rfl, hw⟩
      obtain rfl := hw.symm
      go_wp2
      go_ret2
      exact ⟨_, _, rfl, HF.out.1, HF.out.2.1, HF.out.2.2.1, HF.out.2.2.2.1, HF.out.2.2.2.2.1, HF.out.2.2.2.2.2, hbel⟩
end Go.Proofs.Ytmjkpjmccdjkjad
