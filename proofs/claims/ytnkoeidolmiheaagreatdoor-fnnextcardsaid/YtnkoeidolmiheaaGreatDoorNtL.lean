/-
  Plain facts: the texts of numbers, and what the functions on texts answer at them.
-/
import Derived.Test.YtnkoeidolmiheaaGreatDoorNatS
import Derived.Test.YtnkoeidolmiheaaGreatDoorIn
import Derived.Test.YtnkoeidolmiheaaGreatDoorTxt3
namespace Go.Proofs.YtnkoeidolmiheaaGreatDoor
open Go.RowKit
set_option linter.unusedVariables false
set_option maxRecDepth 100000
theorem tx_one (a : List Int) (j : Nat) (hj : j < a.length) : (tx a).extract j (j + 1) = tx [a.getD j 0] := by
  apply ByteArray.ext
  rw [ByteArray.data_extract, tx_data, tx_data]
  simp only [List.getD, List.getElem?_eq_getElem hj, Option.getD_some]
  apply Array.ext
  · simp; omega
  · intro i h1 h2
    simp at h2
    subst h2
    simp
theorem vl_take_next (a : List Int) (j : Nat) (hj : j < a.length) : vl (a.take (j + 1)) = vl (a.take j) * 10 + a.getD j 0 := by
  rw [List.take_succ_eq_append_getElem hj, vl_snoc]
  simp [List.getD, hj]
theorem div_told (A B Q R : Int) (h : Q * B + R = A) (r0 : 0 ≤ R) (r1 : R < B) : Q = A / B ∧ R = A % B := by
  have e : A = R + B * Q := by rw [Int.mul_comm]; omega
  have hB : B ≠ 0 := by omega
  constructor
  · rw [e, Int.add_mul_ediv_left _ _ hB, Int.ediv_eq_zero_of_lt r0 r1]; omega
  · rw [e, Int.add_mul_emod_self_left, Int.emod_eq_of_lt r0 r1]
theorem len_le (a b : List Int) (ha : Canon a) (hb : Canon b) (h : vl a ≤ vl b) : a.length ≤ b.length := by
  rcases Nat.lt_or_ge b.length a.length with c | c
  · have := vl_short b a hb ha c; omega
  · exact c
theorem cmp_yes (x y : Int) (h : y ≤ x) : 0 ≤ cmpI x y := by
  unfold cmpI; rw [if_neg (by omega)]; split <;> decide
set_option maxHeartbeats 2000000 in
theorem l11Div_any (a b : List Int) (w : World) (ha : Canon a) (hb : Canon b) (la : a.length ≤ 900) (lb : b.length ≤ 900) (hpos : 0 < vl b) :
    Calls Tryz.prog 84 #[.string (tx a), .string (tx b)] w fun e w' => ∃ Q R, e = .returned (.tuple #[.string (tx Q), .string (tx R)]) ∧ Canon Q ∧ Canon R ∧ vl Q = vl a / vl b ∧ vl R = vl a % vl b ∧ Q.length ≤ a.length ∧ R.length ≤ b.length ∧ Below w.heap.size w w' := by
  obtain ⟨i0, hi, hz0, hz1, hz2⟩ := info_parts info8
  have sa := tx_size a
  have la' : (tx a).size ≤ 900 := by omega
  have Hsa : Hid ((tx a).size = a.length) := sa
  have Ha : Hid (Canon a) := ha
  have Hb : Hid (Canon b) := hb
  have Hv : Hid (0 < vl b) := hpos
  have Hp : 0 < (tx a).size := by have := ha.2.1; omega
  have hR0 : Hid (({ data := #[48] } : ByteArray) = tx [0]) := by
    rw [Hid]; apply ByteArray.ext; rw [tx_data]; rfl
  clear ha hb hpos sa la
  go_enter Tryz.func84, Tryz.ntmps84
  go_wp2
  go_loopw [6, 7, 8] (fun q r i wr => ∃ (j : Nat) (Q R : List Int), j ≤ (tx a).size ∧ i = .int .i64 j ∧ r = .string (tx R) ∧ Hid (Canon R ∧ vl R < vl b ∧ Dec Q ∧ Q.length = j ∧ vl Q * vl b + vl R = vl (a.take j)) ∧ Hid (wr.ownsRow w.heap.size 5 1 q j ((Q.map (48 + ·)).map (Value.int .u8))) ∧ Below w.heap.size w wr) (fun _ _ i _ => (tx a).size - (intOf i).toNat)
  case atStart => exact ⟨0, [], [0], Nat.zero_le _, rfl, by rw [hR0.out], ⟨canon_zero, Hv.out, (fun d hd => by cases hd), rfl, by show (0 : Int) * vl b + 0 = 0; omega⟩, World.ownsRow_made w #[] 0 (Nat.le_refl _) (Nat.zero_le _) rfl, (Below.refl _ _).alloc (Nat.le_refl _) _⟩
  case round =>
    obtain ⟨j, Q, R, hj, rfl, rfl, HH, hown, hbel⟩ := hrel
    have hsz := hbel.size
    by_cases hlt : j < (tx a).size
    · have hlt' : (j : Int) < ((tx a).size : Int) := by omega
      have hja : j < a.length := by rw [← Hsa.out]; exact hlt
      have Hx : Hid ((tx a).extract j (j + 1) = tx [a.getD j 0]) := tx_one a j hja
      have bd := dec_at a Ha.out.1 j
      have HT : Hid (vl (a.take (j + 1)) = vl (a.take j) * 10 + a.getD j 0) := vl_take_next a j hja
      have lR : R.length ≤ b.length := len_le R b HH.out.1 Hb.out (by have := HH.out.2.1; omega)
      generalize a.getD j 0 = d at *
      clear hja
      have HD : Hid (Dec (R ++ [d])) := fun x hx => by
        rcases List.mem_append.1 hx with hx | hx
        · exact HH.out.1.1 x hx
        · rw [List.mem_singleton] at hx; rw [hx]; exact bd
      have hsl1 : (j : Int) + 1 ≤ ((tx a).size : Int) := by omega
      have hsl2 : (j : Int) ≤ (j : Int) + 1 := by omega
      have hsl3 : j + 1 ≤ (tx a).size := by omega
      have hsR : (tx R).size ≤ 1000 := by rw [tx_size]; omega
      have hlR : (R ++ [d]).length ≤ 1000 := by rw [List.length_append]; show R.length + 1 ≤ 1000; omega
      have HC : Hid (Canon (strip (R ++ [d])) ∧ vl (strip (R ++ [d])) = vl R * 10 + d ∧ (strip (R ++ [d])).length ≤ b.length + 1) := ⟨strip_canon _ HD.out (by rw [List.length_append]; show 0 < R.length + 1; omega), by rw [strip_vl, vl_snoc], Nat.le_trans (strip_len _) (by rw [List.length_append]; show R.length + 1 ≤ b.length + 1; omega)⟩
      have hL1 : b.length + 1 ≤ 901 := by omega
      go_wp2_with fail
      rw [Hx.out, tx_append]
      refine (l10Strip_any (R ++ [d]) _ HD.out hlR).mono ?_
      rintro e w' ⟨rfl, hw⟩
      obtain rfl := hw.symm
      generalize strip (R ++ [d]) = S at *
      have hT : Hid (vl S < 10 * vl b) := by
        rw [Hid, HC.out.2.1]; have := HH.out.2.1; omega
      clear Hx HD hlR hsR hsl1 hsl2 hsl3
      go_wp2
      go_loopw [7, 9] (fun r k wr => ∃ (q : Nat) (R' : List Int), q ≤ 9 ∧ r = .string (tx R') ∧ k = .int .u8 q ∧ Hid (Canon R' ∧ vl R' + q * vl b = vl S ∧ R'.length ≤ b.length + 1) ∧ Below w.heap.size w wr ∧ Hid (wr.ownsRow w.heap.size 5 1 u6 j ((Q.map (48 + ·)).map (Value.int .u8)))) (fun _ k _ => 10 - (intOf k).toNat)
      case atStart => exact ⟨0, S, by omega, rfl, rfl, ⟨HC.out.1, by show vl S + 0 * vl b = vl S; omega, HC.out.2.2⟩, hbel, hown⟩
      case round =>
        clear hown hbel hsz
        obtain ⟨q, R', hq, rfl, rfl, HR, hbel, hown⟩ := hrel
        have hsz := hbel.size
        have hlR' : R'.length ≤ 1000 := by have := HR.out.2.2; omega
        have Cc : Hid (∀ W, Calls Tryz.prog 85 #[.string (tx R'), .string (tx b)] W fun e w' => e = .returned (.int .i64 (cmpI (vl R') (vl b))) ∧ Below W.heap.size W w') := fun W => l11Cmp_any R' b W HR.out.1 Hb.out hlR' (by omega)
        by_cases hge : vl b ≤ vl R'
        · have hc := cmp_yes _ _ hge
          have Cs : Hid (∀ W, Calls Tryz.prog 74 #[.string (tx R'), .string (tx b)] W fun e w' => ∃ R2, e = .returned (.string (tx R2)) ∧ Canon R2 ∧ vl R2 = vl R' - vl b ∧ R2.length ≤ R'.length ∧ Below W.heap.size W w') := fun W => l11Sub_any R' b W HR.out.1 Hb.out hlR' hge
          have hq8 : q ≤ 8 := by
            have h1 := HR.out.2.1
            have h2 := hT.out
            rcases Nat.lt_or_ge q 9 with c | c
            · omega
            · have e9 : (q : Int) = 9 := by omega
              rw [e9] at h1; omega
          have Hn : Hid (vl R' - vl b + ((q + 1 : Nat) : Int) * vl b = vl S) := by
            have h1 := HR.out.2.1
            rw [Hid, Int.natCast_add, Int.add_mul]
            show vl R' - vl b + ((q : Int) * vl b + 1 * vl b) = vl S
            omega
          generalize cmpI (vl R') (vl b) = c at *
          clear hge
          go_wp2_with fail
          refine (Cc.out _).mono ?_
          rintro e w1 ⟨rfl, hb1⟩
          have hs1 := hb1.size
          have hown1 := own_below hown.out hb1 (Nat.le_refl _)
          go_wp2_with fail
          refine (Cs.out _).mono ?_
          rintro e w2 ⟨R2, rfl, c2, v2, l2, hb2⟩
          have H2 : Hid (Canon R2 ∧ vl R2 + ((q + 1 : Nat) : Int) * vl b = vl S ∧ R2.length ≤ b.length + 1) := ⟨c2, by rw [v2]; exact Hn.out, by have := HR.out.2.2; omega⟩
          have Ho2 : Hid (w2.ownsRow w.heap.size 5 1 u6 j ((Q.map (48 + ·)).map (Value.int .u8))) := own_below hown1 hb2 (Nat.le_refl _)
          have hb02 : Below w.heap.size w w2 := (hbel.trans (hb1.mono hsz)).trans (hb2.mono (by omega))
          clear c2 v2 hown1 hb1 hb2
          go_wp2
          go_roundw
          case rel => exact ⟨q + 1, R2, by omega, rfl, by go_num, H2, hb02, Ho2⟩
          case measure => simp [intOf]; omega
        · have hc : cmpI (vl R') (vl b) = -1 := cmpI_lt _ _ (by omega)
          have Hq : Hid (Canon R' ∧ vl R' < vl b ∧ Dec (Q ++ [(q : Int)]) ∧ (Q ++ [(q : Int)]).length = j + 1 ∧ vl (Q ++ [(q : Int)]) * vl b + vl R' = vl (a.take (j + 1))) := by
            refine ⟨HR.out.1, by omega, fun x hx => ?_, ?_, ?_⟩
            · rcases List.mem_append.1 hx with hx | hx
              · exact HH.out.2.2.1 x hx
              · rw [List.mem_singleton] at hx; rw [hx]; omega
            · rw [List.length_append, HH.out.2.2.2.1]; rfl
            · rw [vl_snoc, HT.out, Int.add_mul, Int.mul_assoc, Int.mul_comm 10, ← Int.mul_assoc]
              have h1 := HR.out.2.1
              have h2 := HC.out.2.1
              have h3 := HH.out.2.2.2.2
              generalize vl Q * vl b = X at *
              generalize (q : Int) * vl b = Y at *
              omega
          have Cc' : Hid (∀ W, Calls Tryz.prog 85 #[.string (tx R'), .string (tx b)] W fun e w' => e = .returned (.int .i64 (-1)) ∧ Below W.heap.size W w') := by rw [← hc]; exact Cc
          clear Cc hc hge
          go_wp2_with fail
          refine (Cc'.out _).mono ?_
          rintro e w1 ⟨rfl, hb1⟩
          have hs1 := hb1.size
          have hown1 := own_below hown.out hb1 (Nat.le_refl _)
          have hb01 : Below w.heap.size w w1 := hbel.trans (hb1.mono hsz)
          clear hb1 hown hbel
          go_wp2_with (first | (at_builtin; refine wpList_append_own _ rfl _ _ 22 rfl w.heap.size 5 i0 (.int .u8 0) 1 1 Tryz.underlying22 hi hz0 hz1 hz2 rfl (by decide) _ _ _ rfl (hown1.alloc _) ⟨w1.heap.size, 0, none⟩ 1 1 [.int .u8 (48 + (q : Int))] rfl rfl (one_new _ _ _) (one_cell _ _) (by unfold maxLen; omega) (by omega) (by simp; omega) ?_) | go_in)
          intro v' w3 hown3 hgrow _
          have hb3 : Below w.heap.size w w3 := Below.grown (hb01.alloc (by omega) _) hgrow (by simp; omega) (fun k hk => (hown1.lt k hk).1)
          have H3 : Hid (w3.ownsRow w.heap.size 5 1 v' (j + 1) (((Q ++ [(q : Int)]).map (48 + ·)).map (Value.int .u8))) := by
            rw [Hid]; simpa using hown3
          clear hown3 hgrow hown1
          go_wp2
          go_roundw
          case rel => exact ⟨j + 1, Q ++ [(q : Int)], R', by omega, by go_num, rfl, Hq, H3, hb3⟩
          case measure => simp [intOf]; omega
    · have hd : decide ((j : Int) < ((tx a).size : Int)) = false := by simp; omega
      have ej : j = a.length := by have := Hsa.out; omega
      obtain ⟨cR, rb, dQ, lQ, vQ⟩ := HH.out
      rw [ej, List.take_length] at vQ
      obtain ⟨g2, cap2, hv, hconv⟩ := text_of_row wr _ _ Q (by rw [lQ]; exact hown.out) (by rw [lQ]; omega)
      rw [lQ] at hv
      rw [hv] at hconv ⊢
      have hcv := hconv 9 Tryz.underlying9
      have dv := div_told _ _ _ _ vQ (vl_bd R cR.1).1 rb
      have HF : Hid (Canon (strip Q) ∧ Canon R ∧ vl (strip Q) = vl a / vl b ∧ vl R = vl a % vl b ∧ (strip Q).length ≤ a.length ∧ R.length ≤ b.length) := ⟨strip_canon Q dQ (by rw [lQ]; omega), cR, by rw [strip_vl]; exact dv.1, dv.2, Nat.le_trans (strip_len _) (by omega), len_le R b cR Hb.out (by omega)⟩
      have HdQ : Hid (Dec Q ∧ Q.length ≤ 1000) := ⟨dQ, by omega⟩
      clear hconv hv hown cR rb dQ lQ vQ dv ej HH
      go_wp2_with fail
      refine (l10Strip_any Q _ HdQ.out.1 HdQ.out.2).mono ?_
      rintro e w' ⟨rfl, hw⟩
      obtain rfl := hw.symm
      go_wp2
      go_ret2
      exact ⟨_, _, rfl, HF.out.1, HF.out.2.1, HF.out.2.2.1, HF.out.2.2.2.1, HF.out.2.2.2.2.1, HF.out.2.2.2.2.2, hbel⟩
end Go.Proofs.YtnkoeidolmiheaaGreatDoor
namespace Go.Proofs.YtnkoeidolmiheaaGreatDoor
set_option linter.unusedVariables false
set_option maxRecDepth 100000
/-- One turn of the root: the next digit k of it. -/
theorem root_turn (S R P dd k : Int) (h : S * S + R = P) (hR : R ≤ 2 * S) (r0 : 0 ≤ R) (s0 : 0 ≤ S) (d0 : 0 ≤ dd) (d1 : dd ≤ 99) (k0 : 0 ≤ k) (k9 : k ≤ 9) (hk : (S * 20 + k) * k ≤ R * 100 + dd) (hend : k = 9 ∨ R * 100 + dd < (S * 20 + (k + 1)) * (k + 1)) :
    (S * 10 + k) * (S * 10 + k) + (R * 100 + dd - (S * 20 + k) * k) = P * 100 + dd ∧ R * 100 + dd - (S * 20 + k) * k ≤ 2 * (S * 10 + k) := by
  have e1 : (S * 10 + k) * (S * 10 + k) = S * S * 100 + (S * 20 + k) * k := by
    rw [Int.add_mul, Int.add_mul, Int.mul_add, Int.mul_add]
    have : S * 10 * (S * 10) = S * S * 100 := by
      rw [Int.mul_assoc, Int.mul_left_comm 10 S 10, ← Int.mul_assoc]; rfl
    have h2 : S * 10 * k = S * k * 10 := by rw [Int.mul_assoc, Int.mul_comm 10, ← Int.mul_assoc]
    have h3 : k * (S * 10) = S * k * 10 := by rw [Int.mul_comm k, h2]
    have h4 : S * 20 * k = S * k * 20 := by rw [Int.mul_assoc, Int.mul_comm 20, ← Int.mul_assoc]
    omega
  have e2 : (S * 20 + (k + 1)) * (k + 1) = (S * 20 + k) * k + (S * 20 + 2 * k + 1) := by
    rw [Int.mul_add, Int.mul_one, Int.add_mul, Int.add_mul, Int.add_mul]
    omega
  refine ⟨by omega, ?_⟩
  rcases hend with hk9 | hlt
  · subst hk9
    have : (S * 20 + 9) * 9 = S * 180 + 81 := by rw [Int.add_mul, Int.mul_assoc]; rfl
    omega
  · omega
/-- A root rounded down is told by the number. -/
theorem root_same (x s t : Int) (s0 : 0 ≤ s) (t0 : 0 ≤ t) (h1 : s * s ≤ x) (h2 : x < (s + 1) * (s + 1)) (k1 : t * t ≤ x) (k2 : x < (t + 1) * (t + 1)) : s = t := by
  rcases Int.lt_trichotomy s t with c | c | c
  · have := Int.mul_le_mul (show s + 1 ≤ t by omega) (show s + 1 ≤ t by omega) (by omega) t0
    omega
  · exact c
  · have := Int.mul_le_mul (show t + 1 ≤ s by omega) (show t + 1 ≤ s by omega) (by omega) s0
    omega
/-- What is left at most twice the root: it is the root rounded down. -/
theorem root_left (x s r : Int) (h : s * s + r = x) (r0 : 0 ≤ r) (r1 : r ≤ 2 * s) : s * s ≤ x ∧ x < (s + 1) * (s + 1) := by
  have e : (s + 1) * (s + 1) = s * s + 2 * s + 1 := by rw [Int.add_mul, Int.mul_add, Int.one_mul]; omega
  omega
end Go.Proofs.YtnkoeidolmiheaaGreatDoor
namespace Go.Proofs.YtnkoeidolmiheaaGreatDoor
open Go.RowKit
set_option linter.unusedVariables false
set_option maxRecDepth 100000
theorem tx_two (a : List Int) (j : Nat) (hj : j + 1 < a.length) : (tx a).extract j (j + 2) = tx [a.getD j 0, a.getD (j + 1) 0] := by
  apply ByteArray.ext
  rw [ByteArray.data_extract, tx_data, tx_data]
  simp only [List.getD, List.getElem?_eq_getElem hj, List.getElem?_eq_getElem (show j < a.length by omega), Option.getD_some]
  apply Array.ext
  · simp; omega
  · intro i h1 h2
    simp at h2
    rcases (show i = 0 ∨ i = 1 by omega) with rfl | rfl
    · simp
    · simp
/-- A byte of a digit, as a text. -/
theorem conv_dig (d : Int) (W : World) : ∀ dst, Tryz.prog.underlying dst = some .string → (convert 22 dst (.slice (some ⟨W.heap.size, 0, none⟩) 1 1)).run Tryz.prog (W.alloc (.cells #[.int .u8 (48 + d)] 5)) = .ok (.string (tx [d])) (W.alloc (.cells #[.int .u8 (48 + d)] 5)) :=
  run_convert_bytes_arg (P := Tryz.prog) _ 22 5 Tryz.underlying22 Tryz.underlying5 W.heap.size 0 1 1 [48 + d] rfl (fun i hi => by
    match i, hi with
    | 0, _ => simp)
theorem dec_snoc' (a : List Int) (d : Int) (h : Dec a) (h0 : 0 ≤ d) (h9 : d ≤ 9) : Dec (a ++ [d]) := fun x hx => by
  rcases List.mem_append.1 hx with hx | hx
  · exact h x hx
  · rw [List.mem_singleton] at hx; rw [hx]; exact ⟨h0, h9⟩
/-- What is told between the turns: i digits of A done. -/
def RT (A : List Int) (i : Nat) (S R : List Int) : Prop := Canon S ∧ Canon R ∧ vl S * vl S + vl R = vl (A.take i) ∧ vl R ≤ 2 * vl S ∧ S.length ≤ i + 1 ∧ R.length ≤ i + 1
theorem RT_start (A : List Int) : RT A 0 [0] [0] := ⟨canon_zero, canon_zero, rfl, by decide, by decide, by decide⟩
theorem vl_take_two (A : List Int) (j : Nat) (hj : j + 1 < A.length) : vl (A.take (j + 2)) = vl (A.take j) * 100 + (A.getD j 0 * 10 + A.getD (j + 1) 0) := by
  rw [vl_take_next A (j + 1) hj, vl_take_next A j (by omega)]; omega
set_option maxHeartbeats 4000000 in
theorem l11Root_any (a : List Int) (w : World) (ha : Canon a) (la : a.length ≤ 290) :
    Calls Tryz.prog 63 #[.string (tx a)] w fun e w' => ∃ S R, e = .returned (.tuple #[.string (tx S), .string (tx R)]) ∧ Canon S ∧ Canon R ∧ vl S * vl S + vl R = vl a ∧ vl R ≤ 2 * vl S ∧ S.length ≤ a.length + 2 ∧ R.length ≤ a.length + 2 ∧ Below w.heap.size w w' := by
  have sa := tx_size a
  have t0 : ({ data := #[48] } : ByteArray) = tx [0] := by apply ByteArray.ext; rw [tx_data]; rfl
  have t20 : ({ data := #[50, 48] } : ByteArray) = tx [2, 0] := by apply ByteArray.ext; rw [tx_data]; rfl
  have c20 : Canon [2, 0] := ⟨fun d hd => by simp at hd; omega, by decide, .inr (by decide)⟩
  have hcase : (((((tx a).size : Int) % 2) == 1) = false ∧ a.length % 2 = 0) ∨ (((((tx a).size : Int) % 2) == 1) = true ∧ a.length % 2 = 1) := by
    rcases (show a.length % 2 = 0 ∨ a.length % 2 = 1 by omega) with h | h
    · exact .inl ⟨by simp; omega, h⟩
    · exact .inr ⟨by simp; omega, h⟩
  have hA : ∃ A : List Int, Dec A ∧ A.length % 2 = 0 ∧ vl A = vl a ∧ A.length ≤ a.length + 1 ∧ ((((((tx a).size : Int) % 2) == 1) = false ∧ A = a) ∨ ((((((tx a).size : Int) % 2) == 1) = true) ∧ ({ data := #[48] } : ByteArray) ++ tx a = tx A)) := by
    rcases hcase with ⟨h1, h2⟩ | ⟨h1, h2⟩
    · exact ⟨a, ha.1, h2, rfl, by omega, .inl ⟨h1, rfl⟩⟩
    · refine ⟨0 :: a, fun d hd => ?_, by simp; omega, by rw [vl_cons, Int.mul_zero, Int.add_zero], by simp, .inr ⟨h1, by rw [t0, tx_append]; rfl⟩⟩
      rcases List.mem_cons.1 hd with rfl | hd
      · exact ⟨by decide, by decide⟩
      · exact ha.1 d hd
  obtain ⟨A, dA, eA, vA, lA, hA⟩ := hA
  have HA : Hid (Dec A ∧ A.length % 2 = 0 ∧ vl A = vl a ∧ A.length ≤ a.length + 1) := ⟨dA, eA, vA, lA⟩
  have T0 : Hid (({ data := #[48] } : ByteArray) = tx [0]) := t0
  have T20 : Hid (({ data := #[50, 48] } : ByteArray) = tx [2, 0] ∧ Canon [2, 0]) := ⟨t20, c20⟩
  have sA : (tx A).size ≤ 291 := by rw [tx_size]; omega
  have la' : (tx a).size ≤ 290 := by omega
  have HsA : Hid ((tx A).size = A.length) := tx_size A
  have evA : Hid ((tx A).size % 2 = 0) := by rw [Hid, tx_size]; exact eA
  clear dA eA vA lA t0 t20 c20 hcase sa ha
  generalize hva : vl a = va at *
  generalize hna : a.length = na at *
  clear hva hna
  rcases hA with ⟨hpar, rfl⟩ | ⟨hpar, hcat⟩
  all_goals
    go_enter Tryz.func63, Tryz.ntmps63
    go_wp2
    go_loopw [4, 5, 6] (fun s r i wr => ∃ (j : Nat) (S R : List Int), j ≤ (tx A).size ∧ i = .int .i64 j ∧ s = .string (tx S) ∧ r = .string (tx R) ∧ Hid (RT A j S R ∧ j % 2 = 0) ∧ Below w.heap.size w wr) (fun _ _ i _ => (tx A).size - (intOf i).toNat)
    case atStart => exact ⟨0, [0], [0], Nat.zero_le _, rfl, by rw [T0.out], by rw [T0.out], ⟨RT_start A, rfl⟩, Below.refl _ _⟩
    case round =>
      obtain ⟨j, S, R, hj, rfl, rfl, rfl, HR, hbel⟩ := hrel
      have hsz := hbel.size
      by_cases hlt : j < (tx A).size
      · have hj1 : j + 2 ≤ (tx A).size := by have := evA.out; have := HR.out.2; omega
        have hjA : j + 1 < A.length := by rw [← HsA.out]; omega
        have Hx : Hid ((tx A).extract j (j + 2) = tx [A.getD j 0, A.getD (j + 1) 0]) := tx_two A j hjA
        have b1 := dec_at A HA.out.1 j
        have b2 := dec_at A HA.out.1 (j + 1)
        have HT : Hid (vl (A.take (j + 2)) = vl (A.take j) * 100 + (A.getD j 0 * 10 + A.getD (j + 1) 0)) := vl_take_two A j hjA
        generalize A.getD j 0 = d1 at *
        generalize A.getD (j + 1) 0 = d2 at *
        clear hjA
        have lR := HR.out.1.2.2.2.2.2
        have lS := HR.out.1.2.2.2.2.1
        have HD : Hid (Dec (R ++ [d1, d2])) := fun x hx => by
          rcases List.mem_append.1 hx with hx | hx
          · exact HR.out.1.2.1.1 x hx
          · simp at hx; omega
        have hlen : (R ++ [d1, d2]).length = R.length + 2 := by rw [List.length_append]; rfl
        have HC : Hid (Canon (strip (R ++ [d1, d2])) ∧ vl (strip (R ++ [d1, d2])) = vl R * 100 + (d1 * 10 + d2) ∧ (strip (R ++ [d1, d2])).length ≤ j + 3) := ⟨strip_canon _ HD.out (by rw [hlen]; omega), by rw [strip_vl, show R ++ [d1, d2] = (R ++ [d1]) ++ [d2] by simp, vl_snoc, vl_snoc]; omega, Nat.le_trans (strip_len _) (by rw [hlen]; omega)⟩
        have hsl1 : (j : Int) + 2 ≤ ((tx A).size : Int) := by omega
        have hsl2 : (j : Int) ≤ (j : Int) + 2 := by omega
        have hlt' : (j : Int) < ((tx A).size : Int) := by omega
        have hsR : (tx R).size ≤ 1000 := by rw [tx_size]; omega
        have hsS : (tx S).size ≤ 1000 := by rw [tx_size]; omega
        have hlR : (R ++ [d1, d2]).length ≤ 1000 := by rw [hlen]; omega
        clear hlen
        go_wp2_with fail
        rw [Hx.out, tx_append]
        refine (l10Strip_any (R ++ [d1, d2]) _ HD.out hlR).mono ?_
        rintro e w' ⟨rfl, hw⟩
        obtain rfl := hw.symm
        generalize strip (R ++ [d1, d2]) = R1 at *
        clear Hx HD hlR hsl1 hsl2
        go_wp2_with fail
        rw [T20.out.1]
        refine (l11Mul_any S [2, 0] _ HR.out.1.1 T20.out.2 (by omega) (by decide)).mono ?_
        rintro e w1 ⟨T, rfl, cT, vT, lT, hb1⟩
        have Ht : Hid (Canon T ∧ vl T = vl S * 20 ∧ T.length ≤ j + 3) := ⟨cT, vT, by have h2 : ([2, 0] : List Int).length = 2 := rfl; omega⟩
        have hb01 : Below w.heap.size w w1 := hbel.trans (hb1.mono hsz)
        have hs1 := hb01.size
        clear cT vT lT hb1 hbel hsz
        go_wp2
        go_loopw [8, 9] (fun k st wr => ∃ (q : Nat) (P : List Int), q ≤ 9 ∧ k = .int .u8 q ∧ st = .string (tx P) ∧ Hid (Canon P ∧ vl P = (vl S * 20 + q) * q ∧ vl P ≤ vl R1 ∧ P.length ≤ 400) ∧ Below w.heap.size w wr) (fun k _ _ => 9 - (intOf k).toNat)
        case atStart => exact ⟨0, [0], by omega, rfl, by rw [T0.out], ⟨canon_zero, by show (0 : Int) = (vl S * 20 + 0) * 0; rw [Int.mul_zero], (vl_bd R1 HC.out.1.1).1, by decide⟩, hb01⟩
        case round =>
          clear hb01 hs1
          obtain ⟨q, P, hq, rfl, rfl, HP, hbel⟩ := hrel
          have hsz := hbel.size
          by_cases hq9 : q < 9
          · have hcv := conv_dig ((q : Int) + 1) wr 9 Tryz.underlying9
            rw [show 48 + ((q : Int) + 1) = 48 + (q : Int) + 1 by omega] at hcv
            have hq9' : (q : Int) < 9 := by omega
            have cq : Hid (Canon [(q : Int) + 1] ∧ vl [(q : Int) + 1] = (q : Int) + 1) := ⟨canon_one _ (by omega) (by omega), by show (q : Int) + 1 + 10 * 0 = _; omega⟩
            go_wp2_with fail
            refine (l11Add_any T [(q : Int) + 1] _ Ht.out.1 cq.out.1 (by have := Ht.out.2.2; omega) (by show 1 ≤ 300; decide)).mono ?_
            rintro e w2 ⟨T1, rfl, c1, v1, l1, hb2⟩
            have lT1 : T1.length ≤ j + 4 := by
              have h1 := Ht.out.2.2
              have h2 : ([(q : Int) + 1] : List Int).length = 1 := rfl
              rw [h2] at l1
              omega
            have H1 : Hid (Canon T1 ∧ vl T1 = vl S * 20 + (q + 1)) := ⟨c1, by rw [v1, Ht.out.2.1, cq.out.2]⟩
            have hb02 : Below w.heap.size w w2 := (hbel.alloc hsz _).trans (hb2.mono (by simp; omega))
            have hs2 := hb02.size
            clear c1 v1 l1 hb2
            go_wp2_with fail
            refine (l11Mul_any T1 [(q : Int) + 1] _ H1.out.1 cq.out.1 (by omega) (by show 1 ≤ 400; decide)).mono ?_
            rintro e w3 ⟨X, rfl, cX, vX, lX, hb3⟩
            have HXX : Hid (Canon X ∧ vl X = (vl S * 20 + (q + 1)) * (q + 1) ∧ X.length ≤ 400) := ⟨cX, by rw [vX, H1.out.2, cq.out.2], by have h2 : ([(q : Int) + 1] : List Int).length = 1 := rfl; rw [h2] at lX; omega⟩
            have hb03 : Below w.heap.size w w3 := hb02.trans (hb3.mono hs2)
            have hs3 := hb03.size
            have Cc : Hid (∀ W, Calls Tryz.prog 85 #[.string (tx X), .string (tx R1)] W fun e w' => e = .returned (.int .i64 (cmpI (vl X) (vl R1))) ∧ Below W.heap.size W w') := fun W => l11Cmp_any X R1 W cX HC.out.1 (by have := HXX.out.2.2; omega) (by have := HC.out.2.2; omega)
            clear cX vX lX hb3 hcv
            by_cases hgt : vl R1 < vl X
            · have ec : cmpI (vl X) (vl R1) = 1 := cmpI_gt _ _ hgt
              have Cc' : Hid (∀ W, Calls Tryz.prog 85 #[.string (tx X), .string (tx R1)] W fun e w' => e = .returned (.int .i64 1) ∧ Below W.heap.size W w') := by rw [← ec]; exact Cc
              have HX : Hid ((q : Int) = 9 ∨ vl R1 < (vl S * 20 + ((q : Int) + 1)) * ((q : Int) + 1)) := .inr (by rw [← HXX.out.2.1]; exact hgt)
              clear Cc ec hgt HXX
              go_wp2_with fail
              refine (Cc'.out _).mono ?_
              rintro e w4 ⟨rfl, hb4⟩
              have hb0x : Below w.heap.size w w4 := hb03.trans (hb4.mono hs3)
              have hs0x := hb0x.size
              clear hb4 Cc'
              have CsT : Hid (∀ W, Calls Tryz.prog 74 #[.string (tx R1), .string (tx P)] W fun e w' => ∃ R2, e = .returned (.string (tx R2)) ∧ Canon R2 ∧ vl R2 = vl R1 - vl P ∧ R2.length ≤ R1.length ∧ Below W.heap.size W w') := fun W => l11Sub_any R1 P W HC.out.1 HP.out.1 (by have := HC.out.2.2; omega) HP.out.2.2.1
              have HN : Hid (∀ R2 : List Int, Canon R2 → vl R2 = vl R1 - vl P → R2.length ≤ R1.length → RT A (j + 2) (strip (S ++ [(q : Int)])) R2 ∧ (j + 2) % 2 = 0) := fun R2 c2 v2 l2 => by
                have rt := root_turn (vl S) (vl R) (vl (A.take j)) (d1 * 10 + d2) q HR.out.1.2.2.1 HR.out.1.2.2.2.1 (vl_bd R HR.out.1.2.1.1).1 (vl_bd S HR.out.1.1.1).1 (by omega) (by omega) (by omega) (by omega) (by rw [← HP.out.2.1, ← HC.out.2.1]; exact HP.out.2.2.1) (by rw [← HC.out.2.1]; exact HX.out)
                have dS : Dec (S ++ [(q : Int)]) := dec_snoc' S q HR.out.1.1.1 (by omega) (by omega)
                have lS := HR.out.1.2.2.2.2.1
                have lR1 := HC.out.2.2
                refine ⟨⟨strip_canon _ dS (by rw [List.length_append]; show 0 < S.length + 1; omega), c2, ?_, ?_, Nat.le_trans (strip_len _) (by rw [List.length_append]; show S.length + 1 ≤ j + 2 + 1; omega), by omega⟩, by have := HR.out.2; omega⟩
                · rw [strip_vl, vl_snoc, v2, HT.out, HP.out.2.1, HC.out.2.1]; exact rt.1
                · rw [strip_vl, vl_snoc, v2, HP.out.2.1, HC.out.2.1]; exact rt.2
              have DS : Hid (Dec (S ++ [(q : Int)]) ∧ (S ++ [(q : Int)]).length ≤ 1000) := ⟨dec_snoc' S q HR.out.1.1.1 (by omega) (by omega), by rw [List.length_append]; show S.length + 1 ≤ 1000; have := HR.out.1.2.2.2.2.1; omega⟩
              clear HX HP
              go_wp2_with fail
              refine (CsT.out _).mono ?_
              rintro e w5 ⟨R2, rfl, c2, v2, l2, hb5⟩
              have HR2 : Hid (RT A (j + 2) (strip (S ++ [(q : Int)])) R2 ∧ (j + 2) % 2 = 0) := HN.out R2 c2 v2 l2
              have hb05 : Below w.heap.size w w5 := hb0x.trans (hb5.mono hs0x)
              have hs5 := hb05.size
              have hcv5 := conv_dig (q : Int) w5 9 Tryz.underlying9
              have hsq : (tx [(q : Int)]).size ≤ 1000 := by rw [tx_size]; show 1 ≤ 1000; decide
              have hsq' : ((tx [(q : Int)]).size : Int) ≤ 1000 := by omega
              have hsS' : ((tx S).size : Int) ≤ 1000 := by omega
              clear c2 v2 l2 hb5 HN
              go_wp2_with fail
              rw [tx_append]
              refine (l10Strip_any (S ++ [(q : Int)]) _ DS.out.1 DS.out.2).mono ?_
              rintro e w' ⟨rfl, hw⟩
              obtain rfl := hw.symm
              have hb06 := hb05.alloc hs5 (.cells #[.int .u8 (48 + (q : Int))] 5)
              go_wp2
              go_roundw
              case rel => exact ⟨j + 2, _, R2, by omega, by go_num, rfl, rfl, HR2, hb06⟩
              case measure => simp [intOf]; omega
            · have hc0 : cmpI (vl X) (vl R1) ≤ 0 := by (unfold cmpI; split <;> (try split) <;> omega)
              have hc0' : decide (0 < cmpI (vl X) (vl R1)) = false := by simp; omega
              have HX2 : Hid (Canon X ∧ vl X = (vl S * 20 + ((q + 1 : Nat) : Int)) * ((q + 1 : Nat) : Int) ∧ vl X ≤ vl R1 ∧ X.length ≤ 400) := ⟨HXX.out.1, HXX.out.2.1, by omega, HXX.out.2.2⟩
              generalize cmpI (vl X) (vl R1) = c at *
              clear hgt HXX
              go_wp2_with fail
              refine (Cc.out _).mono ?_
              rintro e w4 ⟨rfl, hb4⟩
              have hb04 : Below w.heap.size w w4 := hb03.trans (hb4.mono hs3)
              clear hb4 Cc
              go_wp2
              go_roundw
              case rel => exact ⟨q + 1, X, by omega, by go_num, rfl, HX2, hb04⟩
              case measure => simp [intOf]; omega
          · have hq9' : decide ((q : Int) < 9) = false := by simp; omega
            have HX : Hid ((q : Int) = 9 ∨ vl R1 < (vl S * 20 + ((q : Int) + 1)) * ((q : Int) + 1)) := .inl (by omega)
            have hb0x := hbel
            have hs0x := hsz
            have CsT : Hid (∀ W, Calls Tryz.prog 74 #[.string (tx R1), .string (tx P)] W fun e w' => ∃ R2, e = .returned (.string (tx R2)) ∧ Canon R2 ∧ vl R2 = vl R1 - vl P ∧ R2.length ≤ R1.length ∧ Below W.heap.size W w') := fun W => l11Sub_any R1 P W HC.out.1 HP.out.1 (by have := HC.out.2.2; omega) HP.out.2.2.1
            have HN : Hid (∀ R2 : List Int, Canon R2 → vl R2 = vl R1 - vl P → R2.length ≤ R1.length → RT A (j + 2) (strip (S ++ [(q : Int)])) R2 ∧ (j + 2) % 2 = 0) := fun R2 c2 v2 l2 => by
              have rt := root_turn (vl S) (vl R) (vl (A.take j)) (d1 * 10 + d2) q HR.out.1.2.2.1 HR.out.1.2.2.2.1 (vl_bd R HR.out.1.2.1.1).1 (vl_bd S HR.out.1.1.1).1 (by omega) (by omega) (by omega) (by omega) (by rw [← HP.out.2.1, ← HC.out.2.1]; exact HP.out.2.2.1) (by rw [← HC.out.2.1]; exact HX.out)
              have dS : Dec (S ++ [(q : Int)]) := dec_snoc' S q HR.out.1.1.1 (by omega) (by omega)
              have lS := HR.out.1.2.2.2.2.1
              have lR1 := HC.out.2.2
              refine ⟨⟨strip_canon _ dS (by rw [List.length_append]; show 0 < S.length + 1; omega), c2, ?_, ?_, Nat.le_trans (strip_len _) (by rw [List.length_append]; show S.length + 1 ≤ j + 2 + 1; omega), by omega⟩, by have := HR.out.2; omega⟩
              · rw [strip_vl, vl_snoc, v2, HT.out, HP.out.2.1, HC.out.2.1]; exact rt.1
              · rw [strip_vl, vl_snoc, v2, HP.out.2.1, HC.out.2.1]; exact rt.2
            have DS : Hid (Dec (S ++ [(q : Int)]) ∧ (S ++ [(q : Int)]).length ≤ 1000) := ⟨dec_snoc' S q HR.out.1.1.1 (by omega) (by omega), by rw [List.length_append]; show S.length + 1 ≤ 1000; have := HR.out.1.2.2.2.2.1; omega⟩
            clear HX HP
            go_wp2_with fail
            refine (CsT.out _).mono ?_
            rintro e w5 ⟨R2, rfl, c2, v2, l2, hb5⟩
            have HR2 : Hid (RT A (j + 2) (strip (S ++ [(q : Int)])) R2 ∧ (j + 2) % 2 = 0) := HN.out R2 c2 v2 l2
            have hb05 : Below w.heap.size w w5 := hb0x.trans (hb5.mono hs0x)
            have hs5 := hb05.size
            have hcv5 := conv_dig (q : Int) w5 9 Tryz.underlying9
            have hsq : (tx [(q : Int)]).size ≤ 1000 := by rw [tx_size]; show 1 ≤ 1000; decide
            have hsq' : ((tx [(q : Int)]).size : Int) ≤ 1000 := by omega
            have hsS' : ((tx S).size : Int) ≤ 1000 := by omega
            clear c2 v2 l2 hb5 HN
            go_wp2_with fail
            rw [tx_append]
            refine (l10Strip_any (S ++ [(q : Int)]) _ DS.out.1 DS.out.2).mono ?_
            rintro e w' ⟨rfl, hw⟩
            obtain rfl := hw.symm
            have hb06 := hb05.alloc hs5 (.cells #[.int .u8 (48 + (q : Int))] 5)
            go_wp2
            go_roundw
            case rel => exact ⟨j + 2, _, R2, by omega, by go_num, rfl, rfl, HR2, hb06⟩
            case measure => simp [intOf]; omega
      · have hd : decide ((j : Int) < ((tx A).size : Int)) = false := by simp; omega
        have HF : Hid (Canon S ∧ Canon R ∧ vl S * vl S + vl R = va ∧ vl R ≤ 2 * vl S ∧ S.length ≤ na + 2 ∧ R.length ≤ na + 2) := by
          have h := HR.out.1
          have e : j = A.length := by have := HsA.out; omega
          have l := HA.out.2.2.2
          unfold RT at h
          rw [e, List.take_length, HA.out.2.2.1] at h
          exact ⟨h.1, h.2.1, h.2.2.1, h.2.2.2.1, by have := h.2.2.2.2.1; omega, by have := h.2.2.2.2.2; omega⟩
        clear HR
        go_wp2
        go_ret2
        exact ⟨S, R, rfl, HF.out.1, HF.out.2.1, HF.out.2.2.1, HF.out.2.2.2.1, HF.out.2.2.2.2.1, HF.out.2.2.2.2.2, hbel⟩
end Go.Proofs.YtnkoeidolmiheaaGreatDoor
namespace Go.Proofs.YtnkoeidolmiheaaGreatDoor
open Go.RowKit
set_option linter.unusedVariables false
set_option maxRecDepth 100000
def divQ (s t : ByteArray) : ByteArray := if ok2 s t then (if nv t = 0 then { data := #[] } else tx (nt (nv s / nv t))) else { data := #[] }
def divR (s t : ByteArray) : ByteArray := if ok2 s t then (if nv t = 0 then { data := #[] } else tx (nt (nv s % nv t))) else { data := #[] }
theorem canon_nought (a : List Int) (h : Canon a) (hv : vl a = 0) : a = [0] := canon_unique a [0] h canon_zero (by rw [hv]; rfl)
theorem is0 (t : ByteArray) (h : natB 200 t = true) : (t.toList == [48]) = decide (nv t = 0) := by
  obtain ⟨hc, -, e⟩ := natB_dl 200 t h
  by_cases hz : nv t = 0
  · rw [decide_eq_true hz, e, canon_nought (dl t) hc hz, tx_zero]; rfl
  · rw [decide_eq_false hz, e]
    exact tx_is0 (dl t) hc.1 (fun c => hz (by unfold nv; rw [c]; rfl))
def shiftS (s : ByteArray) (n : Int) : ByteArray := if natB 200 s && (decide (0 ≤ n) && decide (n ≤ 200)) then fitS (nt (nv s * 10 ^ n.toNat)) else { data := #[] }
theorem l11Shift_all (a : List Int) (n : Nat) (w : World) (ha : Canon a) (la : a.length ≤ 200) (hn : n ≤ 200) :
    Calls Tryz.prog 64 #[.string (tx a), .int .i64 n] w fun e w' => ∃ R, e = .returned (.string (tx R)) ∧ R = nt (vl a * 10 ^ n) ∧ R.length ≤ 500 ∧ Below w.heap.size w w' := by
  rcases Nat.eq_zero_or_pos n with h | h
  · subst h
    refine (l11Shift_none a w ha la).mono ?_
    rintro e w' ⟨rfl, hb⟩
    exact ⟨a, rfl, nt_of a _ ha (by simp) (by omega), by omega, hb⟩
  · refine (l11Shift_any a n w ha la h hn).mono ?_
    rintro e w' ⟨R, rfl, hc, hv, hl, hb⟩
    exact ⟨R, rfl, nt_of R _ hc hv (by omega), by omega, hb⟩
end Go.Proofs.YtnkoeidolmiheaaGreatDoor
namespace Go.Proofs.YtnkoeidolmiheaaGreatDoor
set_option linter.unusedVariables false
set_option maxRecDepth 100000
/-- A number below ten to the 200. -/
def Nok (n : Int) : Prop := 0 ≤ n ∧ n < 10 ^ 200
/-- The text of a number. -/
def tn (n : Int) : ByteArray := tx (nt n)
theorem pow25 : (10 : Int) ^ 200 ≤ 10 ^ 500 := pow_mono 200 500 (by decide)
theorem ten_pos (k : Nat) : (0 : Int) < 10 ^ k := Int.pow_pos (by decide)
theorem nok_spec {n : Int} (h : Nok n) : Canon (nt n) ∧ vl (nt n) = n := nt_spec n h.1 (Int.lt_of_lt_of_le h.2 pow25)
theorem nok_len {n : Int} (h : Nok n) : (nt n).length ≤ 200 := by
  obtain ⟨hc, hv⟩ := nok_spec h
  rcases Nat.lt_or_ge 200 (nt n).length with c | c
  · exfalso
    have l := canon_low (nt n) hc (by omega)
    have m := pow_mono 200 ((nt n).length - 1) (by omega)
    rw [hv] at l
    exact absurd (Int.lt_of_lt_of_le h.2 (Int.le_trans m l)) (Int.lt_irrefl _)
  · exact c
theorem tn_ok {n : Int} (h : Nok n) : natB 200 (tn n) = true := natB_tx 200 (nt n) (nok_spec h).1 (by have := nok_len h; omega)
theorem nv_tn {n : Int} (h : Nok n) : nv (tn n) = n := by
  obtain ⟨hc, hv⟩ := nok_spec h
  unfold nv tn
  rw [dl_tx _ hc.1, hv]
theorem nok_nv {s : ByteArray} (h : natB 200 s = true) : Nok (nv s) := nv_bd 200 s h
theorem tn_nv {s : ByteArray} (h : natB 200 s = true) : s = tn (nv s) := by
  obtain ⟨hc, hl, e⟩ := natB_dl 200 s h
  have : dl s = nt (nv s) := nt_of (dl s) _ hc rfl (by omega)
  unfold tn
  rw [← this]
  exact e
theorem tn_size (n : Int) : (tn n).size ≤ 500 := by
  unfold tn nt
  rw [tx_size]
  exact Nat.le_trans (strip_len _) (by rw [lastD_len]; exact Nat.le_refl _)
theorem fit_tn {n : Int} (h : Nok n) : fitS (nt n) = tn n := by
  unfold fitS; rw [if_pos (nok_len h)]; rfl
/-- A number's text fits, and is its text, or it doesn't, and is nothing. -/
theorem fit_two (n : Int) (h0 : 0 ≤ n) (h1 : n < 10 ^ 500) : (Nok n ∧ fitS (nt n) = tn n) ∨ (¬ Nok n ∧ fitS (nt n) = { data := #[] }) := by
  by_cases h : Nok n
  · exact .inl ⟨h, fit_tn h⟩
  · refine .inr ⟨h, ?_⟩
    obtain ⟨hc, hv⟩ := nt_spec n h0 h1
    unfold fitS
    rw [if_neg]
    intro hl
    apply h
    refine ⟨h0, ?_⟩
    have b := (vl_bd (nt n) hc.1).2
    rw [hv] at b
    exact Int.lt_of_lt_of_le b (pow_mono _ _ hl)
theorem ok2_tn {x y : Int} (hx : Nok x) (hy : Nok y) : ok2 (tn x) (tn y) = true := by unfold ok2; rw [tn_ok hx, tn_ok hy]; rfl
theorem cmp_tn {x y : Int} (hx : Nok x) (hy : Nok y) : cmpS (tn x) (tn y) = cmpI x y := by
  unfold cmpS; rw [ok2_tn hx hy, if_pos rfl, nv_tn hx, nv_tn hy]
theorem add_tn {x y : Int} (hx : Nok x) (hy : Nok y) : addS (tn x) (tn y) = fitS (nt (x + y)) := by
  unfold addS; rw [ok2_tn hx hy, if_pos rfl, nv_tn hx, nv_tn hy]
theorem mul_tn {x y : Int} (hx : Nok x) (hy : Nok y) : mulS (tn x) (tn y) = fitS (nt (x * y)) := by
  unfold mulS; rw [ok2_tn hx hy, if_pos rfl, nv_tn hx, nv_tn hy]
theorem sub_tn {x y : Int} (hx : Nok x) (hy : Nok y) (h : y ≤ x) : subS (tn x) (tn y) = tn (x - y) := by
  unfold subS; rw [ok2_tn hx hy, if_pos rfl, nv_tn hx, nv_tn hy, if_neg (by omega)]; rfl
theorem sub_tn_no {x y : Int} (hx : Nok x) (hy : Nok y) (h : x < y) : subS (tn x) (tn y) = { data := #[] } := by
  unfold subS; rw [ok2_tn hx hy, if_pos rfl, nv_tn hx, nv_tn hy, if_pos h]
theorem tn_some {n : Int} (h : Nok n) : (tn n).toList.isEmpty = false := tx_some (nt n) (fun e => by have := (nok_spec h).1.2.1; rw [e] at this; cases this)
theorem tn_inj {x y : Int} (hx : Nok x) (hy : Nok y) (h : (tn x).toList = (tn y).toList) : x = y := by
  have := tx_inj (nt x) (nt y) (nok_spec hx).1.1 (nok_spec hy).1.1 h
  rw [← (nok_spec hx).2, ← (nok_spec hy).2, this]
theorem tn_ne {x y : Int} (hx : Nok x) (hy : Nok y) (h : x ≠ y) : ((tn x).toList == (tn y).toList) = false := beq_eq_false_iff_ne.2 fun e => h (tn_inj hx hy e)
theorem nok_zero : Nok 0 := ⟨Int.le_refl _, ten_pos _⟩
theorem tn_0 : (tn 0).toList = [48] := by
  have : nt 0 = [0] := (nt_of [0] 0 canon_zero rfl (by decide)).symm
  unfold tn; rw [this]; exact tx_zero
theorem tn_is0 {x : Int} (hx : Nok x) (h : x ≠ 0) : ((tn x).toList == [48]) = false := by rw [← tn_0]; exact tn_ne hx nok_zero h
theorem Nok.le {x y : Int} (h : Nok y) (h0 : 0 ≤ x) (hl : x ≤ y) : Nok x := ⟨h0, Int.lt_of_le_of_lt hl h.2⟩
theorem nok_mul {x y : Int} (hx : Nok x) (hy : Nok y) : 0 ≤ x * y ∧ x * y < 10 ^ 500 := by
  refine ⟨Int.mul_nonneg hx.1 hy.1, ?_⟩
  have h1 := pow_mono 400 500 (by decide)
  have h2 : (10 : Int) ^ 400 = 10 ^ 200 * 10 ^ 200 := Int.pow_add 10 200 200
  have h3 : x * y ≤ x * 10 ^ 200 := Int.mul_le_mul_of_nonneg_left (Int.le_of_lt hy.2) hx.1
  have h4 : x * 10 ^ 200 < 10 ^ 200 * 10 ^ 200 := Int.mul_lt_mul_of_pos_right hx.2 (ten_pos 200)
  rw [← h2] at h4
  exact Int.lt_of_le_of_lt h3 (Int.lt_of_lt_of_le h4 h1)
theorem nok_add {x y : Int} (hx : Nok x) (hy : Nok y) : 0 ≤ x + y ∧ x + y < 10 ^ 500 := by
  refine ⟨Int.add_nonneg hx.1 hy.1, ?_⟩
  have h1 := pow_mono 201 500 (by decide)
  have h2 : (10 : Int) ^ 201 = 10 ^ 200 * 10 := Int.pow_succ 10 200
  obtain ⟨a, b⟩ := hx
  obtain ⟨c, d⟩ := hy
  generalize (10 : Int) ^ 200 = e at *
  generalize (10 : Int) ^ 201 = f at *
  generalize (10 : Int) ^ 500 = g at *
  omega
theorem mulS_comm (s t : ByteArray) : mulS t s = mulS s t := by
  unfold mulS ok2; rw [Bool.and_comm, Int.mul_comm]
theorem addS_comm (s t : ByteArray) : addS t s = addS s t := by
  unfold addS ok2; rw [Bool.and_comm, Int.add_comm]
theorem div_tn {x y : Int} (hx : Nok x) (hy : Nok y) (h : y ≠ 0) : divQ (tn x) (tn y) = tn (x / y) ∧ divR (tn x) (tn y) = tn (x % y) := by
  unfold divQ divR
  rw [ok2_tn hx hy, if_pos rfl, if_pos rfl, nv_tn hx, nv_tn hy, if_neg h, if_neg h]
  exact ⟨rfl, rfl⟩
end Go.Proofs.YtnkoeidolmiheaaGreatDoor
