/-
  The model's arithmetic on naturals at any strings, by the numbers that they stand for, walked.
-/
import Derived.Test.YtnkoeidolmiheaaGreatDoorTxt3
import Derived.OpenShut
namespace Go.Proofs.YtnkoeidolmiheaaGreatDoor
open Go.RowKit
set_option linter.unusedVariables false
set_option maxRecDepth 100000
set_option maxHeartbeats 1600000 in
theorem l11Mul_any (a b : List Int) (w : World) (ha : Canon a) (hb : Canon b) (la : a.length ≤ 400) (lb : b.length ≤ 400) :
    Calls Tryz.prog 131 #[.string (tx a), .string (tx b)] w fun e w' => ∃ R, e = .returned (.string (tx R)) ∧ Canon R ∧ vl R = vl a * vl b ∧ R.length ≤ a.length + b.length ∧ Below w.heap.size w w' := by
  obtain ⟨i0, hi, hz0, hz1, hz2⟩ := info_parts info64
  have sa := tx_size a
  have sb := tx_size b
  have pa := ha.2.1
  have la' : (tx a).size ≤ 400 := by omega
  have lb' : (tx b).size ≤ 400 := by omega
  have Hs : Hid ((tx a).size = a.length ∧ (tx b).size = b.length) := ⟨sa, sb⟩
  have Ha : Hid (Dec a) := ha.1
  have Hb : Hid (Dec b) := hb.1
  have Hp : Hid (0 < a.length) := pa
  obtain ⟨w1, hrun, hown, hgrow⟩ := run_make_full (P := Tryz.prog) w w.heap.size 81 2 i0 (.int .i64 0) 1 Tryz.underlying81 hi hz0 hz1 .i64 .i64 ((tx a).size + (tx b).size) (by rw [hz2]; omega) (by unfold maxLen; omega) (Nat.le_refl _)
  have hb1 : Below w.heap.size w w1 := Below.grown (Below.refl _ _) hgrow (Nat.le_refl _) (fun k hk => by cases hk)
  have HM : Hid (MO a b 0 (List.replicate (a.length + b.length) 0)) := MO_start a b
  have Ho : Hid (w1.ownsRow w.heap.size 2 1 (.slice (some ⟨w.heap.size, 0, none⟩) ((tx a).size + (tx b).size) ((tx a).size + (tx b).size)) ((tx a).size + (tx b).size) ((List.replicate (a.length + b.length) 0).map (Value.int .i64))) := by
    have := hown
    rw [show (Value.int .i64 0).cells = #[Value.int .i64 0] from rfl, toList_madeCells_one, Nat.mul_one] at this
    rw [← sa, ← sb]
    simpa [Hid] using this
  have hrun' : (Instr.makeSlice 81 (.int .i64 (((tx a).size : Int) + ((tx b).size : Int))) (.int .i64 (((tx a).size : Int) + ((tx b).size : Int)))).run Tryz.prog w = .ok (.slice (some ⟨w.heap.size, 0, none⟩) ((tx a).size + (tx b).size) ((tx a).size + (tx b).size)) w1 := by
    have := hrun
    rw [show (((tx a).size + (tx b).size : Nat) : Int) = ((tx a).size : Int) + ((tx b).size : Int) from Int.natCast_add _ _] at this
    exact this
  clear hown hgrow hrun sa sb ha hb pa la lb
  generalize List.replicate (a.length + b.length) (0 : Int) = D0 at *
  go_enter Tryz.func131, Tryz.ntmps131
  go_wp2
  go_loopw [6] (fun i wr => ∃ (j : Nat) (D : List Int), j ≤ (tx a).size ∧ i = .int .i64 j ∧ Hid (MO a b j D) ∧ Hid (wr.ownsRow w.heap.size 2 1 (.slice (some ⟨w.heap.size, 0, none⟩) ((tx a).size + (tx b).size) ((tx a).size + (tx b).size)) ((tx a).size + (tx b).size) (D.map (Value.int .i64))) ∧ Below w.heap.size w wr) (fun i _ => (tx a).size - (intOf i).toNat)
  case atStart => exact ⟨0, D0, Nat.zero_le _, rfl, HM, Ho, hb1⟩
  case round =>
    clear HM Ho hb1 hrun'
    obtain ⟨j, D, hj, rfl, HO, hown, hbel⟩ := hrel
    have hsz := hbel.size
    by_cases hlt : j < (tx a).size
    · have hlt' : (j : Int) < ((tx a).size : Int) := by omega
      have ba := lo_bd a Ha.out j
      have Ca : Hid (∀ W, Calls Tryz.prog 137 #[.string (tx a), .int .i64 j] W fun e w' => e = .returned (.int .i64 (lo a j)) ∧ w' = W) := fun W => l11At_any a j W Ha.out (by have := Hs.out; omega) (by omega)
      have HI : Hid (MI a b j 0 D 0) := MO_row HO.out
      clear HO
      go_wp2_with fail
      refine (Ca.out _).mono ?_
      rintro e w' ⟨rfl, hw⟩
      obtain rfl := hw.symm
      go_wp2
      go_loopw [7, 9] (fun c k wr => ∃ (q : Nat) (D' : List Int) (cv : Int), q ≤ (tx b).size + 1 ∧ k = .int .i64 q ∧ c = .int .i64 cv ∧ (0 ≤ cv ∧ cv ≤ 9) ∧ ((tx b).size < q → cv = 0) ∧ Hid (MI a b j q D' cv) ∧ Hid (wr.ownsRow w.heap.size 2 1 (.slice (some ⟨w.heap.size, 0, none⟩) ((tx a).size + (tx b).size) ((tx a).size + (tx b).size)) ((tx a).size + (tx b).size) (D'.map (Value.int .i64))) ∧ Below w.heap.size w wr) (fun _ k _ => (tx b).size + 1 - (intOf k).toNat)
      case atStart => exact ⟨0, D, 0, Nat.zero_le _, rfl, rfl, ⟨Int.le_refl _, by decide⟩, fun _ => rfl, HI, hown, hbel⟩
      case round =>
        clear HI hown hbel hsz
        obtain ⟨q, D', cv, hq, rfl, rfl, hcv, hcz, HI, hown, hbel⟩ := hrel
        have hsz := hbel.size
        have hcase : (q < (tx b).size ∧ (q : Int) < ((tx b).size : Int)) ∨ (q ≤ (tx b).size ∧ ((tx b).size ≤ q ∧ decide (q < (tx b).size) = false ∧ decide ((q : Int) < ((tx b).size : Int)) = false) ∧ 0 < cv) ∨ ((tx b).size ≤ q ∧ decide ((q : Int) < ((tx b).size : Int)) = false ∧ cv = 0) := by
          rcases Nat.lt_or_ge q (tx b).size with h | h
          · exact .inl ⟨h, by omega⟩
          · rcases (show cv = 0 ∨ 0 < cv by omega) with e | e
            · exact .inr (.inr ⟨h, by simp; omega, e⟩)
            · exact .inr (.inl ⟨by have := hcz; omega, ⟨h, by simp; omega, by simp; omega⟩, e⟩)
        clear hcz
        rcases hcase with ⟨hq1, hq2⟩ | ⟨hq1, ⟨hq2, hq2a, hq2b⟩, hq3⟩ | ⟨hq1, hq2, rfl⟩
        rotate_right
        · have HO' : Hid (MO a b (j + 1) D') := MI_end HI.out (by rw [← Hs.out.2]; exact hq1)
          go_wp2
          go_roundw
          case rel => exact ⟨j + 1, D', by omega, by go_num, HO', hown, hbel⟩
          case measure => simp [intOf]; omega
        all_goals
          have hqb : q ≤ b.length := by rw [← Hs.out.2]; omega
          have St := MI_step HI.out Ha.out Hb.out (by rw [← Hs.out.1]; exact hlt) hqb hcv.1 hcv.2
          obtain ⟨S1, S2, S3, S4, S5⟩ := St
          have HS1 : Hid (MI a b j (q + 1) (D'.set (j + q) ((D'.getD (j + q) 0 + lo a j * lo b q + cv) % 10)) ((D'.getD (j + q) 0 + lo a j * lo b q + cv) / 10)) := S1
          have HS3 : Hid ((tx b).size < q + 1 → (D'.getD (j + q) 0 + lo a j * lo b q + cv) / 10 = 0) := fun h => S3 (by rw [← Hs.out.2]; omega)
          have Hst : Hid (_ ∧ _) := World.ownsRow.stored hown.out (j + q) (.int .i64 ((D'.getD (j + q) 0 + lo a j * lo b q + cv) % 10))
          have hDl : D'.length = (tx a).size + (tx b).size := by rw [HI.out.1, ← Hs.out.1, ← Hs.out.2]
          have hf := World.ownsRow.frozenAt hown.out (j + q)
          have hc : wr.cell? ⟨w.heap.size, j + q, none⟩ = some (.int .i64 (D'.getD (j + q) 0)) := by
            rw [World.ownsRow.cellAt hown.out (j + q) (by omega)]
            simp only [List.getElem?_map, List.getD]
            rw [List.getElem?_eq_getElem (by omega)]
            rfl
          have Cb : Hid (∀ W, Calls Tryz.prog 137 #[.string (tx b), .int .i64 q] W fun e w' => e = .returned (.int .i64 (lo b q)) ∧ w' = W) := fun W => l11At_any b q W Hb.out (by have := Hs.out; omega) (by omega)
          have hix : (j : Int) + (q : Int) < (((tx a).size + (tx b).size : Nat) : Int) := by omega
          have hix0 : 0 ≤ (j : Int) + (q : Int) := by omega
          have hix1 : ((j : Int) + (q : Int)).toNat = j + q := by omega
          clear S1 S3 HI hown hDl hqb
          generalize D'.getD (j + q) 0 = g at *
          generalize lo a j = x at *
          generalize lo b q = z at *
          go_wp2
          go_quiet (first | (go_at_call 137; refine Calls.quiet_of_same (Cb.out _)))
          go_wp2
          go_roundw
          case rel =>
            refine ⟨q + 1, _, _, by omega, by go_num, rfl, S2, HS3.out, HS1, ?_, below_drewN (hbel.setCell (Nat.le_refl _) _) _⟩
            have := Hst.out.1
            rw [Hid, List.map_set]
            exact this
          case measure => simp [intOf]; omega
    · have hd : decide ((j : Int) < ((tx a).size : Int)) = false := by simp; omega
      have ej : j = a.length := by have := Hs.out.1; omega
      have Hl : Hid (D.length = a.length + b.length) := HO.out.1
      have HH : Hid (Has wr w.heap.size (.slice (some ⟨w.heap.size, 0, none⟩) ((tx a).size + (tx b).size) ((tx a).size + (tx b).size)) D) := by
        rw [Hid]
        unfold Has
        rw [Hl.out, ← Hs.out.1, ← Hs.out.2]
        exact hown.out
      have HE : Hid (lv D = vl a * vl b ∧ Dec D) := by
        have h := HO.out
        rw [ej] at h
        exact ⟨MO_end h, h.2.1⟩
      clear HO hown ej
      go_wp2_with fail
      refine (l11Text_any _ D _ _ HH.out HE.out.2 (by rw [Hl.out]; have := Hp.out; omega) (by rw [Hl.out, ← Hs.out.1, ← Hs.out.2]; omega)).mono ?_
      rintro e w2 ⟨rfl, hb2⟩
      go_wp2
      go_ret
      exact ⟨_, rfl, strip_canon _ (dec_rev D HE.out.2) (by rw [List.length_reverse, Hl.out]; have := Hp.out; omega), by rw [strip_vl, vl_rev, HE.out.1], Nat.le_trans (strip_len _) (by rw [List.length_reverse, Hl.out]; exact Nat.le_refl _), hbel.trans (hb2.mono hsz)⟩
end Go.Proofs.YtnkoeidolmiheaaGreatDoor
namespace Go.Proofs.YtnkoeidolmiheaaGreatDoor
open Go.RowKit
set_option linter.unusedVariables false
set_option maxRecDepth 100000
end Go.Proofs.YtnkoeidolmiheaaGreatDoor
namespace Go.Proofs.YtnkoeidolmiheaaGreatDoor
open Go.RowKit
set_option linter.unusedVariables false
set_option maxRecDepth 100000
theorem byte_at (ds : List Int) (h : Dec ds) (k : Nat) (hk : k < (tx ds).size) : ∃ z : Int, (((tx ds)[k]'hk).toNat : Int) = z ∧ z = 48 + ds.getD k 0 ∧ 48 ≤ z ∧ z ≤ 57 := by
  have a := tx_at ds h k hk
  have b := dec_at ds h k
  exact ⟨_, rfl, a, by omega, by omega⟩
set_option maxHeartbeats 400000 in
theorem l11Cmp_any (a b : List Int) (w : World) (ha : Canon a) (hb : Canon b) (la : a.length ≤ 1000) (lb : b.length ≤ 1000) :
    Calls Tryz.prog 85 #[.string (tx a), .string (tx b)] w fun e w' => e = .returned (.int .i64 (cmpI (vl a) (vl b))) ∧ Below w.heap.size w w' := by
  have sa := tx_size a
  have sb := tx_size b
  rcases Nat.lt_trichotomy a.length b.length with h | h | h
  · have H : Hid (cmpI (vl a) (vl b) = -1) := cmpI_lt _ _ (vl_short a b ha hb h)
    have h1 : (((tx a).size : Int) == ((tx b).size : Int)) = false := by simp; omega
    have h2 : ((tx a).size : Int) < ((tx b).size : Int) := by omega
    clear sa sb ha hb
    go_enter Tryz.func85, Tryz.ntmps85
    go_wp2
    go_ret
    exact ⟨Ln.ret_int H.out.symm, Below.refl _ _⟩
  · have hz : (tx a).size = (tx b).size := by omega
    have hz' : Hid ((tx a).size = (tx b).size) := hz
    have ls : (tx a).size ≤ 1000 := by omega
    have h1 : (((tx a).size : Int) == ((tx b).size : Int)) = true := by simp; omega
    have Hsa : Hid ((tx a).size = a.length) := sa
    have H : Hid (Canon a ∧ Canon b ∧ a.length = b.length) := ⟨ha, hb, h⟩
    clear sa sb ha hb hz h la lb
    go_enter Tryz.func85, Tryz.ntmps85
    go_wp2
    go_loopw [5] (fun i wr => ∃ k : Nat, k ≤ (tx a).size ∧ i = .int .i64 k ∧ Hid (∀ j, j < k → a.getD j 0 = b.getD j 0) ∧ Below w.heap.size w wr) (fun i _ => (tx a).size - (intOf i).toNat)
    case atStart => exact ⟨0, Nat.zero_le _, rfl, fun j hj => absurd hj (Nat.not_lt_zero j), Below.refl _ _⟩
    case round =>
      obtain ⟨k, hk, rfl, hp, hbel⟩ := hrel
      by_cases hlt : k < (tx a).size
      · have hltb : k < (tx b).size := by rw [← hz'.out]; exact hlt
        have ta := tx_at a H.out.1.1 k hlt
        have tb := tx_at b H.out.2.1.1 k hltb
        have da := dec_at a H.out.1.1 k
        have db := dec_at b H.out.2.1.1 k
        have hlt' : (k : Int) < ((tx a).size : Int) := by omega
        have hkl : k < a.length := by rw [← Hsa.out]; exact hlt
        rcases Int.lt_trichotomy (a.getD k 0) (b.getD k 0) with hx | hx | hx
        · have E : Hid (cmpI (vl a) (vl b) = -1) := cmpI_lt _ _ (vl_less a b H.out.1.1 H.out.2.1.1 H.out.2.2 k hkl hp.out hx)
          have hne : ((((tx a)[k]'hlt).toNat : Int) == (((tx b)[k]'hltb).toNat : Int)) = false := by simp only [beq_eq_false_iff_ne]; omega
          have hl2 : (((tx a)[k]'hlt).toNat : Int) < (((tx b)[k]'hltb).toNat : Int) := by omega
          clear ta tb da db hkl
          go_wp2
          go_quiet (fail)
          go_wp2
          go_quiet (fail)
          go_wp2
          go_ret
          exact ⟨Ln.ret_int E.out.symm, by first | exact hbel | exact below_drewN hbel _ | exact below_drewN (below_drewN hbel _) _⟩
        · have hne : ((((tx a)[k]'hlt).toNat : Int) == (((tx b)[k]'hltb).toNat : Int)) = true := by simp only [beq_iff_eq]; omega
          have hp1 : Hid (∀ j, j < k + 1 → a.getD j 0 = b.getD j 0) := fun j hj => by
            rcases Nat.lt_or_ge j k with h | h
            · exact hp.out j h
            · rw [show j = k by omega]; exact hx
          clear ta tb da db hkl hx
          go_wp2
          go_quiet (fail)
          go_wp2
          go_roundw
          case rel => exact ⟨k + 1, by omega, by go_num, hp1, by first | exact hbel | exact below_drewN hbel _⟩
          case measure => simp [intOf]; omega
        · have E : Hid (cmpI (vl a) (vl b) = 1) := cmpI_gt _ _ (vl_less b a H.out.2.1.1 H.out.1.1 H.out.2.2.symm k (by rw [← H.out.2.2]; exact hkl) (fun j hj => (hp.out j hj).symm) hx)
          have hne : ((((tx a)[k]'hlt).toNat : Int) == (((tx b)[k]'hltb).toNat : Int)) = false := by simp only [beq_eq_false_iff_ne]; omega
          have hl2 : decide ((((tx a)[k]'hlt).toNat : Int) < (((tx b)[k]'hltb).toNat : Int)) = false := by simp; omega
          have hl3 : ¬ (((tx a)[k]'hlt).toNat : Int) < (((tx b)[k]'hltb).toNat : Int) := by omega
          have hl4 : ¬ ((tx a)[k]'hlt).toNat < ((tx b)[k]'hltb).toNat := by omega
          have hl5 : ((tx b)[k]'hltb).toNat ≤ ((tx a)[k]'hlt).toNat := by omega
          clear ta tb da db hkl
          go_wp2
          go_quiet (fail)
          go_wp2
          go_quiet (fail)
          go_wp2
          go_ret
          exact ⟨Ln.ret_int E.out.symm, by first | exact hbel | exact below_drewN hbel _ | exact below_drewN (below_drewN hbel _) _⟩
      · have hd : decide ((k : Int) < ((tx a).size : Int)) = false := by simp; omega
        have E : Hid (cmpI (vl a) (vl b) = 0) := by
          rw [Hid, vl_even a b H.out.2.2 (fun j hj => hp.out j (by have := Hsa.out; omega))]; exact cmpI_eq _
        go_wp2
        go_ret
        exact ⟨Ln.ret_int E.out.symm, hbel⟩
  · have H : Hid (cmpI (vl a) (vl b) = 1) := cmpI_gt _ _ (vl_short b a hb ha h)
    have h1 : (((tx a).size : Int) == ((tx b).size : Int)) = false := by simp; omega
    have h2 : decide (((tx a).size : Int) < ((tx b).size : Int)) = false := by simp; omega
    have h3 : ¬ ((tx a).size : Int) < ((tx b).size : Int) := by omega
    have h4 : ¬ (tx a).size < (tx b).size := by omega
    have h5 : (tx b).size ≤ (tx a).size := by omega
    clear sa sb ha hb
    go_enter Tryz.func85, Tryz.ntmps85
    go_wp2
    go_ret
    exact ⟨Ln.ret_int H.out.symm, Below.refl _ _⟩
set_option maxHeartbeats 400000 in
theorem l11Sub_any (a b : List Int) (w : World) (ha : Canon a) (hb : Canon b) (la : a.length ≤ 1000) (h : vl b ≤ vl a) :
    Calls Tryz.prog 74 #[.string (tx a), .string (tx b)] w fun e w' => ∃ R, e = .returned (.string (tx R)) ∧ Canon R ∧ vl R = vl a - vl b ∧ R.length ≤ a.length ∧ Below w.heap.size w w' := by
  obtain ⟨i0, hi, hz0, hz1, hz2⟩ := info_parts info64
  have lb : b.length ≤ a.length := by
    rcases Nat.lt_or_ge a.length b.length with c | c
    · have := vl_short a b ha hb c; omega
    · exact c
  have sa := tx_size a
  have la' : (tx a).size ≤ 1000 := by omega
  have Hsa : Hid ((tx a).size = a.length) := sa
  have Hlb : Hid (b.length ≤ 1000) := by rw [Hid]; omega
  have Ha : Hid (Dec a) := ha.1
  have Hb : Hid (Dec b) := hb.1
  have Hp : Hid (0 < a.length) := ha.2.1
  have HE : Hid (lv (ups (sdg a b) a.length) = vl a - vl b ∧ Dec (ups (sdg a b) a.length)) := sub_all a b ha.1 hb.1 h lb
  clear ha hb sa h lb la
  go_enter Tryz.func74, Tryz.ntmps74
  go_wp2
  go_loopw [5, 6, 7] (fun d c i wr => ∃ j : Nat, j ≤ (tx a).size ∧ i = .int .i64 j ∧ c = .int .i64 (sbw a b j) ∧ Hid (Has wr w.heap.size d (ups (sdg a b) j)) ∧ Below w.heap.size w wr) (fun _ _ i _ => (tx a).size - (intOf i).toNat)
  case atStart => exact ⟨0, Nat.zero_le _, rfl, rfl, none_own w, (Below.refl _ _).alloc (Nat.le_refl _) _⟩
  case round =>
    obtain ⟨j, hj, rfl, rfl, hh, hbel⟩ := hrel
    have hsz := hbel.size
    by_cases hlt : j < (tx a).size
    · have ba := lo_bd a Ha.out j
      have bb := lo_bd b Hb.out j
      have bs := sbw_bd a b j
      have Ca : Hid (∀ W, Calls Tryz.prog 137 #[.string (tx a), .int .i64 j] W fun e w' => e = .returned (.int .i64 (lo a j)) ∧ w' = W) := fun W => l11At_any a j W Ha.out (by have := Hsa.out; omega) (by omega)
      have Cb : Hid (∀ W, Calls Tryz.prog 137 #[.string (tx b), .int .i64 j] W fun e w' => e = .returned (.int .i64 (lo b j)) ∧ w' = W) := fun W => l11At_any b j W Hb.out Hlb.out (by omega)
      have hlt' : (j : Int) < ((tx a).size : Int) := by omega
      have hown0 := hh.out
      unfold Has at hown0
      rw [ups_length] at hown0
      by_cases hneg : lo a j - lo b j - sbw a b j < 0
      · have es : sbw a b (j + 1) = 1 := by
          show (if lo a j - lo b j - sbw a b j < 0 then (1 : Int) else 0) = 1
          rw [if_pos hneg]
        have Es : Hid (sbw a b (j + 1) = 1) := es
        have Eu : Hid (ups (sdg a b) (j + 1) = ups (sdg a b) j ++ [lo a j - lo b j - sbw a b j + 10]) := by
          show ups (sdg a b) j ++ [lo a j - lo b j - sbw a b j + 10 * sbw a b (j + 1)] = _
          rw [es]; rfl
        clear es
        generalize lo a j = x at *
        generalize lo b j = y at *
        generalize sbw a b j = s at *
        go_wp2_with fail
        refine (Ca.out _).mono ?_
        rintro e w' ⟨rfl, hw⟩
        obtain rfl := hw.symm
        go_wp2_with fail
        refine (Cb.out _).mono ?_
        rintro e w' ⟨rfl, hw⟩
        obtain rfl := hw.symm
        go_wp2_with (first | (at_builtin; refine wpList_append_own _ rfl _ _ 81 rfl w.heap.size 2 i0 (.int .i64 0) 1 8 Tryz.underlying81 hi hz0 hz1 hz2 rfl (by decide) _ _ _ rfl (hown0.alloc _) ⟨wr.heap.size, 0, none⟩ 1 1 [.int .i64 (x - y - s + 10)] rfl rfl (one_new _ _ _) (one_cell _ _) (by unfold maxLen; omega) (by omega) (by simp; omega) ?_) | go_in)
        intro v' w3 hown3 hgrow _
        have hb3 : Below w.heap.size w w3 := Below.grown (hbel.alloc (by omega) _) hgrow (by simp; omega) (fun k hk => (hown0.lt k hk).1)
        have H3 : Hid (Has w3 w.heap.size v' (ups (sdg a b) (j + 1))) := by
          rw [Hid]
          unfold Has
          rw [ups_length, Eu.out]
          simpa using hown3
        clear hown3 hgrow hown0 hh
        go_wp2
        go_roundw
        case rel => exact ⟨j + 1, by omega, by go_num, Ln.val_int Es.out.symm, H3, hb3⟩
        case measure => simp [intOf]; omega
      · have es : sbw a b (j + 1) = 0 := by
          show (if lo a j - lo b j - sbw a b j < 0 then (1 : Int) else 0) = 0
          rw [if_neg hneg]
        have Es : Hid (sbw a b (j + 1) = 0) := es
        have Eu : Hid (ups (sdg a b) (j + 1) = ups (sdg a b) j ++ [lo a j - lo b j - sbw a b j]) := by
          show ups (sdg a b) j ++ [lo a j - lo b j - sbw a b j + 10 * sbw a b (j + 1)] = _
          rw [es, Int.mul_zero, Int.add_zero]
        clear es
        generalize lo a j = x at *
        generalize lo b j = y at *
        generalize sbw a b j = s at *
        go_wp2_with fail
        refine (Ca.out _).mono ?_
        rintro e w' ⟨rfl, hw⟩
        obtain rfl := hw.symm
        go_wp2_with fail
        refine (Cb.out _).mono ?_
        rintro e w' ⟨rfl, hw⟩
        obtain rfl := hw.symm
        go_wp2_with (first | (at_builtin; refine wpList_append_own _ rfl _ _ 81 rfl w.heap.size 2 i0 (.int .i64 0) 1 8 Tryz.underlying81 hi hz0 hz1 hz2 rfl (by decide) _ _ _ rfl (hown0.alloc _) ⟨wr.heap.size, 0, none⟩ 1 1 [.int .i64 (x - y - s)] rfl rfl (one_new _ _ _) (one_cell _ _) (by unfold maxLen; omega) (by omega) (by simp; omega) ?_) | go_in)
        intro v' w3 hown3 hgrow _
        have hb3 : Below w.heap.size w w3 := Below.grown (hbel.alloc (by omega) _) hgrow (by simp; omega) (fun k hk => (hown0.lt k hk).1)
        have H3 : Hid (Has w3 w.heap.size v' (ups (sdg a b) (j + 1))) := by
          rw [Hid]
          unfold Has
          rw [ups_length, Eu.out]
          simpa using hown3
        clear hown3 hgrow hown0 hh
        go_wp2
        go_roundw
        case rel => exact ⟨j + 1, by omega, by go_num, Ln.val_int Es.out.symm, H3, hb3⟩
        case measure => simp [intOf]; omega
    · have hd : decide ((j : Int) < ((tx a).size : Int)) = false := by simp; omega
      have ej : j = a.length := by have := Hsa.out; omega
      rw [ej] at hh
      have Hl : Hid ((ups (sdg a b) a.length).length = a.length) := ups_length _ _
      generalize ups (sdg a b) a.length = D at *
      go_wp2_with fail
      refine (l11Text_any _ D _ _ hh.out HE.out.2 (by rw [Hl.out]; exact Hp.out) (by rw [Hl.out]; have := Hsa.out; omega)).mono ?_
      rintro e w1 ⟨rfl, hb1⟩
      go_wp2
      go_ret
      exact ⟨_, rfl, strip_canon _ (dec_rev D HE.out.2) (by rw [List.length_reverse, Hl.out]; exact Hp.out), by rw [strip_vl, vl_rev, HE.out.1], Nat.le_trans (strip_len _) (by rw [List.length_reverse, Hl.out]; exact Nat.le_refl _), hbel.trans (hb1.mono hsz)⟩
end Go.Proofs.YtnkoeidolmiheaaGreatDoor
namespace Go.Proofs.YtnkoeidolmiheaaGreatDoor
open Go.RowKit
set_option linter.unusedVariables false
set_option maxRecDepth 100000
theorem canon_le (R : List Int) (h : Canon R) (k : Nat) (hp : 0 < k) (hk : vl R < 10 ^ k) : R.length ≤ k := by
  rcases Nat.lt_or_ge k R.length with c | c
  · have l := canon_low R h (by omega)
    have m := pow_mono k (R.length - 1) (by omega)
    omega
  · exact c
theorem conv_none (W : World) : ∀ dst, Tryz.prog.underlying dst = some .string → (convert 22 dst (.slice (some ⟨W.heap.size, 0, none⟩) 0 0)).run Tryz.prog (W.alloc (.cells #[] 5)) = .ok (.string (tx [])) (W.alloc (.cells #[] 5)) :=
  run_convert_bytes_arg (P := Tryz.prog) _ 22 5 Tryz.underlying22 Tryz.underlying5 W.heap.size 0 0 0 [] rfl (fun i hi => by simp at hi)
theorem l11Zeros_none (w : World) :
    Calls Tryz.prog 132 #[.int .i64 0] w fun e w' => e = .returned (.string (tx [])) ∧ Below w.heap.size w w' := by
  have hcv := conv_none w 9 Tryz.underlying9
  generalize tx [] = T at *
  go_enter Tryz.func132, Tryz.ntmps132
  go_wp2
  go_loop [0, 3] (fun i b => i = .int .i64 0 ∧ b = .slice (some ⟨w.heap.size, 0, none⟩) 0 0) (fun _ _ => 0)
  case atStart => exact ⟨rfl, rfl⟩
  case round =>
    obtain ⟨rfl, rfl⟩ := hrel
    go_wp2
    go_ret
    exact ⟨rfl, (Below.refl _ _).alloc (Nat.le_refl _) _⟩
theorem l11Shift_none (a : List Int) (w : World) (ha : Canon a) (la : a.length ≤ 200) :
    Calls Tryz.prog 64 #[.string (tx a), .int .i64 0] w fun e w' => e = .returned (.string (tx a)) ∧ Below w.heap.size w w' := by
  have Ha : Hid (Canon a) := ha
  clear ha
  have s1 : ((tx a).size : Int) ≤ 8388608 := by rw [tx_size]; omega
  have s2 : ((tx []).size : Int) ≤ 8388608 := by rw [tx_size]; simp
  by_cases hz : a = [0]
  · have hb : ((tx a).toList == [48]) = true := by rw [hz, tx_zero]; rfl
    clear hz s1 s2
    go_enter Tryz.func64, Tryz.ntmps64
    go_wp2
    go_ret
    exact ⟨rfl, Below.refl _ _⟩
  · have hb := tx_is0 a Ha.out.1 hz
    have hap : tx a ++ tx [] = tx a := by rw [tx_append, List.append_nil]
    have Hzr : Hid (∀ w, Calls Tryz.prog 132 #[.int .i64 0] w fun e w' => e = .returned (.string (tx [])) ∧ Below w.heap.size w w') := l11Zeros_none
    clear hz
    generalize tx [] = T at *
    go_enter Tryz.func64, Tryz.ntmps64
    go_wp2_with fail
    refine (Hzr.out _).mono ?_
    rintro e w1 ⟨rfl, hb1⟩
    go_wp2
    go_ret
    exact ⟨rfl, hb1⟩
end Go.Proofs.YtnkoeidolmiheaaGreatDoor
namespace Go.Proofs.YtnkoeidolmiheaaGreatDoor
open Go.RowKit
set_option linter.unusedVariables false
set_option maxRecDepth 100000
def ok2 (s t : ByteArray) : Bool := natB 200 s && natB 200 t
theorem ok2_yes {s t : ByteArray} (h : ok2 s t = true) : natB 200 s = true ∧ natB 200 t = true := by
  unfold ok2 at h
  rw [Bool.and_eq_true] at h
  exact h
theorem ok2_no {s t : ByteArray} (h : ok2 s t = false) : natB 200 s = false ∨ (natB 200 s = true ∧ natB 200 t = false) := by
  unfold ok2 at h
  cases a : natB 200 s with
  | false => exact .inl rfl
  | true => rw [a] at h; exact .inr ⟨rfl, by simpa using h⟩
def cmpS (s t : ByteArray) : Int := if ok2 s t then cmpI (nv s) (nv t) else 2
def addS (s t : ByteArray) : ByteArray := if ok2 s t then fitS (nt (nv s + nv t)) else { data := #[] }
def subS (s t : ByteArray) : ByteArray := if ok2 s t then (if nv s < nv t then { data := #[] } else tx (nt (nv s - nv t))) else { data := #[] }
def mulS (s t : ByteArray) : ByteArray := if ok2 s t then fitS (nt (nv s * nv t)) else { data := #[] }
end Go.Proofs.YtnkoeidolmiheaaGreatDoor
