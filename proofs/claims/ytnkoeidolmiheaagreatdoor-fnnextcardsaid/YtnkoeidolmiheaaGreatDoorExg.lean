/-
  Plain facts for FnSubtracted: what is told without a flag is right; a difference without a flag, taken back, is alike to what it was taken from.
-/
import Derived.Test.YtnkoeidolmiheaaGreatDoorSph
import Derived.Test.YtnkoeidolmiheaaGreatDoorSmO
import Derived.Test.YtnkoeidolmiheaaGreatDoorExf
import Derived.Test.YtnkoeidolmiheaaGreatDoorSmL
namespace Go.Proofs.YtnkoeidolmiheaaGreatDoor
open Go.RowKit
set_option linter.unusedVariables false
set_option maxRecDepth 100000
/-- The other sign, but for NaNs. -/
def tuB (k : Int) (b : Bool) : Bool := if k = 1 ∨ k = 2 then !b else b
theorem numB_tu (f k : Int) (b : Bool) (e : Int) (s : ByteArray) : numB f k (tuB k b) e s = numB f k b e s := by
  unfold numB tuB
  by_cases h1 : k = 1
  · subst h1; simp
  · by_cases h2 : k = 2
    · subst h2; simp
    · rw [show (if k = 1 ∨ k = 2 then !b else b) = b from if_neg (fun q => q.elim h1 h2)]
def subR (f mode : Int) (ka : Int) (na : Bool) (ea : Int) (sa : ByteArray) (kb : Int) (nb : Bool) (eb : Int) (sb : ByteArray) : R5 := addR f mode ka na ea sa kb (tuB kb nb) eb sb
theorem sub_wrong (f mode : Int) (ka : Int) (na : Bool) (ea : Int) (sa : ByteArray) (kb : Int) (nb : Bool) (eb : Int) (sb : ByteArray) (h : numB f kb nb eb sb = false) : subR f mode ka na ea sa kb nb eb sb = (false, (0, 0, { data := #[] }, 0)) := by
  unfold subR addR addO
  rw [numB_tu, h, Bool.and_false, Bool.and_false]
  rfl
set_option maxRecDepth 100000 in
set_option maxHeartbeats 1000000 in
theorem iSub_any (f mode : Int) (ka : Int) (na : Bool) (ea : Int) (sa : ByteArray) (kb : Int) (nb : Bool) (eb : Int) (sb : ByteArray) (w : World) (hsa : sa.size ≤ 4611686018427387904) (hsb : sb.size ≤ 4611686018427387904) :
    Calls Tryz.prog 26 #[.int .i64 f, .int .i64 mode, numV ka na ea sa, numV kb nb eb sb] w fun x w' => x = .returned (rsD (subR f mode ka na ea sa kb nb eb sb).1 (subR f mode ka na ea sa kb nb eb sb).2) ∧ Below w.heap.size w w' := by
  have HS : Hid (SU w (((w.alloc (.cells #[.int .i64 ka, .bool na, .int .i64 ea, .string sa] 25)).alloc (.cells #[.int .i64 kb, .bool nb, .int .i64 eb, .string sb] 25)).alloc (.cells #[.int .i64 0, .bool false, .int .i64 0, .string { data := #[] }, .int .i64 0] 29)) ka na ea sa kb nb eb sb) := su_new w ka na ea sa kb nb eb sb
  have HTu : Hid (∀ X, Calls Tryz.prog 94 #[numV kb nb eb sb] X fun x w' => x = .returned (numV kb (tuB kb nb) eb sb) ∧ Below X.heap.size X w') := fun X => otherSign_any kb nb eb sb X
  have HAd : Hid (∀ X, Calls Tryz.prog 25 #[.int .i64 f, .int .i64 mode, numV ka na ea sa, numV kb (tuB kb nb) eb sb] X fun x w' => x = .returned (rsD (subR f mode ka na ea sa kb nb eb sb).1 (subR f mode ka na ea sa kb nb eb sb).2) ∧ Below X.heap.size X w') := fun X => iAdd_any f mode ka na ea sa kb (tuB kb nb) eb sb X hsa hsb
  generalize subR f mode ka na ea sa kb nb eb sb = R at *
  generalize tuB kb nb = tb at *
  obtain ⟨R0, F1, F2, F3, F4⟩ := R
  clear hsa hsb
  go_enter Tryz.func26, Tryz.ntmps26
  go_upto_region 1 with fail
  generalize ((w.alloc (.cells #[.int .i64 ka, .bool na, .int .i64 ea, .string sa] 25)).alloc (.cells #[.int .i64 kb, .bool nb, .int .i64 eb, .string sb] 25)).alloc (.cells #[.int .i64 0, .bool false, .int .i64 0, .string { data := #[] }, .int .i64 0] 29) = w1 at *
  have HX0 : Hid (Below w1.heap.size w1 w1.drew) := (Below.refl _ _).drew
  refine wp_region_tail (C := fun W => Below w1.heap.size w1 W) 5 (by kernel_rfl) (by kernel_rfl) HX0.out ?_
  simp only [List.take_succ_cons, List.take_zero, List.drop_succ_cons, List.drop_zero]
  repeat (refine wpQuiet_step (fun K hK => ?_); go_simp; first | (refine hK _ ?_; clear hK K) | (apply Exists.intro; refine ⟨fun wx hC => ?_, hK _ ?_⟩; (first | exact rfl | ((with_reducible refine Calls.class_of (HTu.out wx) ?_); exact fun w' hb => bel1 hC hb) | (obtain ⟨a0, a1, a2, a3, a4⟩ := (HS.out.next hC).at1.cells; go_simp; exact rfl) | (obtain ⟨a0, a1, a2, a3, a4⟩ := (HS.out.next hC).at2.cells; go_simp; exact rfl)); clear hK K))
  refine wpQuiet_nil ?_
  intro w2 hb2
  have HS2 : Hid (SU w w2 ka na ea sa kb nb eb sb) := HS.out.next hb2
  clear hb2 HS HX0 HTu
  go_wp2_with fail
  refine (HAd.out _).mono ?_
  rintro x w3 ⟨rfl, hb3⟩
  have HZ3 : Hid (At5 w3 (w.heap.size + 2) (.int .i64 0) (.bool false) (.int .i64 0) (.string { data := #[] }) (.int .i64 0) ∧ Below w.heap.size w w3) := sum_end HS2.out hb3
  clear hb3 HS2 HAd
  go_wp2_with (refine wpList_store_row rfl 29 (.tmp 8) (.tmp 14) rfl (w.heap.size + 2) #[.int .i64 F1, .bool R0, .int .i64 F2, .string F3, .int .i64 F4] rfl rfl _ _ HZ3.out.1 (by kernel_rfl) rfl (one5 _ _ _ _ _) ?_)
  have hP := (HZ3.out.1.row (.int .i64 F1) (.bool R0) (.int .i64 F2) (.string F3) (.int .i64 F4)).cells
  refine bodyPost_ret (results_res rfl _ _ rfl hP.1 hP.2.1 hP.2.2.1 hP.2.2.2.1 hP.2.2.2.2.1) rfl ?_
  exact ⟨rfl, bel_row HZ3.out.2 (by omega) _⟩
end Go.Proofs.YtnkoeidolmiheaaGreatDoor
namespace Go.Proofs.YtnkoeidolmiheaaGreatDoor
set_option linter.unusedVariables false
set_option maxRecDepth 100000
section
variable (f : Int) (mode : Int) (n1 : Bool) (e1 : Int) (d1 : List Int) (n2 : Bool) (e2 : Int) (d2 : List Int) (M : Int)
theorem sumY_right0 (hf : f = 64 ∨ f = 128) (c1 : Canon d1) (z1 : d1 ≠ [0]) (c2 : Canon d2) (z2 : d2 ≠ [0]) (l1 : d1.length ≤ 34) (hM1 : M ≤ e1) (hM2 : M ≤ e2) (hge : (d2.length : Int) + e2 ≤ d1.length + e1)
    (ns : Bool) (k E : Int) (S : ByteArray) (h : sumY f mode n1 e1 d1 n2 e2 d2 M = (ns, (k, E, S, 0))) : numB f k ns E S = true := by
  have hP : 1 ≤ (limP f).toNat := by rcases hf with rfl | rfl <;> decide
  have p181 : (10 : Int) ^ 181 = 10 ^ 180 * 10 := Int.pow_succ 10 180
  have p180 := ten_pos 180
  unfold sumY at h
  by_cases hfar : 180 < (d1.length : Int) + e1 - M
  · exfalso
    rw [if_pos hfar] at h
    have hb := (vl_bd d1 c1.1).2
    have v1 := vl_pos d1 c1 z1
    have p40 : (2 : Int) ≤ 10 ^ 40 := by decide
    have w1 : 1 * 10 ^ 40 ≤ vl d1 * 10 ^ 40 := Int.mul_le_mul_of_nonneg_right v1 (by omega)
    have w2 : vl d1 * 10 ^ 40 < 10 ^ d1.length * 10 ^ 40 := Int.mul_lt_mul_of_pos_right hb (by omega)
    rw [← Int.pow_add] at w2
    have w3 : (10 : Int) ^ (d1.length + 40) ≤ 10 ^ 180 := pow_mono _ _ (by omega)
    obtain ⟨t, ht, ht2⟩ : ∃ t : Int, (vl d1 * 10 ^ 40 - if n1 = n2 then 0 else 1) = t ∧ (1 ≤ t ∧ t < 10 ^ 181) := ⟨_, rfl, by split <;> omega⟩
    rw [ht] at h
    obtain ⟨cN, vN, zN, lN⟩ := nt_ok t ht2.1 ht2.2
    have h2 := congrArg Prod.snd h
    dsimp only at h2
    rw [finD_ne _ _ _ _ _ _ _ zN] at h2
    have := (finN_flag0 _ hP _ _ _ _ _ _ _ _ cN zN lN _ _ _ h2).2.1
    cases this
  · rw [if_neg hfar] at h
    obtain ⟨a1, b1⟩ := near_ok d1 e1 M c1 z1 hM1 (by omega)
    obtain ⟨a2, b2⟩ := near_ok d2 e2 M c2 z2 hM2 (by omega)
    generalize vl d1 * 10 ^ (e1 - M).toNat = X at *
    generalize vl d2 * 10 ^ (e2 - M).toNat = Y at *
    have fin : ∀ (g : Bool) (d : List Int), Canon d → d.length ≤ 200 → (g, finD f mode g d M false M) = (ns, (k, E, S, 0)) → numB f k ns E S = true := fun g d c l hh => by
      have hg : g = ns := congrArg Prod.fst hh
      have h2 := congrArg Prod.snd hh
      dsimp only at h2
      have := finD_right f hf mode g d M M c l
      rw [h2] at this
      rw [← hg]
      exact this
    have nz : ∀ v : Int, 1 ≤ v → v < 10 ^ 181 → Canon (nt v) ∧ (nt v).length ≤ 200 := fun v h0 h1 => by
      obtain ⟨cN, vN, zN, lN⟩ := nt_ok v h0 h1
      exact ⟨cN, lN⟩
    by_cases hn : n1 = n2
    · rw [if_pos hn] at h
      exact fin _ _ (nz (X + Y) (by omega) (by omega)).1 (nz (X + Y) (by omega) (by omega)).2 h
    · rw [if_neg hn] at h
      by_cases hxy : X = Y
      · rw [if_pos hxy] at h
        exact fin _ _ canon_zero (by decide) h
      · rw [if_neg hxy] at h
        by_cases hlt : Y < X
        · rw [if_pos hlt] at h
          exact fin _ _ (nz (X - Y) (by omega) (by omega)).1 (nz (X - Y) (by omega) (by omega)).2 h
        · rw [if_neg hlt] at h
          exact fin _ _ (nz (Y - X) (by omega) (by omega)).1 (nz (Y - X) (by omega) (by omega)).2 h
end
theorem sumX_right0 (f : Int) (mode : Int) (na : Bool) (ea : Int) (da : List Int) (nb : Bool) (eb : Int) (db : List Int) (hf : f = 64 ∨ f = 128) (ca : Canon da) (cb : Canon db) (la : da.length ≤ 34) (lb : db.length ≤ 34)
    (ns : Bool) (k E : Int) (S : ByteArray) (h : sumX f mode na ea da nb eb db = (ns, (k, E, S, 0))) : numB f k ns E S = true := by
  have fin : ∀ (g : Bool) (d : List Int) (e : Int), Canon d → d.length ≤ 200 → (g, finD f mode g d e false (min ea eb)) = (ns, (k, E, S, 0)) → numB f k ns E S = true := fun g d e c l hh => by
    have hg : g = ns := congrArg Prod.fst hh
    have h2 := congrArg Prod.snd hh
    dsimp only at h2
    have := finD_right f hf mode g d e (min ea eb) c l
    rw [h2] at this
    rw [← hg]
    exact this
  unfold sumX at h
  by_cases h1 : da = [0] ∧ db = [0]
  · rw [if_pos h1] at h
    exact fin _ _ _ canon_zero (by decide) h
  · rw [if_neg h1] at h
    by_cases h2 : da = [0]
    · rw [if_pos h2] at h
      exact fin _ _ _ cb (by omega) h
    · rw [if_neg h2] at h
      by_cases h3 : db = [0]
      · rw [if_pos h3] at h
        exact fin _ _ _ ca (by omega) h
      · rw [if_neg h3] at h
        by_cases h4 : (da.length : Int) + ea < (db.length : Int) + eb
        · rw [if_pos h4] at h
          exact sumY_right0 f mode nb eb db na ea da (min ea eb) hf cb h3 ca h2 lb (Int.min_le_right _ _) (Int.min_le_left _ _) (Int.le_of_lt h4) ns k E S h
        · rw [if_neg h4] at h
          exact sumY_right0 f mode na ea da nb eb db (min ea eb) hf ca h2 cb h3 la (Int.min_le_left _ _) (Int.min_le_right _ _) (by omega) ns k E S h
/-- Sums of two finite numbers that are right. -/
theorem addR_fin (f mode : Int) (hmo : 1 ≤ mode ∧ mode ≤ 5) (na : Bool) (ea : Int) (sa : ByteArray) (nb : Bool) (eb : Int) (sb : ByteArray) (hA : numB f 1 na ea sa = true) (hB : numB f 1 nb eb sb = true) : addR f mode 1 na ea sa 1 nb eb sb = sumX f mode na ea (dl sa) nb eb (dl sb) := by
  have hO : addO f mode 1 na ea sa 1 nb eb sb = true := by
    unfold addO
    rw [hA, hB, decide_eq_true hmo]
    rfl
  have hS : spB 2 (tw2 1 1) = false := decide_eq_false (by
    rintro ⟨i, hi, h⟩
    match i, hi with
    | 0, _ => rcases h with h | h <;> cases h
    | 1, _ => rcases h with h | h <;> cases h)
  unfold addR addX
  rw [hO, if_pos rfl, hS, if_neg (by decide), if_neg (fun h => absurd h.1 (by decide)), if_neg (by decide), if_neg (by decide)]
theorem nou_zero : nouB 1 (tx [0]) = true := by
  unfold nouB
  rw [show tx [0] = { data := #[48] } by apply ByteArray.ext; rw [tx_data]; rfl, ByteArray.toList_eq]
  rfl
/-- A difference without a flag, and what was taken put to it again: no flag, and as much as before. -/
theorem sub_back (f mode : Int) (hmo : 1 ≤ mode ∧ mode ≤ 5) (na : Bool) (ea : Int) (sa : ByteArray) (nb : Bool) (eb : Int) (sb : ByteArray) (hA : numB f 1 na ea sa = true) (hB : numB f 1 nb eb sb = true) (R0 : Bool) (F1 F2 : Int) (F3 : ByteArray)
    (h : subR f mode 1 na ea sa 1 nb eb sb = (R0, (F1, F2, F3, 0))) : ∃ g E S, addR f mode 1 R0 F2 F3 1 nb eb sb = (g, (1, E, S, 0)) ∧ cpR f 1 g E S 1 na ea sa = 0 := by
  obtain ⟨hf, ea1, -, ca⟩ := right_two f 1 na ea sa hA (by decide) (by decide)
  obtain ⟨-, eb1, -, cb⟩ := right_two f 1 nb eb sb hB (by decide) (by decide)
  obtain ⟨q1, l1, x1, y1⟩ := ca rfl
  obtain ⟨q2, l2, x2, y2⟩ := cb rfl
  have hL := lims f hf
  have hP : limP f = ((limP f).toNat : Int) := by rcases hf with rfl | rfl <;> decide
  have hu : tuB 1 nb = !nb := if_pos (.inl rfl)
  have hB' : numB f 1 (!nb) eb sb = true := by rw [← hu, numB_tu]; exact hB
  unfold subR at h
  rw [hu, addR_fin f mode hmo na ea sa (!nb) eb sb hA hB'] at h
  obtain ⟨hk, D, hS, dD, hv⟩ := sumX_flag0 f mode na ea (dl sa) (!nb) eb (dl sb) hf q1 q2 (by omega) (by omega) R0 F1 F2 F3 h
  have hR := sumX_right0 f mode na ea (dl sa) (!nb) eb (dl sb) hf q1 q2 (by omega) (by omega) R0 F1 F2 F3 h
  subst hk
  obtain ⟨-, er1, -, cr⟩ := right_two f 1 R0 F2 F3 hR (by decide) (by decide)
  obtain ⟨q3, l3, x3, y3⟩ := cr rfl
  rw [addR_fin f mode hmo R0 F2 F3 nb eb sb hR hB]
  have hv2 : SV (sgv R0 (vl (dl F3))) F2 (sumS na ea (dl sa) (!nb) eb (dl sb) (min ea eb)) (min ea eb) := by
    have : dl F3 = D := by rw [hS]; exact dl_tx D dD
    rw [this]
    exact hv
  have hb := back_value na ea (dl sa) nb eb (dl sb) R0 F2 (dl F3) hv2
  by_cases hz : dl sa = [0]
  · rw [hz, show vl [0] = 0 from rfl, sgv_0] at hb
    obtain ⟨g, E, hs⟩ := sumX_none f mode R0 F2 (dl F3) nb eb (dl sb) q3 q2 (by omega) (by omega) (sv_zero_of hb)
    have hs2 := sumX_right0 f mode R0 F2 (dl F3) nb eb (dl sb) hf q3 q2 (by omega) (by omega) _ _ _ _ hs
    refine ⟨g, E, _, hs, ?_⟩
    unfold cpR
    rw [hs2, hA, Bool.and_self, if_pos rfl, if_neg (by decide), nou_zero, ea1, hz, nou_zero, Bool.and_self, if_pos rfl]
  · obtain ⟨D', E, hs, cD, hD⟩ := sumX_exact f mode R0 F2 (dl F3) nb eb (dl sb) hf q3 q2 (by omega) (by omega) na ea (dl sa) q1 hz (by omega) x1 y1 hb
    have hs2 := sumX_right0 f mode R0 F2 (dl F3) nb eb (dl sb) hf q3 q2 (by omega) (by omega) _ _ _ _ hs
    refine ⟨na, E, _, hs, ?_⟩
    have zD : D' ≠ [0] := fun h => by
      rw [h, show vl [0] = 0 from rfl] at hD
      have := sv_zero_of hD.symm
      have := vl_pos _ q1 hz
      omega
    rw [ea1] at hA ⊢
    exact alike_fin f na E D' ea (dl sa) hs2 hA cD q1 zD hz hD
end Go.Proofs.YtnkoeidolmiheaaGreatDoor
