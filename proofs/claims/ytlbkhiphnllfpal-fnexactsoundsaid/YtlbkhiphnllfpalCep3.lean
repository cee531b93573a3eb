/-
  The corners of a cell as the program lists them, walked.
-/
import Derived.Test.YtlbkhiphnllfpalCep2
namespace Go.Proofs.Ytlbkhiphnllfpal
open Go.RowKit
set_option linter.unusedVariables false
/-- The worlds in which the two boxes lie as they were laid. -/
structure Bx (w : World) (a u t D Y : Int) (wx : World) : Prop where
  s : At3 wx w.heap.size (.int .i64 a) (.int .i64 u) (.int .i64 t)
  c : At2 wx (w.heap.size + 1) (.int .i64 D) (.int .i64 Y)
  b : Below w.heap.size w wx
theorem Bx.step {w W w1 : World} {a u t D Y : Int} (h : Bx w a u t D Y W) (hb : Below W.heap.size W w1) : Bx w a u t D Y w1 := ⟨h.s.below hb, h.c.below hb, bel1 h.b hb⟩
theorem bx_new (w : World) (a u t D Y : Int) (t1 t2 : TypeId) : Bx w a u t D Y ((w.alloc (.cells #[.int .i64 a, .int .i64 u, .int .i64 t] t1)).alloc (.cells #[.int .i64 D, .int .i64 Y] t2)) :=
  ⟨(at3_new _ _ _ _ _).alloc _, by have h := at2_new (w.alloc (.cells #[.int .i64 a, .int .i64 u, .int .i64 t] t1)) (.int .i64 D) (.int .i64 Y) t2; simpa using h, ((Below.refl _ _).alloc (Nat.le_refl _) _).alloc (by simp) _⟩
theorem Bx.drew {w W : World} {a u t D Y : Int} (h : Bx w a u t D Y W) : Bx w a u t D Y W.drew := ⟨h.s, h.c, h.b.drew⟩
set_option maxRecDepth 100000 in
set_option maxHeartbeats 4000000 in
theorem cornersOf_any (a u t D Y : Int) (w : World) (ha : 5 ≤ a ∧ a ≤ 9) (hu : 1 ≤ u ∧ u ≤ 2) (ht : 1 ≤ t ∧ t ≤ 2) (hD : 1 ≤ D ∧ D ≤ 99) (hY : -1000000 ≤ Y ∧ Y ≤ 1000000) (p q : Int) (hp : p = 9 * 10 ^ u.toNat) (hq : q = 10 * a * 10 ^ t.toNat) :
    Calls Try.prog 28 #[.agg #[.int .i64 a, .int .i64 u, .int .i64 t], .agg #[.int .i64 D, .int .i64 Y]] w fun e w' => ∃ v, e = .returned v ∧ HasQ w' w.heap.size v (crn (D * q) ((D + 1) * q) (Y * p) ((Y + 2) * p) 12) ∧ Below w.heap.size w w' := by
  obtain ⟨i0, hi, hz0, hz1, hz2⟩ := info_parts infoPq
  have H1 : Hid (∀ W, Calls Try.prog 26 #[.agg #[.int .i64 a, .int .i64 u, .int .i64 t]] W fun e w' => e = .returned (.int .i64 q) ∧ Below W.heap.size W w') := fun W => by rw [hq]; exact divisorUnits_any a u t W ha ht
  have H2 : Hid (∀ W, Calls Try.prog 27 #[.agg #[.int .i64 a, .int .i64 u, .int .i64 t]] W fun e w' => e = .returned (.int .i64 p) ∧ Below W.heap.size W w') := fun W => by rw [hp]; exact restUnits_any a u t W hu
  have hqb : 0 ≤ q ∧ q ≤ 9000 := by
    have hT := pow12 t ht
    have := Int.mul_le_mul_of_nonneg_left hT.2 (show 0 ≤ 10 * a by omega)
    have := Int.mul_nonneg (show 0 ≤ 10 * a by omega) (show (0 : Int) ≤ 10 ^ t.toNat by omega)
    omega
  have hpb : 90 ≤ p ∧ p ≤ 900 := by have := pow12 u hu; omega
  clear hp hq
  have m1 := mulB D q 100 9000 (by omega) (by omega) (by omega) (by omega) (by decide)
  have m2 := mulB (D + 1) q 100 9000 (by omega) (by omega) (by omega) (by omega) (by decide)
  have m3 := mulB Y p 1000002 900 (by omega) (by omega) (by omega) (by omega) (by decide)
  have m4 := mulB (Y + 2) p 1000002 900 (by omega) (by omega) (by omega) (by omega) (by decide)
  have HX0 : Hid (Bx w a u t D Y ((w.alloc (.cells #[.int .i64 a, .int .i64 u, .int .i64 t] 30)).alloc (.cells #[.int .i64 D, .int .i64 Y] 37)).drew) := (bx_new _ _ _ _ _ _ _ _).drew
  obtain ⟨C12, hC12⟩ : ∃ C12, C12 = crn (D * q) ((D + 1) * q) (Y * p) ((Y + 2) * p) 12 := ⟨_, rfl⟩
  rw [← hC12]
  have HC : Hid (C12 = crn (D * q) ((D + 1) * q) (Y * p) ((Y + 2) * p) 12) := hC12
  clear hC12
  go_enter Try.func28, Try.ntmps28
  go_upto_region 1 with fail
  refine wp_region_class (C := Bx w a u t D Y) (by kernel_rfl) (by kernel_rfl) HX0.out ?_
  repeat (refine wpQuiet_step (fun K hK => ?_); go_simp; apply Exists.intro; refine ⟨fun wx hC => ?_, hK _ ?_⟩; (first | exact rfl | exact Calls.class_of (H1.out wx) (fun w' hb => hC.step hb) | (obtain ⟨⟨q0, q1, q2⟩, ⟨q3, q4⟩, hB⟩ := id hC; go_simp; exact rfl)); clear hK K)
  refine wpQuiet_nil ?_
  intro w1 hX1
  rw [wrap_fit (D * q) (by omega) (by omega), wrap_fit (D + 1) (by omega) (by omega), wrap_fit ((D + 1) * q) (by omega) (by omega)]
  clear HX0
  have HX1 : Hid (Bx w a u t D Y w1.drew) := hX1.drew
  clear hX1
  go_upto_region 2 with fail
  refine wp_region_class (C := Bx w a u t D Y) (by kernel_rfl) (by kernel_rfl) HX1.out ?_
  repeat (refine wpQuiet_step (fun K hK => ?_); go_simp; apply Exists.intro; refine ⟨fun wx hC => ?_, hK _ ?_⟩; (first | exact rfl | exact Calls.class_of (H2.out wx) (fun w' hb => hC.step hb) | (obtain ⟨⟨q0, q1, q2⟩, ⟨q3, q4⟩, hB⟩ := id hC; go_simp; exact rfl)); clear hK K)
  refine wpQuiet_nil ?_
  intro w2 hX2
  rw [wrap_fit (Y * p) (by omega) (by omega), wrap_fit (Y + 2) (by omega) (by omega), wrap_fit ((Y + 2) * p) (by omega) (by omega)]
  have hsz := hX2.b.size
  have HB0 : Below w.heap.size w (w2.alloc (.cells #[] 51)) := hX2.b.alloc hsz _
  have HO : Hid (HasQ (w2.alloc (.cells #[] 51)) w.heap.size (.slice (some ⟨w2.heap.size, 0, none⟩) 0 0) []) := World.ownsRow_made w2 #[] 0 hsz (Nat.zero_le _) rfl
  clear HX1 hX2 H1 H2
  generalize D * q = L at *
  generalize (D + 1) * q = R at *
  generalize Y * p = l at *
  generalize (Y + 2) * p = h at *
  go_wp2
  go_loopw [9, 77] (fun v i wr => ∃ j : Nat, j ≤ 12 ∧ i = .int .i64 (j : Int) ∧ Hid (HasQ wr w.heap.size v (crn L R l h j)) ∧ Below w.heap.size w wr) (fun _ i _ => 12 - (intOf i).toNat)
  case atStart => exact ⟨0, Nat.zero_le _, rfl, HO, HB0⟩
  case round =>
    clear HO HB0 hsz
    obtain ⟨j, hj, rfl, hown, hbel⟩ := hrel
    have hsz := hbel.size
    by_cases hlt : j < 12
    · have hl : j < (tw L R l h).length := hlt
      obtain ⟨x, hx⟩ : ∃ x, x = (tw L R l h)[j] := ⟨_, rfl⟩
      have hget : (tw L R l h)[j]? = some x := by rw [hx]; exact List.getElem?_eq_getElem hl
      have hix := ix12 L R l h j hlt x hget
      have HS : Hid (crn L R l h (j + 1) = ins L R l h (crn L R l h j) x) := crn_step L R l h j x hget
      have hlen := crn_len L R l h j hj
      have hxb : -1000000000 ≤ x.1 ∧ x.1 ≤ 1000000000 ∧ -1000000000 ≤ x.2 ∧ x.2 ≤ 1000000000 := by
        have hm := List.mem_of_getElem? hget
        simp only [tw, List.mem_cons, List.not_mem_nil, or_false] at hm
        rcases hm with e | e | e | e | e | e | e | e | e | e | e | e <;> (rw [e]; refine ⟨?_, ?_, ?_, ?_⟩ <;> (dsimp only; omega))
      clear hx hget hl
      obtain ⟨px, py⟩ := x
      dsimp only at hxb hix
      generalize crn L R l h j = P0 at *
      have hlt' : (j : Int) < 12 := by omega
      by_cases hall : L ≤ px ∧ px ≤ R ∧ l ≤ py ∧ py ≤ h ∧ py ≤ px ∧ -py ≤ px
      · obtain ⟨h1, h2, h3, h4, h5, h6⟩ := hall
        have HA : Hid (Calls Try.prog 31 #[u9, .agg #[.int .i64 px, .int .i64 py]] (wr.alloc (.cells #[.int .i64 px, .int .i64 py] 51)) fun e w' => e = .returned (.bool (decide ((px, py) ∈ P0))) ∧ Below (wr.alloc (.cells #[.int .i64 px, .int .i64 py] 51)).heap.size (wr.alloc (.cells #[.int .i64 px, .int .i64 py] 51)) w') := isAmong_any u9 P0 w.heap.size px py _ (hown.out.below (B := wr.heap.size) ((Below.refl _ _).alloc (Nat.le_refl _) _) (Nat.le_refl _)) (by omega)
        by_cases hmem : (px, py) ∈ P0
        · have HE : Hid (crn L R l h (j + 1) = P0) := by
            show _ = _
            rw [HS.out]; unfold ins; rw [if_neg (fun hh => hh.2 hmem)]
          rw [decide_eq_true hmem] at HA
          clear HS hmem
          go_wp2_with fail
          refine HA.out.mono ?_
          rintro e w4 ⟨rfl, hb4⟩
          go_wp2
          go_roundw
          case rel => exact ⟨j + 1, by omega, by go_num, by rw [HE.out]; exact hown.out.below (B := wr.heap.size) (bel1 ((Below.refl _ _).alloc (Nat.le_refl _) _) hb4) (Nat.le_refl _), hbel.trans ((bel1 ((Below.refl wr.heap.size wr).alloc (Nat.le_refl _) _) hb4).mono hsz)⟩
          case measure => simp [intOf]; omega
        · have HE : Hid (crn L R l h (j + 1) = P0 ++ [(px, py)]) := by
            show _ = _
            rw [HS.out]; unfold ins; rw [if_pos ⟨⟨h1, h2, h3, h4, h5, h6⟩, hmem⟩]
          rw [decide_eq_false hmem] at HA
          clear HS hmem
          go_wp2_with fail
          refine HA.out.mono ?_
          rintro e w4 ⟨rfl, hb4⟩
          have hbw : Below wr.heap.size wr w4 := bel1 ((Below.refl _ _).alloc (Nat.le_refl _) _) hb4
          have hown0 : w4.ownsRow w.heap.size 51 2 u9 P0.length (pq P0) := hown.out.below (B := wr.heap.size) hbw (Nat.le_refl _)
          have hbel4 : Below w.heap.size w w4 := hbel.trans (hbw.mono hsz)
          have hsz4 := hbel4.size
          have hp4 := At2.below (at2_new _ _ _ _) hb4
          obtain ⟨q0, q1⟩ := hp4
          clear hown hb4 HA
          go_wp2_with (first | (at_builtin; refine wpList_append_own _ rfl _ _ 45 rfl w.heap.size 51 i0 (.agg #[.int .i64 0, .int .i64 0]) 2 16 Try.underlying45 hi hz0 hz1 hz2 rfl (by decide) _ _ _ rfl (hown0.alloc _) ⟨w4.heap.size, 0, none⟩ 1 1 [.int .i64 px, .int .i64 py] rfl rfl ?c1 ?c2 ?c3 ?c4 ?c5 ?_) | go_in)
          case c1 =>
            intro i u hu
            match i, hu with
            | 0, hu => simp at hu; subst hu; simp [Addr.add]
            | 1, hu => simp at hu; subst hu; simp [Addr.add]
          case c2 => intro u hu; simp at hu; rcases hu with rfl | rfl <;> rfl
          case c3 => unfold maxLen; omega
          case c4 => omega
          case c5 => simp; omega
          intro v' w5 hown5 hgrow _
          have hb5 : Below w.heap.size w w5 := Below.grown (hbel4.alloc (by omega) _) hgrow (by simp; omega) (fun k hk => (hown0.lt k hk).1)
          have H5 : Hid (HasQ w5 w.heap.size v' (P0 ++ [(px, py)])) := hasQ_more hown5 (by simp)
          clear hown5 hgrow hown0 q0 q1
          go_wp2
          go_roundw
          case rel => exact ⟨j + 1, by omega, by go_num, by rw [HE.out]; exact H5.out, hb5⟩
          case measure => simp [intOf]; omega
      · have HE : Hid (crn L R l h (j + 1) = P0) := by
          show _ = _
          rw [HS.out]; unfold ins; rw [if_neg (fun hh => hall hh.1)]
        have hcs : (¬ L ≤ px) ∨ (L ≤ px ∧ ¬ px ≤ R) ∨ (L ≤ px ∧ px ≤ R ∧ ¬ l ≤ py) ∨ (L ≤ px ∧ px ≤ R ∧ l ≤ py ∧ ¬ py ≤ h) ∨ (L ≤ px ∧ px ≤ R ∧ l ≤ py ∧ py ≤ h ∧ ¬ py ≤ px) ∨ (L ≤ px ∧ px ≤ R ∧ l ≤ py ∧ py ≤ h ∧ py ≤ px ∧ ¬ -py ≤ px) := by omega
        clear hall HS
        rcases hcs with h1 | ⟨h1, h2⟩ | ⟨h1, h2, h3⟩ | ⟨h1, h2, h3, h4⟩ | ⟨h1, h2, h3, h4, h5⟩ | ⟨h1, h2, h3, h4, h5, h6⟩
        all_goals
          go_wp2
          go_roundw
          case rel => exact ⟨j + 1, by omega, by go_num, by rw [HE.out]; exact hown.out.below (B := wr.heap.size) ((Below.refl _ _).alloc (Nat.le_refl _) _) (Nat.le_refl _), hbel.alloc (by omega) _⟩
          case measure => simp [intOf]; omega
    · have hj2 : j = 12 := by omega
      subst hj2
      go_wp2
      go_ret
      exact ⟨_, rfl, by rw [HC.out]; exact hown.out, hbel⟩
end Go.Proofs.Ytlbkhiphnllfpal
