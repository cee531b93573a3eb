/-
  Naturals of the program: differences, a digit more, noughts more; walked.
-/
import Derived.Test.YtmjkpjmccdjkjaqNar
namespace Go.Proofs.Ytmjkpjmccdjkjaq
open Go.RowKit
set_option linter.unusedVariables false
theorem minus_end (X Y D : List Int) (n : Nat) (c : Int) (hX : NCan X) (hY : NCan Y) (hD : Dec D) (lD : D.length = n) (hn : n = X.length) (hle : lv Y ≤ lv X) (c0 : 0 ≤ c) (h : lv D + 10 ^ n * (-c) = pv (fun i => X.getD i 0) n - pv (fun i => Y.getD i 0) n) : lv D = lv X - lv Y := by
  have hl : Y.length ≤ X.length := by
    rcases Nat.lt_or_ge X.length Y.length with q | q
    · have := short_less X Y hX.1 hY q; omega
    · exact q
  rw [pv_all X n (by omega), pv_all Y n (by omega)] at h
  have bD := (lv_bd D hD).2
  rw [lD] at bD
  have hc : c = 0 := by
    rcases Int.lt_or_le 0 c with q | q
    · exfalso
      have : 10 ^ n * 1 ≤ 10 ^ n * c := Int.mul_le_mul_of_nonneg_left (by omega) (Int.le_of_lt (Int.pow_pos (by decide)))
      rw [Int.mul_neg] at h
      omega
    · omega
  rw [hc] at h
  omega
set_option maxHeartbeats 2000000 in
theorem nMinus_any (x y : Value) (a b : Int) (w : World) (hx : NIs w x a) (hy : NIs w y b) (fa : NFit a 1000) (fb : NFit b 1000) (hle : b ≤ a) :
    Calls Try.prog 46 #[x, y] w fun e w' => ∃ u, e = .returned u ∧ NIsF w' w.heap.size u (a - b) ∧ Below w.heap.size w w' := by
  obtain ⟨X, rX, cX, rfl⟩ := hx
  obtain ⟨Y, rY, cY, rfl⟩ := hy
  have lX := ncan_len X 1000 cX fa
  have lY := ncan_len Y 1000 cY fb
  obtain ⟨n, hn⟩ : ∃ n, X.length = n := ⟨_, rfl⟩
  obtain ⟨w1, hrun, hown, hb1⟩ := nMake w n (by omega)
  have HO : Hid (NRow w1 w.heap.size w.heap.size n (List.replicate n 0)) := hown
  have HAY : Hid (∀ p, p ≤ n → ∀ W, Below w.heap.size w W → Calls Try.prog 43 #[y, .int .i64 (p : Int)] W fun e w' => e = .returned (.int .u8 (Y.getD p 0)) ∧ w' = W) := fun p hp W hW => nAt_any y Y p W (rY.below hW (Nat.le_refl _)) (by omega) (by omega)
  have HE : Hid (∀ D c, Dec D → D.length = n → 0 ≤ c → lv D + 10 ^ n * (-c) = pv (fun i => X.getD i 0) n - pv (fun i => Y.getD i 0) n → lv D = lv X - lv Y) := fun D c hD lD c0 h => minus_end X Y D n c cX cY hD lD hn.symm hle c0 h
  have HBX : Hid (∀ p, 0 ≤ X.getD p 0 ∧ X.getD p 0 ≤ 9) := fun p => dec_at X cX.1 p
  have HBY : Hid (∀ p, 0 ≤ Y.getD p 0 ∧ Y.getD p 0 ≤ 9) := fun p => dec_at Y cY.1 p
  obtain ⟨g, cg, rfl, hcg, hgl, hcx⟩ := rX
  obtain ⟨k, ck, rfl, -, -, -⟩ := rY
  rw [hn] at hcg hcx lX ⊢
  have HCX : Hid (∀ i, i < n → w.cell? ⟨g, i, none⟩ = some (.int .u8 (X.getD i 0))) := hcx
  clear cX cY fa fb hown hn hcx hle
  generalize Y.length = ly at *
  go_enter Try.func46, Try.ntmps46
  go_wp2
  go_loopw [6, 15] (fun c i wr => ∃ (j : Nat) (D : List Int) (cv : Int), j ≤ n ∧ c = .int .u8 cv ∧ i = .int .i64 (j : Int) ∧ 0 ≤ cv ∧ cv ≤ 1 ∧ Hid (NRow wr w.heap.size w.heap.size n (D ++ List.replicate (n - j) 0) ∧ D.length = j ∧ Dec D ∧ lv D + 10 ^ j * (-cv) = pv (fun i => X.getD i 0) j - pv (fun i => Y.getD i 0) j) ∧ Below w.heap.size w wr) (fun _ i _ => n - (intOf i).toNat)
  case atStart => exact ⟨0, [], 0, Nat.zero_le _, rfl, rfl, by omega, by omega, ⟨HO.out, rfl, (fun d hd => by cases hd), rfl⟩, hb1⟩
  case round =>
    obtain ⟨j, D, cv, hj, rfl, rfl, c0, c1, HI, hbel⟩ := hrel
    clear hrun HO hb1
    by_cases hlt : j < n
    · have hlt' : (j : Int) < (n : Int) := by omega
      have bx := HBX.out j
      have by' := HBY.out j
      have HAY' : Hid (∀ m, Calls Try.prog 43 #[.slice (some ⟨k, 0, none⟩) ly ck, .int .i64 (j : Int)] (wr.drewN m) fun e w' => e = .returned (.int .u8 (Y.getD j 0)) ∧ w' = wr.drewN m) := fun m => HAY.out j hj _ (below_drewN hbel m)
      have hcx := (hbel.cell (p := ⟨g, j, none⟩) hgl).trans (HCX.out j hlt)
      obtain ⟨hR, hl, hD, hv⟩ := HI.out
      have hcell := hR.cell j hlt
      have hf := hR.frozen j
      have hgw : g ≠ w.heap.size := by omega
      have HN : Hid (∀ m s, s = 10 + X.getD j 0 - Y.getD j 0 - cv → NRow ((wr.drewN m).setCell ⟨w.heap.size, j, none⟩ (.int .u8 (s % 10))) w.heap.size w.heap.size n ((D ++ [s % 10]) ++ List.replicate (n - (j + 1)) 0) ∧ (D ++ [s % 10]).length = j + 1 ∧ Dec (D ++ [s % 10]) ∧ lv (D ++ [s % 10]) + 10 ^ (j + 1) * (-(1 - s / 10)) = pv (fun i => X.getD i 0) (j + 1) - pv (fun i => Y.getD i 0) (j + 1)) := fun m s hs => by
        refine ⟨?_, by simp [hl], nd_snoc D _ hD (by omega) (by omega), ?_⟩
        · rw [← fill_set D n j (s % 10) hl hlt]
          exact (hR.below (below_drewN (Below.refl _ _) m) (Nat.le_refl _)).set j (s % 10)
        · have := col_step D j _ (-cv) (s - 10) (X.getD j 0 - Y.getD j 0) hl hv (by omega)
          rw [show (s - 10) % 10 = s % 10 by omega, show (s - 10) / 10 = -(1 - s / 10) by omega] at this
          rw [this]
          simp only [pv, Int.mul_comm (10 ^ j), Int.sub_mul]
          omega
      clear hR hl hD hv HI
      generalize (D ++ List.replicate (n - j) 0).getD j 0 = o at *
      generalize X.getD j 0 = xj at *
      generalize Y.getD j 0 = yj at *
      have ht : Int.tmod (10 + xj - yj - cv) 10 = (10 + xj - yj - cv) % 10 := Int.tmod_eq_emod_of_nonneg (by omega)
      have hq : Int.tdiv (10 + xj - yj - cv) 10 = (10 + xj - yj - cv) / 10 := Int.tdiv_eq_ediv_of_nonneg (by omega)
      have hr0 : 0 ≤ (10 + xj - yj - cv) % 10 := by omega
      have hr1 : (10 + xj - yj - cv) % 10 < 10 := by omega
      have hq0 : 0 ≤ (10 + xj - yj - cv) / 10 := by omega
      have hq1 : (10 + xj - yj - cv) / 10 ≤ 1 := by omega
      go_wp2
      go_quiet (first | (go_at_call 43; refine Calls.quiet_of_same (HAY'.out _)))
      go_wp2
      go_roundw
      case rel => exact ⟨j + 1, D ++ [(10 + xj - yj - cv) % 10], 1 - (10 + xj - yj - cv) / 10, by omega, rfl, by go_num, by omega, by omega, HN.out nq _ rfl, (below_drewN hbel nq).setCell (Nat.le_refl _) _⟩
      case measure => simp [intOf]; omega
    · have e : j = n := by omega
      subst e
      obtain ⟨hR, hl, hD, hv⟩ := HI.out
      rw [Nat.sub_self, List.replicate_zero, List.append_nil] at hR
      have HT : Hid (Calls Try.prog 41 #[.slice (some ⟨w.heap.size, 0, none⟩) j j] wr fun e w' => ∃ u, e = .returned u ∧ NIsF wr w.heap.size u (lv X - lv Y) ∧ w' = wr) := by
        have := nTrim_any _ D wr w.heap.size hR.rd ⟨_, _, _, rfl, Nat.le_refl _⟩ hD (by omega)
        rw [HE.out D cv hD hl c0 hv] at this
        exact this
      clear hR hl hD hv HI
      go_wp2_with fail
      refine HT.out.mono ?_
      rintro e w2 ⟨u, rfl, hu, rfl⟩
      have HU : Hid (NIsF w2 w.heap.size u (lv X - lv Y)) := hu
      clear hu
      go_wp2
      go_ret
      exact ⟨u, rfl, HU.out, hbel⟩
/-- A row of bytes of one's own, as long as it is, with the digits of a slice behind it. -/
theorem wpList_napp {w : World} {ops : Array Oper} {rest : List Oper} {o : Oper} {a : Act} {Q : Exit → Act → World → Prop} (hgd : o.guard = none) (s x : Operand)
    (ho : o.op = .call { callee := .builtin .append, args := #[s, x], argTypes := #[41, 41] }) (vd vs : Value) (hs : a.eval s = vd) (hx : a.eval x = vs)
    (base : Nat) (X Y : List Int) (hX : w.ownsRow base 5 1 vd X.length (X.map (Value.int .u8))) (hnil : vd ≠ .slice none 0 0) (hown0 : ∀ k, vd.ownBlock = some k → base ≤ k) (hY : NRd w vs Y) (hlen : X.length + Y.length ≤ 1000000) (hbase : base ≤ w.heap.size)
    (h : ∀ v' w', Hid (NRd w' v' (X ++ Y) ∧ NAt base v') → Hid (∀ B w0, Below B w0 w → B ≤ base → Below B w0 w') → wpList Try.prog ops Q rest (a.put o.dst v') w') : wpList Try.prog ops Q (o :: rest) a w := by
  obtain ⟨i0, hi, hz0, hz1, hz2⟩ := info_parts ninfo8
  obtain ⟨g, cap, rfl, hcp, hl, hc⟩ := hY
  refine wpList_append_own (P := Try.prog) w hgd s x 41 ho base 5 i0 (.int .u8 0) 1 1 Try.underlying41 hi hz0 hz1 hz2 rfl (by decide) vd X.length (X.map (Value.int .u8)) hs hX ⟨g, 0, none⟩ Y.length cap (Y.map (Value.int .u8)) hx (by simp) (fun j u hu => ?_) (fun u hu => ?_) (by unfold maxLen; omega) (by omega) hbase ?_
  · have hj : j < Y.length := by
      have := (List.getElem?_eq_some_iff.1 hu).1
      simpa using this
    rw [show (⟨g, 0, none⟩ : Addr).add j = ⟨g, j, none⟩ by unfold Addr.add; split <;> simp_all, hc j hj, ← hu]
    simp [List.getD, List.getElem?_eq_getElem hj]
  · obtain ⟨y, -, rfl⟩ := List.mem_map.1 hu
    rfl
  · intro v' w' hown hgrow hn
    refine h v' w' ?_ (fun B w0 hB hle => Below.grown hB hgrow (Nat.le_trans hle hbase) (fun k hk => Nat.le_trans hle (hown0 k hk)))
    have h0 := hown
    obtain ⟨hl', h'⟩ := hown
    rcases h' with ⟨e, _⟩ | ⟨g', cap', cur, rfl, hg', hc', hn', hm', hs', ht'⟩
    · exact absurd (hn.1 e).1 hnil
    · refine ⟨⟨g', cap', by rw [List.length_append], by rw [List.length_append]; exact hn', (Array.getElem?_eq_some_iff.1 hc').1, fun i hi => ?_⟩, g', _, _, rfl, hg'⟩
      rw [World.ownsRow.cellAt h0 i (by rw [List.length_append] at hi; omega), ← List.map_append, List.getElem?_map]
      simp only [List.getD, List.getElem?_eq_getElem hi]
      rfl
theorem one8 (w : World) (x : Int) : (w.alloc (.cells #[.int .u8 x] 5)).ownsRow w.heap.size 5 1 (.slice (some ⟨w.heap.size, 0, none⟩) 1 1) [x].length ([x].map (Value.int .u8)) :=
  World.ownsRow_lit (base := w.heap.size) (e := 5) (size := 1) w #[.int .u8 x] 1 (Nat.le_refl _) (by decide) (by simp)
theorem nFollow_any (x : Value) (a d : Int) (w : World) (hx : NIs w x a) (fa : NFit a 1000) (d0 : 0 ≤ d) (d9 : d ≤ 9) :
    Calls Try.prog 42 #[x, .int .u8 d] w fun e w' => ∃ u, e = .returned u ∧ NIsF w' w.heap.size u (10 * a + d) ∧ Below w.heap.size w w' := by
  obtain ⟨X, rX, cX, rfl⟩ := hx
  have lX := ncan_len X 1000 cX fa
  have HR : Hid (NRd (w.alloc (.cells #[.int .u8 d] 5)) x X) := rX.below ((Below.refl w.heap.size w).alloc (Nat.le_refl _) _) (Nat.le_refl _)
  have HT : Hid (∀ v W, NRd W v ([d] ++ X) → NAt w.heap.size v → Calls Try.prog 41 #[v] W fun e w' => ∃ u, e = .returned u ∧ NIsF W w.heap.size u (10 * lv X + d) ∧ w' = W) := fun v W hv ha => by
    have := nTrim_any v ([d] ++ X) W w.heap.size hv ha (dec_app [d] X (fun z hz => by simp at hz; omega) cX.1) (by simp; omega)
    rw [show lv ([d] ++ X) = 10 * lv X + d by simp [lv]; omega] at this
    exact this
  have HL : Hid (1 + X.length ≤ 1000000) := by show _ ≤ _; omega
  clear rX cX fa lX
  go_enter Try.func42, Try.ntmps42
  go_wp2_with (first | (at_builtin; refine wpList_napp rfl _ _ rfl _ _ rfl rfl w.heap.size [d] X (one8 w d) (show (Value.slice (some ⟨w.heap.size, 0, none⟩) 1 1) ≠ .slice none 0 0 by simp) (fun k hk => by cases hk; exact Nat.le_refl _) HR.out HL.out (by simp) ?_))
  intro v' w' hR2 hB2
  go_wp2_with fail
  refine (HT.out v' w' hR2.out.1 hR2.out.2).mono ?_
  rintro e w2 ⟨u, rfl, hu, rfl⟩
  have HU : Hid (NIsF w2 w.heap.size u (10 * lv X + d)) := hu
  clear hu
  go_wp2
  go_ret
  exact ⟨u, rfl, HU.out, hB2.out _ _ ((Below.refl w.heap.size w).alloc (Nat.le_refl _) _) (Nat.le_refl _)⟩
theorem nShift_any (x : Value) (a : Int) (n : Nat) (w : World) (hx : NIs w x a) (fa : NFit a 1000) (hn : n ≤ 200) :
    Calls Try.prog 27 #[x, .int .i64 (n : Int)] w fun e w' => ∃ u, e = .returned u ∧ NIsF w' w.heap.size u (a * 10 ^ n) ∧ Below w.heap.size w w' := by
  obtain ⟨X, rX, cX, rfl⟩ := hx
  have lX := ncan_len X 1000 cX fa
  obtain ⟨w1, hrun, hown, hb1⟩ := nMake w n (by omega)
  have HR : Hid (NRd w1 x X) := rX.below hb1 (Nat.le_refl _)
  have HO : Hid (w1.ownsRow w.heap.size 5 1 (.slice (some ⟨w.heap.size, 0, none⟩) n n) (List.replicate n (0 : Int)).length ((List.replicate n (0 : Int)).map (Value.int .u8))) := by
    have := hown; unfold NRow at this; rw [List.length_replicate]; exact this
  have HT : Hid (∀ v W, NRd W v (List.replicate n 0 ++ X) → NAt w.heap.size v → Calls Try.prog 41 #[v] W fun e w' => ∃ u, e = .returned u ∧ NIsF W w.heap.size u (lv X * 10 ^ n) ∧ w' = W) := fun v W hv ha => by
    have := nTrim_any v (List.replicate n 0 ++ X) W w.heap.size hv ha (dec_app _ X (dec_noughts n) cX.1) (by simp; omega)
    rw [lv_append, lv_noughts, List.length_replicate, Int.zero_add, Int.mul_comm] at this
    exact this
  have HL : Hid ((List.replicate n (0 : Int)).length + X.length ≤ 1000000) := by show _ ≤ _; rw [List.length_replicate]; omega
  have hz1 := hb1.size
  clear rX cX fa lX hown
  go_enter Try.func27, Try.ntmps27
  go_wp2_with (first | (at_builtin; refine wpList_napp rfl _ _ rfl _ _ rfl rfl w.heap.size (List.replicate n 0) X HO.out (show (Value.slice (some ⟨w.heap.size, 0, none⟩) n n) ≠ .slice none 0 0 by simp) (fun k hk => by cases hk; exact Nat.le_refl _) HR.out HL.out hz1 ?_))
  intro v' w' hR2 hB2
  go_wp2_with fail
  refine (HT.out v' w' hR2.out.1 hR2.out.2).mono ?_
  rintro e w2 ⟨u, rfl, hu, rfl⟩
  have HU : Hid (NIsF w2 w.heap.size u (lv X * 10 ^ n)) := hu
  clear hu
  go_wp2
  go_ret
  exact ⟨u, rfl, HU.out, hB2.out _ _ hb1 (Nat.le_refl _)⟩
end Go.Proofs.Ytmjkpjmccdjkjaq
