/-
  Naturals of the program: products; walked.
-/
import Derived.Test.YteofommckgeemaaGreatDoorNar

namespace Go.Proofs.YteofommckgeemaaGreatDoor
open Go.RowKit
set_option linter.unusedVariables false
set_option maxRecDepth 100000
theorem minus_end (X Y D : List Int) (n : Nat) (c : Int) (hX : NCan X) (hY : NCan Y) (hD : Dec D) (lD : D.length = n) (hn : n = X.length) (hle : lv Y ≤ lv X) (c0 : 0 ≤ c) (h : lv D + 10 ^ n * (-c) = pv (fun i => X.getD i 0) n - pv (fun i => Y.getD i 0) n) : lv D = lv X - lv Y := by
  have hl : Y.length ≤ X.length := by
    rcases Nat.lt_or_ge X.length Y.length with q | q
    · have := short_less X Y hX.1 hY q; omega
    · exact q
  rw [pv_all X n (by omega), pv_all Y n (by omega)] at h
  have bD := (lv_bd D hD).2
  rw [lD] at bD
  have hc : c = 0 := by
    rcases Int.lt_or_le 0 c with q | q
    · exfalso
      have : 10 ^ n * 1 ≤ 10 ^ n * c := Int.mul_le_mul_of_nonneg_left (by omega) (Int.le_of_lt (Int.pow_pos (by decide)))
      rw [Int.mul_neg] at h
      omega
    · omega
  rw [hc] at h
  omega
set_option maxHeartbeats 2000000 in
theorem nMinus_any (x y : Value) (a b : Int) (w : World) (hx : NIs w x a) (hy : NIs w y b) (fa : NFit a 1000) (fb : NFit b 1000) (hle : b ≤ a) :
    Calls Tryz.prog 217 #[x, y] w fun e w' => ∃ u, e = .returned u ∧ NIsF w' w.heap.size u (a - b) ∧ Below w.heap.size w w' := by
  obtain ⟨X, rX, cX, rfl⟩ := hx
  obtain ⟨Y, rY, cY, rfl⟩ := hy
  have lX := ncan_len X 1000 cX fa
  have lY := ncan_len Y 1000 cY fb
  obtain ⟨n, hn⟩ : ∃ n, X.length = n := ⟨_, rfl⟩
  obtain ⟨w1, hrun, hown, hb1⟩ := nMake w n (by omega)
  have HO : Hid (NRow w1 w.heap.size w.heap.size n (List.replicate n 0)) := hown
  have HAY : Hid (∀ p, p ≤ n → ∀ W, Below w.heap.size w W → Calls Tryz.prog 224 #[y, .int .i64 (p : Int)] W fun e w' => e = .returned (.int .u8 (Y.getD p 0)) ∧ w' = W) := fun p hp W hW => nAt_any y Y p W (rY.below hW (Nat.le_refl _)) (by omega) (by omega)
  have HE : Hid (∀ D c, Dec D → D.length = n → 0 ≤ c → lv D + 10 ^ n * (-c) = pv (fun i => X.getD i 0) n - pv (fun i => Y.getD i 0) n → lv D = lv X - lv Y) := fun D c hD lD c0 h => minus_end X Y D n c cX cY hD lD hn.symm hle c0 h
  have HBX : Hid (∀ p, 0 ≤ X.getD p 0 ∧ X.getD p 0 ≤ 9) := fun p => dec_at X cX.1 p
  have HBY : Hid (∀ p, 0 ≤ Y.getD p 0 ∧ Y.getD p 0 ≤ 9) := fun p => dec_at Y cY.1 p
  obtain ⟨g, cg, rfl, hcg, hgl, hcx⟩ := rX
  obtain ⟨k, ck, rfl, -, -, -⟩ := rY
  rw [hn] at hcg hcx lX ⊢
  have HCX : Hid (∀ i, i < n → w.cell? ⟨g, i, none⟩ = some (.int .u8 (X.getD i 0))) := hcx
  clear cX cY fa fb hown hn hcx hle
  generalize Y.length = ly at *
  go_enter Tryz.func217, Tryz.ntmps217
  go_wp2
  go_loopw [6, 15] (fun c i wr => ∃ (j : Nat) (D : List Int) (cv : Int), j ≤ n ∧ c = .int .u8 cv ∧ i = .int .i64 (j : Int) ∧ 0 ≤ cv ∧ cv ≤ 1 ∧ Hid (NRow wr w.heap.size w.heap.size n (D ++ List.replicate (n - j) 0) ∧ D.length = j ∧ Dec D ∧ lv D + 10 ^ j * (-cv) = pv (fun i => X.getD i 0) j - pv (fun i => Y.getD i 0) j) ∧ Below w.heap.size w wr) (fun _ i _ => n - (intOf i).toNat)
  case atStart => exact ⟨0, [], 0, Nat.zero_le _, rfl, rfl, by omega, by omega, ⟨HO.out, rfl, (fun d hd => by cases hd), rfl⟩, hb1⟩
  case round =>
    obtain ⟨j, D, cv, hj, rfl, rfl, c0, c1, HI, hbel⟩ := hrel
    clear hrun HO hb1
    by_cases hlt : j < n
    · have hlt' : (j : Int) < (n : Int) := by omega
      have bx := HBX.out j
      have by' := HBY.out j
      have HAY' : Hid (∀ m, Calls Tryz.prog 224 #[.slice (some ⟨k, 0, none⟩) ly ck, .int .i64 (j : Int)] (wr.drewN m) fun e w' => e = .returned (.int .u8 (Y.getD j 0)) ∧ w' = wr.drewN m) := fun m => HAY.out j hj _ (below_drewN hbel m)
      have hcx := (hbel.cell (p := ⟨g, j, none⟩) hgl).trans (HCX.out j hlt)
      obtain ⟨hR, hl, hD, hv⟩ := HI.out
      have hcell := hR.cell j hlt
      have hf := hR.frozen j
      have hgw : g ≠ w.heap.size := by omega
      have HN : Hid (∀ m s, s = 10 + X.getD j 0 - Y.getD j 0 - cv → NRow ((wr.drewN m).setCell ⟨w.heap.size, j, none⟩ (.int .u8 (s % 10))) w.heap.size w.heap.size n ((D ++ [s % 10]) ++ List.replicate (n - (j + 1)) 0) ∧ (D ++ [s % 10]).length = j + 1 ∧ Dec (D ++ [s % 10]) ∧ lv (D ++ [s % 10]) + 10 ^ (j + 1) * (-(1 - s / 10)) = pv (fun i => X.getD i 0) (j + 1) - pv (fun i => Y.getD i 0) (j + 1)) := fun m s hs => by
        refine ⟨?_, by simp [hl], nd_snoc D _ hD (by omega) (by omega), ?_⟩
        · rw [← fill_set D n j (s % 10) hl hlt]
          exact (hR.below (below_drewN (Below.refl _ _) m) (Nat.le_refl _)).set j (s % 10)
        · have := col_step D j _ (-cv) (s - 10) (X.getD j 0 - Y.getD j 0) hl hv (by omega)
          rw [show (s - 10) % 10 = s % 10 by omega, show (s - 10) / 10 = -(1 - s / 10) by omega] at this
          rw [this]
          simp only [pv, Int.mul_comm (10 ^ j), Int.sub_mul]
          omega
      clear hR hl hD hv HI
      generalize (D ++ List.replicate (n - j) 0).getD j 0 = o at *
      generalize X.getD j 0 = xj at *
      generalize Y.getD j 0 = yj at *
      have ht : Int.tmod (10 + xj - yj - cv) 10 = (10 + xj - yj - cv) % 10 := Int.tmod_eq_emod_of_nonneg (by omega)
      have hq : Int.tdiv (10 + xj - yj - cv) 10 = (10 + xj - yj - cv) / 10 := Int.tdiv_eq_ediv_of_nonneg (by omega)
      have hr0 : 0 ≤ (10 + xj - yj - cv) % 10 := by omega
      have hr1 : (10 + xj - yj - cv) % 10 < 10 := by omega
      have hq0 : 0 ≤ (10 + xj - yj - cv) / 10 := by omega
      have hq1 : (10 + xj - yj - cv) / 10 ≤ 1 := by omega
      go_wp2
      go_quiet (first | (go_at_call 224; refine Calls.quiet_of_same (HAY'.out _)))
      go_wp2
      go_roundw
      case rel => exact ⟨j + 1, D ++ [(10 + xj - yj - cv) % 10], 1 - (10 + xj - yj - cv) / 10, by omega, rfl, by go_num, by omega, by omega, HN.out nq _ rfl, (below_drewN hbel nq).setCell (Nat.le_refl _) _⟩
      case measure => simp [intOf]; omega
    · have e : j = n := by omega
      subst e
      obtain ⟨hR, hl, hD, hv⟩ := HI.out
      rw [Nat.sub_self, List.replicate_zero, List.append_nil] at hR
      have HT : Hid (Calls Tryz.prog 218 #[.slice (some ⟨w.heap.size, 0, none⟩) j j] wr fun e w' => ∃ u, e = .returned u ∧ NIsF wr w.heap.size u (lv X - lv Y) ∧ w' = wr) := by
        have := nTrim_any _ D wr w.heap.size hR.rd ⟨_, _, _, rfl, Nat.le_refl _⟩ hD (by omega)
        rw [HE.out D cv hD hl c0 hv] at this
        exact this
      clear hR hl hD hv HI
      go_wp2_with fail
      refine HT.out.mono ?_
      rintro e w2 ⟨u, rfl, hu, rfl⟩
      have HU : Hid (NIsF w2 w.heap.size u (lv X - lv Y)) := hu
      clear hu
      go_wp2
      go_ret
      exact ⟨u, rfl, HU.out, hbel⟩
/-- A row of bytes of one's own, as long as it is, with the digits of a slice behind it. -/
theorem wpList_napp {w : World} {ops : Array Oper} {rest : List Oper} {o : Oper} {a : Act} {Q : Exit → Act → World → Prop} (hgd : o.guard = none) (s x : Operand)
    (ho : o.op = .call { callee := .builtin .append, args := #[s, x], argTypes := #[183, 183] }) (vd vs : Value) (hs : a.eval s = vd) (hx : a.eval x = vs)
    (base : Nat) (X Y : List Int) (hX : w.ownsRow base 5 1 vd X.length (X.map (Value.int .u8))) (hnil : vd ≠ .slice none 0 0) (hown0 : ∀ k, vd.ownBlock = some k → base ≤ k) (hY : NRd w vs Y) (hlen : X.length + Y.length ≤ 1000000) (hbase : base ≤ w.heap.size)
    (h : ∀ v' w', Hid (NRd w' v' (X ++ Y) ∧ NAt base v') → Hid (∀ B w0, Below B w0 w → B ≤ base → Below B w0 w') → wpList Tryz.prog ops Q rest (a.put o.dst v') w') : wpList Tryz.prog ops Q (o :: rest) a w := by
  obtain ⟨i0, hi, hz0, hz1, hz2⟩ := info_parts ninfo8
  obtain ⟨g, cap, rfl, hcp, hl, hc⟩ := hY
  refine wpList_append_own (P := Tryz.prog) w hgd s x 183 ho base 5 i0 (.int .u8 0) 1 1 Tryz.underlying183 hi hz0 hz1 hz2 rfl (by decide) vd X.length (X.map (Value.int .u8)) hs hX ⟨g, 0, none⟩ Y.length cap (Y.map (Value.int .u8)) hx (by simp) (fun j u hu => ?_) (fun u hu => ?_) (by unfold maxLen; omega) (by omega) hbase ?_
  · have hj : j < Y.length := by
      have := (List.getElem?_eq_some_iff.1 hu).1
      simpa using this
    rw [show (⟨g, 0, none⟩ : Addr).add j = ⟨g, j, none⟩ by unfold Addr.add; split <;> simp_all, hc j hj, ← hu]
    simp [List.getD, List.getElem?_eq_getElem hj]
  · obtain ⟨y, -, rfl⟩ := List.mem_map.1 hu
    rfl
  · intro v' w' hown hgrow hn
    refine h v' w' ?_ (fun B w0 hB hle => Below.grown hB hgrow (Nat.le_trans hle hbase) (fun k hk => Nat.le_trans hle (hown0 k hk)))
    have h0 := hown
    obtain ⟨hl', h'⟩ := hown
    rcases h' with ⟨e, _⟩ | ⟨g', cap', cur, rfl, hg', hc', hn', hm', hs', ht'⟩
    · exact absurd (hn.1 e).1 hnil
    · refine ⟨⟨g', cap', by rw [List.length_append], by rw [List.length_append]; exact hn', (Array.getElem?_eq_some_iff.1 hc').1, fun i hi => ?_⟩, g', _, _, rfl, hg'⟩
      rw [World.ownsRow.cellAt h0 i (by rw [List.length_append] at hi; omega), ← List.map_append, List.getElem?_map]
      simp only [List.getD, List.getElem?_eq_getElem hi]
      rfl
theorem one8 (w : World) (x : Int) : (w.alloc (.cells #[.int .u8 x] 5)).ownsRow w.heap.size 5 1 (.slice (some ⟨w.heap.size, 0, none⟩) 1 1) [x].length ([x].map (Value.int .u8)) :=
  World.ownsRow_lit (base := w.heap.size) (e := 5) (size := 1) w #[.int .u8 x] 1 (Nat.le_refl _) (by decide) (by simp)
theorem nFollow_any (x : Value) (a d : Int) (w : World) (hx : NIs w x a) (fa : NFit a 1000) (d0 : 0 ≤ d) (d9 : d ≤ 9) :
    Calls Tryz.prog 215 #[x, .int .u8 d] w fun e w' => ∃ u, e = .returned u ∧ NIsF w' w.heap.size u (10 * a + d) ∧ Below w.heap.size w w' := by
  obtain ⟨X, rX, cX, rfl⟩ := hx
  have lX := ncan_len X 1000 cX fa
  have HR : Hid (NRd (w.alloc (.cells #[.int .u8 d] 5)) x X) := rX.below ((Below.refl w.heap.size w).alloc (Nat.le_refl _) _) (Nat.le_refl _)
  have HT : Hid (∀ v W, NRd W v ([d] ++ X) → NAt w.heap.size v → Calls Tryz.prog 218 #[v] W fun e w' => ∃ u, e = .returned u ∧ NIsF W w.heap.size u (10 * lv X + d) ∧ w' = W) := fun v W hv ha => by
    have := nTrim_any v ([d] ++ X) W w.heap.size hv ha (dec_app [d] X (fun z hz => by simp at hz; omega) cX.1) (by simp; omega)
    rw [show lv ([d] ++ X) = 10 * lv X + d by simp [lv]; omega] at this
    exact this
  have HL : Hid (1 + X.length ≤ 1000000) := by show _ ≤ _; omega
  clear rX cX fa lX
  go_enter Tryz.func215, Tryz.ntmps215
  go_wp2_with (first | (at_builtin; refine wpList_napp rfl _ _ rfl _ _ rfl rfl w.heap.size [d] X (one8 w d) (show (Value.slice (some ⟨w.heap.size, 0, none⟩) 1 1) ≠ .slice none 0 0 by simp) (fun k hk => by cases hk; exact Nat.le_refl _) HR.out HL.out (by simp) ?_))
  intro v' w' hR2 hB2
  go_wp2_with fail
  refine (HT.out v' w' hR2.out.1 hR2.out.2).mono ?_
  rintro e w2 ⟨u, rfl, hu, rfl⟩
  have HU : Hid (NIsF w2 w.heap.size u (10 * lv X + d)) := hu
  clear hu
  go_wp2
  go_ret
  exact ⟨u, rfl, HU.out, hB2.out _ _ ((Below.refl w.heap.size w).alloc (Nat.le_refl _) _) (Nat.le_refl _)⟩
theorem nShift_any (x : Value) (a : Int) (n : Nat) (w : World) (hx : NIs w x a) (fa : NFit a 1000) (hn : n ≤ 200) :
    Calls Tryz.prog 164 #[x, .int .i64 (n : Int)] w fun e w' => ∃ u, e = .returned u ∧ NIsF w' w.heap.size u (a * 10 ^ n) ∧ Below w.heap.size w w' := by
  obtain ⟨X, rX, cX, rfl⟩ := hx
  have lX := ncan_len X 1000 cX fa
  obtain ⟨w1, hrun, hown, hb1⟩ := nMake w n (by omega)
  have HR : Hid (NRd w1 x X) := rX.below hb1 (Nat.le_refl _)
  have HO : Hid (w1.ownsRow w.heap.size 5 1 (.slice (some ⟨w.heap.size, 0, none⟩) n n) (List.replicate n (0 : Int)).length ((List.replicate n (0 : Int)).map (Value.int .u8))) := by
    have := hown; unfold NRow at this; rw [List.length_replicate]; exact this
  have HT : Hid (∀ v W, NRd W v (List.replicate n 0 ++ X) → NAt w.heap.size v → Calls Tryz.prog 218 #[v] W fun e w' => ∃ u, e = .returned u ∧ NIsF W w.heap.size u (lv X * 10 ^ n) ∧ w' = W) := fun v W hv ha => by
    have := nTrim_any v (List.replicate n 0 ++ X) W w.heap.size hv ha (dec_app _ X (dec_noughts n) cX.1) (by simp; omega)
    rw [lv_append, lv_noughts, List.length_replicate, Int.zero_add, Int.mul_comm] at this
    exact this
  have HL : Hid ((List.replicate n (0 : Int)).length + X.length ≤ 1000000) := by show _ ≤ _; rw [List.length_replicate]; omega
  have hz1 := hb1.size
  clear rX cX fa lX hown
  go_enter Tryz.func164, Tryz.ntmps164
  go_wp2_with (first | (at_builtin; refine wpList_napp rfl _ _ rfl _ _ rfl rfl w.heap.size (List.replicate n 0) X HO.out (show (Value.slice (some ⟨w.heap.size, 0, none⟩) n n) ≠ .slice none 0 0 by simp) (fun k hk => by cases hk; exact Nat.le_refl _) HR.out HL.out hz1 ?_))
  intro v' w' hR2 hB2
  go_wp2_with fail
  refine (HT.out v' w' hR2.out.1 hR2.out.2).mono ?_
  rintro e w2 ⟨u, rfl, hu, rfl⟩
  have HU : Hid (NIsF w2 w.heap.size u (lv X * 10 ^ n)) := hu
  clear hu
  go_wp2
  go_ret
  exact ⟨u, rfl, HU.out, hB2.out _ _ hb1 (Nat.le_refl _)⟩
end Go.Proofs.YteofommckgeemaaGreatDoor

namespace Go.Proofs.YteofommckgeemaaGreatDoor
open Go.RowKit
set_option linter.unusedVariables false
set_option maxRecDepth 100000
theorem rev_take (ds : List Int) (k : Nat) (hk : k < ds.length) : ds.reverse.take (k + 1) = ds.reverse.take k ++ [ds.getD (ds.length - 1 - k) 0] := by
  rw [List.take_succ_eq_append_getElem (by simpa using hk)]
  congr 2
  rw [List.getElem_reverse]
  simp [List.getD, show ds.length - 1 - k < ds.length by omega]
set_option maxHeartbeats 2000000 in
theorem nOf_any (ds : List Int) (w : World) (hd : Dec ds) (hl : ds.length ≤ 1000) :
    Calls Tryz.prog 163 #[.string (tx ds)] w fun e w' => ∃ u, e = .returned u ∧ NIsF w' w.heap.size u (vl ds) ∧ Below w.heap.size w w' := by
  obtain ⟨n, hn⟩ : ∃ n, ds.length = n := ⟨_, rfl⟩
  have hz : (tx ds).size = n := by rw [tx_size, hn]
  obtain ⟨w1, hrun, hown, hb1⟩ := nMake w n (by omega)
  have HO : Hid (NRow w1 w.heap.size w.heap.size n (List.replicate n 0)) := hown
  have HB : Hid (∀ k (hk : k < (tx ds).size), (((tx ds)[k]'hk).toNat : Int) = 48 + ds.getD k 0 ∧ 0 ≤ ds.getD k 0 ∧ ds.getD k 0 ≤ 9) := fun k hk => ⟨tx_at ds hd k hk, dec_at ds hd k⟩
  have HS : Hid (∀ k, k < n → ds.reverse.take (k + 1) = ds.reverse.take k ++ [ds.getD (n - 1 - k) 0]) := fun k hk => by
    rw [← hn] at hk ⊢; exact rev_take ds k hk
  have HL : Hid (∀ k, k ≤ n → (ds.reverse.take k).length = k) := fun k hk => by simp; omega
  have HT : Hid (∀ v W, NRd W v (ds.reverse.take n) → NAt w.heap.size v → Calls Tryz.prog 218 #[v] W fun e w' => ∃ u, e = .returned u ∧ NIsF W w.heap.size u (vl ds) ∧ w' = W) := fun v W hv ha => by
    rw [List.take_of_length_le (by simp; omega)] at hv
    exact nTrim_any v ds.reverse W w.heap.size hv ha (dec_rev ds hd) (by simp; omega)
  have hn1 : n ≤ 1000 := by omega
  generalize tx ds = S at *
  have hrun' : (Instr.makeSlice 183 (.int .i64 (S.size : Int)) (.int .i64 (S.size : Int))).run Tryz.prog w = .ok (.slice (some ⟨w.heap.size, 0, none⟩) n n) w1 := by rw [hz]; exact hrun
  have HZ : Hid (S.size = n) := hz
  have hz1 : S.size ≤ 1000 := by omega
  clear hown hd hrun hz hl hn
  go_enter Tryz.func163, Tryz.ntmps163
  go_wp2
  go_loopw [10] (fun i wr => ∃ k : Nat, k ≤ n ∧ i = .int .i64 (k : Int) ∧ Hid (NRow wr w.heap.size w.heap.size n (ds.reverse.take k ++ List.replicate (n - k) 0)) ∧ Below w.heap.size w wr) (fun i _ => n - (intOf i).toNat)
  case atStart => exact ⟨0, Nat.zero_le _, rfl, HO, hb1⟩
  case round =>
    obtain ⟨k, hk, rfl, HR, hbel⟩ := hrel
    clear hrun' HO hb1
    by_cases hlt : k < n
    · have hz := HZ.out
      have hlt' : (k : Int) < (S.size : Int) := by omega
      have hlt2 : (k : Int) < (n : Int) := by omega
      obtain ⟨p, hp⟩ : ∃ p, n - 1 - k = p := ⟨_, rfl⟩
      have ep : (S.size : Int) - 1 - (k : Int) = (p : Int) := by omega
      have hp1 : p < S.size := by omega
      have hp2 : (p : Int) < (S.size : Int) := by omega
      obtain ⟨hb, d0, d9⟩ := HB.out p hp1
      have hw : IntKind.u8.wrap (((S[p]'hp1).toNat : Int) - 48) = ds.getD p 0 := by
        rw [hb, show 48 + ds.getD p 0 - 48 = ds.getD p 0 by omega, IntKind.wrap_u8]; omega
      have hcell := HR.out.cell k hlt
      have hf := HR.out.frozen k
      have HN : Hid (NRow (wr.setCell ⟨w.heap.size, k, none⟩ (.int .u8 (ds.getD p 0))) w.heap.size w.heap.size n (ds.reverse.take (k + 1) ++ List.replicate (n - (k + 1)) 0)) := by
        have := HR.out.set k (ds.getD p 0)
        rw [fill_set _ n k _ (HL.out k hk) hlt, ← hp, ← HS.out k hlt] at this
        rw [hp] at this
        exact this
      clear hb hz hp
      generalize (ds.reverse.take k ++ List.replicate (n - k) 0).getD k 0 = o at *
      generalize ds.getD p 0 = d at *
      go_wp2
      go_roundw
      case rel => exact ⟨k + 1, by omega, by go_num, HN, hbel.setCell (Nat.le_refl _) _⟩
      case measure => simp [intOf]; omega
    · have e : k = n := by omega
      subst e
      have hz := HZ.out
      have hlt' : ¬ (k : Int) < (S.size : Int) := by omega
      have HT' : Hid (Calls Tryz.prog 218 #[.slice (some ⟨w.heap.size, 0, none⟩) k k] wr fun e w' => ∃ u, e = .returned u ∧ NIsF wr w.heap.size u (vl ds) ∧ w' = wr) := by
        have := HR.out
        rw [Nat.sub_self, List.replicate_zero, List.append_nil] at this
        exact HT.out _ _ this.rd ⟨_, _, _, rfl, Nat.le_refl _⟩
      clear hz
      go_wp2_with fail
      refine HT'.out.mono ?_
      rintro e w2 ⟨u, rfl, hu, rfl⟩
      have HU : Hid (NIsF w2 w.heap.size u (vl ds)) := hu
      clear hu
      go_wp2
      go_ret
      exact ⟨u, rfl, HU.out, hbel⟩
theorem ninfoB (w : World) (n : Nat) (hn : n ≤ 100000) : ∃ w1, (Instr.makeSlice 22 (.int .i64 (n : Int)) (.int .i64 (n : Int))).run Tryz.prog w = .ok (.slice (some ⟨w.heap.size, 0, none⟩) n n) w1 ∧ NRow w1 w.heap.size w.heap.size n (List.replicate n 0) ∧ Below w.heap.size w w1 := by
  obtain ⟨i0, hi, hz0, hz1, hz2⟩ := info_parts ninfo8
  obtain ⟨w1, hrun, hown, hgrow⟩ := run_make_full (P := Tryz.prog) w w.heap.size 22 5 i0 (.int .u8 0) 1 Tryz.underlying22 hi hz0 hz1 .i64 .i64 n (by rw [hz2]; omega) (by unfold maxLen; omega) (Nat.le_refl _)
  refine ⟨w1, hrun, ?_, Below.grown (Below.refl _ _) hgrow (Nat.le_refl _) (fun k hk => by cases hk)⟩
  rw [show (Value.int .u8 0).cells = #[Value.int .u8 0] from rfl, toList_madeCells_one, Nat.mul_one] at hown
  unfold NRow
  simpa using hown
theorem ntext_of (w : World) (base g n : Nat) (L : List Int) (h : NRow w base g n ((L.reverse).map (48 + ·))) (hl : L.length = n) :
    (convert 22 9 (.slice (some ⟨g, 0, none⟩) n n)).run Tryz.prog w = .ok (.string (tx L.reverse)) w := by
  have := run_convert_bytes_arg (P := Tryz.prog) w 22 5 Tryz.underlying22 Tryz.underlying5 g 0 n n (L.reverse.map (48 + ·)) (by simp [hl]) (fun i hi => by
      rw [Nat.zero_add]
      exact h.cell i hi)
  exact this 9 Tryz.underlying9
theorem text_take (L : List Int) (k : Nat) (hk : k < L.length) : ((L.take (k + 1)).reverse).map (48 + ·) = (48 + L.getD k 0) :: ((L.take k).reverse).map (48 + ·) := by
  rw [List.take_succ_eq_append_getElem hk, List.reverse_append, List.map_append]
  simp only [List.reverse_cons, List.reverse_nil, List.nil_append, List.map_cons, List.map_nil, List.getD, List.getElem?_eq_getElem hk, Option.getD_some, List.cons_append]
set_option maxHeartbeats 2000000 in
theorem nText_any (x : Value) (a : Int) (w : World) (hx : NIs w x a) (fa : NFit a 500) :
    Calls Tryz.prog 161 #[x] w fun e w' => e = .returned (.string (fitS (nt a))) ∧ Below w.heap.size w w' := by
  obtain ⟨X, ⟨g, cap, rfl, hcp, hgl, hcx⟩, cX, rfl⟩ := hx
  have lX := ncan_len X 500 cX fa
  by_cases h0 : X = []
  · subst h0
    have E : Hid (fitS (nt (lv [])) = { data := #[48] }) := by
      show fitS (nt 0) = _
      rw [nt_nought]; rfl
    rw [E.out]
    clear hcx cX fa
    go_enter Tryz.func161, Tryz.ntmps161
    go_wp2
    go_ret
    exact ⟨rfl, Below.refl _ _⟩
  · have hp : 0 < X.length := List.length_pos_iff.2 h0
    have hp' : ((X.length : Int) == 0) = false := beq_eq_false_iff_ne.2 (by omega)
    have en := ncan_nt X cX h0 lX
    have eln : (nt (lv X)).length = X.length := by rw [← en, List.length_reverse]
    by_cases hlong : X.length ≤ 200
    · have E : Hid (fitS (nt (lv X)) = tx X.reverse) := by show fitS (nt (lv X)) = _; unfold fitS; rw [eln, if_pos hlong, ← en]
      rw [E.out]
      obtain ⟨n, hn⟩ : ∃ n, X.length = n := ⟨_, rfl⟩
      obtain ⟨w1, hrun, hown, hb1⟩ := ninfoB w n (by omega)
      have HO : Hid (NRow w1 w.heap.size w.heap.size n (List.replicate n 0 ++ ((X.take 0).reverse).map (48 + ·))) := by
        show NRow _ _ _ _ _
        rw [List.take_zero]; simpa using hown
      have HC : Hid (∀ i, i < n → w.cell? ⟨g, i, none⟩ = some (.int .u8 (X.getD i 0))) := by rw [hn] at hcx; exact hcx
      have HB : Hid (∀ i, 0 ≤ X.getD i 0 ∧ X.getD i 0 ≤ 9) := fun i => dec_at X cX.1 i
      have HS : Hid (∀ k, k < n → (List.replicate (n - k) 0 ++ ((X.take k).reverse).map (48 + ·)).set (n - 1 - k) (48 + X.getD k 0) = List.replicate (n - (k + 1)) 0 ++ ((X.take (k + 1)).reverse).map (48 + ·)) := fun k hk => by
        rw [fill_set_back _ n k _ (by simp; omega) hk, text_take X k (by omega)]
      have HT : Hid (∀ W, NRow W w.heap.size w.heap.size n (List.replicate (n - n) 0 ++ ((X.take n).reverse).map (48 + ·)) → (convert 22 9 (.slice (some ⟨w.heap.size, 0, none⟩) n n)).run Tryz.prog W = .ok (.string (tx X.reverse)) W) := fun W hW => by
        rw [Nat.sub_self, List.replicate_zero, List.nil_append, List.take_of_length_le (by omega)] at hW
        exact ntext_of W w.heap.size w.heap.size n X hW hn
      rw [hn] at hp hp' hlong hcp ⊢
      have hlong' : ¬ (200 : Int) < (n : Int) := by omega
      generalize tx X.reverse = T at *
      clear hcx cX fa en eln E lX hown h0
      go_enter Tryz.func161, Tryz.ntmps161
      go_wp2
      go_loopw [18] (fun i wr => ∃ k : Nat, k ≤ n ∧ i = .int .i64 (k : Int) ∧ Hid (NRow wr w.heap.size w.heap.size n (List.replicate (n - k) 0 ++ ((X.take k).reverse).map (48 + ·))) ∧ Below w.heap.size w wr) (fun i _ => n - (intOf i).toNat)
      case atStart => exact ⟨0, Nat.zero_le _, rfl, HO, hb1⟩
      case round =>
        obtain ⟨k, hk, rfl, HR, hbel⟩ := hrel
        clear hrun HO hb1
        by_cases hlt : k < n
        · have hlt' : (k : Int) < (n : Int) := by omega
          obtain ⟨p, hp⟩ : ∃ p, n - 1 - k = p := ⟨_, rfl⟩
          have ep : (n : Int) - 1 - (k : Int) = (p : Int) := by omega
          have hpn : p < n := by omega
          have hpn' : (p : Int) < (n : Int) := by omega
          have hcx := (hbel.cell (p := ⟨g, k, none⟩) hgl).trans (HC.out k hlt)
          have hb := HB.out k
          have hcell := HR.out.cell p hpn
          have hf := HR.out.frozen p
          have HN : Hid (NRow (wr.setCell ⟨w.heap.size, p, none⟩ (.int .u8 (48 + X.getD k 0))) w.heap.size w.heap.size n (List.replicate (n - (k + 1)) 0 ++ ((X.take (k + 1)).reverse).map (48 + ·))) := by
            have := HR.out.set p (48 + X.getD k 0)
            rw [← hp, HS.out k hlt] at this
            rw [hp] at this
            exact this
          clear hp
          generalize (List.replicate (n - k) 0 ++ ((X.take k).reverse).map (48 + ·)).getD p 0 = o at *
          generalize X.getD k 0 = d at *
          go_wp2
          go_roundw
          case rel => exact ⟨k + 1, by omega, by go_num, HN, hbel.setCell (Nat.le_refl _) _⟩
          case measure => simp [intOf]; omega
        · have e : k = n := by omega
          subst e
          have hcv := HT.out wr HR.out
          clear HT
          go_wp2
          go_ret
          exact ⟨rfl, hbel⟩
    · have E : Hid (fitS (nt (lv X)) = { data := #[] }) := by show fitS (nt (lv X)) = _; unfold fitS; rw [eln, if_neg hlong]
      rw [E.out]
      have hlong' : (200 : Int) < (X.length : Int) := by omega
      clear hcx cX fa en eln E
      generalize X.length = n at *
      go_enter Tryz.func161, Tryz.ntmps161
      go_wp2
      go_ret
      exact ⟨rfl, Below.refl _ _⟩
end Go.Proofs.YteofommckgeemaaGreatDoor

namespace Go.Proofs.YteofommckgeemaaGreatDoor
open Go.RowKit
set_option linter.unusedVariables false
set_option maxRecDepth 100000
theorem times_in (P : List Int) (i j : Nat) (A xi yj c s V : Int) (hk : i + j < P.length) (h : lv P + 10 ^ (i + j) * c = A + 10 ^ i * xi * V) (hs : s = P.getD (i + j) 0 + xi * yj + c) :
    lv (P.set (i + j) (s % 10)) + 10 ^ (i + (j + 1)) * (s / 10) = A + 10 ^ i * xi * (V + yj * 10 ^ j) := by
  rw [nl_set P (i + j) _ hk, show i + (j + 1) = i + j + 1 by omega, Int.pow_succ]
  have hr : s = s % 10 + 10 * (s / 10) := by omega
  rw [Int.pow_add] at h ⊢
  generalize s % 10 = r at *
  generalize s / 10 = u at *
  generalize (10 : Int) ^ i = p at *
  generalize (10 : Int) ^ j = q at *
  generalize P.getD (i + j) 0 = K at *
  grind
theorem times_out (P X Y : List Int) (i : Nat) (c : Int) (hi : i < X.length) (hk : i + Y.length < P.length) (hz : P.getD (i + Y.length) 0 = 0) (h : lv P + 10 ^ (i + Y.length) * c = lv (X.take i) * lv Y + 10 ^ i * X.getD i 0 * pv (fun i => Y.getD i 0) Y.length) :
    lv (P.set (i + Y.length) c) = lv (X.take (i + 1)) * lv Y := by
  rw [nl_set P _ _ hk, hz, lv_take1 X i hi]
  rw [pv_all Y Y.length (Nat.le_refl _)] at h
  generalize (10 : Int) ^ (i + Y.length) = p at *
  grind
theorem getD_set_ne (P : List Int) (k q : Nat) (d : Int) (h : k ≠ q) : (P.set k d).getD q 0 = P.getD q 0 := by
  simp [List.getD, List.getElem?_set_ne h]
theorem replicate_at (n q : Nat) : (List.replicate n (0 : Int)).getD q 0 = 0 := by
  simp only [List.getD, List.getElem?_replicate]
  split <;> rfl
/-- What holds behind i rows and j columns of the next one. -/
def TI (w wr : World) (N : Nat) (X Y : List Int) (i j : Nat) (c : Int) : Prop :=
  ∃ P, NRow wr w.heap.size w.heap.size N P ∧ Dec P ∧ (∀ q, i + Y.length ≤ q → P.getD q 0 = 0) ∧ lv P + 10 ^ (i + j) * c = lv (X.take i) * lv Y + 10 ^ i * X.getD i 0 * pv (fun i => Y.getD i 0) j
theorem TI.first {w wr : World} {N : Nat} {X Y : List Int} {i : Nat} {P : List Int} (hR : NRow wr w.heap.size w.heap.size N P) (hD : Dec P) (hz : ∀ q, i + Y.length ≤ q → P.getD q 0 = 0) (hv : lv P = lv (X.take i) * lv Y) : TI w wr N X Y i 0 0 :=
  ⟨P, hR, hD, hz, by rw [hv]; simp [pv]⟩
theorem lv_sum_bd (xi yj k c : Int) (a0 : 0 ≤ xi) (a9 : xi ≤ 9) (b0 : 0 ≤ yj) (b9 : yj ≤ 9) : 0 ≤ xi * yj ∧ xi * yj ≤ 81 := by
  refine ⟨Int.mul_nonneg a0 b0, ?_⟩
  exact Int.le_trans (Int.mul_le_mul a9 b9 b0 (by decide)) (by decide)
set_option maxHeartbeats 4000000 in
theorem nTimes_any (x y : Value) (a b : Int) (w : World) (hx : NIs w x a) (hy : NIs w y b) (fa : NFit a 1000) (fb : NFit b 1000) :
    Calls Tryz.prog 214 #[x, y] w fun e w' => ∃ u, e = .returned u ∧ NIsF w' w.heap.size u (a * b) ∧ Below w.heap.size w w' := by
  obtain ⟨X, rX, cX, rfl⟩ := hx
  obtain ⟨Y, rY, cY, rfl⟩ := hy
  have lX := ncan_len X 1000 cX fa
  have lY := ncan_len Y 1000 cY fb
  obtain ⟨n, hn⟩ : ∃ n, X.length = n := ⟨_, rfl⟩
  obtain ⟨m, hm⟩ : ∃ m, Y.length = m := ⟨_, rfl⟩
  obtain ⟨N, hN⟩ : ∃ N, n + m = N := ⟨_, rfl⟩
  obtain ⟨w1, hrun, hown, hb1⟩ := nMake w N (by omega)
  have hrun' : (Instr.makeSlice 183 (.int .i64 ((n : Int) + (m : Int))) (.int .i64 ((n : Int) + (m : Int)))).run Tryz.prog w = .ok (.slice (some ⟨w.heap.size, 0, none⟩) N N) w1 := by
    rw [show (n : Int) + (m : Int) = (N : Int) by omega]; exact hrun
  have HO : Hid (TI w w1 N X Y 0 0 0) := TI.first hown (dec_noughts N) (fun q _ => replicate_at N q) (by rw [lv_noughts, List.take_zero]; simp [lv])
  have HBX : Hid (∀ p, 0 ≤ X.getD p 0 ∧ X.getD p 0 ≤ 9) := fun p => dec_at X cX.1 p
  have HBY : Hid (∀ p, 0 ≤ Y.getD p 0 ∧ Y.getD p 0 ≤ 9) := fun p => dec_at Y cY.1 p
  obtain ⟨g, cg, rfl, hcg, hgl, hcx⟩ := rX
  obtain ⟨k, ck, rfl, hck, hkl, hcy⟩ := rY
  rw [hn] at hcg hcx lX ⊢
  rw [hm] at hck hcy lY ⊢
  have HCX : Hid (∀ i, i < n → w.cell? ⟨g, i, none⟩ = some (.int .u8 (X.getD i 0))) := hcx
  have HCY : Hid (∀ i, i < m → w.cell? ⟨k, i, none⟩ = some (.int .u8 (Y.getD i 0))) := hcy
  have HT : Hid (∀ wr, TI w wr N X Y n 0 0 → Calls Tryz.prog 218 #[.slice (some ⟨w.heap.size, 0, none⟩) N N] wr fun e w' => ∃ u, e = .returned u ∧ NIsF wr w.heap.size u (lv X * lv Y) ∧ w' = wr) := fun wr ⟨P, hR, hD, hz, hv⟩ => by
    have := nTrim_any _ P wr w.heap.size hR.rd ⟨_, _, _, rfl, Nat.le_refl _⟩ hD (by rw [hR.len]; omega)
    rw [List.take_of_length_le (by omega)] at hv
    rw [show lv P = lv X * lv Y by simpa [pv] using hv] at this
    exact this
  have HIN : Hid (∀ wr i j c, i < n → j < m → 0 ≤ c → TI w wr N X Y i j c → ∃ K, wr.cell? ⟨w.heap.size, i + j, none⟩ = some (.int .u8 K) ∧ 0 ≤ K ∧ K ≤ 9 ∧ wr.frozen? ⟨w.heap.size, i + j, none⟩ = false ∧ (∀ M s, s = K + X.getD i 0 * Y.getD j 0 + c → TI w ((wr.drewN M).setCell ⟨w.heap.size, i + j, none⟩ (.int .u8 (s % 10))) N X Y i (j + 1) (s / 10))) := fun wr i j c hi hj c0 ⟨P, hR, hD, hz, hv⟩ => by
    have hlen := hR.len
    refine ⟨P.getD (i + j) 0, hR.cell (i + j) (by omega), (dec_at P hD _).1, (dec_at P hD _).2, hR.frozen _, fun M s hs => ⟨P.set (i + j) (s % 10), ?_, nd_set P _ _ hD (by omega) (by omega), fun q hq => ?_, ?_⟩⟩
    · exact (hR.below (below_drewN (Below.refl _ _) M) (Nat.le_refl _)).set (i + j) (s % 10)
    · rw [getD_set_ne _ _ _ _ (by omega)]; exact hz q hq
    · exact times_in P i j _ (X.getD i 0) (Y.getD j 0) c s _ (by omega) hv hs
  have HOUT : Hid (∀ wr i c, i < n → 0 ≤ c → c ≤ 9 → TI w wr N X Y i m c → ∃ K, wr.cell? ⟨w.heap.size, i + m, none⟩ = some (.int .u8 K) ∧ wr.frozen? ⟨w.heap.size, i + m, none⟩ = false ∧ TI w (wr.setCell ⟨w.heap.size, i + m, none⟩ (.int .u8 c)) N X Y (i + 1) 0 0) := fun wr i c hi c0 c9 ⟨P, hR, hD, hz, hv⟩ => by
    have hlen := hR.len
    refine ⟨P.getD (i + m) 0, hR.cell (i + m) (by omega), hR.frozen _, TI.first (hR.set (i + m) c) (nd_set P _ _ hD c0 c9) (fun q hq => ?_) ?_⟩
    · rw [getD_set_ne _ _ _ _ (by omega)]; exact hz q (by omega)
    · have := times_out P X Y i c (by omega) (by omega) (hz _ (Nat.le_refl _)) (by rw [hm]; exact hv)
      rw [hm] at this
      exact this
  clear cX cY fa fb hown hrun hcx hcy hn hm
  go_enter Tryz.func214, Tryz.ntmps214
  go_wp2
  go_loopw [18] (fun i wr => ∃ q : Nat, q ≤ n ∧ i = .int .i64 (q : Int) ∧ Hid (TI w wr N X Y q 0 0) ∧ Below w.heap.size w wr) (fun i _ => n - (intOf i).toNat)
  case atStart => exact ⟨0, Nat.zero_le _, rfl, HO, hb1⟩
  case round =>
    obtain ⟨q, hq, rfl, HI, hbel⟩ := hrel
    clear hrun' HO hb1
    by_cases hlt : q < n
    · have hlt' : (q : Int) < (n : Int) := by omega
      have bx := HBX.out q
      go_wp2
      go_loopw [7, 24] (fun c j wr => ∃ (r : Nat) (cv : Int), r ≤ m ∧ c = .int .u8 cv ∧ j = .int .i64 (r : Int) ∧ 0 ≤ cv ∧ cv ≤ 9 ∧ Hid (TI w wr N X Y q r cv) ∧ Below w.heap.size w wr) (fun _ j _ => m - (intOf j).toNat)
      case atStart => exact ⟨0, 0, Nat.zero_le _, rfl, rfl, by omega, by omega, HI, hbel⟩
      case round =>
        obtain ⟨r, cv, hr, rfl, rfl, c0, c9, HJ, hbel2⟩ := hrel
        clear HI hbel
        by_cases hlr : r < m
        · have hlr' : (r : Int) < (m : Int) := by omega
          have by' := HBY.out r
          have h1 := (hbel2.cell (p := ⟨g, q, none⟩) hgl).trans (HCX.out q hlt)
          have h2 := (hbel2.cell (p := ⟨k, r, none⟩) hkl).trans (HCY.out r hlr)
          obtain ⟨K, h3, k0, k9, h4, h5⟩ := HIN.out wr q r cv hlt hlr c0 HJ.out
          have H5 : Hid (∀ M s, s = K + X.getD q 0 * Y.getD r 0 + cv → TI w ((wr.drewN M).setCell ⟨w.heap.size, q + r, none⟩ (.int .u8 (s % 10))) N X Y q (r + 1) (s / 10)) := h5
          clear h5 HJ
          obtain ⟨p0, p1⟩ := lv_sum_bd (X.getD q 0) (Y.getD r 0) 0 0 bx.1 bx.2 by'.1 by'.2
          have hqr : (q : Int) + (r : Int) < (N : Int) := by omega
          have hqr0 : 0 ≤ (q : Int) + (r : Int) := by omega
          generalize X.getD q 0 = xi at *
          generalize Y.getD r 0 = yj at *
          have ht : Int.tmod (K + xi * yj + cv) 10 = (K + xi * yj + cv) % 10 := Int.tmod_eq_emod_of_nonneg (by omega)
          have hq' : Int.tdiv (K + xi * yj + cv) 10 = (K + xi * yj + cv) / 10 := Int.tdiv_eq_ediv_of_nonneg (by omega)
          have hr0 : 0 ≤ (K + xi * yj + cv) % 10 := by omega
          have hr1 : (K + xi * yj + cv) % 10 < 10 := by omega
          have hq0 : 0 ≤ (K + xi * yj + cv) / 10 := by omega
          have hq1 : (K + xi * yj + cv) / 10 ≤ 9 := by omega
          go_wp2
          go_quiet (fail)
          go_wp2
          go_roundw
          case rel => exact ⟨r + 1, (K + xi * yj + cv) / 10, by omega, rfl, by go_num, hq0, hq1, H5.out nq _ rfl, (below_drewN hbel2 nq).setCell (Nat.le_refl _) _⟩
          case measure => simp [intOf]; omega
        · have e : r = m := by omega
          subst e
          obtain ⟨K, h3, h4, h5⟩ := HOUT.out wr q cv hlt c0 c9 HJ.out
          have H5 : Hid (TI w (wr.setCell ⟨w.heap.size, q + r, none⟩ (.int .u8 cv)) N X Y (q + 1) 0 0) := h5
          have hqr : (q : Int) + (r : Int) < (N : Int) := by omega
          have hqr0 : 0 ≤ (q : Int) + (r : Int) := by omega
          clear h5 HJ
          go_wp2
          go_roundw
          case rel => exact ⟨q + 1, by omega, by go_num, H5, hbel2.setCell (Nat.le_refl _) _⟩
          case measure => simp [intOf]; omega
    · have e : q = n := by omega
      subst e
      go_wp2_with fail
      refine (HT.out _ HI.out).mono ?_
      rintro e w2 ⟨u, rfl, hu, rfl⟩
      have HU : Hid (NIsF w2 w.heap.size u (lv X * lv Y)) := hu
      clear hu
      go_wp2
      go_ret
      exact ⟨u, rfl, HU.out, hbel⟩
end Go.Proofs.YteofommckgeemaaGreatDoor
