/-
  Naturals of the program: sums, differences, a digit more, noughts more; walked.
-/
import Derived.Test.YtjgnhlldehgieaeDoorNaq
namespace Go.Proofs.YtjgnhlldehgieaeDoor
open Go.RowKit
set_option linter.unusedVariables false
set_option maxRecDepth 100000
theorem ninfo8 : (Tryd.prog.info? 5).map (fun i => (i.zero, i.size, i.bytes)) = some (some (.int .u8 0), 1, 1) := by kernel_rfl
theorem nMake (w : World) (n : Nat) (hn : n ≤ 100000) : ∃ w1, (Instr.makeSlice 84 (.int .i64 (n : Int)) (.int .i64 (n : Int))).run Tryd.prog w = .ok (.slice (some ⟨w.heap.size, 0, none⟩) n n) w1 ∧ NRow w1 w.heap.size w.heap.size n (List.replicate n 0) ∧ Below w.heap.size w w1 := by
  obtain ⟨i0, hi, hz0, hz1, hz2⟩ := info_parts ninfo8
  obtain ⟨w1, hrun, hown, hgrow⟩ := run_make_full (P := Tryd.prog) w w.heap.size 84 5 i0 (.int .u8 0) 1 Tryd.underlying84 hi hz0 hz1 .i64 .i64 n (by rw [hz2]; omega) (by unfold maxLen; omega) (Nat.le_refl _)
  refine ⟨w1, hrun, ?_, Below.grown (Below.refl _ _) hgrow (Nat.le_refl _) (fun k hk => by cases hk)⟩
  rw [show (Value.int .u8 0).cells = #[Value.int .u8 0] from rfl, toList_madeCells_one, Nat.mul_one] at hown
  unfold NRow
  simpa using hown
theorem NRow.below1 {w w' : World} {base g n : Nat} {L : List Int} (h : NRow w base g n L) (hb : Below w.heap.size w w') : NRow w' base g n L := h.below hb (Nat.le_refl _)
theorem plus_end (X Y D : List Int) (n : Nat) (c : Int) (hX : Dec X) (hY : Dec Y) (hD : Dec D) (lD : D.length = n) (hn : n = max X.length Y.length + 1) (c0 : 0 ≤ c) (h : lv D + 10 ^ n * c = pv (fun i => X.getD i 0) n + pv (fun i => Y.getD i 0) n) : lv D = lv X + lv Y := by
  rw [pv_all X n (by omega), pv_all Y n (by omega)] at h
  have bX := (lv_bd X hX).2
  have bY := (lv_bd Y hY).2
  have mX := pow_mono X.length (n - 1) (by omega)
  have mY := pow_mono Y.length (n - 1) (by omega)
  have bD := (lv_bd D hD).1
  have e : (10 : Int) ^ n = 10 ^ (n - 1) * 10 := by rw [← Int.pow_succ]; congr 1; omega
  have p0 : (0 : Int) < 10 ^ (n - 1) := Int.pow_pos (by decide)
  have hc : c = 0 := by
    rcases Int.lt_or_le 0 c with q | q
    · exfalso
      have : 10 ^ n * 1 ≤ 10 ^ n * c := Int.mul_le_mul_of_nonneg_left (by omega) (Int.le_of_lt (Int.pow_pos (by decide)))
      omega
    · omega
  rw [hc] at h
  omega
set_option maxHeartbeats 2000000 in
theorem nPlus_any (x y : Value) (a b : Int) (w : World) (hx : NIs w x a) (hy : NIs w y b) (fa : NFit a 1000) (fb : NFit b 1000) :
    Calls Tryd.prog 61 #[x, y] w fun e w' => ∃ u, e = .returned u ∧ NIsF w' w.heap.size u (a + b) ∧ Below w.heap.size w w' := by
  obtain ⟨X, rX, cX, rfl⟩ := hx
  obtain ⟨Y, rY, cY, rfl⟩ := hy
  have lX := ncan_len X 1000 cX fa
  have lY := ncan_len Y 1000 cY fb
  obtain ⟨n, hn⟩ : ∃ n, max X.length Y.length + 1 = n := ⟨_, rfl⟩
  obtain ⟨w1, hrun, hown, hb1⟩ := nMake w n (by omega)
  have HO : Hid (NRow w1 w.heap.size w.heap.size n (List.replicate n 0)) := hown
  have HAX : Hid (∀ p, p ≤ n → ∀ W, Below w.heap.size w W → Calls Tryd.prog 74 #[x, .int .i64 (p : Int)] W fun e w' => e = .returned (.int .u8 (X.getD p 0)) ∧ w' = W) := fun p hp W hW => nAt_any x X p W (rX.below hW (Nat.le_refl _)) (by omega) (by omega)
  have HAY : Hid (∀ p, p ≤ n → ∀ W, Below w.heap.size w W → Calls Tryd.prog 74 #[y, .int .i64 (p : Int)] W fun e w' => e = .returned (.int .u8 (Y.getD p 0)) ∧ w' = W) := fun p hp W hW => nAt_any y Y p W (rY.below hW (Nat.le_refl _)) (by omega) (by omega)
  have HE : Hid (∀ D c, Dec D → D.length = n → 0 ≤ c → lv D + 10 ^ n * c = pv (fun i => X.getD i 0) n + pv (fun i => Y.getD i 0) n → lv D = lv X + lv Y) := fun D c hD lD c0 h => plus_end X Y D n c cX.1 cY.1 hD lD hn.symm c0 h
  have HBX : Hid (∀ p, 0 ≤ X.getD p 0 ∧ X.getD p 0 ≤ 9) := fun p => dec_at X cX.1 p
  have HBY : Hid (∀ p, 0 ≤ Y.getD p 0 ∧ Y.getD p 0 ≤ 9) := fun p => dec_at Y cY.1 p
  obtain ⟨g, cg, rfl, -, -, -⟩ := rX
  obtain ⟨k, ck, rfl, -, -, -⟩ := rY
  have hmx : max (X.length : Int) (Y.length : Int) + 1 = (n : Int) := by omega
  have hn2 : n ≤ 1001 := by omega
  clear cX cY fa fb hown hn
  generalize X.length = lx at *
  generalize Y.length = ly at *
  have hr1 : lx < ly → (Instr.makeSlice 84 (.int .i64 ((ly : Int) + 1)) (.int .i64 ((ly : Int) + 1))).run Tryd.prog w = .ok (.slice (some ⟨w.heap.size, 0, none⟩) n n) w1 := fun h => by
    rw [show (ly : Int) + 1 = n by omega]; exact hrun
  have hr2 : ¬ lx < ly → (Instr.makeSlice 84 (.int .i64 ((lx : Int) + 1)) (.int .i64 ((lx : Int) + 1))).run Tryd.prog w = .ok (.slice (some ⟨w.heap.size, 0, none⟩) n n) w1 := fun h => by
    rw [show (lx : Int) + 1 = n by omega]; exact hrun
  clear hrun hmx
  by_cases hlx : lx < ly
  all_goals first | have hrun := hr1 hlx | have hrun := hr2 hlx
  all_goals clear hr1 hr2
  all_goals
    go_enter Tryd.func61, Tryd.ntmps61
    go_wp2
    go_loopw [6, 19] (fun c i wr => ∃ (j : Nat) (D : List Int) (cv : Int), j ≤ n ∧ c = .int .u8 cv ∧ i = .int .i64 (j : Int) ∧ 0 ≤ cv ∧ cv ≤ 1 ∧ Hid (NRow wr w.heap.size w.heap.size n (D ++ List.replicate (n - j) 0) ∧ D.length = j ∧ Dec D ∧ lv D + 10 ^ j * cv = pv (fun i => X.getD i 0) j + pv (fun i => Y.getD i 0) j) ∧ Below w.heap.size w wr) (fun _ i _ => n - (intOf i).toNat)
    case atStart => exact ⟨0, [], 0, Nat.zero_le _, rfl, rfl, by omega, by omega, ⟨HO.out, rfl, (fun d hd => by cases hd), rfl⟩, hb1⟩
    case round =>
      obtain ⟨j, D, cv, hj, rfl, rfl, c0, c1, HI, hbel⟩ := hrel
      clear hrun HO hb1
      by_cases hlt : j < n
      · have hlt' : (j : Int) < (n : Int) := by omega
        have bx := HBX.out j
        have by' := HBY.out j
        have hAX := HAX.out j hj wr hbel
        have hAY := HAY.out j hj wr hbel
        have HAX' : Hid (Calls Tryd.prog 74 #[.slice (some ⟨g, 0, none⟩) lx cg, .int .i64 (j : Int)] wr fun e w' => e = .returned (.int .u8 (X.getD j 0)) ∧ w' = wr) := hAX
        have HAY' : Hid (Calls Tryd.prog 74 #[.slice (some ⟨k, 0, none⟩) ly ck, .int .i64 (j : Int)] wr fun e w' => e = .returned (.int .u8 (Y.getD j 0)) ∧ w' = wr) := hAY
        clear hAX hAY
        obtain ⟨hR, hl, hD, hv⟩ := HI.out
        have hcell := hR.cell j hlt
        have hf := hR.frozen j
        have HN : Hid (∀ s, s = X.getD j 0 + Y.getD j 0 + cv → NRow (wr.setCell ⟨w.heap.size, j, none⟩ (.int .u8 (s % 10))) w.heap.size w.heap.size n ((D ++ [s % 10]) ++ List.replicate (n - (j + 1)) 0) ∧ (D ++ [s % 10]).length = j + 1 ∧ Dec (D ++ [s % 10]) ∧ lv (D ++ [s % 10]) + 10 ^ (j + 1) * (s / 10) = pv (fun i => X.getD i 0) (j + 1) + pv (fun i => Y.getD i 0) (j + 1)) := fun s hs => by
          refine ⟨?_, by simp [hl], nd_snoc D _ hD (by omega) (by omega), ?_⟩
          · rw [← fill_set D n j (s % 10) hl hlt]
            exact hR.set j (s % 10)
          · rw [col_step D j _ cv s (X.getD j 0 + Y.getD j 0) hl hv hs]
            simp only [pv, Int.mul_comm (10 ^ j), Int.add_mul]
            omega
        clear hR hl hD hv HI
        generalize (D ++ List.replicate (n - j) 0).getD j 0 = o at *
        generalize X.getD j 0 = xj at *
        generalize Y.getD j 0 = yj at *
        have ht : Int.tmod (xj + yj + cv) 10 = (xj + yj + cv) % 10 := Int.tmod_eq_emod_of_nonneg (by omega)
        have hq : Int.tdiv (xj + yj + cv) 10 = (xj + yj + cv) / 10 := Int.tdiv_eq_ediv_of_nonneg (by omega)
        have hr0 : 0 ≤ (xj + yj + cv) % 10 := by omega
        have hr1 : (xj + yj + cv) % 10 < 10 := by omega
        have hq0 : 0 ≤ (xj + yj + cv) / 10 := by omega
        have hq1 : (xj + yj + cv) / 10 ≤ 1 := by omega
        go_wp2_with fail
        refine HAX'.out.mono ?_
        rintro e w2 ⟨rfl, rfl⟩
        go_wp2_with fail
        refine HAY'.out.mono ?_
        rintro e w3 ⟨rfl, hw3⟩
        obtain rfl := hw3
        go_wp2
        go_roundw
        case rel => exact ⟨j + 1, D ++ [(xj + yj + cv) % 10], (xj + yj + cv) / 10, by omega, rfl, by go_num, hq0, hq1, HN.out _ rfl, hbel.setCell (Nat.le_refl _) _⟩
        case measure => simp [intOf]; omega
      · have e : j = n := by omega
        subst e
        obtain ⟨hR, hl, hD, hv⟩ := HI.out
        rw [Nat.sub_self, List.replicate_zero, List.append_nil] at hR
        have HT : Hid (Calls Tryd.prog 75 #[.slice (some ⟨w.heap.size, 0, none⟩) j j] wr fun e w' => ∃ u, e = .returned u ∧ NIsF wr w.heap.size u (lv X + lv Y) ∧ w' = wr) := by
          have := nTrim_any _ D wr w.heap.size hR.rd ⟨_, _, _, rfl, Nat.le_refl _⟩ hD (by omega)
          rw [HE.out D cv hD hl c0 hv] at this
          exact this
        clear hR hl hD hv HI
        go_wp2_with fail
        refine HT.out.mono ?_
        rintro e w2 ⟨u, rfl, hu, rfl⟩
        have HU : Hid (NIsF w2 w.heap.size u (lv X + lv Y)) := hu
        clear hu
        go_wp2
        go_ret
        exact ⟨u, rfl, HU.out, hbel⟩
end Go.Proofs.YtjgnhlldehgieaeDoor
