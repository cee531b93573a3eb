/-
  Roots of the program: pairs, turns over them, walked.
-/
import Derived.Deep.LoopGhost
import Derived.BigQuiet
import Derived.Test.YtlbkhiphnllfpadRot
import Derived.Test.YtlbkhiphnllfpadApp
import Derived.Test.YtlbkhiphnllfpadCls
namespace Go.Proofs.Ytlbkhiphnllfpad
open Go.RowKit
set_option linter.unusedVariables false
theorem rp_made (n : Nat) (w w1 : World) (v : Value) (h : w1.ownsRow w.heap.size 2 1 v n (madeCells (Value.int .i64 0).cells n).toList) : Has w1 w.heap.size v (List.replicate n 0) := by
  rw [show (Value.int .i64 0).cells = #[Value.int .i64 0] from rfl, toList_madeCells_one] at h
  simpa [Has] using h
set_option maxHeartbeats 2000000 in
theorem pairsOf_any (x : Int) (n : Nat) (w : World) (h0 : 0 ≤ x) (h1 : x ≤ 9223372036854775807) (hn : n ≤ 1000) :
    Calls Try.prog 23 #[.int .i64 x, .int .i64 (n : Int)] w fun e w' => ∃ u, e = .returned u ∧ HasN w' w.heap.size u (cut 100 x n) ∧ Below w.heap.size w w' := by
  obtain ⟨i0, hi, hz0, hz1, hz2⟩ := info_parts info64
  obtain ⟨w1, hrun, hown, hgrow⟩ := run_make_full (P := Try.prog) w w.heap.size 26 2 i0 (.int .i64 0) 1 Try.underlying26 hi hz0 hz1 .i64 .i64 n (by rw [hz2]; omega) (by unfold maxLen; omega) (Nat.le_refl _)
  have hb1 : Below w.heap.size w w1 := Below.grown (Below.refl _ _) hgrow (Nat.le_refl _) (fun k hk => by cases hk)
  have Ho : Hid (Has w1 w.heap.size (.slice (some ⟨w.heap.size, 0, none⟩) n n) (fil 100 x n 0)) := by
    rw [fil_zero]; exact rp_made n w w1 _ (by simpa using hown)
  have hrun' : (Instr.makeSlice 26 (.int .i64 (n : Int)) (.int .i64 (n : Int))).run Try.prog w = .ok (.slice (some ⟨w.heap.size, 0, none⟩) n n) w1 := hrun
  have Hnx : Hid (∀ j, j < n → (fil 100 x n j).set (n - 1 - j) (x / 100 ^ j % 100) = fil 100 x n (j + 1)) := fun j hj => fil_set 100 x n j hj
  have Hln : Hid (∀ j, j ≤ n → (fil 100 x n j).length = n) := fun j hj => fil_length 100 x n j hj
  have Hdv : Hid (∀ j : Nat, x / 100 ^ j / 100 = x / 100 ^ (j + 1)) := fun j => cut_next 100 x (by decide) j
  have Hy : Hid (∀ j : Nat, 0 ≤ x / 100 ^ j ∧ x / 100 ^ j ≤ 9223372036854775807) := fun j => ⟨Int.ediv_nonneg h0 (Int.le_of_lt (Int.pow_pos (by decide))), Int.le_trans (Int.ediv_le_self _ h0) h1⟩
  have Hz : Hid (x / 100 ^ 0 = x) := by show _ = _; rw [Int.pow_zero, Int.ediv_one]
  clear hrun hown hgrow
  go_enter Try.func23, Try.ntmps23
  go_wp2
  go_loopw [0, 6] (fun y p wr => ∃ j : Nat, j ≤ n ∧ y = .int .i64 (x / 100 ^ j) ∧ p = .int .i64 ((n : Int) - 1 - (j : Int)) ∧ Hid (Has wr w.heap.size (.slice (some ⟨w.heap.size, 0, none⟩) n n) (fil 100 x n j)) ∧ Below w.heap.size w wr) (fun _ p _ => (intOf p + 1).toNat)
  case atStart => exact ⟨0, Nat.zero_le _, Ln.val_int Hz.out.symm, Ln.val_int (by omega), Ho, hb1⟩
  case round =>
    obtain ⟨j, hj, rfl, rfl, hown, hbel⟩ := hrel
    clear Ho hb1 Hz
    by_cases hlt : j < n
    · obtain ⟨K, hK⟩ : ∃ K : Nat, n - 1 - j = K := ⟨_, rfl⟩
      have eP : (n : Int) - 1 - (j : Int) = (K : Int) := by omega
      have hKn : K < n := by omega
      have hKn' : (K : Int) < (n : Int) := by omega
      have hst : wr.ownsRow w.heap.size 2 1 (.slice (some ⟨w.heap.size, 0, none⟩) n n) n ((fil 100 x n j).map (Value.int .i64)) := by
        have := hown.out; unfold Has at this; rw [Hln.out j hj] at this; exact this
      have hnx := Hnx.out j hlt
      rw [hK] at hnx
      have hy := Hy.out j
      have Hd1 : Hid (x / 100 ^ j / 100 = x / 100 ^ (j + 1)) := Hdv.out j
      have hcs : wr.cell? ⟨w.heap.size, K, none⟩ = some (.int .i64 ((fil 100 x n j).getD K 0)) := by
        rw [World.ownsRow.cellAt hst K (by omega)]
        simp only [List.getElem?_map, List.getD]
        rw [List.getElem?_eq_getElem (by rw [Hln.out j hj]; omega)]
        rfl
      have hf : wr.frozen? ⟨w.heap.size, K, none⟩ = false := World.ownsRow.frozenAt hst K
      have Hnew : Hid (Has (wr.setCell ⟨w.heap.size, K, none⟩ (.int .i64 (x / 100 ^ j % 100))) w.heap.size (.slice (some ⟨w.heap.size, 0, none⟩) n n) (fil 100 x n (j + 1))) := by
        have := (World.ownsRow.stored hst K (.int .i64 (x / 100 ^ j % 100))).1
        show World.ownsRow _ _ _ _ _ _ _
        rw [Hln.out (j + 1) hlt, ← hnx]
        simpa using this
      rw [eP]
      clear hst hown hnx
      generalize (fil 100 x n j).getD K 0 = o at *
      generalize x / 100 ^ j = y at *
      have hdv : Int.tdiv y 100 = y / 100 := Int.tdiv_eq_ediv_of_nonneg hy.1
      have hmd : Int.tmod y 100 = y % 100 := Int.tmod_eq_emod_of_nonneg hy.1
      have hr0 := Int.emod_nonneg y (show (100 : Int) ≠ 0 by omega)
      have hr1 := Int.emod_lt_of_pos y (show (0 : Int) < 100 by omega)
      have Hk : Hid (n - 1 - j = K) := hK
      clear hK eP
      go_wp2
      go_roundw
      case rel => exact ⟨j + 1, by omega, Ln.val_int Hd1.out, Ln.val_int (by have := Hk.out; omega), Hnew, hbel.setCell (Nat.le_refl _) _⟩
      case measure => simp [intOf]
    · obtain e : j = n := by omega
      subst e
      have hneg : ¬ (0 : Int) ≤ (j : Int) - 1 - (j : Int) := by omega
      go_wp2
      go_ret
      exact ⟨_, rfl, ⟨by rw [← fil_all]; exact hown.out, by simp⟩, hbel⟩
/-- The block b holds the two numbers, and may be written. -/
def Bx (w : World) (b : Nat) (S R : Int) : Prop := w.heap[b]? = some (.cells #[.int .i64 S, .int .i64 R] 44 (0, 0))
theorem Bx.cells {w : World} {b : Nat} {S R : Int} (h : Bx w b S R) : w.cell? ⟨b, 0, none⟩ = some (.int .i64 S) ∧ w.cell? ⟨b, 1, none⟩ = some (.int .i64 R) ∧ w.frozen? ⟨b, 0, none⟩ = false ∧ w.frozen? ⟨b, 1, none⟩ = false := by
  unfold Bx at h
  exact ⟨by simp [World.cell?, h], by simp [World.cell?, h], by simp [World.frozen?, h], by simp [World.frozen?, h]⟩
theorem Bx.lt {w : World} {b : Nat} {S R : Int} (h : Bx w b S R) : b < w.heap.size := (Array.getElem?_eq_some_iff.1 h).1
theorem Bx.below {w w' : World} {b B : Nat} {S R : Int} (h : Bx w b S R) (hb : Below B w w') (hB : b < B) : Bx w' b S R := (hb.block b hB).trans h
theorem Bx.put {w : World} {b : Nat} {S R : Int} (h : Bx w b S R) (x y : Int) : Bx ((w.setCell ⟨b, 0, none⟩ (.int .i64 x)).setCell ⟨b, 1, none⟩ (.int .i64 y)) b x y := by
  unfold Bx at *
  simp [World.setCell, Array.getElem?_modify, h]
theorem Bx.other {w : World} {b c : Nat} {S R : Int} (h : Bx w b S R) (hc : c ≠ b) (o : Nat) (x : Value) : Bx (w.setCell ⟨c, o, none⟩ x) b S R := (Below.heap_setCell _ _ _ _ (fun e => hc e.symm)).trans h
theorem Bx.alloc {w : World} {b : Nat} {S R : Int} (h : Bx w b S R) (o : Obj) : Bx (w.alloc o) b S R := h.below ((Below.refl w.heap.size w).alloc (Nat.le_refl _) o) h.lt
theorem bx_new (w : World) (S R : Int) : Bx (w.alloc (.cells #[.int .i64 S, .int .i64 R] 44 (0, 0))) w.heap.size S R := by
  unfold Bx World.alloc
  simp
theorem HasN.put {w : World} {base : Nat} {v : Value} {zs : List Int} (h : HasN w base v zs) {b : Nat} (hb : b < base) (o : Nat) (x : Value) : HasN (w.setCell ⟨b, o, none⟩ x) base v zs := ⟨ownsRow_setCell_below h.1 (a := ⟨b, o, none⟩) hb x, h.2⟩
theorem results_tmp_pair {fn : Func} {t p : Tmp} {b : Nat} {x y : Value} (h : fn.results = #[.tmp t, .cell p 44]) (tmps : Array Value) (w : World) (hp : tmps[p]?.getD undef = .pointer (some ⟨b, 0, none⟩))
    (q0 : w.cell? ⟨b, 0, none⟩ = some x) (q1 : w.cell? ⟨b, 1, none⟩ = some y) : (results fn tmps).run Try.prog w = .ok (.tuple #[tmps.getD t undef, .agg #[x, y]]) w := by
  simp [results, h, hp, go_sem, q0, q1]
/-- What holds behind k pairs. -/
def GI (w wr : World) (S R : Int) (l : List Int) (v : Value) (k : Nat) : Prop :=
  HasN wr (w.heap.size + 2) v (gr S R (l.take k)).1 ∧ Bx wr w.heap.size (gr S R (l.take k)).2.1 (gr S R (l.take k)).2.2 ∧ Bx wr (w.heap.size + 1) 0 0 ∧ Below w.heap.size w wr
set_option maxHeartbeats 4000000 in
theorem grown_any (S R : Int) (v : Value) (l : List Int) (base : Nat) (w : World) (hx : HasN w base v l) (hl : l.length ≤ 1000) (hp : Prs l) (s0 : 0 ≤ S) (r0 : 0 ≤ R) (r1 : R ≤ 2 * S) (hbd : hv (S * S + R) l ≤ 9223372036854775807) :
    Calls Try.prog 22 #[.agg #[.int .i64 S, .int .i64 R], v] w fun e w' => ∃ u, e = .returned (.tuple #[u, .agg #[.int .i64 (gr S R l).2.1, .int .i64 (gr S R l).2.2]]) ∧ Has w' w.heap.size u (gr S R l).1 ∧ Below w.heap.size w w' := by
  obtain ⟨i0, hi, hz0, hz1, hz2⟩ := info_parts info64
  obtain ⟨g, cap, rfl, hgb, hgl, hcell⟩ := hx.form
  have Hc : Hid (∀ i, i < l.length → w.cell? ⟨g, i, none⟩ = some (.int .i64 (l.getD i 0))) := hcell
  clear hx hcell
  obtain ⟨W, hW⟩ : ∃ W, (w.alloc (.cells #[.int .i64 S, .int .i64 R] 44)).alloc (.cells #[.int .i64 0, .int .i64 0] 44) = W := ⟨_, rfl⟩
  have hWs : W.heap.size = w.heap.size + 2 := by rw [← hW]; simp
  have hWb : Below w.heap.size w W := by rw [← hW]; exact ((Below.refl _ _).alloc (Nat.le_refl _) _).alloc (by simp) _
  have hX0 : Bx W w.heap.size S R := by rw [← hW]; exact (bx_new w S R).alloc _
  have hX1 : Bx W (w.heap.size + 1) 0 0 := by rw [← hW]; have := bx_new (w.alloc (.cells #[.int .i64 S, .int .i64 R] 44)) 0 0; simpa using this
  obtain ⟨w1, hrun, hown, hgrow⟩ := run_make_own (P := Try.prog) W (w.heap.size + 2) 26 2 i0 (.int .i64 0) 1 Try.underlying26 hi hz0 hz1 .i64 .i64 l.length (by rw [hz2]; omega) (by unfold maxLen; omega) (by omega)
  have hb1 : Below (w.heap.size + 2) W w1 := Below.grown (Below.refl _ _) hgrow (by omega) (fun k hk => by cases hk)
  have HI0 : Hid (GI w w1 S R l (.slice (some ⟨W.heap.size, 0, none⟩) 0 l.length) 0) := by
    refine ⟨⟨?_, by simp⟩, hX0.below hb1 (by omega), hX1.below hb1 (by omega), hWb.trans (hb1.mono (by omega))⟩
    rw [List.take_zero]
    exact hown
  clear hown hgrow hX0 hX1 hb1 hWb
  subst hW
  have HT : Hid (∀ k, k < l.length → gr S R (l.take (k + 1)) = stp (gr S R (l.take k)) (l.getD k 0)) := fun k hk => by
    rw [List.take_succ_eq_append_getElem hk, gr_snoc]; simp [List.getD, hk]
  have HV : Hid (∀ k, k < l.length → 0 ≤ l.getD k 0 ∧ l.getD k 0 ≤ 99 ∧ 0 ≤ (gr S R (l.take k)).2.1 ∧ (gr S R (l.take k)).2.1 ≤ 303700049 ∧ 0 ≤ (gr S R (l.take k)).2.2 ∧ (gr S R (l.take k)).2.2 ≤ 2 * (gr S R (l.take k)).2.1 ∧ (gr S R (l.take k)).1.length = k) := fun k hk => by
    have hd := hp (l.getD k 0) (by simp [List.getD, hk])
    have hpk : Prs (l.take k) := fun x hx => hp x (List.mem_of_mem_take hx)
    obtain ⟨a, b, c, d, e, f⟩ := gr_inv S R (l.take k) hpk s0 r0 r1
    have hP0 : 0 ≤ S * S + R := by have := Int.mul_nonneg s0 s0; omega
    have ht := hv_take (S * S + R) l hp hP0 (k + 1)
    rw [List.take_succ_eq_append_getElem hk, hv_snoc, ← f] at ht
    rw [show l[k] = l.getD k 0 by simp [List.getD, hk]] at ht
    exact ⟨hd.1, hd.2, c, root_small _ _ (l.getD k 0) c d hd.1 (by omega), d, e, by rw [b, List.length_take]; omega⟩
  clear hp hbd
  go_enter Try.func22, Try.ntmps22
  go_wp2
  go_step3
  go_wp2
  go_step3
  go_wp2
  go_loopg [6, 17] l.length (fun gk v i wr => ∃ k : Nat, k ≤ l.length ∧ gk = l.length - k ∧ i = .int .i64 (k : Int) ∧ Hid (GI w wr S R l v k))
  case atStart => exact ⟨0, Nat.zero_le _, rfl, rfl, by simpa using HI0⟩
  case round =>
    clear HI0 hrun hWs
    obtain ⟨k, hk, rfl, rfl, HG⟩ := hrel
    by_cases hlt : k < l.length
    · have hlt' : (k : Int) < (l.length : Int) := by omega
      have HT' := HT.out k hlt
      obtain ⟨d0, d1, s0, s1, r0, r1, hD⟩ := HV.out k hlt
      obtain ⟨hN, hX, hY, hB⟩ := HG.out
      have hcp : wr.cell? ⟨g, k, none⟩ = some (.int .i64 (l.getD k 0)) := (hB.cell (p := ⟨g, k, none⟩) hgl).trans (Hc.out k hlt)
      obtain ⟨x0, x1, x2, x3⟩ := hX.cells
      have HN : Hid (HasN wr (w.heap.size + 2) _ (gr S R (l.take k)).1) := hN
      have HX : Hid (Bx wr w.heap.size (gr S R (l.take k)).2.1 (gr S R (l.take k)).2.2) := hX
      have HY : Hid (Bx wr (w.heap.size + 1) 0 0) := hY
      have HB : Hid (Below w.heap.size w wr) := hB
      have hs2 := hY.lt
      unfold stp at HT'
      generalize (gr S R (l.take k)).1 = D at *
      generalize (gr S R (l.take k)).2.1 = s at *
      generalize (gr S R (l.take k)).2.2 = r at *
      generalize l.getD k 0 = d at *
      have HT1 : Hid (gr S R (l.take (k + 1)) = _) := HT'
      clear HT' HG hN hX hY hB
      obtain ⟨q, hq⟩ : ∃ q, 100 * r + d = q := ⟨_, rfl⟩
      have hqb : 0 ≤ q ∧ q ≤ 60740009899 := by omega
      have Hq : Hid (100 * r + d = q) := hq
      rw [hq] at HT1
      go_wp2
      clear hq x1 x3
      go_loopg [6, 10] 9 (fun gk v6 v wx => wx = wr ∧ Hid (HasN wx (w.heap.size + 2) v6 D) ∧ ∃ e : Nat, e ≤ 9 ∧ gk = e ∧ v = .int .i64 (e : Int) ∧ Hid (dn s q e = qd s q))
      case atStart => exact ⟨rfl, HN, 9, Nat.le_refl _, rfl, rfl, rfl⟩
      case round =>
        clear HN
        obtain ⟨hwx, HN, e, he, hge, rfl, HE⟩ := hrel
        obtain rfl := hwx.symm
        obtain rfl := hge.symm
        obtain ⟨T, hT⟩ : ∃ T, (20 * s + (e : Int)) * (e : Int) = T := ⟨_, rfl⟩
        have hTt : tk s (e : Int) = T := hT
        have hT0 : 0 ≤ T := by rw [← hTt]; exact tk_nn s _ s0 (by omega)
        have hT1 : T ≤ 60000000000 := by rw [← hTt]; have := tk_le s (e : Int) s0 (by omega) (by omega); omega
        by_cases hle : T ≤ q
        · have HQ : Hid (qd s q = (e : Int)) := by
            show _ = _; rw [← HE.out]; exact dn_yes s q e hqb.1 (by rw [hTt]; exact hle)
          rw [HQ.out, hTt] at HT1
          clear HE hTt
          go_upto_region 11 with (at_builtin; refine wpList_app rfl _ _ rfl _ _ rfl rfl (w.heap.size + 2) wr.heap.size D [(e : Int)] ?h1 (one_ownN wr _) ?h2 ?h3 ?h4)
          case h1 => exact HN.out.alloc _
          case h2 => omega
          case h3 => omega
          intro v' w4 hown4 hb4
          have hB2 : Below (w.heap.size + 2) wr w4 := hb4.out _ _ ((Below.refl _ _).alloc (by omega) _) (Nat.le_refl _)
          have hX4 : Bx w4 w.heap.size s r := HX.out.below hB2 (by omega)
          have hY4 : Bx w4 (w.heap.size + 1) 0 0 := HY.out.below hB2 (by omega)
          have hB4 : Below w.heap.size w w4 := HB.out.trans (hB2.mono (by omega))
          obtain ⟨y0, y1, y2, y3⟩ := hX4.cells
          have HX4 : Hid (Bx w4 w.heap.size s r) := hX4
          have HY4 : Hid (Bx w4 (w.heap.size + 1) 0 0) := hY4
          have HB4 : Hid (Below w.heap.size w w4) := hB4
          have hs4 := hY4.lt
          clear hb4 hB2 hX4 hY4 hB4 HN HX HY HB x0 x2 hT
          go_wp2
          go_roundg (l.length - (k + 1))
          case measure => omega
          case rel =>
            refine ⟨k + 1, by omega, rfl, by go_num, ?_⟩
            show GI _ _ _ _ _ _ _
            unfold GI
            rw [HT1.out]
            exact ⟨(hown4.out.put (by omega) _ _).put (by omega) _ _, HX4.out.put _ _, (HY4.out.other (by omega) _ _).other (by omega) _ _, (HB4.out.setCell (Nat.le_refl _) _).setCell (Nat.le_refl _) _⟩
        · obtain ⟨f, hf⟩ : ∃ f, e = f + 1 := by
            cases e with
            | zero =>
              have e0 : tk s ((0 : Nat) : Int) = 0 := by unfold tk; simp
              exact absurd (show T ≤ q by omega) hle
            | succ f => exact ⟨f, rfl⟩
          have HE' : Hid (dn s q f = qd s q) := by
            show _ = _; rw [← HE.out, hf]; exact (dn_no s q f (by rw [← hf, hTt]; exact hle)).symm
          have Hf : Hid (e = f + 1) := hf
          have he1 : 1 ≤ e := by omega
          clear HE hTt HT1 hf
          go_wp2
          go_roundg f
          case measure => have := Hf.out; omega
          case rel => exact ⟨rfl, HN, f, by have := Hf.out; omega, rfl, Ln.val_int (by have := Hf.out; omega), HE'⟩
    · obtain rfl : k = l.length := by omega
      obtain ⟨hN, hX, hY, hB⟩ := HG.out
      rw [List.take_length] at hN hX
      obtain ⟨D, eD⟩ : ∃ D, (gr S R l).1 = D := ⟨_, rfl⟩
      obtain ⟨s, es⟩ : ∃ s, (gr S R l).2.1 = s := ⟨_, rfl⟩
      obtain ⟨r, er⟩ : ∃ r, (gr S R l).2.2 = r := ⟨_, rfl⟩
      rw [eD] at hN
      rw [es, er] at hX
      have ED : Hid ((gr S R l).1 = D) := eD
      have ES : Hid ((gr S R l).2.1 = s) := es
      have ER : Hid ((gr S R l).2.2 = r) := er
      clear eD es er
      have hnl : ¬ ((l.length : Int) < (l.length : Int)) := by omega
      obtain ⟨x0, x1, x2, x3⟩ := hX.cells
      obtain ⟨y0, y1, y2, y3⟩ := hY.cells
      have HN : Hid (HasN wr (w.heap.size + 2) _ D) := hN
      have HY : Hid (Bx wr (w.heap.size + 1) 0 0) := hY
      have HB : Hid (Below w.heap.size w wr) := hB
      have hs2 := hY.lt
      clear HG HT HV hX hY hN hB
      go_wp2
      go_region
      go_wp2
      have hZ : Bx ((wr.setCell ⟨w.heap.size + 1, 0, none⟩ (.int .i64 s)).setCell ⟨w.heap.size + 1, 1, none⟩ (.int .i64 r)).drew (w.heap.size + 1) s r := HY.out.put s r
      obtain ⟨q0, q1, -, -⟩ := hZ.cells
      rw [Exit.noGoto_ret]
      refine bodyPost_ret (results_tmp_pair rfl _ _ rfl q0 q1) rfl ?_
      have hN1 := HN.out.put (show w.heap.size + 1 < w.heap.size + 2 by omega) 0 (.int .i64 s)
      have hN2 := hN1.put (show w.heap.size + 1 < w.heap.size + 2 by omega) 1 (.int .i64 r)
      have hB1 := HB.out.setCell (p := ⟨w.heap.size + 1, 0, none⟩) (Nat.le_succ _) (.int .i64 s)
      have hB2 := hB1.setCell (p := ⟨w.heap.size + 1, 1, none⟩) (Nat.le_succ _) (.int .i64 r)
      refine ⟨_, by rw [ES.out, ER.out], ?_, hB2.drew⟩
      rw [ED.out]
      exact (hN2.1.mono (Nat.le_add_right _ 2)).below ((Below.refl _ _).drew) (Nat.le_refl _)
end Go.Proofs.Ytlbkhiphnllfpad
