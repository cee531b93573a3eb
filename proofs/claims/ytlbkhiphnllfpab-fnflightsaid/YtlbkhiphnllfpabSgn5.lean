/-
  The program's two registers, walked.
-/
import Derived.Test.YtlbkhiphnllfpabSgn2
import Derived.Laws.CopyOwn
import Derived.BigRegion
namespace Go.Proofs.Ytlbkhiphnllfpab
open Go.RowKit
set_option linter.unusedVariables false
theorem rem_up (d : Int) (h0 : 0 ≤ d) (h1 : d ≤ 9) : (d + 10).tmod 10 = d := by
  rw [Int.tmod_eq_emod_of_nonneg (by omega)]; omega
theorem rem_low (d : Int) (h0 : -9 ≤ d) (h1 : d < 0) : (d + 10).tmod 10 = 10 + d := by
  rw [Int.tmod_eq_emod_of_nonneg (by omega)]; omega
theorem rem9_up (d : Int) (h0 : 0 < d) (h1 : d ≤ 9) : (d + 9).tmod 10 = d - 1 := by
  rw [Int.tmod_eq_emod_of_nonneg (by omega)]; omega
theorem rem9_low (d : Int) (h0 : -9 ≤ d) (h1 : d ≤ 0) : (d + 9).tmod 10 = 9 + d := by
  rw [Int.tmod_eq_emod_of_nonneg (by omega)]; omega
/-- Two registers of n places each in blocks of the call's own. -/
def Regs (w W : World) (bq bm n : Nat) (A B : List Int) : Prop :=
  bq ≠ bm ∧ w.heap.size ≤ bq ∧ w.heap.size ≤ bm ∧ W.heap[bq]? = some (.cells ((pad A n).map (Value.int .i64)).toArray 2 (0, 0)) ∧ W.heap[bm]? = some (.cells ((pad B n).map (Value.int .i64)).toArray 2 (0, 0)) ∧ Below w.heap.size w W
theorem Regs.swap {w W : World} {bq bm n : Nat} {A B : List Int} (h : Regs w W bq bm n A B) : Regs w W bm bq n B A :=
  ⟨h.1.symm, h.2.2.1, h.2.1, h.2.2.2.2.1, h.2.2.2.1, h.2.2.2.2.2⟩
theorem Regs.cell {w W : World} {bq bm n : Nat} {A B : List Int} (h : Regs w W bq bm n A B) (hA : A.length ≤ n) (i : Nat) (hi : i < n) : W.cell? ⟨bq, i, none⟩ = some (.int .i64 ((pad A n).getD i 0)) := by
  have hl := pad_length A n hA
  simp [World.cell?, h.2.2.2.1, List.getD, show i < (pad A n).length by omega]
theorem Regs.frozen {w W : World} {bq bm n : Nat} {A B : List Int} (h : Regs w W bq bm n A B) (i : Nat) : W.frozen? ⟨bq, i, none⟩ = false := by
  simp [World.frozen?, h.2.2.2.1]
theorem Regs.set {w W : World} {bq bm n : Nat} {A B : List Int} (h : Regs w W bq bm n A B) (k : Nat) (hA : A.length = k) (hk : k < n) (x : Int) : Regs w (W.setCell ⟨bq, k, none⟩ (.int .i64 x)) bq bm n (A ++ [x]) B := by
  have e := setCell_eq_setRow W bq k _ 2 (0, 0) (.int .i64 x) h.2.2.2.1
  refine ⟨h.1, h.2.1, h.2.2.1, ?_, ?_, h.2.2.2.2.2.setCell h.2.1 _⟩
  · rw [e, setRow_heap W bq _ _ _ _ h.2.2.2.1, ← pad_set A n k x hA hk]
    simp
  · rw [e, setRow_other W bq bm _ (Ne.symm h.1)]; exact h.2.2.2.2.1
theorem Regs.turn {w W W' : World} {bq bm n : Nat} {A B : List Int} (h : Regs w W bq bm n A B) (hl : A.length = B.length) (hn : A.length ≤ n) (hb : W'.heap[bq]? = some (.cells (splice ((pad A n).map (Value.int .i64)) 0 (B.map (Value.int .i64))).toArray 2 (0, 0))) (hg : W.grownBy W' (some bq)) : Regs w W' bq bm n B B := by
  have hlt : bm < W.heap.size := (Array.getElem?_eq_some_iff.1 h.2.2.2.2.1).1
  refine ⟨h.1, h.2.1, h.2.2.1, ?_, ?_, Below.grown h.2.2.2.2.2 hg h.2.2.2.2.2.size (fun k hk => by cases hk; exact h.2.1)⟩
  · rw [hb]
    have : splice ((pad A n).map (Value.int .i64)) 0 (B.map (Value.int .i64)) = (pad B n).map (Value.int .i64) := by
      unfold splice pad
      rw [List.take_zero, List.nil_append, List.length_map, Nat.zero_add, ← List.map_drop, ← List.map_append, ← hl, List.drop_left]
    rw [this]
  · rw [hg.block bm hlt (fun e => h.1 (Option.some.inj e).symm)]; exact h.2.2.2.2.1
theorem Regs.drewN {w W : World} {bq bm n : Nat} {A B : List Int} (h : Regs w W bq bm n A B) (k : Nat) : Regs w (W.drewN k) bq bm n A B :=
  ⟨h.1, h.2.1, h.2.2.1, h.2.2.2.1, h.2.2.2.2.1, below_drewN h.2.2.2.2.2 _⟩
theorem Regs.has {w W : World} {bq bm n : Nat} {A B : List Int} (h : Regs w W bq bm n A B) (hA : A.length = n) (hn : n ≤ maxLen) : Has W w.heap.size (.slice (some ⟨bq, 0, none⟩) n n) A := by
  have e := pad_full A n hA
  refine ⟨by simp, .inr ⟨bq, n, _, by rw [hA], h.2.1, by rw [h.2.2.2.1], ?_⟩⟩
  rw [e]
  simp [hA, hn]
  exact List.take_of_length_le (by simp [hA])
theorem Regs.made (w : World) (n : Nat) (M : Array Value) (hM : M.toList = (List.replicate n (0 : Int)).map (Value.int .i64)) : Regs w ((w.alloc (.cells M 2)).alloc (.cells M 2)).drew w.heap.size (w.heap.size + 1) n [] [] := by
  have e : M = ((pad [] n).map (Value.int .i64)).toArray := by rw [pad_none, ← hM]
  rw [e]
  refine ⟨by omega, Nat.le_refl _, by omega, ?_, ?_, (((Below.refl _ _).alloc (Nat.le_refl _) _).alloc (by simp) _).drew⟩
  · show ((w.heap.push _).push _)[w.heap.size]? = _
    simp [Array.getElem?_push]
  · show ((w.heap.push _).push _)[w.heap.size + 1]? = _
    rw [Array.getElem?_push, if_pos (by simp)]
/-- One register copied over the other. -/
theorem run_copy_regs (w W : World) (bq bm n k : Nat) (A B : List Int) (ty : TypeId) (h : Regs w W bq bm n A B) (hA : A.length = k) (hB : B.length = k) (hk : k ≤ n) :
    ∃ W2, (Builtin.copy_ #[24, 24] ty #[.slice (some ⟨bm, 0, none⟩) k k, .slice (some ⟨bq, 0, none⟩) k k]).run Try.prog W = .ok (goInt k) W2 ∧ Regs w W2 bq bm n A A := by
  obtain ⟨i0, hi, hz0, hz1, hz2⟩ := info_parts info64
  have hsz1 : (Try.prog.info? 2).map (·.size) = some 1 := by rw [hi]; simp [hz1]
  have hrun := run_copy_row (P := Try.prog) W 24 24 ty 2 bm 0 k k ⟨bq, 0, none⟩ k k _ 2 (A.map (Value.int .i64)) Try.underlying24 hsz1 h.2.2.2.2.1 (by simp [hA]) (fun j v hv => by
    have hj : j < A.length := by
      have := (List.getElem?_eq_some_iff.1 hv).1
      simpa using this
    have hc := h.cell (by omega) j (by omega)
    rw [pad_at A n j hj] at hc
    rw [show (⟨bq, 0, none⟩ : Addr).add j = ⟨bq, j, none⟩ by unfold Addr.add; split <;> simp_all, hc]
    rw [← hv]
    simp [List.getD, List.getElem?_eq_getElem hj]) (by simp [pad_length B n (by omega), hA]; omega) (fun v hv => by
    obtain ⟨x, -, rfl⟩ := List.mem_map.1 hv
    rfl)
  have hl : (A.map (Value.int .i64)).length = k := by simp [hA]
  rw [hl] at hrun
  refine ⟨_, hrun, (h.swap.turn (by omega) (by omega) ?_ ?_).swap⟩
  · rw [setRow_heap W bm _ _ 2 (0, 0) h.2.2.2.2.1]
    simp [splice, hA]
  · exact ⟨rfl, rfl, rfl, by simp [World.setRow], fun j hj hne => setRow_other W bm j _ (fun e => hne (by rw [e]))⟩
theorem fly_any (v : Value) (ds : List Int) (base : Nat) (w : World) (h : Has w base v ds) (hl : ds.length ≤ 41) (hr : rng (-9) 9 ds = true) :
    Calls Try.prog 24 #[v] w fun e w' => ∃ q m, e = .returned (.tuple #[q, m]) ∧ Has w' w.heap.size q (reg ds ds.length).1 ∧ Has w' w.heap.size m (reg ds ds.length).2 ∧ (∀ k, q.ownBlock = some k → m.ownBlock ≠ some k) ∧ Below w.heap.size w w' := by
  obtain ⟨i0, hi, hz0, hz1, hz2⟩ := info_parts info64
  obtain ⟨a, ca, rfl, hm⟩ := h.len
  obtain ⟨M, hM, hmk⟩ : ∃ M : Array Value, M.toList = (List.replicate ds.length (0 : Int)).map (Value.int .i64) ∧ ∀ W : World, (Instr.makeSlice 24 (.int .i64 (ds.length : Int)) (.int .i64 (ds.length : Int))).run Try.prog W = .ok (.slice (some ⟨W.heap.size, 0, none⟩) ds.length ds.length) (W.alloc (.cells M 2)) := by
    refine ⟨madeCells (Value.int .i64 0).cells ds.length, ?_, fun W => ?_⟩
    · rw [show (Value.int .i64 0).cells = #[Value.int .i64 0] from rfl, toList_madeCells_one]; simp
    · have := run_make (P := Try.prog) W 24 2 i0 (.int .i64 0) Try.underlying24 hi hz0 .i64 .i64 ds.length ds.length (by omega) (Int.le_refl _) (by rw [hz2]; omega) (by omega)
      simpa [hz1] using this
  have HM : Hid (M.toList = (List.replicate ds.length (0 : Int)).map (Value.int .i64)) := hM
  have H : Hid (Has w base (.slice a ds.length ca) ds) := h
  clear hM h
  generalize hn : ds.length = n at *
  go_enter Try.func24, Try.ntmps24
  go_wp2
  have HR := (show Hid (Regs w ((w.alloc (.cells M 2)).alloc (.cells M 2)).drew w.heap.size (w.heap.size + 1) n [] []) from Regs.made w n M HM.out)
  have Hr : Hid (rng (-9) 9 ds = true) := hr
  have hsz1 : (Try.prog.info? 2).map (·.size) = some 1 := by rw [hi]; simp [hz1]
  clear hr
  have Hds : Hid (∀ i, i < n → ∃ g, a = some ⟨g, 0, none⟩ ∧ g < w.heap.size ∧ w.cell? ⟨g, i, none⟩ = some (.int .i64 (ds.getD i 0))) := fun i hi => by
    rcases H.out.form with ⟨-, e⟩ | ⟨g, cap, e, -, hg, -, hc, -⟩
    · rw [e] at hn; simp at hn; omega
    · refine ⟨g, by cases e; rfl, hg, hc i (by omega)⟩
  go_region
  · have HR0 : Hid (Regs w ((w.alloc (.cells M 2)).alloc (.cells M 2)).drew w.heap.size (w.heap.size + 1) n [] []) := HR
    generalize ((w.alloc (.cells M 2)).alloc (.cells M 2)).drew = W at *
    obtain ⟨bq, hbq⟩ : ∃ b, b = w.heap.size := ⟨_, rfl⟩
    obtain ⟨bm, hbm⟩ : ∃ b, b = w.heap.size + 1 := ⟨_, rfl⟩
    rw [← hbm, ← hbq] at HR0
    rw [← hbm, ← hbq]
    have H0 : Hid (Regs w W bq bm n (reg ds 0).1 (reg ds 0).2) := HR0
    clear hbm hbq HR0 HR
    go_wp2
    go_loopw [18] (fun i wr => ∃ k : Nat, k ≤ n ∧ i = .int .i64 k ∧ Hid (Regs w wr bq bm n (reg ds k).1 (reg ds k).2)) (fun i _ => n - (intOf i).toNat)
    case atStart => exact ⟨0, Nat.zero_le _, rfl, H0⟩
    case round =>
      obtain ⟨k, hk, rfl, hR⟩ := hrel
      by_cases hlt : k < n
      · have hlt' : (k : Int) < (n : Int) := by omega
        obtain ⟨g, rfl, hg, hc0⟩ := Hds.out k hlt
        have hc := (hR.out.2.2.2.2.2.cell (p := ⟨g, k, none⟩) hg).trans hc0
        have hle : (k : Int) ≤ (n : Int) := by omega
        clear hc0
        obtain ⟨d, hdd⟩ : ∃ d, d = ds.getD k 0 := ⟨_, rfl⟩
        rw [← hdd] at hc
        have Hd : Hid (d = ds.getD k 0) := hdd
        have hdb := rng_at _ _ ds Hr.out k (by omega)
        rw [← hdd] at hdb
        clear hdd
        go_wp2
        go_quiet (fail)
        have hR1 : Hid (Regs w (wr.drewN nq) bq bm n (reg ds k).1 (reg ds k).2) := hR.out.drewN _
        have hln := reg_length ds k
        have HlA : Hid ((reg ds k).1.length = k) := hln.1
        have HlB : Hid ((reg ds k).2.length = k) := hln.2
        have Hup : Hid (0 < d → reg ds (k + 1) = ((reg ds k).1 ++ [d], (reg ds k).1 ++ [d - 1])) := fun h => reg_up ds k d Hd.out h
        have Hze : Hid (d = 0 → reg ds (k + 1) = ((reg ds k).1 ++ [0], (reg ds k).2 ++ [9])) := fun h => reg_same ds k (by rw [← Hd.out, h])
        have Hdn : Hid (d < 0 → reg ds (k + 1) = ((reg ds k).2 ++ [10 + d], (reg ds k).2 ++ [9 + d])) := fun h => reg_down ds k d Hd.out h
        clear hln hR hc
        generalize wr.drewN nq = W1 at *
        have Hfin : Hid (∀ X : List Int × List Int, reg ds (k + 1) = X → ∀ W2, Regs w W2 bq bm n X.1 X.2 → ∃ q : Nat, q ≤ n ∧ Value.int .i64 ((k : Int) + 1) = .int .i64 q ∧ Hid (Regs w W2 bq bm n (reg ds q).1 (reg ds q).2)) := fun X hX W2 h => ⟨k + 1, by omega, by go_num, by show Regs _ _ _ _ _ _ _; rw [hX]; exact h⟩
        generalize reg ds (k + 1) = R at *
        generalize (reg ds k).1 = A at *
        generalize (reg ds k).2 = B at *
        by_cases hp : 0 < d
        · have hN : ¬ d < 0 := by omega
          obtain ⟨W2, hrun, hR2⟩ := run_copy_regs w W1 bq bm n k A B 3 hR1.out HlA.out HlB.out hk
          have HR2 : Hid (Regs w W2 bq bm n A A) := hR2
          have f1 := hR2.frozen k
          have f2 := hR2.swap.frozen k
          have c1 := hR2.cell (by rw [HlA.out]; exact hk) k hlt
          have c2 := hR2.swap.cell (by rw [HlA.out]; exact hk) k hlt
          have ne1 : ¬ bq = bm := hR2.1
          have ne2 : ¬ bm = bq := fun e => hR2.1 e.symm
          clear hR2
          have Hset : Hid (∀ x y x' y', x = x' → y = y' → Regs w ((W2.setCell ⟨bq, k, none⟩ (.int .i64 x)).setCell ⟨bm, k, none⟩ (.int .i64 y)) bq bm n (A ++ [x']) (A ++ [y'])) := fun x y x' y' hx hy => by
            subst hx; subst hy
            exact ((HR2.out.set k HlA.out hlt x).swap.set k HlA.out hlt y).swap
          generalize (pad A n).getD k 0 = o at *
          go_wp2
          go_roundw
          case rel => exact Hfin.out (A ++ [d], A ++ [d - 1]) (Hup.out hp) _ (Hset.out _ _ _ _ (by omega) (by omega))
          case measure => simp [intOf]; omega
        · by_cases hz : d < 0
          · obtain ⟨W2, hrun, hR2'⟩ := run_copy_regs w W1 bm bq n k B A 3 hR1.out.swap HlB.out HlA.out hk
            have hR2 := hR2'.swap
            clear hR2'
            have HR2 : Hid (Regs w W2 bq bm n B B) := hR2
            have f1 := hR2.frozen k
            have f2 := hR2.swap.frozen k
            have c1 := hR2.cell (by rw [HlB.out]; exact hk) k hlt
            have c2 := hR2.swap.cell (by rw [HlB.out]; exact hk) k hlt
            have ne1 : ¬ bq = bm := hR2.1
            have ne2 : ¬ bm = bq := fun e => hR2.1 e.symm
            clear hR2
            have Hset : Hid (∀ x y x' y', x = x' → y = y' → Regs w ((W2.setCell ⟨bq, k, none⟩ (.int .i64 x)).setCell ⟨bm, k, none⟩ (.int .i64 y)) bq bm n (B ++ [x']) (B ++ [y'])) := fun x y x' y' hx hy => by
              subst hx; subst hy
              exact ((HR2.out.set k HlB.out hlt x).swap.set k HlB.out hlt y).swap
            generalize (pad B n).getD k 0 = o at *
            go_wp2
            go_roundw
            case rel => exact Hfin.out (B ++ [10 + d], B ++ [9 + d]) (Hdn.out hz) _ (Hset.out _ _ _ _ (by omega) (by omega))
            case measure => simp [intOf]; omega
          · have e0 : d = 0 := by omega
            subst e0
            have hR2 := hR1.out
            obtain ⟨W2, hW2⟩ : ∃ W2, W2 = W1 := ⟨_, rfl⟩
            obtain rfl := hW2
            have HR2 : Hid (Regs w W2 bq bm n A B) := hR2
            have f1 := hR2.frozen k
            have f2 := hR2.swap.frozen k
            have c1 := hR2.cell (by rw [HlA.out]; exact hk) k hlt
            have c2 := hR2.swap.cell (by rw [HlB.out]; exact hk) k hlt
            have ne1 : ¬ bq = bm := hR2.1
            have ne2 : ¬ bm = bq := fun e => hR2.1 e.symm
            clear hR2
            have Hset : Hid (∀ x y x' y', x = x' → y = y' → Regs w ((W2.setCell ⟨bq, k, none⟩ (.int .i64 x)).setCell ⟨bm, k, none⟩ (.int .i64 y)) bq bm n (A ++ [x']) (B ++ [y'])) := fun x y x' y' hx hy => by
              subst hx; subst hy
              exact ((HR2.out.set k HlA.out hlt x).swap.set k HlB.out hlt y).swap
            generalize (pad A n).getD k 0 = o at *
            generalize (pad B n).getD k 0 = o' at *
            go_wp2
            go_roundw
            case rel => exact Hfin.out (A ++ [0], B ++ [9]) (Hze.out rfl) _ (Hset.out _ _ _ _ (by omega) (by omega))
            case measure => simp [intOf]; omega
      · obtain rfl : k = n := by omega
        have hln := reg_length ds k
        have Hq : Hid (Has wr w.heap.size (.slice (some ⟨bq, 0, none⟩) k k) (reg ds k).1) := hR.out.has hln.1 (by unfold maxLen; omega)
        have Hm : Hid (Has wr w.heap.size (.slice (some ⟨bm, 0, none⟩) k k) (reg ds k).2) := hR.out.swap.has hln.2 (by unfold maxLen; omega)
        have hb := hR.out.2.2.2.2.2
        have Hne : Hid (bq ≠ bm) := hR.out.1
        clear hR hln
        go_wp2
        go_ret2
        exact ⟨_, _, rfl, Hq.out, Hm.out, fun k e1 e2 => by cases e1; cases e2; exact Hne.out rfl, hb⟩
  · have HR0 : Hid (Regs w ((w.alloc (.cells M 2)).alloc (.cells M 2)).drew w.heap.size (w.heap.size + 1) n [] []) := HR
    generalize ((w.alloc (.cells M 2)).alloc (.cells M 2)).drew = W at *
    obtain ⟨bm, hbm⟩ : ∃ b, b = w.heap.size := ⟨_, rfl⟩
    obtain ⟨bq, hbq⟩ : ∃ b, b = w.heap.size + 1 := ⟨_, rfl⟩
    rw [← hbq, ← hbm] at HR0
    rw [← hbq, ← hbm]
    have H0 : Hid (Regs w W bq bm n (reg ds 0).1 (reg ds 0).2) := HR0.out.swap
    clear hbm hbq HR0 HR
    go_wp2
    go_loopw [18] (fun i wr => ∃ k : Nat, k ≤ n ∧ i = .int .i64 k ∧ Hid (Regs w wr bq bm n (reg ds k).1 (reg ds k).2)) (fun i _ => n - (intOf i).toNat)
    case atStart => exact ⟨0, Nat.zero_le _, rfl, H0⟩
    case round =>
      obtain ⟨k, hk, rfl, hR⟩ := hrel
      by_cases hlt : k < n
      · have hlt' : (k : Int) < (n : Int) := by omega
        obtain ⟨g, rfl, hg, hc0⟩ := Hds.out k hlt
        have hc := (hR.out.2.2.2.2.2.cell (p := ⟨g, k, none⟩) hg).trans hc0
        have hle : (k : Int) ≤ (n : Int) := by omega
        clear hc0
        obtain ⟨d, hdd⟩ : ∃ d, d = ds.getD k 0 := ⟨_, rfl⟩
        rw [← hdd] at hc
        have Hd : Hid (d = ds.getD k 0) := hdd
        have hdb := rng_at _ _ ds Hr.out k (by omega)
        rw [← hdd] at hdb
        clear hdd
        go_wp2
        go_quiet (fail)
        have hR1 : Hid (Regs w (wr.drewN nq) bq bm n (reg ds k).1 (reg ds k).2) := hR.out.drewN _
        have hln := reg_length ds k
        have HlA : Hid ((reg ds k).1.length = k) := hln.1
        have HlB : Hid ((reg ds k).2.length = k) := hln.2
        have Hup : Hid (0 < d → reg ds (k + 1) = ((reg ds k).1 ++ [d], (reg ds k).1 ++ [d - 1])) := fun h => reg_up ds k d Hd.out h
        have Hze : Hid (d = 0 → reg ds (k + 1) = ((reg ds k).1 ++ [0], (reg ds k).2 ++ [9])) := fun h => reg_same ds k (by rw [← Hd.out, h])
        have Hdn : Hid (d < 0 → reg ds (k + 1) = ((reg ds k).2 ++ [10 + d], (reg ds k).2 ++ [9 + d])) := fun h => reg_down ds k d Hd.out h
        clear hln hR hc
        generalize wr.drewN nq = W1 at *
        have Hfin : Hid (∀ X : List Int × List Int, reg ds (k + 1) = X → ∀ W2, Regs w W2 bq bm n X.1 X.2 → ∃ q : Nat, q ≤ n ∧ Value.int .i64 ((k : Int) + 1) = .int .i64 q ∧ Hid (Regs w W2 bq bm n (reg ds q).1 (reg ds q).2)) := fun X hX W2 h => ⟨k + 1, by omega, by go_num, by show Regs _ _ _ _ _ _ _; rw [hX]; exact h⟩
        generalize reg ds (k + 1) = R at *
        generalize (reg ds k).1 = A at *
        generalize (reg ds k).2 = B at *
        by_cases hp : 0 < d
        · have hN : ¬ d < 0 := by omega
          obtain ⟨W2, hrun, hR2⟩ := run_copy_regs w W1 bq bm n k A B 3 hR1.out HlA.out HlB.out hk
          have HR2 : Hid (Regs w W2 bq bm n A A) := hR2
          have f1 := hR2.frozen k
          have f2 := hR2.swap.frozen k
          have c1 := hR2.cell (by rw [HlA.out]; exact hk) k hlt
          have c2 := hR2.swap.cell (by rw [HlA.out]; exact hk) k hlt
          have ne1 : ¬ bq = bm := hR2.1
          have ne2 : ¬ bm = bq := fun e => hR2.1 e.symm
          clear hR2
          have Hset : Hid (∀ x y x' y', x = x' → y = y' → Regs w ((W2.setCell ⟨bq, k, none⟩ (.int .i64 x)).setCell ⟨bm, k, none⟩ (.int .i64 y)) bq bm n (A ++ [x']) (A ++ [y'])) := fun x y x' y' hx hy => by
            subst hx; subst hy
            exact ((HR2.out.set k HlA.out hlt x).swap.set k HlA.out hlt y).swap
          generalize (pad A n).getD k 0 = o at *
          go_wp2
          go_roundw
          case rel => exact Hfin.out (A ++ [d], A ++ [d - 1]) (Hup.out hp) _ (Hset.out _ _ _ _ (by omega) (by omega))
          case measure => simp [intOf]; omega
        · by_cases hz : d < 0
          · obtain ⟨W2, hrun, hR2'⟩ := run_copy_regs w W1 bm bq n k B A 3 hR1.out.swap HlB.out HlA.out hk
            have hR2 := hR2'.swap
            clear hR2'
            have HR2 : Hid (Regs w W2 bq bm n B B) := hR2
            have f1 := hR2.frozen k
            have f2 := hR2.swap.frozen k
            have c1 := hR2.cell (by rw [HlB.out]; exact hk) k hlt
            have c2 := hR2.swap.cell (by rw [HlB.out]; exact hk) k hlt
            have ne1 : ¬ bq = bm := hR2.1
            have ne2 : ¬ bm = bq := fun e => hR2.1 e.symm
            clear hR2
            have Hset : Hid (∀ x y x' y', x = x' → y = y' → Regs w ((W2.setCell ⟨bq, k, none⟩ (.int .i64 x)).setCell ⟨bm, k, none⟩ (.int .i64 y)) bq bm n (B ++ [x']) (B ++ [y'])) := fun x y x' y' hx hy => by
              subst hx; subst hy
              exact ((HR2.out.set k HlB.out hlt x).swap.set k HlB.out hlt y).swap
            generalize (pad B n).getD k 0 = o at *
            go_wp2
            go_roundw
            case rel => exact Hfin.out (B ++ [10 + d], B ++ [9 + d]) (Hdn.out hz) _ (Hset.out _ _ _ _ (by omega) (by omega))
            case measure => simp [intOf]; omega
          · have e0 : d = 0 := by omega
            subst e0
            have hR2 := hR1.out
            obtain ⟨W2, hW2⟩ : ∃ W2, W2 = W1 := ⟨_, rfl⟩
            obtain rfl := hW2
            have HR2 : Hid (Regs w W2 bq bm n A B) := hR2
            have f1 := hR2.frozen k
            have f2 := hR2.swap.frozen k
            have c1 := hR2.cell (by rw [HlA.out]; exact hk) k hlt
            have c2 := hR2.swap.cell (by rw [HlB.out]; exact hk) k hlt
            have ne1 : ¬ bq = bm := hR2.1
            have ne2 : ¬ bm = bq := fun e => hR2.1 e.symm
            clear hR2
            have Hset : Hid (∀ x y x' y', x = x' → y = y' → Regs w ((W2.setCell ⟨bq, k, none⟩ (.int .i64 x)).setCell ⟨bm, k, none⟩ (.int .i64 y)) bq bm n (A ++ [x']) (B ++ [y'])) := fun x y x' y' hx hy => by
              subst hx; subst hy
              exact ((HR2.out.set k HlA.out hlt x).swap.set k HlB.out hlt y).swap
            generalize (pad A n).getD k 0 = o at *
            generalize (pad B n).getD k 0 = o' at *
            go_wp2
            go_roundw
            case rel => exact Hfin.out (A ++ [0], B ++ [9]) (Hze.out rfl) _ (Hset.out _ _ _ _ (by omega) (by omega))
            case measure => simp [intOf]; omega
      · obtain rfl : k = n := by omega
        have hln := reg_length ds k
        have Hq : Hid (Has wr w.heap.size (.slice (some ⟨bq, 0, none⟩) k k) (reg ds k).1) := hR.out.has hln.1 (by unfold maxLen; omega)
        have Hm : Hid (Has wr w.heap.size (.slice (some ⟨bm, 0, none⟩) k k) (reg ds k).2) := hR.out.swap.has hln.2 (by unfold maxLen; omega)
        have hb := hR.out.2.2.2.2.2
        have Hne : Hid (bq ≠ bm) := hR.out.1
        clear hR hln
        go_wp2
        go_ret2
        exact ⟨_, _, rfl, Hq.out, Hm.out, fun k e1 e2 => by cases e1; cases e2; exact Hne.out rfl, hb⟩
end Go.Proofs.Ytlbkhiphnllfpab
