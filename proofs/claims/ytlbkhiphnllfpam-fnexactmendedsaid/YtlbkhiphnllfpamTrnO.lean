/-
  Turns that came in, opened; the laws' copy of such into turns of the call's own, walked.
-/
import Derived.Deep.SlicePairs
import Derived.Laws.Rows
import Derived.OpenShut
import Derived.ProofKit
import Derived.Test.YtlbkhiphnllfpamTrnE
import Derived.Test.YtlbkhiphnllfpamCopy
namespace Go.Proofs.Ytlbkhiphnllfpam
open Go.ChangeShapes Go.WideShapes Go.ChangeAt Go.RowKit
set_option linter.unusedVariables false
/-- The slice that came in holds the turns l. -/
def IsTurns (w : World) (a : Option Addr) (len : Nat) (l : List (Int × Int)) : Prop :=
  l.length = len ∧ len ≤ maxLen ∧ (len = 0 ∨ ∃ b off, a = some ⟨b, off, none⟩ ∧ b < w.heap.size ∧ ∀ i p, l[i]? = some p → w.cell? ⟨b, off + i * 2, none⟩ = some (.int .i64 p.1) ∧ w.cell? ⟨b, off + i * 2 + 1, none⟩ = some (.int .i64 p.2))
theorem IsTurns.below {w w' : World} {a : Option Addr} {len : Nat} {l : List (Int × Int)} (h : IsTurns w a len l) (hb : Below w.heap.size w w') : IsTurns w' a len l := by
  obtain ⟨h1, h2, h3⟩ := h
  refine ⟨h1, h2, ?_⟩
  rcases h3 with h | ⟨b, off, e, hl, hc⟩
  · exact .inl h
  · exact .inr ⟨b, off, e, Nat.lt_of_lt_of_le hl hb.size, fun i p hi => ⟨(hb.cell (p := ⟨b, off + i * 2, none⟩) hl).trans (hc i p hi).1, (hb.cell (p := ⟨b, off + i * 2 + 1, none⟩) hl).trans (hc i p hi).2⟩⟩
theorem toTurn_any (x y : Int) (w : World) :
    Calls Try.prog 46 #[.agg #[.int .i64 x, .int .i64 y]] w fun e w' => e = .returned (.agg #[.int .i64 x, .int .i64 y]) ∧ Below w.heap.size w w' := by
  go_enter Try.func46, Try.ntmps46
  go_wp2
  refine bodyPost_ret (results_cell_row (P := Try.prog) (fn := Try.f46) (p := 2) (ty := 50) rfl _ _ (w.heap.size + 1) 50 #[.int .i64 x, .int .i64 y] (0, 0) _ rfl ?_ Try.underlying50 rfl (by kernel_rfl)) rfl ?_
  · rw [heap_alloc_old _ _ (by simp)]
    have h := heap_alloc2_new w (.cells #[.int .i64 x, .int .i64 y] 61) (.cells #[.int .i64 x, .int .i64 y] 50)
    exact h
  · exact ⟨rfl, (((Below.refl _ _).alloc (Nat.le_refl _) _).alloc (by simp) _).alloc (by simp; omega) _⟩
theorem szTurnS_any (a : Option Addr) (len cap : Nat) (n : Int) (w : World) (hl : len ≤ maxLen) (hn : 0 ≤ n ∧ n ≤ 2000000) :
    Calls Try.prog 21 #[.slice a len cap, .int .i64 n] w fun e w' => e = .returned (.int .i64 (if n - (len : Int) < 0 then -1 else n - (len : Int))) ∧ w' = w := by
  unfold maxLen at hl
  by_cases h : n - (len : Int) < 0
  · rw [if_pos h]
    go_enter Try.func21, Try.ntmps21
    go_wp2
    go_ret
    exact ⟨rfl, rfl⟩
  · rw [if_neg h]
    go_enter Try.func21, Try.ntmps21
    go_wp2
    go_ret
    exact ⟨rfl, rfl⟩
theorem made_two (n : Nat) : (madeCells #[.int .i64 0, .int .i64 0] n).toList = (List.replicate n (0 : Int)).map (Value.int .i64) := by
  unfold madeCells
  rw [List.map_replicate]
  apply List.ext_getElem
  · simp
  · intro i h1 h2
    simp
    rcases (show i % 2 = 0 ∨ i % 2 = 1 by omega) with h | h <;> rw [h] <;> rfl
theorem cp_step2 (ds : List Int) (j : Nat) : cp ds ((j + 1) * 2) = ((cp ds (j * 2)).set (j * 2) (ds.getD (j * 2) 0)).set (j * 2 + 1) (ds.getD (j * 2 + 1) 0) := by
  rw [show (j + 1) * 2 = j * 2 + 1 + 1 by omega]; rfl
theorem flt_at (l : List (Int × Int)) (i : Nat) (p : Int × Int) (h : l[i]? = some p) : (flt l).getD (i * 2) 0 = p.1 ∧ (flt l).getD (i * 2 + 1) 0 = p.2 := by
  induction l generalizing i with
  | nil => simp at h
  | cons q r ih =>
    cases i with
    | zero => simp at h; subst h; simp [flt]
    | succ i =>
      have h' := ih i (by simpa using h)
      have e : (i + 1) * 2 = i * 2 + 2 := by omega
      rw [e]
      simp only [flt, List.getD, List.getElem?_cons_succ] at h' ⊢
      exact h'
set_option maxHeartbeats 2000000 in
theorem toTurnS_any (a : Option Addr) (len cap : Nat) (l : List (Int × Int)) (w : World) (h : IsTurns w a len l) (hl : len ≤ 1048576) :
    Calls Try.prog 23 #[.slice a len cap] w fun e w' => ∃ v, e = .returned v ∧ HasT w' w.heap.size v l ∧ Below w.heap.size w w' := by
  obtain ⟨i0, hi, hz0, hz1, hz2⟩ := info_parts infoTurn
  obtain ⟨hll, _, hrow⟩ := h
  obtain ⟨w1, hrun, hown, hgrow⟩ := run_make_full (P := Try.prog) w w.heap.size 24 50 i0 (.agg #[.int .i64 0, .int .i64 0]) 2 Try.underlying24 hi hz0 hz1 .i64 .i64 len (by rw [hz2]; omega) (by unfold maxLen; omega) (Nat.le_refl _)
  have hb1 : Below w.heap.size w w1 := Below.grown (Below.refl _ _) hgrow (Nat.le_refl _) (fun k hk => by cases hk)
  have Ho : Hid (HasF w1 w.heap.size (.slice (some ⟨w.heap.size, 0, none⟩) len len) len (cp (flt l) (0 * 2))) := by
    have := hown
    rw [show (Value.agg #[.int .i64 0, .int .i64 0]).cells = #[.int .i64 0, .int .i64 0] from rfl, made_two] at this
    have e : cp (flt l) (0 * 2) = List.replicate (len * 2) 0 := by show List.replicate (flt l).length 0 = _; rw [flt_len, hll]
    rw [e]
    exact this
  have hrun' : (Instr.makeSlice 24 (.int .i64 (len : Int)) (.int .i64 (len : Int))).run Try.prog w = .ok (.slice (some ⟨w.heap.size, 0, none⟩) len len) w1 := hrun
  have HR : Hid (len = 0 ∨ ∃ b off, a = some ⟨b, off, none⟩ ∧ b < w.heap.size ∧ ∀ i p, l[i]? = some p → w.cell? ⟨b, off + i * 2, none⟩ = some (.int .i64 p.1) ∧ w.cell? ⟨b, off + i * 2 + 1, none⟩ = some (.int .i64 p.2)) := hrow
  have HE : Hid (∀ W v, HasF W w.heap.size v len (cp (flt l) (len * 2)) → HasT W w.heap.size v l) := fun W v h => by
    have e : cp (flt l) (len * 2) = flt l := by rw [← hll, ← flt_len]; exact cp_all _
    rw [e] at h
    unfold HasT
    rw [hll, flt_tq]
    exact h
  have hfl : (flt l).length = len * 2 := by rw [flt_len, hll]
  have HL : Hid (l.length = len) := hll
  clear hown hgrow hrun hrow hll
  go_enter Try.func23, Try.ntmps23
  go_wp2
  go_loopw [4] (fun i wr => ∃ j : Nat, j ≤ len ∧ i = .int .i64 j ∧ Hid (HasF wr w.heap.size (.slice (some ⟨w.heap.size, 0, none⟩) len len) len (cp (flt l) (j * 2))) ∧ Below w.heap.size w wr) (fun i _ => len - (intOf i).toNat)
  case atStart => exact ⟨0, Nat.zero_le _, rfl, Ho, hb1⟩
  case round =>
    clear Ho hb1
    obtain ⟨j, hj, rfl, hown, hbel⟩ := hrel
    have hsz := hbel.size
    by_cases hlt : j < len
    · rcases HR.out with h0 | ⟨b, off, rfl, hbl, hc⟩
      · omega
      · have hjl : j < l.length := by have := HL.out; omega
        have hget : l[j]? = some l[j] := List.getElem?_eq_getElem hjl
        obtain ⟨c1, c2⟩ := hc j _ hget
        have c1' := (hbel.cell (p := ⟨b, off + j * 2, none⟩) hbl).trans c1
        have c2' := (hbel.cell (p := ⟨b, off + j * 2 + 1, none⟩) hbl).trans c2
        obtain ⟨f1, f2⟩ := flt_at l j _ hget
        have HS : Hid (cp (flt l) ((j + 1) * 2) = ((cp (flt l) (j * 2)).set (j * 2) l[j].1).set (j * 2 + 1) l[j].2) := by
          show _ = _; rw [cp_step2, f1, f2]
        have hcl := cp_length (flt l) (j * 2)
        have hin : (j : Int) < (len : Int) := by omega
        clear hc c1 c2 f1 f2 hget
        generalize l[j].1 = x at *
        generalize l[j].2 = y at *
        generalize cp (flt l) (j * 2) = P0 at *
        have HTt : Hid (∀ W, Calls Try.prog 46 #[.agg #[.int .i64 x, .int .i64 y]] W fun e w' => e = .returned (.agg #[.int .i64 x, .int .i64 y]) ∧ Below W.heap.size W w') := fun W => toTurn_any x y W
        go_wp2_with fail
        refine (HTt.out _).mono ?_
        rintro e w2 ⟨rfl, hb2⟩
        have hbel2 : Below w.heap.size w w2 := bel1 hbel hb2
        have hh' : w2.ownsRow w.heap.size 50 2 (.slice (some ⟨w.heap.size, 0, none⟩) len len) len (P0.map (Value.int .i64)) := hown.out.below hb2 (Nat.le_refl _)
        have hf := World.ownsRow.frozenAt hh' (j * 2)
        have hc0 : w2.cell? ⟨w.heap.size, j * 2, none⟩ = some (.int .i64 (P0.getD (j * 2) 0)) := by
          rw [World.ownsRow.cellAt hh' (j * 2) (by omega)]
          simp [List.getD, List.getElem?_eq_getElem (show j * 2 < P0.length by omega)]
        have Hst : Hid (_ ∧ _) := World.ownsRow.stored hh' (j * 2) (.int .i64 x)
        have h1 := Hst.out.1
        have hf1 := World.ownsRow.frozenAt h1 (j * 2 + 1)
        have hc1 : (w2.setCell ⟨w.heap.size, j * 2, none⟩ (.int .i64 x)).cell? ⟨w.heap.size, j * 2 + 1, none⟩ = some (.int .i64 (P0.getD (j * 2 + 1) 0)) := by
          rw [World.ownsRow.cellAt h1 (j * 2 + 1) (by omega), List.getElem?_set_ne (by omega)]
          simp [List.getD, List.getElem?_eq_getElem (show j * 2 + 1 < P0.length by omega)]
        have Hst2 : Hid (_ ∧ _) := World.ownsRow.stored h1 (j * 2 + 1) (.int .i64 y)
        clear hh' h1 hb2 hown
        go_wp2
        go_roundw
        case rel =>
          refine ⟨j + 1, by omega, by go_num, ?_, (hbel2.setCell (Nat.le_refl _) _).setCell (Nat.le_refl _) _⟩
          have := Hst2.out.1
          rw [HS.out]
          show World.ownsRow _ _ _ _ _ _ _
          rw [List.map_set, List.map_set]
          exact this
        case measure => simp [intOf]; omega
    · have hj2 : j = len := by omega
      subst hj2
      go_wp2
      go_ret
      exact ⟨_, rfl, HE.out _ _ hown.out, hbel⟩
set_option maxRecDepth 100000 in
theorem open_turns {H : Type} {enc : TypeId × Value → H} {W : World} {base b0 : Nat} {r : Reach} {sp : Nat → Bool} {held : Bool} {v : Value} {d : DataW H} {ps : List MemPlace} (hval : Value.okWide Try.prog W r b0 35 v) (hd : DataW.Trod enc Try.prog W base sp held 35 v d ps) :
    ∃ a len cap l, v = .slice a len cap ∧ IsTurns W a len l := by
  obtain ⟨a0, len0, cap0, rfl⟩ := okWide_slice Try.underlying35 hval
  have ci : Try.prog.cellsOf 2 = 1 := by kernel_rfl
  have c2 : Try.prog.cellsOf 61 = 2 := by kernel_rfl
  obtain ⟨fuel, hf⟩ := hd
  refine ⟨a0, len0, cap0, ?_⟩
  rcases Go.Deep.open_slice_pairs Try.underlying35 Try.underlying61 c2 rfl rfl ci ci hf with ⟨hcs, -⟩ | ⟨a, len, cap, m, n, V0, V1, D0, D1, P0, P1, hcs, -, hl, hm, hmm, -, hall⟩
  · simp [Value.cells] at hcs
    obtain ⟨rfl, rfl, rfl⟩ := hcs
    exact ⟨[], rfl, rfl, Nat.zero_le _, .inl rfl⟩
  · simp [Value.cells] at hcs
    obtain ⟨rfl, rfl, rfl⟩ := hcs
    have hlm : len0 ≤ m := by rw [hmm]; split <;> omega
    have hval2 : ∀ i, i < len0 → ∃ p : Int × Int, W.cell? (a.add (i * 2)) = some (.int .i64 p.1) ∧ W.cell? (a.add (i * 2 + 1)) = some (.int .i64 p.2) := fun i hi => by
      obtain ⟨h1, h2, h3, h4⟩ := hall i (by omega)
      obtain ⟨x, hx, -, -⟩ := DataW.trod_int Try.underlying2 h3
      obtain ⟨y, hy, -, -⟩ := DataW.trod_int Try.underlying2 h4
      simp at hx hy
      exact ⟨(x, y), by rw [h1, hx], by rw [h2, hy]⟩
    have hch : ∃ f : Nat → Int × Int, ∀ i, i < len0 → W.cell? (a.add (i * 2)) = some (.int .i64 (f i).1) ∧ W.cell? (a.add (i * 2 + 1)) = some (.int .i64 (f i).2) :=
      ⟨fun i => if h : i < len0 then Classical.choose (hval2 i h) else (0, 0), fun i hi => by
        show W.cell? (a.add (i * 2)) = some (.int .i64 (if h : i < len0 then Classical.choose (hval2 i h) else (0, 0)).1) ∧ W.cell? (a.add (i * 2 + 1)) = some (.int .i64 (if h : i < len0 then Classical.choose (hval2 i h) else (0, 0)).2)
        rw [dif_pos hi]
        exact Classical.choose_spec (hval2 i hi)⟩
    obtain ⟨f, hf'⟩ := hch
    refine ⟨(List.range len0).map f, rfl, by simp, by omega, ?_⟩
    rcases Nat.eq_zero_or_pos len0 with h0 | hp
    · exact .inl h0
    · obtain ⟨b, off, spot⟩ := a
      have hspot : spot = none := by simpa [Addr.add] using World.cell?_spot (hf' 0 hp).1
      subst hspot
      have hlt : b < W.heap.size := by
        have := World.block_lt_of_cell? W _ (hf' 0 hp).1
        simpa [Addr.add] using this
      refine .inr ⟨b, off, rfl, hlt, fun i q hi => ?_⟩
      have hi' : i < len0 := by
        have := (List.getElem?_eq_some_iff.1 hi).1
        simpa using this
      rw [List.getElem?_map, List.getElem?_range hi'] at hi
      simp only [Option.map_some, Option.some.injEq] at hi
      subst hi
      have h1 := hf' i hi'
      rw [Go.WideShapes.add_plain, Go.WideShapes.add_plain] at h1
      exact h1
end Go.Proofs.Ytlbkhiphnllfpam
