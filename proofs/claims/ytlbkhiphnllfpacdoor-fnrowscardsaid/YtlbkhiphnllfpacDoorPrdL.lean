/-
  What Rows of the program answers, walked.
-/
import Derived.Maps.AppendAt
import Derived.Test.YtlbkhiphnllfpacDoorPrdK
import Derived.Test.YtlbkhiphnllfpacDoorPrdU
namespace Go.Proofs.YtlbkhiphnllfpacDoor
open Go.RowKit Go.Shelf
set_option linter.unusedVariables false
attribute [local go_sem] Oper.semAt_some
theorem irows_no (a b : Int) (w : World) (hT : Tab w) (a0 : 0 ≤ a) (a1 : a ≤ 18446744073709551615) (b0 : 0 ≤ b) (b1 : b ≤ 18446744073709551615) (k : Ln.okB 0 a = false ∨ Ln.okB 0 b = false) :
    Calls Tryd.prog 7 #[.int .u64 a, .int .u64 b] w fun e w' => ∃ v, e = .returned (.tuple #[v, .bool false]) ∧ HasU w' w.heap.size v [] ∧ Below w.heap.size w w' := by
  have Ho : Hid ((Ln.okB 0 a && Ln.okB 0 b) = false) := by rw [Hid]; rcases k with h | h <;> simp [h]
  have HT : Hid (Tab w) := hT
  have HO : Hid (HasU (w.alloc (.cells #[] 24)) w.heap.size (.slice (some ⟨w.heap.size, 0, none⟩) 0 0) []) := World.ownsRow_made w #[] 0 (Nat.le_refl _) (Nat.zero_le _) rfl
  have hB0 : Below w.heap.size w (w.alloc (.cells #[] 24)) := (Below.refl _ _).alloc (Nat.le_refl _) _
  clear k hT
  go_enter Tryd.func7, Tryd.ntmps7
  go_wp2_with fail
  refine (bothPlain_any a b _ HT.out a0 a1 b0 b1).mono ?_
  rintro e w1 ⟨rfl, hw⟩
  obtain rfl := hw.symm
  rw [Ho.out]
  go_wp2
  go_ret2
  exact ⟨_, rfl, HO.out, hB0⟩
theorem row_new (w : World) (e t : TypeId) (cs : Array Value) (v v3 v4 : Value) (hcs : cs.size = 16) (hv : v = .slice (some ⟨w.heap.size, 0, none⟩) 0 16) : ∃ W, ((((w.alloc (.cells cs e)).alloc (.cells #[v] t)).alloc (.cells #[v3] e)).alloc (.cells #[v4] e)) = W ∧ Boxed W (w.heap.size + 1) t v ∧ W.ownsRow w.heap.size e 1 v 0 [] ∧ Boxed W (w.heap.size + 1 + 1) e v3 ∧ Boxed W (w.heap.size + 1 + 1 + 1) e v4 ∧
    Below w.heap.size w W ∧ W.heap.size = w.heap.size + 4 := by
  refine ⟨_, rfl, ?_, ?_, ?_, ?_, ((((Below.refl _ w).alloc (Nat.le_refl _) _).alloc (by simp) _).alloc (by simp; omega) _).alloc (by simp; omega) _, by simp⟩
  · have := Boxed.new (w.alloc (.cells cs e)) t v
    rw [World.size_alloc] at this
    exact (this.alloc _).alloc _
  · rw [hv]
    exact (((World.ownsRow_made w cs 16 (Nat.le_refl _) (by unfold maxLen; omega) (by omega)).alloc _).alloc _).alloc _
  · have := Boxed.new ((w.alloc (.cells cs e)).alloc (.cells #[v] t)) e v3
    rw [World.size_alloc, World.size_alloc] at this
    exact this.alloc _
  · have := Boxed.new (((w.alloc (.cells cs e)).alloc (.cells #[v] t)).alloc (.cells #[v3] e)) e v4
    rw [World.size_alloc, World.size_alloc, World.size_alloc] at this
    exact this
theorem own_row_kept {X Y : World} {row : Option Nat} {base : Nat} {e : TypeId} {size : Nat} {v : Value} {k : Nat} {xs : List Value} (h : X.ownsRow base e size v k xs) (hg : X.grownBy Y row) (hrow : ∀ r, row = some r → ∃ o : Obj, X.heap[r]? = some o ∧ o.isCells = false) : Y.ownsRow base e size v k xs := by
  refine h.kept hg ?_
  rcases h.2 with ⟨rfl, _⟩ | ⟨g, cap, cur, rfl, _, hgb, _⟩
  · exact .inl rfl
  · refine .inr fun e' => ?_
    obtain ⟨o, ho, hc⟩ := hrow g (by simpa [Value.ownBlock] using e'.symm)
    rw [hgb] at ho; cases ho; cases hc
theorem rows_all (a b : Int) (ys : List Dgt) (h : ys.map (·.1) = (List.range 16).map (Ln.ln b)) : ys.map (fun d => mulV a d.1) = rowsL a b 16 := by
  have e : ys.map (fun d => mulV a d.1) = (ys.map (·.1)).map (mulV a) := by rw [List.map_map]; rfl
  rw [e, h, List.map_map]
  rfl
set_option maxRecDepth 100000 in
set_option maxHeartbeats 4000000 in
theorem irows_yes (a b : Int) (w : World) (hT : Tab w) (hz : 0 < w.heap.size) (a0 : 0 ≤ a) (a1 : a ≤ 18446744073709551615) (b0 : 0 ≤ b) (b1 : b ≤ 18446744073709551615) (ka : Ln.okB 0 a = true) (kb : Ln.okB 0 b = true) :
    Calls Tryd.prog 7 #[.int .u64 a, .int .u64 b] w fun e w' => ∃ v, e = .returned (.tuple #[v, .bool true]) ∧ HasU w' w.heap.size v (rowsL a b 16) ∧ Below w.heap.size w w' := by
  obtain ⟨i0, hi, hz0, hz1, hz2⟩ := info_parts infoU64
  have HP : Hid (∀ X, Tab X → Calls Tryd.prog 19 #[.int .u64 a, .int .u64 b] X fun e w' => e = .returned (.bool true) ∧ w' = X) := fun X hX => by
    have := bothPlain_any a b X hX a0 a1 b0 b1
    rw [ka, kb] at this
    exact this
  have HT : Hid (Tab w) := hT
  clear hT
  refine (callsIn_wide (n := 4)).1 ?_
  refine callsIn_of_wp_marks Tryd.func7 rfl trivial ?_ rfl
  simp only [Tryd.ntmps7, List.size_toArray, List.length_cons, List.length_nil, Nat.reduceAdd, Nat.reduceSub, Array.replicate_succ, Array.replicate_zero, List.push_toArray, List.append_toArray, List.nil_append, List.cons_append]
  gi_wp2_with fail
  refine ⟨trivial, (callsIn_wide.2 (HP.out _ HT.out)).mono ?_⟩
  rintro e w' ⟨rfl, hw⟩
  obtain rfl := hw.symm
  have hmk := @run_make Tryd.prog
  gi_wp2_with fail
  refine ⟨trivial, (callsIn_wide.2 (rowsOf_any a b _)).mono ?_⟩
  rintro e w' ⟨rfl, rfl⟩
  clear HP hmk
  gi_wp2_with fail
  obtain ⟨W0, hW0, bR0, ow0, bA0, bB0, hB0, hsz⟩ := row_new w 24 27 (madeCells #[.int .u64 0] 16) (.slice (some ⟨w.heap.size, 0, none⟩) 0 16) (.int .u64 a) (.int .u64 b) (size_madeCells _ _) rfl
  rw [hW0]
  have hT0 := Tab.below HT.out hB0 hz
  refine wpIn_rangeFunc_ownG rfl (by decide) (gf := 41) (lb := #[.pointer (some ⟨w.heap.size + 1 + 1, 0, none⟩), .pointer (some ⟨w.heap.size + 1 + 1 + 1, 0, none⟩)]) rfl trivial (enters_of Tryd.func41 (by kernel_rfl) rfl)
    (rows_stops (4 - 1) (by decide) (w.heap.size + 1 + 1) w.heap.size a b a0 a1 b0 b1 ka kb W0 bA0 bB0 hT0 hz (by omega)) (fun h k => KpR.trans h k) (KpR.putObj (by omega) (by omega)) (Below.refl _ _) (fun _ => rfl)
    (fun pre W => (Boxed W (w.heap.size + 1) 27 (.slice (some ⟨w.heap.size, 0, none⟩) pre.length 16) ∧ W.ownsRow w.heap.size 24 1 (.slice (some ⟨w.heap.size, 0, none⟩) pre.length 16) pre.length ((pre.map (fun d => mulV a d.1)).map (Value.int .u64))) ∧ Below w.heap.size w W)
    (fun _ _ _ => False)
    (OwnFrom.and (Own.from (fun s X Y row hs hg hr => ⟨boxed_kept hs.1 hg hr, own_row_kept hs.2 hg hr⟩) _) (ownFrom_below (Nat.le_refl _) (by omega)))
    (fun _ _ _ _ _ hs _ _ => hs)
    ⟨⟨bR0, ow0⟩, hB0⟩
    (fun x => { tmps := #[.int .u64 a, .int .u64 b, undef, undef, .slice none 0 0, .bool false, .pointer (some ⟨w.heap.size + 1, 0, none⟩), .int .u64 (mulV a x.1), .int .u64 a, .int .u64 b, .bool true, .bool false, undef, .slice (some ⟨w.heap.size, 0, none⟩) 0 16, .int .u64 a, .int .u64 b,
      .func (.func 41) #[] #[.pointer (some ⟨w.heap.size + 1 + 1, 0, none⟩), .pointer (some ⟨w.heap.size + 1 + 1 + 1, 0, none⟩)], .int .u64 (mulV a x.1), .int .i64 (mulC a x.1), undef, undef, undef, undef, undef], defers := [] }) ?assign ?body ?done ?stop
  case assign =>
    intro l x W K hK
    unfold encR
    gi_wp2
    exact hK
  case body =>
    clear hT0 bR0 ow0 bA0 bB0 hB0
    rintro l pre x W ⟨⟨bR, hown⟩, hB⟩ hlen
    have hcR := bR.cell
    have hsW := hB.size
    have hlR := bR.lt
    have Hm : Hid ((((pre ++ [x]).map (fun d => mulV a d.1))).map (Value.int .u64) = (pre.map (fun d => mulV a d.1)).map (Value.int .u64) ++ [.int .u64 (mulV a x.1)]) := by simp [Hid]
    have Hl : Hid ((pre ++ [x]).length = pre.length + 1) := by simp [Hid]
    generalize (pre.map (fun d => mulV a d.1)).map (Value.int .u64) = xs at *
    generalize mulV a x.1 = m at *
    gi_wp2_with (gi_at_builtin; refine wpListIn_append_fits _ rfl _ _ 27 rfl w.heap.size 24 i0 1 Tryd.underlying27 hi hz1 w.heap.size pre.length 16 xs rfl (hown.alloc _) ⟨W.heap.size, 0, none⟩ 1 1 [.int .u64 m] rfl rfl (cell_one_new _ _ _) (by simp [Value.oneCell']) (by omega) ?_; intro w1 hown' hgrow; obtain ⟨hv1, hv2, hr2, hk2, hb2⟩ := bR.appended (by decide) hown (by omega) (by omega) hown' hgrow; have hc1 := hv1.cell; have hf1 := hv1.frozen)
    refine ⟨hk2.from _, ⟨hb2, fun k h1 h2 h3 => ?_⟩, ⟨?_, ?_⟩, hB.trans hb2⟩
    · exact (Below.heap_setCell _ _ _ k (by show k ≠ w.heap.size + 1; omega)).trans ((hgrow.block k (by simp; omega) (by simp; omega)).trans (Below.heap_alloc W _ k h3))
    · rw [Hl.out]; exact hv2
    · rw [Hl.out, Hm.out]; exact hr2
  case done =>
    rintro D ys W hD hS ⟨⟨bR, hown⟩, hB⟩ hK
    have hcR := bR.cell
    gi_wp2
    have hlen : ys.length = 16 := by have := congrArg List.length hS; simpa using this
    have hr := rows_all a b ys hS
    rw [hr, hlen] at hown
    refine ⟨by simp, .inl ⟨_, _, rfl, run_takeDeferred hK, ?_⟩⟩
    refine ⟨_, results_tmp2 rfl _ _ _, _, rfl, ?_, hB.trans (belowK_b (w := W0) (by omega) W D _ _ hD hK rfl rfl)⟩
    unfold HasU
    rw [rowsL_length, hlen]
    exact ownsRow_putObj hown _ hK rfl
  case stop =>
    rintro D c pre W _ _ h _
    exact h.elim
end Go.Proofs.YtlbkhiphnllfpacDoor
