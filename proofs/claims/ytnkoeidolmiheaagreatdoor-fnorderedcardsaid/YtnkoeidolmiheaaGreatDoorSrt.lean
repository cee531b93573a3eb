/-
  The library's sort at two numbers, walked.
-/
import Derived.Test.YtnkoeidolmiheaaGreatDoorOrc
import Derived.LoopN
import Derived.Shelf.Abstract
import Derived.Deep.RegionWith
namespace Go.Proofs.YtnkoeidolmiheaaGreatDoor
open Go.RowKit
set_option linter.unusedVariables false
set_option maxRecDepth 100000
/-- A row of two numbers. -/
def Row2 (W : World) (g : Nat) (ka : Int) (na : Bool) (ea : Int) (sa : ByteArray) (kb : Int) (nb : Bool) (eb : Int) (sb : ByteArray) : Prop :=
  W.heap[g]? = some (.cells #[.int .i64 ka, .bool na, .int .i64 ea, .string sa, .int .i64 kb, .bool nb, .int .i64 eb, .string sb] 25 (0, 0))
theorem Row2.cells {W : World} {g : Nat} {ka : Int} {na : Bool} {ea : Int} {sa : ByteArray} {kb : Int} {nb : Bool} {eb : Int} {sb : ByteArray} (h : Row2 W g ka na ea sa kb nb eb sb) :
    W.cell? ⟨g, 0, none⟩ = some (.int .i64 ka) ∧ W.cell? ⟨g, 1, none⟩ = some (.bool na) ∧ W.cell? ⟨g, 2, none⟩ = some (.int .i64 ea) ∧ W.cell? ⟨g, 3, none⟩ = some (.string sa) ∧ W.cell? ⟨g, 4, none⟩ = some (.int .i64 kb) ∧ W.cell? ⟨g, 5, none⟩ = some (.bool nb) ∧ W.cell? ⟨g, 6, none⟩ = some (.int .i64 eb) ∧ W.cell? ⟨g, 7, none⟩ = some (.string sb) ∧ ∀ i, W.frozen? ⟨g, i, none⟩ = false := by
  unfold Row2 at h
  exact ⟨by simp [World.cell?, h], by simp [World.cell?, h], by simp [World.cell?, h], by simp [World.cell?, h], by simp [World.cell?, h], by simp [World.cell?, h], by simp [World.cell?, h], by simp [World.cell?, h], fun i => by simp [World.frozen?, h]⟩
theorem Row2.lt {W : World} {g : Nat} {ka : Int} {na : Bool} {ea : Int} {sa : ByteArray} {kb : Int} {nb : Bool} {eb : Int} {sb : ByteArray} (h : Row2 W g ka na ea sa kb nb eb sb) : g < W.heap.size := (Array.getElem?_eq_some_iff.1 h).1
theorem Row2.next {W W' : World} {g : Nat} {ka : Int} {na : Bool} {ea : Int} {sa : ByteArray} {kb : Int} {nb : Bool} {eb : Int} {sb : ByteArray} (h : Row2 W g ka na ea sa kb nb eb sb) (hb : Below W.heap.size W W') : Row2 W' g ka na ea sa kb nb eb sb := (hb.block g h.lt).trans h
theorem Row2.drew {W : World} {g : Nat} {ka : Int} {na : Bool} {ea : Int} {sa : ByteArray} {kb : Int} {nb : Bool} {eb : Int} {sb : ByteArray} (h : Row2 W g ka na ea sa kb nb eb sb) : Row2 W.drew g ka na ea sa kb nb eb sb := h
theorem drewN_is (W : World) (n : Nat) : (W.drewN n).heap = W.heap := by
  induction n generalizing W with
  | zero => rfl
  | succ n ih => exact ih _
theorem Row2.drewN {W : World} {g : Nat} {ka : Int} {na : Bool} {ea : Int} {sa : ByteArray} {kb : Int} {nb : Bool} {eb : Int} {sb : ByteArray} (h : Row2 W g ka na ea sa kb nb eb sb) (n : Nat) : Row2 (W.drewN n) g ka na ea sa kb nb eb sb := by unfold Row2; rw [drewN_is]; exact h
theorem belN {B : Nat} {w W : World} (h : Below B w W) (n : Nat) : Below B w (W.drewN n) := h.trans ⟨rfl, rfl, rfl, Nat.le_refl _, fun _ _ => rfl⟩
theorem Row2.swap {W : World} {g : Nat} {ka : Int} {na : Bool} {ea : Int} {sa : ByteArray} {kb : Int} {nb : Bool} {eb : Int} {sb : ByteArray} (h : Row2 W g ka na ea sa kb nb eb sb) :
    Row2 ((((((((W.setCell ⟨g, 4, none⟩ (.int .i64 ka)).setCell ⟨g, 5, none⟩ (.bool na)).setCell ⟨g, 6, none⟩ (.int .i64 ea)).setCell ⟨g, 7, none⟩ (.string sa)).setCell ⟨g, 0, none⟩ (.int .i64 kb)).setCell ⟨g, 1, none⟩ (.bool nb)).setCell ⟨g, 2, none⟩ (.int .i64 eb)).setCell ⟨g, 3, none⟩ (.string sb)) g kb nb eb sb ka na ea sa := by
  unfold Row2 at *
  simp [World.setCell, Array.getElem?_modify, h]
theorem bel_swap {B g : Nat} {w0 W : World} (h : Below B w0 W) (hB : B ≤ g) (ka : Int) (na : Bool) (ea : Int) (sa : ByteArray) (kb : Int) (nb : Bool) (eb : Int) (sb : ByteArray) : Below B w0 ((((((((W.setCell ⟨g, 4, none⟩ (.int .i64 ka)).setCell ⟨g, 5, none⟩ (.bool na)).setCell ⟨g, 6, none⟩ (.int .i64 ea)).setCell ⟨g, 7, none⟩ (.string sa)).setCell ⟨g, 0, none⟩ (.int .i64 kb)).setCell ⟨g, 1, none⟩ (.bool nb)).setCell ⟨g, 2, none⟩ (.int .i64 eb)).setCell ⟨g, 3, none⟩ (.string sb)) := by
  have q : ∀ {X : World} (i : Nat) (v : Value), Below B w0 X → Below B w0 (X.setCell ⟨g, i, none⟩ v) := fun i v hX => hX.setCell (p := ⟨g, i, none⟩) hB v
  exact q _ _ (q _ _ (q _ _ (q _ _ (q _ _ (q _ _ (q _ _ (q _ _ h)))))))
theorem bitsLen_2 (w : World) : Calls Tryz.prog 183 #[.int .u64 2] w fun e w' => e = .returned (.int .i64 2) ∧ w' = w := by
  have H : Hid (∀ X, Calls Tryz.prog 210 #[.int .u64 2] X fun e w' => e = .returned (.int .i64 2) ∧ w' = X) := fun X => by
    go_enter Tryz.func210, Tryz.ntmps210
    go_wp2
    go_ret
    exact ⟨by kernel_rfl, rfl⟩
  go_enter Tryz.func183, Tryz.ntmps183
  go_wp2_with fail
  refine (H.out _).mono ?_
  rintro e w1 ⟨rfl, rfl⟩
  go_wp2
  go_ret
  exact ⟨rfl, rfl⟩
/-- The row, sorted. -/
def srt (C : Int) (W : World) (g : Nat) (ka : Int) (na : Bool) (ea : Int) (sa : ByteArray) (kb : Int) (nb : Bool) (eb : Int) (sb : ByteArray) : Prop := if C < 0 then Row2 W g kb nb eb sb ka na ea sa else Row2 W g ka na ea sa kb nb eb sb
theorem srt_yes {C : Int} (h : C < 0) {W : World} {g : Nat} {ka : Int} {na : Bool} {ea : Int} {sa : ByteArray} {kb : Int} {nb : Bool} {eb : Int} {sb : ByteArray} (hr : Row2 W g kb nb eb sb ka na ea sa) : srt C W g ka na ea sa kb nb eb sb := by unfold srt; rw [if_pos h]; exact hr
theorem srt_no {C : Int} (h : ¬ C < 0) {W : World} {g : Nat} {ka : Int} {na : Bool} {ea : Int} {sa : ByteArray} {kb : Int} {nb : Bool} {eb : Int} {sb : ByteArray} (hr : Row2 W g ka na ea sa kb nb eb sb) : srt C W g ka na ea sa kb nb eb sb := by unfold srt; rw [if_neg h]; exact hr
set_option maxRecDepth 100000 in
set_option maxHeartbeats 1000000 in
theorem insert2_any (B g : Nat) (w0 : World) (ka : Int) (na : Bool) (ea : Int) (sa : ByteArray) (kb : Int) (nb : Bool) (eb : Int) (sb : ByteArray) (C : Int) (w : World) (hg : Row2 w g ka na ea sa kb nb eb sb) (hB : Below B w0 w) (hBg : B ≤ g)
    (HC : Hid (∀ X, Below w.heap.size w X → Calls Tryz.prog 99 #[.agg #[.bool true], numV kb nb eb sb, numV ka na ea sa] X fun r w' => r = .returned (.int .i64 C) ∧ Below X.heap.size X w')) :
    Calls Tryz.prog 201 #[.slice (some ⟨g, 0, none⟩) 2 2, .int .i64 0, .int .i64 2, .func (.func 99) #[.agg #[.bool true]] #[]] w fun e w' => e = .returned (.tuple #[]) ∧ srt C w' g ka na ea sa kb nb eb sb ∧ Below B w0 w' := by
  have HG : Hid (Row2 w g ka na ea sa kb nb eb sb ∧ Below B w0 w) := ⟨hg, hB⟩
  have HBg : Hid (B ≤ g) := hBg
  clear hg hB hBg
  have hent : ∀ args w, (callFunc 99 args).run Tryz.prog w = .ok (.enter 99 args) w := enters_of Tryz.func99 (by kernel_rfl) rfl
  have w00 : IntKind.i64.wrap 0 = 0 := by decide
  by_cases hc : C < 0
  · go_enter Tryz.func201, Tryz.ntmps201
    go_wp2
    refine wp_loop_rounds 2 ?_
    rw [rounds_succ]
    go_wp2
    refine wp_loop_rounds 2 ?_
    rw [rounds_succ]
    go_upto_region 4 with fail
    have HX : Hid (Below w.heap.size w w.drew) := (Below.refl _ _).drew
    refine wp_region_class (C := fun W => Below w.heap.size w W) (by kernel_rfl) (by kernel_rfl) HX.out ?_
    repeat (refine wpQuiet_step (fun K hK => ?_); go_simp; first | (refine hK _ ?_; clear hK K) | (apply Exists.intro; refine ⟨fun wx hC => ?_, hK _ ?_⟩; (first | exact rfl | ((with_reducible refine Calls.class_of (HC.out wx hC) ?_); exact (fun w' hb => bel1 hC hb)) | (obtain ⟨q0, q1, q2, q3, q4, q5, q6, q7, q8⟩ := (HG.out.1.next hC).cells; go_simp; exact rfl)); clear hK K))
    refine wpQuiet_nil ?_
    intro w1 hb1
    have HG1 : Hid (Row2 w1 g ka na ea sa kb nb eb sb ∧ Below B w0 w1) := ⟨HG.out.1.next hb1, HG.out.2.trans (hb1.mono (Nat.le_trans HBg.out (Nat.le_of_lt HG.out.1.lt)))⟩
    clear hb1 HX HG
    obtain ⟨q0, q1, q2, q3, q4, q5, q6, q7, q8⟩ := HG1.out.1.cells
    go_upto_region 6 with fail
    go_region
    go_wp2
    have HG2 : Hid (Row2 ((((((((w1.setCell ⟨g, 4, none⟩ (.int .i64 ka)).setCell ⟨g, 5, none⟩ (.bool na)).setCell ⟨g, 6, none⟩ (.int .i64 ea)).setCell ⟨g, 7, none⟩ (.string sa)).setCell ⟨g, 0, none⟩ (.int .i64 kb)).setCell ⟨g, 1, none⟩ (.bool nb)).setCell ⟨g, 2, none⟩ (.int .i64 eb)).setCell ⟨g, 3, none⟩ (.string sb)).drew g kb nb eb sb ka na ea sa ∧ Below B w0 ((((((((w1.setCell ⟨g, 4, none⟩ (.int .i64 ka)).setCell ⟨g, 5, none⟩ (.bool na)).setCell ⟨g, 6, none⟩ (.int .i64 ea)).setCell ⟨g, 7, none⟩ (.string sa)).setCell ⟨g, 0, none⟩ (.int .i64 kb)).setCell ⟨g, 1, none⟩ (.bool nb)).setCell ⟨g, 2, none⟩ (.int .i64 eb)).setCell ⟨g, 3, none⟩ (.string sb)).drew) :=
      ⟨HG1.out.1.swap.drew, (bel_swap HG1.out.2 HBg.out ka na ea sa kb nb eb sb).drew⟩
    generalize ((((((((w1.setCell ⟨g, 4, none⟩ (.int .i64 ka)).setCell ⟨g, 5, none⟩ (.bool na)).setCell ⟨g, 6, none⟩ (.int .i64 ea)).setCell ⟨g, 7, none⟩ (.string sa)).setCell ⟨g, 0, none⟩ (.int .i64 kb)).setCell ⟨g, 1, none⟩ (.bool nb)).setCell ⟨g, 2, none⟩ (.int .i64 eb)).setCell ⟨g, 3, none⟩ (.string sb)).drew = w2 at *
    clear HG1 q0 q1 q2 q3 q4 q5 q6 q7 q8
    rw [rounds_succ]
    go_upto_region 4 with fail
    go_quiet (fail)
    go_wp2
    rw [rounds_succ]
    go_wp2
    first | go_end0 | refine bodyPost_ret (results_none rfl _ _ _) rfl ?_
    exact ⟨rfl, srt_yes (by omega) (Row2.drewN HG2.out.1 _), belN HG2.out.2 _⟩
  · go_enter Tryz.func201, Tryz.ntmps201
    go_wp2
    refine wp_loop_rounds 2 ?_
    rw [rounds_succ]
    go_wp2
    refine wp_loop_rounds 1 ?_
    rw [rounds_succ]
    go_upto_region 4 with fail
    have HX : Hid (Below w.heap.size w w.drew) := (Below.refl _ _).drew
    refine wp_region_class (C := fun W => Below w.heap.size w W) (by kernel_rfl) (by kernel_rfl) HX.out ?_
    repeat (refine wpQuiet_step (fun K hK => ?_); go_simp; first | (refine hK _ ?_; clear hK K) | (apply Exists.intro; refine ⟨fun wx hC => ?_, hK _ ?_⟩; (first | exact rfl | ((with_reducible refine Calls.class_of (HC.out wx hC) ?_); exact (fun w' hb => bel1 hC hb)) | (obtain ⟨q0, q1, q2, q3, q4, q5, q6, q7, q8⟩ := (HG.out.1.next hC).cells; go_simp; exact rfl)); clear hK K))
    refine wpQuiet_nil ?_
    intro w1 hb1
    have HG1 : Hid (Row2 w1 g ka na ea sa kb nb eb sb ∧ Below B w0 w1) := ⟨HG.out.1.next hb1, HG.out.2.trans (hb1.mono (Nat.le_trans HBg.out (Nat.le_of_lt HG.out.1.lt)))⟩
    clear hb1 HX HG
    go_wp2
    rw [rounds_succ]
    go_wp2
    first | go_end0 | refine bodyPost_ret (results_none rfl _ _ _) rfl ?_
    exact ⟨rfl, srt_no (by omega) HG1.out.1, HG1.out.2⟩
set_option maxRecDepth 100000 in
theorem pdq2_any (B g : Nat) (w0 : World) (ka : Int) (na : Bool) (ea : Int) (sa : ByteArray) (kb : Int) (nb : Bool) (eb : Int) (sb : ByteArray) (C : Int) (w : World) (hg : Row2 w g ka na ea sa kb nb eb sb) (hB : Below B w0 w) (hBg : B ≤ g)
    (HC : Hid (∀ X, Below w.heap.size w X → Calls Tryz.prog 99 #[.agg #[.bool true], numV kb nb eb sb, numV ka na ea sa] X fun r w' => r = .returned (.int .i64 C) ∧ Below X.heap.size X w')) :
    Calls Tryz.prog 182 #[.slice (some ⟨g, 0, none⟩) 2 2, .int .i64 0, .int .i64 2, .int .i64 2, .func (.func 99) #[.agg #[.bool true]] #[]] w fun e w' => e = .returned (.tuple #[]) ∧ srt C w' g ka na ea sa kb nb eb sb ∧ Below B w0 w' := by
  have HI : Hid (Calls Tryz.prog 201 #[.slice (some ⟨g, 0, none⟩) 2 2, .int .i64 0, .int .i64 2, .func (.func 99) #[.agg #[.bool true]] #[]] w fun e w' => e = .returned (.tuple #[]) ∧ srt C w' g ka na ea sa kb nb eb sb ∧ Below B w0 w') := insert2_any B g w0 ka na ea sa kb nb eb sb C w hg hB hBg HC
  clear HC hg hB hBg
  go_enter Tryz.func182, Tryz.ntmps182
  go_wp2
  refine wp_loop_rounds 1 ?_
  rw [rounds_succ]
  go_wp2_with fail
  refine HI.out.mono ?_
  rintro e w1 ⟨rfl, h1, h2⟩
  have HP : Hid (srt C w1 g ka na ea sa kb nb eb sb ∧ Below B w0 w1) := ⟨h1, h2⟩
  clear h1 h2 HI
  go_wp2
  first | go_end0 | refine bodyPost_ret (results_none rfl _ _ _) rfl ?_
  exact ⟨rfl, HP.out⟩
theorem sort2_any (B g : Nat) (w0 : World) (ka : Int) (na : Bool) (ea : Int) (sa : ByteArray) (kb : Int) (nb : Bool) (eb : Int) (sb : ByteArray) (C : Int) (w : World) (hg : Row2 w g ka na ea sa kb nb eb sb) (hB : Below B w0 w) (hBg : B ≤ g)
    (HC : Hid (∀ X, Below w.heap.size w X → Calls Tryz.prog 99 #[.agg #[.bool true], numV kb nb eb sb, numV ka na ea sa] X fun r w' => r = .returned (.int .i64 C) ∧ Below X.heap.size X w')) :
    Calls Tryz.prog 154 #[.slice (some ⟨g, 0, none⟩) 2 2, .func (.func 99) #[.agg #[.bool true]] #[]] w fun e w' => e = .returned (.tuple #[]) ∧ srt C w' g ka na ea sa kb nb eb sb ∧ Below B w0 w' := by
  have HI : Hid (Calls Tryz.prog 182 #[.slice (some ⟨g, 0, none⟩) 2 2, .int .i64 0, .int .i64 2, .int .i64 2, .func (.func 99) #[.agg #[.bool true]] #[]] w fun e w' => e = .returned (.tuple #[]) ∧ srt C w' g ka na ea sa kb nb eb sb ∧ Below B w0 w') := pdq2_any B g w0 ka na ea sa kb nb eb sb C w hg hB hBg HC
  clear HC hg hB hBg
  go_enter Tryz.func154, Tryz.ntmps154
  go_wp2_with fail
  refine (bitsLen_2 _).mono ?_
  rintro e w1 ⟨rfl, rfl⟩
  go_wp2_with fail
  refine HI.out.mono ?_
  rintro e w2 ⟨rfl, h1, h2⟩
  have HP : Hid (srt C w2 g ka na ea sa kb nb eb sb ∧ Below B w0 w2) := ⟨h1, h2⟩
  clear h1 h2 HI
  go_wp2
  first | go_end0 | refine bodyPost_ret (results_none rfl _ _ _) rfl ?_
  exact ⟨rfl, HP.out⟩
end Go.Proofs.YtnkoeidolmiheaaGreatDoor
