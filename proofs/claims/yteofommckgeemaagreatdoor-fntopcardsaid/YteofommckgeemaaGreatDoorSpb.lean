/-
  Sums of the program: two numbers with one exponent; two numbers, walked.
-/
import Derived.Test.YteofommckgeemaaGreatDoorSpa

namespace Go.Proofs.YteofommckgeemaaGreatDoor
open Go.RowKit
set_option linter.unusedVariables false
set_option maxRecDepth 100000
/-- The sum of two numbers with one exponent: its sign and its digits' number. -/
def esN (nx : Bool) (x : Int) (ny : Bool) (y : Int) : Bool := if nx = ny then nx else if x < y then ny else nx
def esV (nx : Bool) (x : Int) (ny : Bool) (y : Int) : Int := if nx = ny then x + y else if x < y then y - x else x - y
theorem tn_sz (n : Int) : (tn n).size ≤ 4611686018427387904 := by have := tn_size n; omega
set_option maxRecDepth 100000 in
set_option maxHeartbeats 1000000 in
theorem evenSum_any (nx ny : Bool) (e x y : Int) (w : World) (hx : Nok x) (hy : Nok y) (hxy : Nok (x + y)) :
    Calls Tryz.prog 213 #[numV 1 nx e (tn x), numV 1 ny e (tn y)] w fun r w' => r = .returned (numV 1 (esN nx x ny y) e (tn (esV nx x ny y))) ∧ Below w.heap.size w w' := by
  have HN : Hid (N3 w 1 nx e (tn x) 1 ny e (tn y) (n3W w 1 nx e (tn x) 1 ny e (tn y))) := n3_new w 1 nx e (tn x) 1 ny e (tn y)
  by_cases hs : nx = ny
  · have E : Hid (esN nx x ny y = nx ∧ esV nx x ny y = x + y) := ⟨if_pos hs, if_pos hs⟩
    rw [E.out.1, E.out.2]
    have HA : Hid (∀ X, Calls Tryz.prog 255 #[.string (tn x), .string (tn y)] X fun e w' => e = .returned (.string (tn (x + y))) ∧ Below X.heap.size X w') := fun X => by
      have := iNatAdd_any (tn x) (tn y) X (tn_sz x) (tn_sz y)
      rwa [add_tn hx hy, fit_tn hxy] at this
    generalize tn (x + y) = T at *
    generalize tn x = S1 at *
    generalize tn y = S2 at *
    subst hs
    clear E hx hy hxy
    go_enter Tryz.func213, Tryz.ntmps213
    go_wp2_with fail
    refine (HA.out _).mono ?_
    rintro r w1 ⟨rfl, hb1⟩
    have HN1 : Hid (N3 w 1 nx e S1 1 nx e S2 w1) := HN.out.next hb1
    obtain ⟨a0, a1, a2, a3, a4⟩ := HN1.out.1.cells
    have HN2 : Hid (N3 w 1 nx e T 1 nx e S2 (w1.setCell ⟨w.heap.size, 3, none⟩ (.string T))) := HN1.out.x3 _
    clear hb1 HN HA
    go_wp2_with (refine wpList_store_row rfl 78 (.tmp 4) (.tmp 16) rfl (w.heap.size + 2) #[.int .i64 1, .bool nx, .int .i64 e, .string T] rfl rfl _ _ HN2.out.2.2.1 (by kernel_rfl) rfl (one4 _ _ _ _) ?_)
    have hP := (HN2.out.2.2.1.row (.int .i64 1) (.bool nx) (.int .i64 e) (.string T)).cells
    refine bodyPost_ret (results_num rfl _ _ rfl hP.1 hP.2.1 hP.2.2.1 hP.2.2.2.1) rfl ?_
    exact ⟨rfl, bel_row HN2.out.2.2.2 (by omega) _⟩
  · have hsb : (nx == ny) = false := beq_eq_false_iff_ne.2 hs
    have HC : Hid (∀ X, Calls Tryz.prog 256 #[.string (tn x), .string (tn y)] X fun e w' => e = .returned (.int .i64 (cmpI x y)) ∧ Below X.heap.size X w') := fun X => by
      have := iNatCmp_any (tn x) (tn y) X (tn_sz x) (tn_sz y)
      rwa [cmp_tn hx hy] at this
    by_cases hlt : x < y
    · have E : Hid (esN nx x ny y = ny ∧ esV nx x ny y = y - x) := ⟨by unfold esN; rw [if_neg hs, if_pos hlt], by unfold esV; rw [if_neg hs, if_pos hlt]⟩
      rw [E.out.1, E.out.2]
      have hc : cmpI x y = -1 := by unfold cmpI; rw [if_pos hlt]
      rw [hc] at HC
      have HA : Hid (∀ X, Calls Tryz.prog 257 #[.string (tn y), .string (tn x)] X fun e w' => e = .returned (.string (tn (y - x))) ∧ Below X.heap.size X w') := fun X => by
        have := iNatSub_any (tn y) (tn x) X (tn_sz y) (tn_sz x)
        rwa [sub_tn hy hx (by omega)] at this
      generalize tn (y - x) = T at *
      generalize tn x = S1 at *
      generalize tn y = S2 at *
      clear E hx hy hxy hlt hc hs
      go_enter Tryz.func213, Tryz.ntmps213
      go_wp2_with fail
      refine (HC.out _).mono ?_
      rintro r w1 ⟨rfl, hb1⟩
      have HN1 : Hid (N3 w 1 nx e S1 1 ny e S2 w1) := HN.out.next hb1
      obtain ⟨a0, a1, a2, a3, a4⟩ := HN1.out.1.cells
      obtain ⟨c0, c1, c2, c3, c4⟩ := HN1.out.2.1.cells
      have HN2 : Hid (N3 w 1 ny e S2 1 ny e S2 (w1.setRow w.heap.size #[.int .i64 1, .bool ny, .int .i64 e, .string S2])) := HN1.out.rowx _ _ _ _
      have HN3 : Hid (N3 w 1 ny e S2 1 nx e S1 ((w1.setRow w.heap.size #[.int .i64 1, .bool ny, .int .i64 e, .string S2]).setRow (w.heap.size + 1) #[.int .i64 1, .bool nx, .int .i64 e, .string S1])) := HN2.out.rowy _ _ _ _
      obtain ⟨g0, g1, g2, g3, g4⟩ := HN3.out.1.cells
      obtain ⟨k0, k1, k2, k3, k4⟩ := HN3.out.2.1.cells
      clear hb1 HN HC
      go_wp2_with (first | (refine wpList_store_row rfl 78 (.tmp 2) (.tmp 23) rfl w.heap.size #[.int .i64 1, .bool ny, .int .i64 e, .string S2] rfl rfl _ _ HN1.out.1 (by kernel_rfl) rfl (one4 _ _ _ _) ?_) | (refine wpList_store_row rfl 78 (.tmp 3) (.tmp 24) rfl (w.heap.size + 1) #[.int .i64 1, .bool nx, .int .i64 e, .string S1] rfl rfl _ _ HN2.out.2.1 (by kernel_rfl) rfl (one4 _ _ _ _) ?_))
      refine (HA.out _).mono ?_
      rintro r w2 ⟨rfl, hb2⟩
      have HN4 : Hid (N3 w 1 ny e S2 1 nx e S1 w2) := HN3.out.next hb2
      obtain ⟨a0, a1, a2, a3, a4⟩ := HN4.out.1.cells
      have HN5 : Hid (N3 w 1 ny e T 1 nx e S1 (w2.setCell ⟨w.heap.size, 3, none⟩ (.string T))) := HN4.out.x3 _
      clear hb2 HN1 HN2 HN3 HA g0 g1 g2 g3 g4 k0 k1 k2 k3 k4 c0 c1 c2 c3 c4
      go_wp2_with (refine wpList_store_row rfl 78 (.tmp 4) (.tmp 31) rfl (w.heap.size + 2) #[.int .i64 1, .bool ny, .int .i64 e, .string T] rfl rfl _ _ HN5.out.2.2.1 (by kernel_rfl) rfl (one4 _ _ _ _) ?_)
      have hP := (HN5.out.2.2.1.row (.int .i64 1) (.bool ny) (.int .i64 e) (.string T)).cells
      refine bodyPost_ret (results_num rfl _ _ rfl hP.1 hP.2.1 hP.2.2.1 hP.2.2.2.1) rfl ?_
      exact ⟨rfl, bel_row HN5.out.2.2.2 (by omega) _⟩
    · have E : Hid (esN nx x ny y = nx ∧ esV nx x ny y = x - y) := ⟨by unfold esN; rw [if_neg hs, if_neg hlt], by unfold esV; rw [if_neg hs, if_neg hlt]⟩
      rw [E.out.1, E.out.2]
      have hc : ¬ cmpI x y < 0 := by unfold cmpI; rw [if_neg hlt]; split <;> decide
      generalize cmpI x y = cc at *
      have HA : Hid (∀ X, Calls Tryz.prog 257 #[.string (tn x), .string (tn y)] X fun e w' => e = .returned (.string (tn (x - y))) ∧ Below X.heap.size X w') := fun X => by
        have := iNatSub_any (tn x) (tn y) X (tn_sz x) (tn_sz y)
        rwa [sub_tn hx hy (by omega)] at this
      generalize tn (x - y) = T at *
      generalize tn x = S1 at *
      generalize tn y = S2 at *
      clear E hx hy hxy hlt hs
      go_enter Tryz.func213, Tryz.ntmps213
      go_wp2_with fail
      refine (HC.out _).mono ?_
      rintro r w1 ⟨rfl, hb1⟩
      have HN1 : Hid (N3 w 1 nx e S1 1 ny e S2 w1) := HN.out.next hb1
      obtain ⟨a0, a1, a2, a3, a4⟩ := HN1.out.1.cells
      obtain ⟨c0, c1, c2, c3, c4⟩ := HN1.out.2.1.cells
      clear hb1 HN HC
      go_wp2_with fail
      refine (HA.out _).mono ?_
      rintro r w2 ⟨rfl, hb2⟩
      have HN4 : Hid (N3 w 1 nx e S1 1 ny e S2 w2) := HN1.out.next hb2
      clear a0 a1 a2 a3 a4
      obtain ⟨a0, a1, a2, a3, a4⟩ := HN4.out.1.cells
      have HN5 : Hid (N3 w 1 nx e T 1 ny e S2 (w2.setCell ⟨w.heap.size, 3, none⟩ (.string T))) := HN4.out.x3 _
      clear hb2 HN1 HA c0 c1 c2 c3 c4
      go_wp2_with (refine wpList_store_row rfl 78 (.tmp 4) (.tmp 31) rfl (w.heap.size + 2) #[.int .i64 1, .bool nx, .int .i64 e, .string T] rfl rfl _ _ HN5.out.2.2.1 (by kernel_rfl) rfl (one4 _ _ _ _) ?_)
      have hP := (HN5.out.2.2.1.row (.int .i64 1) (.bool nx) (.int .i64 e) (.string T)).cells
      refine bodyPost_ret (results_num rfl _ _ rfl hP.1 hP.2.1 hP.2.2.1 hP.2.2.2.1) rfl ?_
      exact ⟨rfl, bel_row HN5.out.2.2.2 (by omega) _⟩
end Go.Proofs.YteofommckgeemaaGreatDoor
