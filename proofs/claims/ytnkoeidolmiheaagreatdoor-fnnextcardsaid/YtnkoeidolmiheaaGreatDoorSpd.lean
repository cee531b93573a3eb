/-
  Infinities thrown by the program, walked.
-/
import Derived.Test.YtnkoeidolmiheaaGreatDoorPsd
import Derived.Test.YtnkoeidolmiheaaGreatDoorNaz
import Derived.Test.YtnkoeidolmiheaaGreatDoorNtL
import Derived.Test.YtnkoeidolmiheaaGreatDoorLmt
import Derived.Test.YtnkoeidolmiheaaGreatDoorQtl
namespace Go.Proofs.YtnkoeidolmiheaaGreatDoor
open Go.RowKit
set_option linter.unusedVariables false
set_option maxRecDepth 100000
theorem isNought_fin (b : Bool) (e v : Int) (w : World) (h : Nok v) : Calls Tryz.prog 48 #[numV 1 b e (tn v)] w fun x w' => x = .returned (.bool (decide (v = 0))) ∧ Below w.heap.size w w' := by
  by_cases hz : v = 0
  · subst hz
    have h0 : ((tn 0).toList == [48]) = true := by rw [tn_0]; rfl
    go_enter Tryz.func48, Tryz.ntmps48
    go_wp2
    go_ret
    exact ⟨rfl, (Below.refl _ _).alloc (Nat.le_refl _) _⟩
  · have h0 := tn_is0 h hz
    rw [decide_eq_false hz]
    clear hz
    go_enter Tryz.func48, Tryz.ntmps48
    go_wp2
    go_ret
    exact ⟨rfl, (Below.refl _ _).alloc (Nat.le_refl _) _⟩
theorem isNought_inf (b : Bool) (e : Int) (s : ByteArray) (w : World) : Calls Tryz.prog 48 #[numV 2 b e s] w fun x w' => x = .returned (.bool false) ∧ Below w.heap.size w w' := by
  go_enter Tryz.func48, Tryz.ntmps48
  go_wp2
  go_ret
  exact ⟨rfl, (Below.refl _ _).alloc (Nat.le_refl _) _⟩
/-- Two numbers' boxes and a result's. -/
abbrev n3W (w : World) (kx : Int) (nx : Bool) (ex : Int) (sx : ByteArray) (ky : Int) (ny : Bool) (ey : Int) (sy : ByteArray) : World := ((w.alloc (.cells #[.int .i64 kx, .bool nx, .int .i64 ex, .string sx] 25)).alloc (.cells #[.int .i64 ky, .bool ny, .int .i64 ey, .string sy] 25)).alloc (.cells #[.int .i64 0, .bool false, .int .i64 0, .string { data := #[] }] 25)
/-- What lies in them. -/
def N3 (w : World) (kx : Int) (nx : Bool) (ex : Int) (sx : ByteArray) (ky : Int) (ny : Bool) (ey : Int) (sy : ByteArray) (W : World) : Prop :=
  At4r W w.heap.size (.int .i64 kx) (.bool nx) (.int .i64 ex) (.string sx) ∧ At4r W (w.heap.size + 1) (.int .i64 ky) (.bool ny) (.int .i64 ey) (.string sy) ∧ At4r W (w.heap.size + 2) (.int .i64 0) (.bool false) (.int .i64 0) (.string { data := #[] }) ∧ Below w.heap.size w W
theorem n3_new (w : World) (kx : Int) (nx : Bool) (ex : Int) (sx : ByteArray) (ky : Int) (ny : Bool) (ey : Int) (sy : ByteArray) : N3 w kx nx ex sx ky ny ey sy (n3W w kx nx ex sx ky ny ey sy) := by
  unfold n3W
  have h1 := at4r_new w (.int .i64 kx) (.bool nx) (.int .i64 ex) (.string sx)
  have z1 := new_size w (.cells #[.int .i64 kx, .bool nx, .int .i64 ex, .string sx] 25)
  have b1 : Below w.heap.size w (w.alloc (.cells #[.int .i64 kx, .bool nx, .int .i64 ex, .string sx] 25)) := (Below.refl _ _).alloc (Nat.le_refl _) _
  generalize w.alloc (.cells #[.int .i64 kx, .bool nx, .int .i64 ex, .string sx] 25) = w1 at *
  have h2 := at4r_new w1 (.int .i64 ky) (.bool ny) (.int .i64 ey) (.string sy)
  have z2 := new_size w1 (.cells #[.int .i64 ky, .bool ny, .int .i64 ey, .string sy] 25)
  have b2 : Below w1.heap.size w1 (w1.alloc (.cells #[.int .i64 ky, .bool ny, .int .i64 ey, .string sy] 25)) := (Below.refl _ _).alloc (Nat.le_refl _) _
  generalize w1.alloc (.cells #[.int .i64 ky, .bool ny, .int .i64 ey, .string sy] 25) = w2 at *
  have h3 := at4r_new w2 (.int .i64 0) (.bool false) (.int .i64 0) (.string { data := #[] })
  have b3 : Below w2.heap.size w2 (w2.alloc (.cells #[.int .i64 0, .bool false, .int .i64 0, .string { data := #[] }] 25)) := (Below.refl _ _).alloc (Nat.le_refl _) _
  rw [z2, z1] at h3
  rw [z1] at h2
  have h2' := h2.next b3
  exact ⟨(h1.next b2).next b3, h2', h3, (b1.trans (b2.mono b1.size)).trans (b3.mono (b1.trans (b2.mono b1.size)).size)⟩
theorem N3.next {w W W' : World} {kx : Int} {nx : Bool} {ex : Int} {sx : ByteArray} {ky : Int} {ny : Bool} {ey : Int} {sy : ByteArray} (h : N3 w kx nx ex sx ky ny ey sy W) (hb : Below W.heap.size W W') : N3 w kx nx ex sx ky ny ey sy W' :=
  ⟨h.1.next hb, h.2.1.next hb, h.2.2.1.next hb, h.2.2.2.trans (hb.mono h.2.2.2.size)⟩
theorem At4r.set2 {w : World} {b : Nat} {x y z u : Value} (h : At4r w b x y z u) (z' : Value) : At4r (w.setCell ⟨b, 2, none⟩ z') b x y z' u := by
  unfold At4r at *
  simp [World.setCell, Array.getElem?_modify, h]
theorem At4r.set3 {w : World} {b : Nat} {x y z u : Value} (h : At4r w b x y z u) (u' : Value) : At4r (w.setCell ⟨b, 3, none⟩ u') b x y z u' := by
  unfold At4r at *
  simp [World.setCell, Array.getElem?_modify, h]
theorem At4r.set1 {w : World} {b : Nat} {x y z u : Value} (h : At4r w b x y z u) (y' : Value) : At4r (w.setCell ⟨b, 1, none⟩ y') b x y' z u := by
  unfold At4r at *
  simp [World.setCell, Array.getElem?_modify, h]
theorem At4r.far {w : World} {b c : Nat} {x y z u : Value} (h : At4r w b x y z u) (hc : c ≠ b) (i : Nat) (v : Value) : At4r (w.setCell ⟨c, i, none⟩ v) b x y z u := by
  unfold At4r at *
  simp [World.setCell, Array.getElem?_modify, h, hc]
/-- One store into the first number, or the second. -/
theorem N3.x2 {w W : World} {kx : Int} {nx : Bool} {ex : Int} {sx : ByteArray} {ky : Int} {ny : Bool} {ey : Int} {sy : ByteArray} (h : N3 w kx nx ex sx ky ny ey sy W) (e' : Int) : N3 w kx nx e' sx ky ny ey sy (W.setCell ⟨w.heap.size, 2, none⟩ (.int .i64 e')) :=
  ⟨h.1.set2 _, h.2.1.far (by omega) _ _, h.2.2.1.far (by omega) _ _, h.2.2.2.setCell (Nat.le_refl _) _⟩
theorem N3.x3 {w W : World} {kx : Int} {nx : Bool} {ex : Int} {sx : ByteArray} {ky : Int} {ny : Bool} {ey : Int} {sy : ByteArray} (h : N3 w kx nx ex sx ky ny ey sy W) (s' : ByteArray) : N3 w kx nx ex s' ky ny ey sy (W.setCell ⟨w.heap.size, 3, none⟩ (.string s')) :=
  ⟨h.1.set3 _, h.2.1.far (by omega) _ _, h.2.2.1.far (by omega) _ _, h.2.2.2.setCell (Nat.le_refl _) _⟩
theorem N3.y2 {w W : World} {kx : Int} {nx : Bool} {ex : Int} {sx : ByteArray} {ky : Int} {ny : Bool} {ey : Int} {sy : ByteArray} (h : N3 w kx nx ex sx ky ny ey sy W) (e' : Int) : N3 w kx nx ex sx ky ny e' sy (W.setCell ⟨w.heap.size + 1, 2, none⟩ (.int .i64 e')) :=
  ⟨h.1.far (by omega) _ _, h.2.1.set2 _, h.2.2.1.far (by omega) _ _, h.2.2.2.setCell (show w.heap.size ≤ w.heap.size + 1 by omega) _⟩
theorem N3.y3 {w W : World} {kx : Int} {nx : Bool} {ex : Int} {sx : ByteArray} {ky : Int} {ny : Bool} {ey : Int} {sy : ByteArray} (h : N3 w kx nx ex sx ky ny ey sy W) (s' : ByteArray) : N3 w kx nx ex sx ky ny ey s' (W.setCell ⟨w.heap.size + 1, 3, none⟩ (.string s')) :=
  ⟨h.1.far (by omega) _ _, h.2.1.set3 _, h.2.2.1.far (by omega) _ _, h.2.2.2.setCell (show w.heap.size ≤ w.heap.size + 1 by omega) _⟩
theorem N3.rowx {w W : World} {kx : Int} {nx : Bool} {ex : Int} {sx : ByteArray} {ky : Int} {ny : Bool} {ey : Int} {sy : ByteArray} (h : N3 w kx nx ex sx ky ny ey sy W) (k' : Int) (n' : Bool) (e' : Int) (s' : ByteArray) : N3 w k' n' e' s' ky ny ey sy (W.setRow w.heap.size #[.int .i64 k', .bool n', .int .i64 e', .string s']) :=
  ⟨h.1.row _ _ _ _, h.2.1.other (by omega) _, h.2.2.1.other (by omega) _, bel_row h.2.2.2 (Nat.le_refl _) _⟩
theorem N3.rowy {w W : World} {kx : Int} {nx : Bool} {ex : Int} {sx : ByteArray} {ky : Int} {ny : Bool} {ey : Int} {sy : ByteArray} (h : N3 w kx nx ex sx ky ny ey sy W) (k' : Int) (n' : Bool) (e' : Int) (s' : ByteArray) : N3 w kx nx ex sx k' n' e' s' (W.setRow (w.heap.size + 1) #[.int .i64 k', .bool n', .int .i64 e', .string s']) :=
  ⟨h.1.other (by omega) _, h.2.1.row _ _ _ _, h.2.2.1.other (by omega) _, bel_row h.2.2.2 (by omega) _⟩
/-- Is the second number far below the first? -/
def farB (p : Int) (ex : Int) (n : Nat) (ey : Int) : Bool := decide (ey + n ≤ ex - p - 1)
set_option maxRecDepth 100000 in
set_option maxHeartbeats 1000000 in
theorem withinReach_any (f : Int) (kx : Int) (nx : Bool) (ex : Int) (sx : ByteArray) (ny : Bool) (ey : Int) (sy : ByteArray) (w : World) (hx : -20000 ≤ ex ∧ ex ≤ 20000) (hy : -20000 ≤ ey ∧ ey ≤ 20000) (hs : sy.size ≤ 300) (hp : 0 ≤ limP f ∧ limP f ≤ 34) :
    Calls Tryz.prog 176 #[.int .i64 f, numV kx nx ex sx, numV 1 ny ey sy] w fun x w' => x = .returned (numV 1 ny (if farB (limP f) ex sy.size ey then ex - limP f - 1 else ey) (if farB (limP f) ex sy.size ey then { data := #[49] } else sy)) ∧ Below w.heap.size w w' := by
  have HN : Hid (N3 w kx nx ex sx 1 ny ey sy (n3W w kx nx ex sx 1 ny ey sy)) := n3_new w kx nx ex sx 1 ny ey sy
  have HLm : Hid (∀ X, Calls Tryz.prog 112 #[.int .i64 f] X fun e w' => e = .returned (.tuple #[.int .i64 (limP f), .int .i64 (limL f), .int .i64 (limH f)]) ∧ Below X.heap.size X w') := fun X => iLimits_any f X
  generalize limL f = L0 at *
  generalize limH f = H0 at *
  generalize limP f = P at *
  have hw1 : IntKind.i64.wrap (ex - P) = ex - P := by rw [IntKind.wrap_i64]; omega
  have hw2 : IntKind.i64.wrap (ex - P - 1) = ex - P - 1 := by rw [IntKind.wrap_i64]; omega
  have hw3 : IntKind.i64.wrap (ey + (sy.size : Int)) = ey + sy.size := by rw [IntKind.wrap_i64]; omega
  by_cases hfar : ey + (sy.size : Int) ≤ ex - P - 1
  · have E : Hid (farB P ex sy.size ey = true) := decide_eq_true hfar
    rw [E.out]
    simp only [if_true]
    clear E hx hy hp
    go_enter Tryz.func176, Tryz.ntmps176
    go_wp2_with fail
    refine (HLm.out _).mono ?_
    rintro x w1 ⟨rfl, hb1⟩
    have HN1 : Hid (N3 w kx nx ex sx 1 ny ey sy w1) := HN.out.next hb1
    obtain ⟨a0, a1, a2, a3, a4⟩ := HN1.out.1.cells
    obtain ⟨c0, c1, c2, c3, c4⟩ := HN1.out.2.1.cells
    have HN2 : Hid (N3 w kx nx ex sx 1 ny (ex - P - 1) { data := #[49] } ((w1.setCell ⟨w.heap.size + 1, 2, none⟩ (.int .i64 (ex - P - 1))).setCell ⟨w.heap.size + 1, 3, none⟩ (.string { data := #[49] }))) := (HN1.out.y2 _).y3 _
    clear hb1 HN HLm
    go_wp2_with (refine wpList_store_row rfl 25 (.tmp 6) (.tmp 33) rfl (w.heap.size + 2) #[.int .i64 1, .bool ny, .int .i64 (ex - P - 1), .string { data := #[49] }] rfl rfl _ _ HN2.out.2.2.1 (by kernel_rfl) rfl (one4 _ _ _ _) ?_)
    have hP := (HN2.out.2.2.1.row (.int .i64 1) (.bool ny) (.int .i64 (ex - P - 1)) (.string { data := #[49] })).cells
    refine bodyPost_ret (results_num rfl _ _ rfl hP.1 hP.2.1 hP.2.2.1 hP.2.2.2.1) rfl ?_
    exact ⟨rfl, bel_row HN2.out.2.2.2 (by omega) _⟩
  · have E : Hid (farB P ex sy.size ey = false) := decide_eq_false hfar
    rw [E.out]
    simp only [Bool.false_eq_true, if_false]
    clear E hx hy hp
    go_enter Tryz.func176, Tryz.ntmps176
    go_wp2_with fail
    refine (HLm.out _).mono ?_
    rintro x w1 ⟨rfl, hb1⟩
    have HN1 : Hid (N3 w kx nx ex sx 1 ny ey sy w1) := HN.out.next hb1
    obtain ⟨a0, a1, a2, a3, a4⟩ := HN1.out.1.cells
    obtain ⟨c0, c1, c2, c3, c4⟩ := HN1.out.2.1.cells
    clear hb1 HN HLm
    go_wp2_with (refine wpList_store_row rfl 25 (.tmp 6) (.tmp 33) rfl (w.heap.size + 2) #[.int .i64 1, .bool ny, .int .i64 ey, .string sy] rfl rfl _ _ HN1.out.2.2.1 (by kernel_rfl) rfl (one4 _ _ _ _) ?_)
    have hP := (HN1.out.2.2.1.row (.int .i64 1) (.bool ny) (.int .i64 ey) (.string sy)).cells
    refine bodyPost_ret (results_num rfl _ _ rfl hP.1 hP.2.1 hP.2.2.1 hP.2.2.2.1) rfl ?_
    exact ⟨rfl, bel_row HN1.out.2.2.2 (by omega) _⟩
end Go.Proofs.YtnkoeidolmiheaaGreatDoor
namespace Go.Proofs.YtnkoeidolmiheaaGreatDoor
open Go.RowKit
set_option linter.unusedVariables false
set_option maxRecDepth 100000
/-- The sum of two numbers with one exponent: its sign and its digits' number. -/
def esN (nx : Bool) (x : Int) (ny : Bool) (y : Int) : Bool := if nx = ny then nx else if x < y then ny else nx
def esV (nx : Bool) (x : Int) (ny : Bool) (y : Int) : Int := if nx = ny then x + y else if x < y then y - x else x - y
theorem tn_sz (n : Int) : (tn n).size ≤ 4611686018427387904 := by have := tn_size n; omega
set_option maxRecDepth 100000 in
set_option maxHeartbeats 1000000 in
theorem evenSum_any (nx ny : Bool) (e x y : Int) (w : World) (hx : Nok x) (hy : Nok y) (hxy : Nok (x + y)) :
    Calls Tryz.prog 177 #[numV 1 nx e (tn x), numV 1 ny e (tn y)] w fun r w' => r = .returned (numV 1 (esN nx x ny y) e (tn (esV nx x ny y))) ∧ Below w.heap.size w w' := by
  have HN : Hid (N3 w 1 nx e (tn x) 1 ny e (tn y) (n3W w 1 nx e (tn x) 1 ny e (tn y))) := n3_new w 1 nx e (tn x) 1 ny e (tn y)
  by_cases hs : nx = ny
  · have E : Hid (esN nx x ny y = nx ∧ esV nx x ny y = x + y) := ⟨if_pos hs, if_pos hs⟩
    rw [E.out.1, E.out.2]
    have HA : Hid (∀ X, Calls Tryz.prog 143 #[.string (tn x), .string (tn y)] X fun e w' => e = .returned (.string (tn (x + y))) ∧ Below X.heap.size X w') := fun X => by
      have := iNatAdd_any (tn x) (tn y) X (tn_sz x) (tn_sz y)
      rwa [add_tn hx hy, fit_tn hxy] at this
    generalize tn (x + y) = T at *
    generalize tn x = S1 at *
    generalize tn y = S2 at *
    subst hs
    clear E hx hy hxy
    go_enter Tryz.func177, Tryz.ntmps177
    go_wp2_with fail
    refine (HA.out _).mono ?_
    rintro r w1 ⟨rfl, hb1⟩
    have HN1 : Hid (N3 w 1 nx e S1 1 nx e S2 w1) := HN.out.next hb1
    obtain ⟨a0, a1, a2, a3, a4⟩ := HN1.out.1.cells
    have HN2 : Hid (N3 w 1 nx e T 1 nx e S2 (w1.setCell ⟨w.heap.size, 3, none⟩ (.string T))) := HN1.out.x3 _
    clear hb1 HN HA
    go_wp2_with (refine wpList_store_row rfl 25 (.tmp 4) (.tmp 16) rfl (w.heap.size + 2) #[.int .i64 1, .bool nx, .int .i64 e, .string T] rfl rfl _ _ HN2.out.2.2.1 (by kernel_rfl) rfl (one4 _ _ _ _) ?_)
    have hP := (HN2.out.2.2.1.row (.int .i64 1) (.bool nx) (.int .i64 e) (.string T)).cells
    refine bodyPost_ret (results_num rfl _ _ rfl hP.1 hP.2.1 hP.2.2.1 hP.2.2.2.1) rfl ?_
    exact ⟨rfl, bel_row HN2.out.2.2.2 (by omega) _⟩
  · have hsb : (nx == ny) = false := beq_eq_false_iff_ne.2 hs
    have HC : Hid (∀ X, Calls Tryz.prog 142 #[.string (tn x), .string (tn y)] X fun e w' => e = .returned (.int .i64 (cmpI x y)) ∧ Below X.heap.size X w') := fun X => by
      have := iNatCmp_any (tn x) (tn y) X (tn_sz x) (tn_sz y)
      rwa [cmp_tn hx hy] at this
    by_cases hlt : x < y
    · have E : Hid (esN nx x ny y = ny ∧ esV nx x ny y = y - x) := ⟨by unfold esN; rw [if_neg hs, if_pos hlt], by unfold esV; rw [if_neg hs, if_pos hlt]⟩
      rw [E.out.1, E.out.2]
      have hc : cmpI x y = -1 := by unfold cmpI; rw [if_pos hlt]
      rw [hc] at HC
      have HA : Hid (∀ X, Calls Tryz.prog 146 #[.string (tn y), .string (tn x)] X fun e w' => e = .returned (.string (tn (y - x))) ∧ Below X.heap.size X w') := fun X => by
        have := iNatSub_any (tn y) (tn x) X (tn_sz y) (tn_sz x)
        rwa [sub_tn hy hx (by omega)] at this
      generalize tn (y - x) = T at *
      generalize tn x = S1 at *
      generalize tn y = S2 at *
      clear E hx hy hxy hlt hc hs
      go_enter Tryz.func177, Tryz.ntmps177
      go_wp2_with fail
      refine (HC.out _).mono ?_
      rintro r w1 ⟨rfl, hb1⟩
      have HN1 : Hid (N3 w 1 nx e S1 1 ny e S2 w1) := HN.out.next hb1
      obtain ⟨a0, a1, a2, a3, a4⟩ := HN1.out.1.cells
      obtain ⟨c0, c1, c2, c3, c4⟩ := HN1.out.2.1.cells
      have HN2 : Hid (N3 w 1 ny e S2 1 ny e S2 (w1.setRow w.heap.size #[.int .i64 1, .bool ny, .int .i64 e, .string S2])) := HN1.out.rowx _ _ _ _
      have HN3 : Hid (N3 w 1 ny e S2 1 nx e S1 ((w1.setRow w.heap.size #[.int .i64 1, .bool ny, .int .i64 e, .string S2]).setRow (w.heap.size + 1) #[.int .i64 1, .bool nx, .int .i64 e, .string S1])) := HN2.out.rowy _ _ _ _
      obtain ⟨g0, g1, g2, g3, g4⟩ := HN3.out.1.cells
      obtain ⟨k0, k1, k2, k3, k4⟩ := HN3.out.2.1.cells
      clear hb1 HN HC
      go_wp2_with (first | (refine wpList_store_row rfl 25 (.tmp 2) (.tmp 23) rfl w.heap.size #[.int .i64 1, .bool ny, .int .i64 e, .string S2] rfl rfl _ _ HN1.out.1 (by kernel_rfl) rfl (one4 _ _ _ _) ?_) | (refine wpList_store_row rfl 25 (.tmp 3) (.tmp 24) rfl (w.heap.size + 1) #[.int .i64 1, .bool nx, .int .i64 e, .string S1] rfl rfl _ _ HN2.out.2.1 (by kernel_rfl) rfl (one4 _ _ _ _) ?_))
      refine (HA.out _).mono ?_
      rintro r w2 ⟨rfl, hb2⟩
      have HN4 : Hid (N3 w 1 ny e S2 1 nx e S1 w2) := HN3.out.next hb2
      obtain ⟨a0, a1, a2, a3, a4⟩ := HN4.out.1.cells
      have HN5 : Hid (N3 w 1 ny e T 1 nx e S1 (w2.setCell ⟨w.heap.size, 3, none⟩ (.string T))) := HN4.out.x3 _
      clear hb2 HN1 HN2 HN3 HA g0 g1 g2 g3 g4 k0 k1 k2 k3 k4 c0 c1 c2 c3 c4
      go_wp2_with (refine wpList_store_row rfl 25 (.tmp 4) (.tmp 31) rfl (w.heap.size + 2) #[.int .i64 1, .bool ny, .int .i64 e, .string T] rfl rfl _ _ HN5.out.2.2.1 (by kernel_rfl) rfl (one4 _ _ _ _) ?_)
      have hP := (HN5.out.2.2.1.row (.int .i64 1) (.bool ny) (.int .i64 e) (.string T)).cells
      refine bodyPost_ret (results_num rfl _ _ rfl hP.1 hP.2.1 hP.2.2.1 hP.2.2.2.1) rfl ?_
      exact ⟨rfl, bel_row HN5.out.2.2.2 (by omega) _⟩
    · have E : Hid (esN nx x ny y = nx ∧ esV nx x ny y = x - y) := ⟨by unfold esN; rw [if_neg hs, if_neg hlt], by unfold esV; rw [if_neg hs, if_neg hlt]⟩
      rw [E.out.1, E.out.2]
      have hc : ¬ cmpI x y < 0 := by unfold cmpI; rw [if_neg hlt]; split <;> decide
      generalize cmpI x y = cc at *
      have HA : Hid (∀ X, Calls Tryz.prog 146 #[.string (tn x), .string (tn y)] X fun e w' => e = .returned (.string (tn (x - y))) ∧ Below X.heap.size X w') := fun X => by
        have := iNatSub_any (tn x) (tn y) X (tn_sz x) (tn_sz y)
        rwa [sub_tn hx hy (by omega)] at this
      generalize tn (x - y) = T at *
      generalize tn x = S1 at *
      generalize tn y = S2 at *
      clear E hx hy hxy hlt hs
      go_enter Tryz.func177, Tryz.ntmps177
      go_wp2_with fail
      refine (HC.out _).mono ?_
      rintro r w1 ⟨rfl, hb1⟩
      have HN1 : Hid (N3 w 1 nx e S1 1 ny e S2 w1) := HN.out.next hb1
      obtain ⟨a0, a1, a2, a3, a4⟩ := HN1.out.1.cells
      obtain ⟨c0, c1, c2, c3, c4⟩ := HN1.out.2.1.cells
      clear hb1 HN HC
      go_wp2_with fail
      refine (HA.out _).mono ?_
      rintro r w2 ⟨rfl, hb2⟩
      have HN4 : Hid (N3 w 1 nx e S1 1 ny e S2 w2) := HN1.out.next hb2
      clear a0 a1 a2 a3 a4
      obtain ⟨a0, a1, a2, a3, a4⟩ := HN4.out.1.cells
      have HN5 : Hid (N3 w 1 nx e T 1 ny e S2 (w2.setCell ⟨w.heap.size, 3, none⟩ (.string T))) := HN4.out.x3 _
      clear hb2 HN1 HA c0 c1 c2 c3 c4
      go_wp2_with (refine wpList_store_row rfl 25 (.tmp 4) (.tmp 31) rfl (w.heap.size + 2) #[.int .i64 1, .bool nx, .int .i64 e, .string T] rfl rfl _ _ HN5.out.2.2.1 (by kernel_rfl) rfl (one4 _ _ _ _) ?_)
      have hP := (HN5.out.2.2.1.row (.int .i64 1) (.bool nx) (.int .i64 e) (.string T)).cells
      refine bodyPost_ret (results_num rfl _ _ rfl hP.1 hP.2.1 hP.2.2.1 hP.2.2.2.1) rfl ?_
      exact ⟨rfl, bel_row HN5.out.2.2.2 (by omega) _⟩
end Go.Proofs.YtnkoeidolmiheaaGreatDoor
namespace Go.Proofs.YtnkoeidolmiheaaGreatDoor
open Go.RowKit
set_option linter.unusedVariables false
set_option maxRecDepth 100000
/-- The sum as the program takes it: the first number's exponent is not below the other's. -/
def sgF (p ex : Int) (y : Int) (ey : Int) : Bool := farB p ex (tn y).size ey
def sgE (p ex : Int) (y ey : Int) : Int := if sgF p ex y ey then ex - p - 1 else ey
def sgY (p ex : Int) (y ey : Int) : Int := if sgF p ex y ey then 1 else y
def sgX (p ex x y ey : Int) : Int := x * 10 ^ (ex - sgE p ex y ey).toNat
set_option maxRecDepth 100000 in
set_option maxHeartbeats 2000000 in
theorem sumFor_far (f : Int) (nx : Bool) (ex x : Int) (ny : Bool) (ey y : Int) (w : World) (hp : 0 ≤ limP f ∧ limP f ≤ 34) (hx : Nok x) (hy : Nok y) (hx0 : x ≠ 0) (hy0 : y ≠ 0) (hex : -20000 ≤ ex ∧ ex ≤ 20000) (hey : -20000 ≤ ey ∧ ey ≤ 20000) (hge : ¬ ex < ey)
    (hE : 0 ≤ ex - sgE (limP f) ex y ey ∧ ex - sgE (limP f) ex y ey ≤ 200) (hX : Nok (sgX (limP f) ex x y ey)) (hS : Nok (sgX (limP f) ex x y ey + sgY (limP f) ex y ey)) :
    Calls Tryz.prog 147 #[.int .i64 f, numV 1 nx ex (tn x), numV 1 ny ey (tn y)] w fun r w' => r = .returned (numV 1 (esN nx (sgX (limP f) ex x y ey) ny (sgY (limP f) ex y ey)) (sgE (limP f) ex y ey) (tn (esV nx (sgX (limP f) ex x y ey) ny (sgY (limP f) ex y ey)))) ∧ Below w.heap.size w w' := by
  have HN : Hid (N3 w 1 nx ex (tn x) 1 ny ey (tn y) (n3W w 1 nx ex (tn x) 1 ny ey (tn y))) := n3_new w 1 nx ex (tn x) 1 ny ey (tn y)
  have HZ1 : Hid (∀ X, Calls Tryz.prog 48 #[numV 1 nx ex (tn x)] X fun r w' => r = .returned (.bool false) ∧ Below X.heap.size X w') := fun X => by
    have := isNought_fin nx ex x X hx
    rwa [decide_eq_false hx0] at this
  have HZ2 : Hid (∀ X, Calls Tryz.prog 48 #[numV 1 ny ey (tn y)] X fun r w' => r = .returned (.bool false) ∧ Below X.heap.size X w') := fun X => by
    have := isNought_fin ny ey y X hy
    rwa [decide_eq_false hy0] at this
  have HW : Hid (∀ X, Calls Tryz.prog 176 #[.int .i64 f, numV 1 nx ex (tn x), numV 1 ny ey (tn y)] X fun r w' => r = .returned (numV 1 ny (sgE (limP f) ex y ey) (tn (sgY (limP f) ex y ey))) ∧ Below X.heap.size X w') := fun X => by
    have := withinReach_any f 1 nx ex (tn x) ny ey (tn y) X hex hey (by rw [show (tn y).size = (nt y).length from tx_size _]; have := nok_len hy; omega) hp
    have e : (if farB (limP f) ex (tn y).size ey then ({ data := #[49] } : ByteArray) else tn y) = tn (sgY (limP f) ex y ey) := by
      unfold sgY sgF
      split
      · have : nt 1 = [1] := (nt_of [1] 1 (canon_one 1 (by decide) (by decide)) rfl (by decide)).symm
        unfold tn; rw [this]; exact tx_1.symm
      · rfl
    rw [e] at this
    exact this
  have hyk : Nok (sgY (limP f) ex y ey) := by
    unfold sgY
    split
    · exact ⟨by decide, Int.lt_of_lt_of_le (by decide : (1 : Int) < 10 ^ 1) (pow_mono 1 200 (by decide))⟩
    · exact hy
  generalize hsy : sgY (limP f) ex y ey = Y at *
  generalize hsx : sgX (limP f) ex x y ey = X1 at *
  generalize hse : sgE (limP f) ex y ey = E1 at *
  have HSh : Hid (∀ X, Calls Tryz.prog 54 #[.string (tn x), .int .i64 (ex - E1)] X fun r w' => r = .returned (.string (tn X1)) ∧ Below X.heap.size X w') := fun X => by
    have := iNatShift_any (tn x) (ex - E1) X (tn_sz x)
    have es : shiftS (tn x) (ex - E1) = tn X1 := by
      unfold shiftS
      have e1 : x * 10 ^ (ex - E1).toNat = X1 := by rw [← hsx]; unfold sgX; rw [hse]
      rw [tn_ok hx, decide_eq_true hE.1, decide_eq_true hE.2, nv_tn hx, e1, fit_tn hX]
      rfl
    rwa [es] at this
  have HES : Hid (∀ X, Calls Tryz.prog 177 #[numV 1 nx E1 (tn X1), numV 1 ny E1 (tn Y)] X fun r w' => r = .returned (numV 1 (esN nx X1 ny Y) E1 (tn (esV nx X1 ny Y))) ∧ Below X.heap.size X w') := fun X => evenSum_any nx ny E1 X1 Y X hX hyk hS
  have hwE : IntKind.i64.wrap (ex - E1) = ex - E1 := by rw [IntKind.wrap_i64]; omega
  generalize esN nx X1 ny Y = RN at *
  generalize tn (esV nx X1 ny Y) = RT at *
  generalize tn X1 = TX at *
  generalize tn Y = TY at *
  generalize tn x = S1 at *
  generalize tn y = S2 at *
  clear hsy hsx hse hx hy hx0 hy0 hex hey hE hX hS hp hyk
  go_enter Tryz.func147, Tryz.ntmps147
  go_wp2_with fail
  refine (HZ1.out _).mono ?_
  rintro r w1 ⟨rfl, hb1⟩
  have HN1 : Hid (N3 w 1 nx ex S1 1 ny ey S2 w1) := HN.out.next hb1
  obtain ⟨c0, c1, c2, c3, c4⟩ := HN1.out.2.1.cells
  clear hb1 HN HZ1
  go_wp2_with fail
  refine (HZ2.out _).mono ?_
  rintro r w2 ⟨rfl, hb2⟩
  have HN2 : Hid (N3 w 1 nx ex S1 1 ny ey S2 w2) := HN1.out.next hb2
  clear hb2 HN1 HZ2 c0 c1 c2 c3 c4
  obtain ⟨a0, a1, a2, a3, a4⟩ := HN2.out.1.cells
  obtain ⟨c0, c1, c2, c3, c4⟩ := HN2.out.2.1.cells
  go_wp2_with fail
  refine (HW.out _).mono ?_
  rintro r w3 ⟨rfl, hb3⟩
  have HN3 : Hid (N3 w 1 nx ex S1 1 ny ey S2 w3) := HN2.out.next hb3
  have HN4 : Hid (N3 w 1 nx ex S1 1 ny E1 TY (w3.setRow (w.heap.size + 1) #[.int .i64 1, .bool ny, .int .i64 E1, .string TY])) := HN3.out.rowy _ _ _ _
  have HA3 : Hid (At4r w3 (w.heap.size + 1) (.int .i64 1) (.bool ny) (.int .i64 ey) (.string S2)) := HN3.out.2.1
  clear hb3 HN2 HN3 HW a0 a1 a2 a3 a4 c0 c1 c2 c3 c4
  go_wp2_with (refine wpList_store_row rfl 25 (.tmp 5) (.tmp 28) rfl (w.heap.size + 1) #[.int .i64 1, .bool ny, .int .i64 E1, .string TY] rfl rfl _ _ HA3.out (by kernel_rfl) rfl (one4 _ _ _ _) ?_)
  generalize w3.setRow (w.heap.size + 1) #[.int .i64 1, .bool ny, .int .i64 E1, .string TY] = w4 at *
  have HX0 : Hid (Below w4.heap.size w4 w4.drew) := (Below.refl _ _).drew
  clear HA3
  refine wp_region_tail (C := fun W => Below w4.heap.size w4 W) 11 (by kernel_rfl) (by kernel_rfl) HX0.out ?_
  simp only [List.take_succ_cons, List.take_zero, List.drop_succ_cons, List.drop_zero]
  repeat (refine wpQuiet_step (fun K hK => ?_); go_simp; first | (refine hK _ ?_; clear hK K) | (apply Exists.intro; refine ⟨fun wx hC => ?_, hK _ ?_⟩; (first | exact rfl | exact Calls.class_of (HSh.out wx) (fun w' hb => bel1 hC hb) | (obtain ⟨a0, a1, a2, a3, a4⟩ := (HN4.out.next hC).1.cells; go_simp; exact rfl) | (obtain ⟨a0, a1, a2, a3, a4⟩ := (HN4.out.next hC).2.1.cells; go_simp; exact rfl)); clear hK K))
  refine wpQuiet_nil ?_
  intro w5 hb5
  have HN5 : Hid (N3 w 1 nx ex S1 1 ny E1 TY w5) := HN4.out.next hb5
  have HN6 : Hid (N3 w 1 nx E1 TX 1 ny E1 TY ((w5.setCell ⟨w.heap.size, 2, none⟩ (.int .i64 E1)).setCell ⟨w.heap.size, 3, none⟩ (.string TX))) := (HN5.out.x2 _).x3 _
  obtain ⟨a0, a1, a2, a3, a4⟩ := HN5.out.1.cells
  obtain ⟨c0, c1, c2, c3, c4⟩ := HN5.out.2.1.cells
  clear hb5 HN4 HSh HX0
  go_wp2_with fail
  refine (HES.out _).mono ?_
  rintro r w6 ⟨rfl, hb6⟩
  have HN7 : Hid (N3 w 1 nx E1 TX 1 ny E1 TY w6) := HN6.out.next hb6
  clear hb6 HN5 HN6 HES a0 a1 a2 a3 a4 c0 c1 c2 c3 c4
  go_wp2_with (refine wpList_store_row rfl 25 (.tmp 6) (.tmp 43) rfl (w.heap.size + 2) #[.int .i64 1, .bool RN, .int .i64 E1, .string RT] rfl rfl _ _ HN7.out.2.2.1 (by kernel_rfl) rfl (one4 _ _ _ _) ?_)
  have hP := (HN7.out.2.2.1.row (.int .i64 1) (.bool RN) (.int .i64 E1) (.string RT)).cells
  refine bodyPost_ret (results_num rfl _ _ rfl hP.1 hP.2.1 hP.2.2.1 hP.2.2.2.1) rfl ?_
  exact ⟨rfl, bel_row HN7.out.2.2.2 (by omega) _⟩
end Go.Proofs.YtnkoeidolmiheaaGreatDoor
namespace Go.Proofs.YtnkoeidolmiheaaGreatDoor
open Go.RowKit
set_option linter.unusedVariables false
set_option maxRecDepth 100000
/-- The last infinity among the first numbers. -/
def tiA (K : Nat → Int) (B : Nat → Bool) (E : Nat → Int) (S : Nat → ByteArray) : Nat → Int × Bool × Int × ByteArray
  | 0 => (0, false, 0, { data := #[] })
  | j + 1 => if K j = 2 then (K j, B j, E j, S j) else tiA K B E S j
/-- Infinities of unlike signs. -/
def tiC (K : Nat → Int) (B : Nat → Bool) (E : Nat → Int) (S : Nat → ByteArray) (j : Nat) : Prop := K j = 2 ∧ (tiA K B E S j).1 = 2 ∧ (tiA K B E S j).2.1 ≠ B j
/-- Are there such ones among the first numbers? -/
def tiX (K : Nat → Int) (B : Nat → Bool) (E : Nat → Int) (S : Nat → ByteArray) : Nat → Bool
  | 0 => false
  | j + 1 => tiX K B E S j || (decide (K j = 2) && (decide ((tiA K B E S j).1 = 2) && !((tiA K B E S j).2.1 == B j)))
theorem tiX_iff (K : Nat → Int) (B : Nat → Bool) (E : Nat → Int) (S : Nat → ByteArray) (n : Nat) : tiX K B E S n = true ↔ ∃ j, j < n ∧ tiC K B E S j := by
  induction n with
  | zero => simp [tiX]
  | succ n ih =>
    unfold tiX
    rw [Bool.or_eq_true, ih]
    constructor
    · rintro (⟨j, hj, hc⟩ | h)
      · exact ⟨j, by omega, hc⟩
      · simp only [Bool.and_eq_true, decide_eq_true_eq, Bool.not_eq_true', beq_eq_false_iff_ne] at h
        exact ⟨n, by omega, h.1, h.2.1, h.2.2⟩
    · rintro ⟨j, hj, hc⟩
      by_cases c : j < n
      · exact .inl ⟨j, c, hc⟩
      · obtain rfl : j = n := by omega
        refine .inr ?_
        simp only [Bool.and_eq_true, decide_eq_true_eq, Bool.not_eq_true', beq_eq_false_iff_ne]
        exact ⟨hc.1, hc.2.1, hc.2.2⟩
/-- How throwInfinity ends. -/
def tiE (n : Nat) (K : Nat → Int) (B : Nat → Bool) (E : Nat → Int) (S : Nat → ByteArray) : Ending :=
  if tiX K B E S n then thrown (rsV 3 false 0 { data := #[] } 1) else if (tiA K B E S n).1 = 2 then thrown (rsV (tiA K B E S n).1 (tiA K B E S n).2.1 (tiA K B E S n).2.2.1 (tiA K B E S n).2.2.2 0) else .returned (.tuple #[])
theorem build_num0 (w : World) : (Instr.build 25 #[]).run Tryz.prog w = .ok (numV 0 false 0 { data := #[] }) w := run_build w _ _ _ (by kernel_rfl)
set_option maxRecDepth 100000 in
set_option maxHeartbeats 2000000 in
theorem throwInfinity_any (n g : Nat) (K : Nat → Int) (B : Nat → Bool) (E : Nat → Int) (S : Nat → ByteArray) (w : World) (hn : n ≤ 3) (hg : g < w.heap.size) (hr : NRw w g n K B E S) :
    Calls Tryz.prog 50 #[.slice (some ⟨g, 0, none⟩) n n] w fun x w' => x = tiE n K B E S ∧ Below w.heap.size w w' := by
  have HR : Hid (NRw w g n K B E S ∧ g < w.heap.size) := ⟨hr, hg⟩
  clear hr hg
  obtain ⟨R, hR⟩ : ∃ R, tiE n K B E S = R := ⟨_, rfl⟩
  have HRe : Hid (tiE n K B E S = R) := hR
  rw [hR]
  clear hR
  have hb0 := build_num0
  have HZ : Hid (At4r (w.alloc (.cells #[.int .i64 0, .bool false, .int .i64 0, .string { data := #[] }] 25)) w.heap.size (.int .i64 0) (.bool false) (.int .i64 0) (.string { data := #[] }) ∧ Below w.heap.size w (w.alloc (.cells #[.int .i64 0, .bool false, .int .i64 0, .string { data := #[] }] 25))) := ⟨at4r_new w _ _ _ _, (Below.refl _ _).alloc (Nat.le_refl _) _⟩
  go_enter Tryz.func50, Tryz.ntmps50
  go_wp2
  go_loopw [8] (fun s wr => ∃ j : Nat, j ≤ n ∧ s = .int .i64 j ∧ Hid (∀ i, i < j → ¬ tiC K B E S i) ∧ Hid (At4r wr w.heap.size (.int .i64 (tiA K B E S j).1) (.bool (tiA K B E S j).2.1) (.int .i64 (tiA K B E S j).2.2.1) (.string (tiA K B E S j).2.2.2) ∧ Below w.heap.size w wr)) (fun s _ => n - (intOf s).toNat)
  case atStart => exact ⟨0, Nat.zero_le _, rfl, fun i hi => by omega, HZ⟩
  case round =>
    obtain ⟨j, hj, rfl, hA, hBw⟩ := hrel
    by_cases hlt : j < n
    · obtain ⟨q0, q1, q2, q3⟩ := (HR.out.1.below hBw.out.2 HR.out.2) j hlt
      have hlt' : (j : Int) < (n : Int) := by omega
      obtain ⟨k0, hk0⟩ : ∃ k0, K j = k0 := ⟨_, rfl⟩
      obtain ⟨b0, hb0'⟩ : ∃ b0, B j = b0 := ⟨_, rfl⟩
      obtain ⟨e0, he0⟩ : ∃ e0, E j = e0 := ⟨_, rfl⟩
      obtain ⟨s0, hs0⟩ : ∃ s0, S j = s0 := ⟨_, rfl⟩
      have HK : Hid (K j = k0 ∧ B j = b0 ∧ E j = e0 ∧ S j = s0) := ⟨hk0, hb0', he0, hs0⟩
      obtain ⟨⟨tk, tb, te, ts⟩, hT⟩ : ∃ T, tiA K B E S j = T := ⟨_, rfl⟩
      have HT : Hid (tiA K B E S j = (tk, tb, te, ts)) := hT
      rw [hT] at hBw
      rw [hk0] at q0
      rw [hb0'] at q1
      rw [he0] at q2
      rw [hs0] at q3
      clear hk0 hb0' he0 hs0 hT
      have HBw : Hid (At4r wr w.heap.size (.int .i64 tk) (.bool tb) (.int .i64 te) (.string ts) ∧ Below w.heap.size w wr) := hBw
      clear hBw
      -- the number's own copy lies in a new block
      have HC : Hid (∀ o, At4r (wr.alloc o) w.heap.size (.int .i64 tk) (.bool tb) (.int .i64 te) (.string ts) ∧ Below w.heap.size w (wr.alloc o)) := fun o => ⟨HBw.out.1.next ((Below.refl _ _).alloc (Nat.le_refl _) _), HBw.out.2.alloc HBw.out.2.size _⟩
      by_cases h2 : k0 = 2
      · subst h2
        obtain ⟨c0, c1, c2, c3, c4⟩ := (HC.out (.cells #[.int .i64 2, .bool b0, .int .i64 e0, .string s0] 25)).1.cells
        have HC2 : Hid (At4r (wr.alloc (.cells #[.int .i64 2, .bool b0, .int .i64 e0, .string s0] 25)) w.heap.size (.int .i64 tk) (.bool tb) (.int .i64 te) (.string ts) ∧ Below w.heap.size w (wr.alloc (.cells #[.int .i64 2, .bool b0, .int .i64 e0, .string s0] 25))) := HC.out _
        have HN2 : Hid (tiA K B E S (j + 1) = (2, b0, e0, s0)) := by show _ = _; unfold tiA; rw [HK.out.1, HK.out.2.1, HK.out.2.2.1, HK.out.2.2.2, if_pos rfl]
        by_cases ht : tk = 2
        · subst ht
          by_cases hbb : tb = b0
          · have hbb' : (tb == b0) = true := by rw [hbb]; exact beq_self_eq_true _
            have HA2 : Hid (∀ i, i < j + 1 → ¬ tiC K B E S i) := fun i hi => by
              by_cases c : i < j
              · exact hA.out i c
              · obtain rfl : i = j := by omega
                rintro ⟨-, -, q⟩
                rw [HT.out, HK.out.2.1] at q
                exact q hbb
            clear hbb hA HC
            go_wp2_with (refine wpList_store_row rfl 25 (.tmp 2) (.tmp 27) rfl w.heap.size #[.int .i64 2, .bool b0, .int .i64 e0, .string s0] rfl rfl _ _ HC2.out.1 (by kernel_rfl) rfl (one4 _ _ _ _) ?_)
            go_roundw
            case rel => exact ⟨j + 1, by omega, by go_num, HA2, by rw [HN2.out]; exact ⟨HC2.out.1.row _ _ _ _, bel_row HC2.out.2 (Nat.le_refl _) _⟩⟩
            case measure => simp [intOf]; omega
          · have hbb' : (tb == b0) = false := beq_eq_false_iff_ne.2 hbb
            have E0 : Hid (R = thrown (rsV 3 false 0 { data := #[] } 1)) := by
              show _ = _
              rw [← HRe.out]
              exact if_pos ((tiX_iff K B E S n).2 ⟨j, hlt, HK.out.1, by rw [HT.out], by rw [HT.out, HK.out.2.1]; exact hbb⟩)
            clear hbb hA HC
            go_wp2_with fail
            refine (iInvalid_any _).mono ?_
            rintro x w4 ⟨rfl, hb4⟩
            go_wp2
            exact ⟨rfl, by rw [E0.out], HC2.out.2.trans (hb4.mono HC2.out.2.size)⟩
        · have ht' : (tk == 2) = false := beq_eq_false_iff_ne.2 ht
          have HA2 : Hid (∀ i, i < j + 1 → ¬ tiC K B E S i) := fun i hi => by
            by_cases c : i < j
            · exact hA.out i c
            · obtain rfl : i = j := by omega
              rintro ⟨-, q, -⟩
              rw [HT.out] at q
              exact ht q
          clear ht hA HC
          go_wp2_with (refine wpList_store_row rfl 25 (.tmp 2) (.tmp 27) rfl w.heap.size #[.int .i64 2, .bool b0, .int .i64 e0, .string s0] rfl rfl _ _ HC2.out.1 (by kernel_rfl) rfl (one4 _ _ _ _) ?_)
          go_roundw
          case rel => exact ⟨j + 1, by omega, by go_num, HA2, by rw [HN2.out]; exact ⟨HC2.out.1.row _ _ _ _, bel_row HC2.out.2 (Nat.le_refl _) _⟩⟩
          case measure => simp [intOf]; omega
      · have h2' : (k0 == 2) = false := beq_eq_false_iff_ne.2 h2
        have HN2 : Hid (tiA K B E S (j + 1) = (tk, tb, te, ts)) := by show _ = _; unfold tiA; rw [HK.out.1, if_neg h2]; exact HT.out
        have HA2 : Hid (∀ i, i < j + 1 → ¬ tiC K B E S i) := fun i hi => by
          by_cases c : i < j
          · exact hA.out i c
          · obtain rfl : i = j := by omega
            rintro ⟨q, -, -⟩
            rw [HK.out.1] at q
            exact h2 q
        clear h2 hA
        go_wp2
        go_roundw
        case rel => exact ⟨j + 1, by omega, by go_num, HA2, by rw [HN2.out]; exact HC.out _⟩
        case measure => simp [intOf]; omega
    · obtain rfl : j = n := by omega
      obtain ⟨⟨tk, tb, te, ts⟩, hT⟩ : ∃ T, tiA K B E S j = T := ⟨_, rfl⟩
      have HT : Hid (tiA K B E S j = (tk, tb, te, ts)) := hT
      rw [hT] at hBw
      clear hT
      have HBw : Hid (At4r wr w.heap.size (.int .i64 tk) (.bool tb) (.int .i64 te) (.string ts) ∧ Below w.heap.size w wr) := hBw
      obtain ⟨c0, c1, c2, c3, c4⟩ := hBw.out.1.cells
      clear hBw
      have hno : ¬ tiX K B E S j = true := by rw [tiX_iff]; rintro ⟨i, hi, hc⟩; exact hA.out i hi hc
      by_cases ht : tk = 2
      · subst ht
        have E0 : Hid (R = thrown (rsV 2 tb te ts 0)) := by
          show _ = _
          rw [← HRe.out]
          unfold tiE
          rw [if_neg hno, HT.out]
          rfl
        clear hno hA
        have b2 := build_res0 2 tb te ts
        have b3 := build_sp 2 tb te ts 0
        go_wp2
        exact ⟨rfl, by rw [E0.out], HBw.out.2⟩
      · have ht' : (tk == 2) = false := beq_eq_false_iff_ne.2 ht
        have E0 : Hid (R = .returned (.tuple #[])) := by
          show _ = _
          rw [← HRe.out]
          unfold tiE
          rw [if_neg hno, HT.out]
          exact if_neg ht
        clear hno hA ht
        go_wp2
        first | go_end0 | refine bodyPost_ret (results_none rfl _ _ _) rfl ?_
        exact ⟨by rw [E0.out], HBw.out.2⟩
end Go.Proofs.YtnkoeidolmiheaaGreatDoor
