/-
  Sums of the program: noughts, numbers in reach, sums with one exponent, walked.
-/
import Derived.Test.YtmndemegiimagarGreatDoorPsd
import Derived.Test.YtmndemegiimagarGreatDoorBx4r
import Derived.Test.YtmndemegiimagarGreatDoorNaz
import Derived.Test.YtmndemegiimagarGreatDoorNtL
import Derived.Test.YtmndemegiimagarGreatDoorLmt
namespace Go.Proofs.YtmndemegiimagarGreatDoor
open Go.RowKit
set_option linter.unusedVariables false
set_option maxRecDepth 100000
theorem isNought_fin (b : Bool) (e v : Int) (w : World) (h : Nok v) : Calls Tryz.prog 62 #[numV 1 b e (tn v)] w fun x w' => x = .returned (.bool (decide (v = 0))) ∧ Below w.heap.size w w' := by
  by_cases hz : v = 0
  · subst hz
    have h0 : ((tn 0).toList == [48]) = true := by rw [tn_0]; rfl
    go_enter Tryz.func62, Tryz.ntmps62
    go_wp2
    go_ret
    exact ⟨rfl, (Below.refl _ _).alloc (Nat.le_refl _) _⟩
  · have h0 := tn_is0 h hz
    rw [decide_eq_false hz]
    clear hz
    go_enter Tryz.func62, Tryz.ntmps62
    go_wp2
    go_ret
    exact ⟨rfl, (Below.refl _ _).alloc (Nat.le_refl _) _⟩
theorem isNought_inf (b : Bool) (e : Int) (s : ByteArray) (w : World) : Calls Tryz.prog 62 #[numV 2 b e s] w fun x w' => x = .returned (.bool false) ∧ Below w.heap.size w w' := by
  go_enter Tryz.func62, Tryz.ntmps62
  go_wp2
  go_ret
  exact ⟨rfl, (Below.refl _ _).alloc (Nat.le_refl _) _⟩
/-- Two numbers' boxes and a result's. -/
abbrev n3W (w : World) (kx : Int) (nx : Bool) (ex : Int) (sx : ByteArray) (ky : Int) (ny : Bool) (ey : Int) (sy : ByteArray) : World := ((w.alloc (.cells #[.int .i64 kx, .bool nx, .int .i64 ex, .string sx] 25)).alloc (.cells #[.int .i64 ky, .bool ny, .int .i64 ey, .string sy] 25)).alloc (.cells #[.int .i64 0, .bool false, .int .i64 0, .string { data := #[] }] 25)
/-- What lies in them. -/
def N3 (w : World) (kx : Int) (nx : Bool) (ex : Int) (sx : ByteArray) (ky : Int) (ny : Bool) (ey : Int) (sy : ByteArray) (W : World) : Prop :=
  At4r W w.heap.size (.int .i64 kx) (.bool nx) (.int .i64 ex) (.string sx) ∧ At4r W (w.heap.size + 1) (.int .i64 ky) (.bool ny) (.int .i64 ey) (.string sy) ∧ At4r W (w.heap.size + 2) (.int .i64 0) (.bool false) (.int .i64 0) (.string { data := #[] }) ∧ Below w.heap.size w W
theorem n3_new (w : World) (kx : Int) (nx : Bool) (ex : Int) (sx : ByteArray) (ky : Int) (ny : Bool) (ey : Int) (sy : ByteArray) : N3 w kx nx ex sx ky ny ey sy (n3W w kx nx ex sx ky ny ey sy) := by
  unfold n3W
  have h1 := at4r_new w (.int .i64 kx) (.bool nx) (.int .i64 ex) (.string sx)
  have z1 := new_size w (.cells #[.int .i64 kx, .bool nx, .int .i64 ex, .string sx] 25)
  have b1 : Below w.heap.size w (w.alloc (.cells #[.int .i64 kx, .bool nx, .int .i64 ex, .string sx] 25)) := (Below.refl _ _).alloc (Nat.le_refl _) _
  generalize w.alloc (.cells #[.int .i64 kx, .bool nx, .int .i64 ex, .string sx] 25) = w1 at *
  have h2 := at4r_new w1 (.int .i64 ky) (.bool ny) (.int .i64 ey) (.string sy)
  have z2 := new_size w1 (.cells #[.int .i64 ky, .bool ny, .int .i64 ey, .string sy] 25)
  have b2 : Below w1.heap.size w1 (w1.alloc (.cells #[.int .i64 ky, .bool ny, .int .i64 ey, .string sy] 25)) := (Below.refl _ _).alloc (Nat.le_refl _) _
  generalize w1.alloc (.cells #[.int .i64 ky, .bool ny, .int .i64 ey, .string sy] 25) = w2 at *
  have h3 := at4r_new w2 (.int .i64 0) (.bool false) (.int .i64 0) (.string { data := #[] })
  have b3 : Below w2.heap.size w2 (w2.alloc (.cells #[.int .i64 0, .bool false, .int .i64 0, .string { data := #[] }] 25)) := (Below.refl _ _).alloc (Nat.le_refl _) _
  rw [z2, z1] at h3
  rw [z1] at h2
  have h2' := h2.next b3
  exact ⟨(h1.next b2).next b3, h2', h3, (b1.trans (b2.mono b1.size)).trans (b3.mono (b1.trans (b2.mono b1.size)).size)⟩
theorem N3.next {w W W' : World} {kx : Int} {nx : Bool} {ex : Int} {sx : ByteArray} {ky : Int} {ny : Bool} {ey : Int} {sy : ByteArray} (h : N3 w kx nx ex sx ky ny ey sy W) (hb : Below W.heap.size W W') : N3 w kx nx ex sx ky ny ey sy W' :=
  ⟨h.1.next hb, h.2.1.next hb, h.2.2.1.next hb, h.2.2.2.trans (hb.mono h.2.2.2.size)⟩
theorem At4r.set2 {w : World} {b : Nat} {x y z u : Value} (h : At4r w b x y z u) (z' : Value) : At4r (w.setCell ⟨b, 2, none⟩ z') b x y z' u := by
  unfold At4r at *
  simp [World.setCell, Array.getElem?_modify, h]
theorem At4r.set3 {w : World} {b : Nat} {x y z u : Value} (h : At4r w b x y z u) (u' : Value) : At4r (w.setCell ⟨b, 3, none⟩ u') b x y z u' := by
  unfold At4r at *
  simp [World.setCell, Array.getElem?_modify, h]
theorem At4r.set1 {w : World} {b : Nat} {x y z u : Value} (h : At4r w b x y z u) (y' : Value) : At4r (w.setCell ⟨b, 1, none⟩ y') b x y' z u := by
  unfold At4r at *
  simp [World.setCell, Array.getElem?_modify, h]
theorem At4r.far {w : World} {b c : Nat} {x y z u : Value} (h : At4r w b x y z u) (hc : c ≠ b) (i : Nat) (v : Value) : At4r (w.setCell ⟨c, i, none⟩ v) b x y z u := by
  unfold At4r at *
  simp [World.setCell, Array.getElem?_modify, h, hc]
/-- One store into the first number, or the second. -/
theorem N3.x2 {w W : World} {kx : Int} {nx : Bool} {ex : Int} {sx : ByteArray} {ky : Int} {ny : Bool} {ey : Int} {sy : ByteArray} (h : N3 w kx nx ex sx ky ny ey sy W) (e' : Int) : N3 w kx nx e' sx ky ny ey sy (W.setCell ⟨w.heap.size, 2, none⟩ (.int .i64 e')) :=
  ⟨h.1.set2 _, h.2.1.far (by omega) _ _, h.2.2.1.far (by omega) _ _, h.2.2.2.setCell (Nat.le_refl _) _⟩
theorem N3.x3 {w W : World} {kx : Int} {nx : Bool} {ex : Int} {sx : ByteArray} {ky : Int} {ny : Bool} {ey : Int} {sy : ByteArray} (h : N3 w kx nx ex sx ky ny ey sy W) (s' : ByteArray) : N3 w kx nx ex s' ky ny ey sy (W.setCell ⟨w.heap.size, 3, none⟩ (.string s')) :=
  ⟨h.1.set3 _, h.2.1.far (by omega) _ _, h.2.2.1.far (by omega) _ _, h.2.2.2.setCell (Nat.le_refl _) _⟩
theorem N3.y2 {w W : World} {kx : Int} {nx : Bool} {ex : Int} {sx : ByteArray} {ky : Int} {ny : Bool} {ey : Int} {sy : ByteArray} (h : N3 w kx nx ex sx ky ny ey sy W) (e' : Int) : N3 w kx nx ex sx ky ny e' sy (W.setCell ⟨w.heap.size + 1, 2, none⟩ (.int .i64 e')) :=
  ⟨h.1.far (by omega) _ _, h.2.1.set2 _, h.2.2.1.far (by omega) _ _, h.2.2.2.setCell (show w.heap.size ≤ w.heap.size + 1 by omega) _⟩
theorem N3.y3 {w W : World} {kx : Int} {nx : Bool} {ex : Int} {sx : ByteArray} {ky : Int} {ny : Bool} {ey : Int} {sy : ByteArray} (h : N3 w kx nx ex sx ky ny ey sy W) (s' : ByteArray) : N3 w kx nx ex sx ky ny ey s' (W.setCell ⟨w.heap.size + 1, 3, none⟩ (.string s')) :=
  ⟨h.1.far (by omega) _ _, h.2.1.set3 _, h.2.2.1.far (by omega) _ _, h.2.2.2.setCell (show w.heap.size ≤ w.heap.size + 1 by omega) _⟩
theorem N3.rowx {w W : World} {kx : Int} {nx : Bool} {ex : Int} {sx : ByteArray} {ky : Int} {ny : Bool} {ey : Int} {sy : ByteArray} (h : N3 w kx nx ex sx ky ny ey sy W) (k' : Int) (n' : Bool) (e' : Int) (s' : ByteArray) : N3 w k' n' e' s' ky ny ey sy (W.setRow w.heap.size #[.int .i64 k', .bool n', .int .i64 e', .string s']) :=
  ⟨h.1.row _ _ _ _, h.2.1.other (by omega) _, h.2.2.1.other (by omega) _, bel_row h.2.2.2 (Nat.le_refl _) _⟩
theorem N3.rowy {w W : World} {kx : Int} {nx : Bool} {ex : Int} {sx : ByteArray} {ky : Int} {ny : Bool} {ey : Int} {sy : ByteArray} (h : N3 w kx nx ex sx ky ny ey sy W) (k' : Int) (n' : Bool) (e' : Int) (s' : ByteArray) : N3 w kx nx ex sx k' n' e' s' (W.setRow (w.heap.size + 1) #[.int .i64 k', .bool n', .int .i64 e', .string s']) :=
  ⟨h.1.other (by omega) _, h.2.1.row _ _ _ _, h.2.2.1.other (by omega) _, bel_row h.2.2.2 (by omega) _⟩
/-- Is the second number far below the first? -/
def farB (p : Int) (ex : Int) (n : Nat) (ey : Int) : Bool := decide (ey + n ≤ ex - p - 1)
set_option maxRecDepth 100000 in
set_option maxHeartbeats 1000000 in
theorem withinReach_any (f : Int) (kx : Int) (nx : Bool) (ex : Int) (sx : ByteArray) (ny : Bool) (ey : Int) (sy : ByteArray) (w : World) (hx : -20000 ≤ ex ∧ ex ≤ 20000) (hy : -20000 ≤ ey ∧ ey ≤ 20000) (hs : sy.size ≤ 300) (hp : 0 ≤ limP f ∧ limP f ≤ 34) :
    Calls Tryz.prog 112 #[.int .i64 f, numV kx nx ex sx, numV 1 ny ey sy] w fun x w' => x = .returned (numV 1 ny (if farB (limP f) ex sy.size ey then ex - limP f - 1 else ey) (if farB (limP f) ex sy.size ey then { data := #[49] } else sy)) ∧ Below w.heap.size w w' := by
  have HN : Hid (N3 w kx nx ex sx 1 ny ey sy (n3W w kx nx ex sx 1 ny ey sy)) := n3_new w kx nx ex sx 1 ny ey sy
  have HLm : Hid (∀ X, Calls Tryz.prog 86 #[.int .i64 f] X fun e w' => e = .returned (.tuple #[.int .i64 (limP f), .int .i64 (limL f), .int .i64 (limH f)]) ∧ Below X.heap.size X w') := fun X => iLimits_any f X
  generalize limL f = L0 at *
  generalize limH f = H0 at *
  generalize limP f = P at *
  have hw1 : IntKind.i64.wrap (ex - P) = ex - P := by rw [IntKind.wrap_i64]; omega
  have hw2 : IntKind.i64.wrap (ex - P - 1) = ex - P - 1 := by rw [IntKind.wrap_i64]; omega
  have hw3 : IntKind.i64.wrap (ey + (sy.size : Int)) = ey + sy.size := by rw [IntKind.wrap_i64]; omega
  by_cases hfar : ey + (sy.size : Int) ≤ ex - P - 1
  · have E : Hid (farB P ex sy.size ey = true) := decide_eq_true hfar
    rw [E.out]
    simp only [if_true]
    clear E hx hy hp
    go_enter Tryz.func112, Tryz.ntmps112
    go_wp2_with fail
    refine (HLm.out _).mono ?_
    rintro x w1 ⟨rfl, hb1⟩
    have HN1 : Hid (N3 w kx nx ex sx 1 ny ey sy w1) := HN.out.next hb1
    obtain ⟨a0, a1, a2, a3, a4⟩ := HN1.out.1.cells
    obtain ⟨c0, c1, c2, c3, c4⟩ := HN1.out.2.1.cells
    have HN2 : Hid (N3 w kx nx ex sx 1 ny (ex - P - 1) { data := #[49] } ((w1.setCell ⟨w.heap.size + 1, 2, none⟩ (.int .i64 (ex - P - 1))).setCell ⟨w.heap.size + 1, 3, none⟩ (.string { data := #[49] }))) := (HN1.out.y2 _).y3 _
    clear hb1 HN HLm
    go_wp2_with (refine wpList_store_row rfl 25 (.tmp 6) (.tmp 33) rfl (w.heap.size + 2) #[.int .i64 1, .bool ny, .int .i64 (ex - P - 1), .string { data := #[49] }] rfl rfl _ _ HN2.out.2.2.1 (by kernel_rfl) rfl (one4 _ _ _ _) ?_)
    have hP := (HN2.out.2.2.1.row (.int .i64 1) (.bool ny) (.int .i64 (ex - P - 1)) (.string { data := #[49] })).cells
    refine bodyPost_ret (results_num rfl _ _ rfl hP.1 hP.2.1 hP.2.2.1 hP.2.2.2.1) rfl ?_
    exact ⟨rfl, bel_row HN2.out.2.2.2 (by omega) _⟩
  · have E : Hid (farB P ex sy.size ey = false) := decide_eq_false hfar
    rw [E.out]
    simp only [Bool.false_eq_true, if_false]
    clear E hx hy hp
    go_enter Tryz.func112, Tryz.ntmps112
    go_wp2_with fail
    refine (HLm.out _).mono ?_
    rintro x w1 ⟨rfl, hb1⟩
    have HN1 : Hid (N3 w kx nx ex sx 1 ny ey sy w1) := HN.out.next hb1
    obtain ⟨a0, a1, a2, a3, a4⟩ := HN1.out.1.cells
    obtain ⟨c0, c1, c2, c3, c4⟩ := HN1.out.2.1.cells
    clear hb1 HN HLm
    go_wp2_with (refine wpList_store_row rfl 25 (.tmp 6) (.tmp 33) rfl (w.heap.size + 2) #[.int .i64 1, .bool ny, .int .i64 ey, .string sy] rfl rfl _ _ HN1.out.2.2.1 (by kernel_rfl) rfl (one4 _ _ _ _) ?_)
    have hP := (HN1.out.2.2.1.row (.int .i64 1) (.bool ny) (.int .i64 ey) (.string sy)).cells
    refine bodyPost_ret (results_num rfl _ _ rfl hP.1 hP.2.1 hP.2.2.1 hP.2.2.2.1) rfl ?_
    exact ⟨rfl, bel_row HN1.out.2.2.2 (by omega) _⟩
end Go.Proofs.YtmndemegiimagarGreatDoor
