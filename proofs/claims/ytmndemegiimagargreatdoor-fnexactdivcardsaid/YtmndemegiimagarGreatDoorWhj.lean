/-
  Whole of the program, walked.
-/
import Derived.Test.YtmndemegiimagarGreatDoorRta
import Derived.Test.YtmndemegiimagarGreatDoorSpa
import Derived.Test.YtmndemegiimagarGreatDoorRdl
import Derived.Test.YtmndemegiimagarGreatDoorSmC
import Derived.Test.YtmndemegiimagarGreatDoorSmL
namespace Go.Proofs.YtmndemegiimagarGreatDoor
open Go.RowKit
set_option linter.unusedVariables false
set_option maxRecDepth 100000
theorem nrwO {W : World} {g : Nat} {T : TypeId} {k : Int} {n : Bool} {e : Int} {s : ByteArray} (h : W.heap[g]? = some (.cells #[.int .i64 k, .bool n, .int .i64 e, .string s] T (0, 0))) : NRw W g 1 (fun _ => k) (fun _ => n) (fun _ => e) (fun _ => s) := fun i hi => by
  obtain rfl : i = 0 := by omega
  exact ⟨(cell_lit h 0).trans rfl, (cell_lit h 1).trans rfl, (cell_lit h 2).trans rfl, (cell_lit h 3).trans rfl⟩
theorem shift_tn {v n : Int} (h : Nok v) (h2 : Nok (v * 10 ^ n.toNat)) (h0 : 0 ≤ n) (h1 : n ≤ 200) : shiftS (tn v) n = tn (v * 10 ^ n.toNat) := by
  unfold shiftS
  rw [tn_ok h, decide_eq_true h0, decide_eq_true h1, nv_tn h, fit_tn h2]
  rfl
theorem round_tn {v n : Int} (mode : Int) (neg : Bool) (hm : 1 ≤ mode ∧ mode ≤ 5) (h : Nok v) (h0 : 0 ≤ n) (h1 : n ≤ 200) : rdS mode neg (tn v) n false = tx (nt (rndV mode neg v n.toNat false)) ∧ rdL mode (tn v) n false = rndL v n.toNat false := by
  have ho : rdO mode (tn v) n = true := by unfold rdO; rw [tn_ok h, decide_eq_true hm, decide_eq_true ⟨h0, h1⟩]; rfl
  unfold rdS rdL
  rw [ho, if_pos rfl, if_pos rfl, nv_tn h]
  exact ⟨rfl, rfl⟩
theorem tnSz (v : Int) : (tn v).size ≤ 4611686018427387904 := Nat.le_trans (tn_size v) (by decide)
/-- How many digits come or go. -/
def plc (n : Int) : Int := min (max n 0) 200
/-- A number's box and a result's. -/
def N2 (w : World) (kx : Int) (nx : Bool) (ex : Int) (sx : ByteArray) (W : World) : Prop :=
  At4r W w.heap.size (.int .i64 kx) (.bool nx) (.int .i64 ex) (.string sx) ∧ At4r W (w.heap.size + 1) (.int .i64 0) (.bool false) (.int .i64 0) (.string { data := #[] }) ∧ Below w.heap.size w W
theorem n2_new (w : World) (kx : Int) (nx : Bool) (ex : Int) (sx : ByteArray) : N2 w kx nx ex sx ((w.alloc (.cells #[.int .i64 kx, .bool nx, .int .i64 ex, .string sx] 25)).alloc (.cells #[.int .i64 0, .bool false, .int .i64 0, .string { data := #[] }] 25)) := by
  have h1 := at4r_new w (.int .i64 kx) (.bool nx) (.int .i64 ex) (.string sx)
  have z1 := new_size w (.cells #[.int .i64 kx, .bool nx, .int .i64 ex, .string sx] 25)
  have b1 : Below w.heap.size w (w.alloc (.cells #[.int .i64 kx, .bool nx, .int .i64 ex, .string sx] 25)) := (Below.refl _ _).alloc (Nat.le_refl _) _
  generalize w.alloc (.cells #[.int .i64 kx, .bool nx, .int .i64 ex, .string sx] 25) = w1 at *
  have h2 := at4r_new w1 (.int .i64 0) (.bool false) (.int .i64 0) (.string { data := #[] })
  have b2 : Below w1.heap.size w1 (w1.alloc (.cells #[.int .i64 0, .bool false, .int .i64 0, .string { data := #[] }] 25)) := (Below.refl _ _).alloc (Nat.le_refl _) _
  rw [z1] at h2
  exact ⟨h1.next b2, h2, b1.trans (b2.mono b1.size)⟩
theorem N2.next {w W W' : World} {kx : Int} {nx : Bool} {ex : Int} {sx : ByteArray} (h : N2 w kx nx ex sx W) (hb : Below W.heap.size W W') : N2 w kx nx ex sx W' :=
  ⟨h.1.next hb, h.2.1.next hb, h.2.2.trans (hb.mono h.2.2.size)⟩
theorem results_nt {fn : Func} {p t : Tmp} {b : Nat} {x y z u : Value} (h : fn.results = #[.cell p 25, .tmp t]) (tmps : Array Value) (w : World) (hp : tmps[p]?.getD undef = .pointer (some ⟨b, 0, none⟩))
    (q0 : w.cell? ⟨b, 0, none⟩ = some x) (q1 : w.cell? ⟨b, 1, none⟩ = some y) (q2 : w.cell? ⟨b, 2, none⟩ = some z) (q3 : w.cell? ⟨b, 3, none⟩ = some u) : (results fn tmps).run Tryz.prog w = .ok (.tuple #[.agg #[x, y, z, u], tmps.getD t undef]) w := by
  simp [results, h, hp, go_sem, q0, q1, q2, q3]
end Go.Proofs.YtmndemegiimagarGreatDoor
namespace Go.Proofs.YtmndemegiimagarGreatDoor
open Go.RowKit
set_option linter.unusedVariables false
set_option maxRecDepth 100000
/-- A right number that is no NaN, as the walks want it. -/
def Rgn (f : Int) (k : Int) (e : Int) (s : ByteArray) : Prop := (f = 64 ∨ f = 128) ∧ s = tx (dl s) ∧ (k = 1 ∨ k = 2) ∧ (k = 1 → Canon (dl s) ∧ ((dl s).length : Int) ≤ limP f ∧ limL f ≤ e ∧ e ≤ limH f) ∧ (k = 2 → e = 0 ∧ s = { data := #[] })
theorem rgn_of (f k : Int) (b : Bool) (e : Int) (s : ByteArray) (h : numB f k b e s = true) (h3 : k ≠ 3) (h4 : k ≠ 4) : Rgn f k e s := by
  obtain ⟨a, b', c, d⟩ := right_two f k b e s h h3 h4
  refine ⟨a, b', c, d, fun hk => ?_⟩
  subst hk
  unfold numB at h
  by_cases h0 : limP f = 0
  · rw [if_pos h0] at h; cases h
  rw [if_neg h0, if_neg (by decide), if_pos rfl] at h
  simp only [Bool.and_eq_true, decide_eq_true_eq] at h
  refine ⟨h.1, ?_⟩
  have hs : s.size = 0 := by
    have := h.2
    rw [ByteArray.toList_eq, List.isEmpty_iff] at this
    show s.data.size = 0
    rw [← Array.length_toList, this]; rfl
  apply ByteArray.ext
  exact Array.eq_empty_of_size_eq_zero hs
/-- Of one number that is right and no NaN. -/
theorem rgn_one {f m : Int} {k : Int} {b : Bool} {e : Int} {s : ByteArray} (h : rightB f m 1 (fun _ => k) (fun _ => b) (fun _ => e) (fun _ => s) = true) (hs : spB 1 (fun _ => k) = false) : (1 ≤ m ∧ m ≤ 5) ∧ Rgn f k e s := by
  unfold rightB at h
  simp only [Bool.and_eq_true, decide_eq_true_eq] at h
  have hn := of_decide_eq_false hs
  exact ⟨h.1, rgn_of f k b e s (h.2 0 (by decide)) (fun c => hn ⟨0, by decide, .inl c⟩) (fun c => hn ⟨0, by decide, .inr c⟩)⟩
/-- Of two. -/
theorem rgn_two {f m : Int} {ka kb : Int} {na nb : Bool} {ea eb : Int} {sa sb : ByteArray} (h : rightB f m 2 (tw2 ka kb) (tw2 na nb) (tw2 ea eb) (tw2 sa sb) = true) (hs : spB 2 (tw2 ka kb) = false) : (1 ≤ m ∧ m ≤ 5) ∧ Rgn f ka ea sa ∧ Rgn f kb eb sb := by
  unfold rightB at h
  simp only [Bool.and_eq_true, decide_eq_true_eq] at h
  have hn := of_decide_eq_false hs
  exact ⟨h.1, rgn_of f ka na ea sa (h.2 0 (by decide)) (fun c => hn ⟨0, by decide, .inl c⟩) (fun c => hn ⟨0, by decide, .inr c⟩), rgn_of f kb nb eb sb (h.2 1 (by decide)) (fun c => hn ⟨1, by decide, .inl c⟩) (fun c => hn ⟨1, by decide, .inr c⟩)⟩
theorem Rgn.tn {f k e : Int} {s : ByteArray} (h : Rgn f k e s) (hk : k = 1) : s = tn (vl (dl s)) ∧ Nok (vl (dl s)) ∧ 0 ≤ vl (dl s) ∧ vl (dl s) < 10 ^ (limP f).toNat ∧ (dl s).length ≤ 34 ∧ 1 ≤ (dl s).length ∧ s.size = (dl s).length ∧ (-7000 ≤ e ∧ e ≤ 7000) := by
  obtain ⟨hf, hs, -, h1, -⟩ := h
  obtain ⟨c, l, x, y⟩ := h1 hk
  have hL := lims f hf
  have hb := vl_bd (dl s) c.1
  have h34 : (dl s).length ≤ 34 := by omega
  have hp := c.2.1
  refine ⟨?_, ⟨hb.1, Int.lt_of_lt_of_le hb.2 (pow_mono _ _ (by omega))⟩, hb.1, Int.lt_of_lt_of_le hb.2 (pow_mono _ _ (by omega)), h34, hp, ?_, by omega, by omega⟩
  · show s = tx (nt (vl (dl s)))
    rw [← nt_of (dl s) (vl (dl s)) c rfl (by omega)]; exact hs
  · rw [hs, tx_size, ← hs]
theorem Rgn.small {f k e : Int} {s : ByteArray} (h : Rgn f k e s) : s.size ≤ 600 := by
  rcases h.2.2.1 with c | c
  · obtain ⟨-, -, -, -, l, -, z, -⟩ := h.tn c; omega
  · rw [(h.2.2.2.2 c).2]; decide
/-- What Whole tells of a right number that is no NaN. -/
def whX (mode : Int) (ka : Int) (na : Bool) (ea : Int) (sa : ByteArray) : R5o :=
  if ka = 2 ∨ 0 ≤ ea then (na, (ka, ea, sa, 0)) else (na, (1, 0, tx (nt (drV mode na (vl (dl sa)) (-ea).toNat)), 0))
/-- What Whole tells. -/
def whR (f mode : Int) (ka : Int) (na : Bool) (ea : Int) (sa : ByteArray) : R5o := ofR f mode 1 (fun _ => ka) (fun _ => na) (fun _ => ea) (fun _ => sa) (whX mode ka na ea sa)
/-- What the closures of operations on one number see. -/
def Cp1 (X : World) (p : Nat) (mode : Int) (ka : Int) (na : Bool) (ea : Int) (sa : ByteArray) : Prop := X.cell? ⟨p, 0, none⟩ = some (.int .i64 mode) ∧ At4r X (p + 1) (.int .i64 ka) (.bool na) (.int .i64 ea) (.string sa)
theorem Cp1.next {X X' : World} {p : Nat} {mode : Int} {ka : Int} {na : Bool} {ea : Int} {sa : ByteArray} (h : Cp1 X p mode ka na ea sa) (hb : Below X.heap.size X X') : Cp1 X' p mode ka na ea sa :=
  ⟨(hb.cell (p := ⟨p, 0, none⟩) (show p < X.heap.size by have := h.2.lt; omega)).trans h.1, h.2.next hb⟩
end Go.Proofs.YtmndemegiimagarGreatDoor
