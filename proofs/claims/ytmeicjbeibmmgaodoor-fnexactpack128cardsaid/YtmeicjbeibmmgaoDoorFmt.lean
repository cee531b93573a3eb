/-
  The two formats behind their interface, walked.
-/
import Derived.Test.YtmeicjbeibmmgaoDoorNum
import Derived.Lib.SmallJoins
import Derived.ProofKit
import Derived.OpenShut
import Derived.BigQuiet
import Derived.Deep.Quiet
import Derived.Deep.DeepCutAuto
import Derived.Test.YtmeicjbeibmmgaoDoorDig
import Derived.Test.YtmeicjbeibmmgaoDoorRows
import Derived.WalkKit
namespace Go.Proofs.YtmeicjbeibmmgaoDoor
open Go.ChangeShapes Go.WideShapes Go.ChangeAt Go.RowKit
set_option linter.unusedVariables false
set_option maxRecDepth 100000
set_option maxRecDepth 100000 in
theorem open_num {H : Type} {enc : TypeId × Value → H} {W : World} {base b0 : Nat} {r : Reach} {sp : Nat → Bool} {held : Bool} {v : Value} {d : DataW H} {ps : List MemPlace} (hval : Value.okWide Tryd.prog W r b0 23 v) (hd : DataW.Trod enc Tryd.prog W base sp held 23 v d ps) :
    ∃ k b e s, v = numV k b e s ∧ (Lit.int .i64 k).wf = true ∧ (Lit.int .i64 e).wf = true ∧ s.size ≤ maxLen := by
  obtain ⟨cs, rfl, hsz⟩ := okWide_struct Tryd.underlying23 hval
  have hc4 : Tryd.prog.cellsOf 23 = 4 := by kernel_rfl
  have ci : Tryd.prog.cellsOf 2 = 1 := by kernel_rfl
  have cb : Tryd.prog.cellsOf 4 = 1 := by kernel_rfl
  have cs' : Tryd.prog.cellsOf 9 = 1 := by kernel_rfl
  obtain ⟨c0, c1, c2, c3, rfl⟩ := Go.Joins.array4 (hsz.trans hc4)
  obtain ⟨fuel, hf⟩ := hd
  obtain ⟨y0, y1, y2, y3, n, -, -, h0, h1, h2, h3⟩ := Go.Joins.trod_struct4 Tryd.underlying23 hf
  simp only [Value.cells, ci, cb, cs'] at h0 h1 h2 h3
  obtain ⟨k, hk, -, wk⟩ := DataW.trod_int Tryd.underlying2 h0
  obtain ⟨b, hb, -⟩ := DataW.trod_bool Tryd.underlying4 h1
  obtain ⟨e, he, -, we⟩ := DataW.trod_int Tryd.underlying2 h2
  obtain ⟨s, hs, -, ws⟩ := DataW.trod_string Tryd.underlying9 h3
  simp at hk hb he hs
  subst hk; subst hb; subst he; subst hs
  exact ⟨k, b, e, s, rfl, wk, we, ws⟩
end Go.Proofs.YtmeicjbeibmmgaoDoor
namespace Go.Proofs.YtmeicjbeibmmgaoDoor
open Go.RowKit
set_option linter.unusedVariables false
set_option maxRecDepth 100000
theorem cell_of {w w' : World} (h : Below w.heap.size w w') {a : Addr} {v : Value} (hc : w.cell? a = some v) : w'.cell? a = some v := by
  rw [h.cell (World.block_lt_of_cell? w a hc)]
  exact hc
theorem bel1 {w W0 w1 : World} (h0 : Below w.heap.size w W0) (h1 : Below W0.heap.size W0 w1) : Below w.heap.size w w1 := h0.trans (h1.mono h0.size)
theorem bel2 {w W0 w1 w2 : World} (h0 : Below w.heap.size w W0) (h1 : Below W0.heap.size W0 w1) (h2 : Below w1.heap.size w1 w2) : Below w.heap.size w w2 := bel1 (bel1 h0 h1) h2
/-- The cells of a struct of three numbers, or two, that lies in a block. -/
def At3 (W : World) (b : Nat) (x y z : Value) : Prop := W.cell? ⟨b, 0, none⟩ = some x ∧ W.cell? ⟨b, 1, none⟩ = some y ∧ W.cell? ⟨b, 2, none⟩ = some z
def At2 (W : World) (b : Nat) (x y : Value) : Prop := W.cell? ⟨b, 0, none⟩ = some x ∧ W.cell? ⟨b, 1, none⟩ = some y
theorem at3_new (w : World) (x y z : Value) (t : TypeId) : At3 (w.alloc (.cells #[x, y, z] t)) w.heap.size x y z := by
  have h := (MapKept.heap_alloc w (.cells #[x, y, z] t)).1
  unfold At3 World.cell?
  simp only [h]
  exact ⟨rfl, rfl, rfl⟩
theorem at2_new (w : World) (x y : Value) (t : TypeId) : At2 (w.alloc (.cells #[x, y] t)) w.heap.size x y := by
  have h := (MapKept.heap_alloc w (.cells #[x, y] t)).1
  unfold At2 World.cell?
  simp only [h]
  exact ⟨rfl, rfl⟩
theorem At3.below {W w1 : World} {b : Nat} {x y z : Value} (h : At3 W b x y z) (hb : Below W.heap.size W w1) : At3 w1 b x y z := ⟨cell_of hb h.1, cell_of hb h.2.1, cell_of hb h.2.2⟩
theorem At2.below {W w1 : World} {b : Nat} {x y : Value} (h : At2 W b x y) (hb : Below W.heap.size W w1) : At2 w1 b x y := ⟨cell_of hb h.1, cell_of hb h.2⟩
theorem At3.alloc {W : World} {b : Nat} {x y z : Value} (h : At3 W b x y z) (o : Obj) : At3 (W.alloc o) b x y z := h.below ((Below.refl _ _).alloc (Nat.le_refl _) _)
theorem At2.alloc {W : World} {b : Nat} {x y : Value} (h : At2 W b x y) (o : Obj) : At2 (W.alloc o) b x y := h.below ((Below.refl _ _).alloc (Nat.le_refl _) _)
theorem wp_region_class {P : Program} {C : World → Prop} {id : Nat} {Q : Exit → Act → World → Prop} {a : Act} {w : World} {l : List Oper} (hm : P.follows .mixedOrders = true) (hB : Region.lexB .any l.toArray = true) (hC : C w.drew)
    (h : wpQuiet P l.toArray C (fun a' => ∀ w', C w' → Q .normal a' w') l a) : (Code.region id l.toArray true).wp P Q a w :=
  wp_region_quiet (C := C) hm hB hC (by simpa using h)
theorem wrap_fit (x : Int) (h0 : -9223372036854775808 ≤ x) (h1 : x ≤ 9223372036854775807) : IntKind.i64.wrap x = x := by rw [IntKind.wrap_i64]; omega
theorem Calls.class_of {P : Program} {f : FuncId} {args : Array Value} {C : World → Prop} {W : World} {v : Value} (h : Calls P f args W fun e w' => e = .returned v ∧ Below W.heap.size W w') (k : ∀ w', Below W.heap.size W w' → C w') : Calls P f args W fun e w'' => e = .returned v ∧ C w'' :=
  h.mono fun _ _ ⟨he, hb⟩ => ⟨he, k _ hb⟩
end Go.Proofs.YtmeicjbeibmmgaoDoor
namespace Go.Proofs.YtmeicjbeibmmgaoDoor
open Go.RowKit
set_option linter.unusedVariables false
set_option maxRecDepth 100000
abbrev nbl (w : World) (k : Int) (b : Bool) (e : Int) (s : ByteArray) : World := w.alloc (.cells #[.int .i64 k, .bool b, .int .i64 e, .string s] 23)
theorem nbl_cells {w W : World} {k : Int} {b : Bool} {e : Int} {s : ByteArray} (h : Below (w.heap.size + 1) (nbl w k b e s) W) : W.cell? ⟨w.heap.size, 0, none⟩ = some (.int .i64 k) ∧ W.cell? ⟨w.heap.size, 1, none⟩ = some (.bool b) ∧ W.cell? ⟨w.heap.size, 2, none⟩ = some (.int .i64 e) ∧ W.cell? ⟨w.heap.size, 3, none⟩ = some (.string s) := by
  refine ⟨?_, ?_, ?_, ?_⟩
  · rw [h.cell (p := ⟨w.heap.size, 0, none⟩) (by simp)]; simp
  · rw [h.cell (p := ⟨w.heap.size, 1, none⟩) (by simp)]; simp
  · rw [h.cell (p := ⟨w.heap.size, 2, none⟩) (by simp)]; simp
  · rw [h.cell (p := ⟨w.heap.size, 3, none⟩) (by simp)]; simp
theorem nbl_out {w W : World} {k : Int} {b : Bool} {e : Int} {s : ByteArray} (h : Below (w.heap.size + 1) (nbl w k b e s) W) : Below w.heap.size w W := ((Below.refl _ _).alloc (Nat.le_refl _) _).trans (h.mono (by omega))
theorem nbl_next {w W w1 : World} {k : Int} {b : Bool} {e : Int} {s : ByteArray} (h : Below (w.heap.size + 1) (nbl w k b e s) W) (hb : Below W.heap.size W w1) : Below (w.heap.size + 1) (nbl w k b e s) w1 := h.trans (hb.mono (by have := h.size; simp at this; omega))
end Go.Proofs.YtmeicjbeibmmgaoDoor
namespace Go.Proofs.YtmeicjbeibmmgaoDoor
open Go.RowKit
set_option linter.unusedVariables false
set_option maxRecDepth 100000
theorem digitCount_64 (w : World) : Calls Tryd.prog 106 #[.agg #[]] w fun e w' => e = .returned (.int .i64 16) ∧ Below w.heap.size w w' := by
  go_enter Tryd.func106, Tryd.ntmps106
  go_wp2
  go_ret
  exact ⟨rfl, (Below.refl _ _).alloc (Nat.le_refl _) _⟩
theorem md_digitCount_64 (n : Nat) (X : World) : (method (n + 1) 50 (.agg #[]) "loop.example/g00085/impl.digitCount").run Tryd.prog X = .ok (106, .agg #[]) X := by kernel_rfl
theorem leastExp_64 (w : World) : Calls Tryd.prog 108 #[.agg #[]] w fun e w' => e = .returned (.int .i64 (-398)) ∧ Below w.heap.size w w' := by
  go_enter Tryd.func108, Tryd.ntmps108
  go_wp2
  go_ret
  exact ⟨rfl, (Below.refl _ _).alloc (Nat.le_refl _) _⟩
theorem md_leastExp_64 (n : Nat) (X : World) : (method (n + 1) 50 (.agg #[]) "loop.example/g00085/impl.leastExp").run Tryd.prog X = .ok (108, .agg #[]) X := by kernel_rfl
theorem greatestExp_64 (w : World) : Calls Tryd.prog 107 #[.agg #[]] w fun e w' => e = .returned (.int .i64 369) ∧ Below w.heap.size w w' := by
  go_enter Tryd.func107, Tryd.ntmps107
  go_wp2
  go_ret
  exact ⟨rfl, (Below.refl _ _).alloc (Nat.le_refl _) _⟩
theorem md_greatestExp_64 (n : Nat) (X : World) : (method (n + 1) 50 (.agg #[]) "loop.example/g00085/impl.greatestExp").run Tryd.prog X = .ok (107, .agg #[]) X := by kernel_rfl
theorem bias_64 (w : World) : Calls Tryd.prog 105 #[.agg #[]] w fun e w' => e = .returned (.int .i64 398) ∧ Below w.heap.size w w' := by
  go_enter Tryd.func105, Tryd.ntmps105
  go_wp2
  go_ret
  exact ⟨rfl, (Below.refl _ _).alloc (Nat.le_refl _) _⟩
theorem md_bias_64 (n : Nat) (X : World) : (method (n + 1) 50 (.agg #[]) "loop.example/g00085/impl.bias").run Tryd.prog X = .ok (105, .agg #[]) X := by kernel_rfl
theorem restWidth_64 (w : World) : Calls Tryd.prog 109 #[.agg #[]] w fun e w' => e = .returned (.int .i64 8) ∧ Below w.heap.size w w' := by
  go_enter Tryd.func109, Tryd.ntmps109
  go_wp2
  go_ret
  exact ⟨rfl, (Below.refl _ _).alloc (Nat.le_refl _) _⟩
theorem md_restWidth_64 (n : Nat) (X : World) : (method (n + 1) 50 (.agg #[]) "loop.example/g00085/impl.restWidth").run Tryd.prog X = .ok (109, .agg #[]) X := by kernel_rfl
theorem decletsIn_64 (w : World) : Calls Tryd.prog 48 #[.iface 50 (.agg #[])] w fun e w' => e = .returned (.int .i64 5) ∧ Below w.heap.size w w' := by
  go_enter Tryd.func48, Tryd.ntmps48
  go_wp2_with fail
  refine (digitCount_64 _).mono ?_
  rintro e w1 ⟨rfl, hb⟩
  go_wp2
  go_ret
  exact ⟨rfl, hb⟩
theorem digitCount_128 (w : World) : Calls Tryd.prog 111 #[.agg #[]] w fun e w' => e = .returned (.int .i64 34) ∧ Below w.heap.size w w' := by
  go_enter Tryd.func111, Tryd.ntmps111
  go_wp2
  go_ret
  exact ⟨rfl, (Below.refl _ _).alloc (Nat.le_refl _) _⟩
theorem md_digitCount_128 (n : Nat) (X : World) : (method (n + 1) 51 (.agg #[]) "loop.example/g00085/impl.digitCount").run Tryd.prog X = .ok (111, .agg #[]) X := by kernel_rfl
theorem leastExp_128 (w : World) : Calls Tryd.prog 113 #[.agg #[]] w fun e w' => e = .returned (.int .i64 (-6176)) ∧ Below w.heap.size w w' := by
  go_enter Tryd.func113, Tryd.ntmps113
  go_wp2
  go_ret
  exact ⟨rfl, (Below.refl _ _).alloc (Nat.le_refl _) _⟩
theorem md_leastExp_128 (n : Nat) (X : World) : (method (n + 1) 51 (.agg #[]) "loop.example/g00085/impl.leastExp").run Tryd.prog X = .ok (113, .agg #[]) X := by kernel_rfl
theorem greatestExp_128 (w : World) : Calls Tryd.prog 112 #[.agg #[]] w fun e w' => e = .returned (.int .i64 6111) ∧ Below w.heap.size w w' := by
  go_enter Tryd.func112, Tryd.ntmps112
  go_wp2
  go_ret
  exact ⟨rfl, (Below.refl _ _).alloc (Nat.le_refl _) _⟩
theorem md_greatestExp_128 (n : Nat) (X : World) : (method (n + 1) 51 (.agg #[]) "loop.example/g00085/impl.greatestExp").run Tryd.prog X = .ok (112, .agg #[]) X := by kernel_rfl
theorem bias_128 (w : World) : Calls Tryd.prog 110 #[.agg #[]] w fun e w' => e = .returned (.int .i64 6176) ∧ Below w.heap.size w w' := by
  go_enter Tryd.func110, Tryd.ntmps110
  go_wp2
  go_ret
  exact ⟨rfl, (Below.refl _ _).alloc (Nat.le_refl _) _⟩
theorem md_bias_128 (n : Nat) (X : World) : (method (n + 1) 51 (.agg #[]) "loop.example/g00085/impl.bias").run Tryd.prog X = .ok (110, .agg #[]) X := by kernel_rfl
theorem restWidth_128 (w : World) : Calls Tryd.prog 114 #[.agg #[]] w fun e w' => e = .returned (.int .i64 12) ∧ Below w.heap.size w w' := by
  go_enter Tryd.func114, Tryd.ntmps114
  go_wp2
  go_ret
  exact ⟨rfl, (Below.refl _ _).alloc (Nat.le_refl _) _⟩
theorem md_restWidth_128 (n : Nat) (X : World) : (method (n + 1) 51 (.agg #[]) "loop.example/g00085/impl.restWidth").run Tryd.prog X = .ok (114, .agg #[]) X := by kernel_rfl
theorem decletsIn_128 (w : World) : Calls Tryd.prog 48 #[.iface 51 (.agg #[])] w fun e w' => e = .returned (.int .i64 11) ∧ Below w.heap.size w w' := by
  go_enter Tryd.func48, Tryd.ntmps48
  go_wp2_with fail
  refine (digitCount_128 _).mono ?_
  rintro e w1 ⟨rfl, hb⟩
  go_wp2
  go_ret
  exact ⟨rfl, hb⟩
end Go.Proofs.YtmeicjbeibmmgaoDoor
