/-
  The two formats behind their interface, walked.
-/
import Derived.Test.YtmjkpjmccdjkjadDoorNum
import Derived.Lib.SmallJoins
import Derived.ProofKit
import Derived.OpenShut
import Derived.BigQuiet
import Derived.Deep.Quiet
import Derived.Deep.DeepCutAuto
import Derived.Test.YtmjkpjmccdjkjadDoorDig
import Derived.Test.YtmjkpjmccdjkjadDoorRows
import Derived.WalkKit
namespace Go.Proofs.YtmjkpjmccdjkjadDoor
open Go.ChangeShapes Go.WideShapes Go.ChangeAt Go.RowKit
set_option linter.unusedVariables false
set_option maxRecDepth 100000
end Go.Proofs.YtmjkpjmccdjkjadDoor
namespace Go.Proofs.YtmjkpjmccdjkjadDoor
open Go.RowKit
set_option linter.unusedVariables false
set_option maxRecDepth 100000
theorem cell_of {w w' : World} (h : Below w.heap.size w w') {a : Addr} {v : Value} (hc : w.cell? a = some v) : w'.cell? a = some v := by
  rw [h.cell (World.block_lt_of_cell? w a hc)]
  exact hc
theorem bel1 {w W0 w1 : World} (h0 : Below w.heap.size w W0) (h1 : Below W0.heap.size W0 w1) : Below w.heap.size w w1 := h0.trans (h1.mono h0.size)
theorem bel2 {w W0 w1 w2 : World} (h0 : Below w.heap.size w W0) (h1 : Below W0.heap.size W0 w1) (h2 : Below w1.heap.size w1 w2) : Below w.heap.size w w2 := bel1 (bel1 h0 h1) h2
/-- The cells of a struct of three numbers, or two, that lies in a block. -/
def At3 (W : World) (b : Nat) (x y z : Value) : Prop := W.cell? ⟨b, 0, none⟩ = some x ∧ W.cell? ⟨b, 1, none⟩ = some y ∧ W.cell? ⟨b, 2, none⟩ = some z
def At2 (W : World) (b : Nat) (x y : Value) : Prop := W.cell? ⟨b, 0, none⟩ = some x ∧ W.cell? ⟨b, 1, none⟩ = some y
theorem at3_new (w : World) (x y z : Value) (t : TypeId) : At3 (w.alloc (.cells #[x, y, z] t)) w.heap.size x y z := by
  have h := (MapKept.heap_alloc w (.cells #[x, y, z] t)).1
  unfold At3 World.cell?
  simp only [h]
  exact ⟨rfl, rfl, rfl⟩
theorem at2_new (w : World) (x y : Value) (t : TypeId) : At2 (w.alloc (.cells #[x, y] t)) w.heap.size x y := by
  have h := (MapKept.heap_alloc w (.cells #[x, y] t)).1
  unfold At2 World.cell?
  simp only [h]
  exact ⟨rfl, rfl⟩
theorem At3.below {W w1 : World} {b : Nat} {x y z : Value} (h : At3 W b x y z) (hb : Below W.heap.size W w1) : At3 w1 b x y z := ⟨cell_of hb h.1, cell_of hb h.2.1, cell_of hb h.2.2⟩
theorem At2.below {W w1 : World} {b : Nat} {x y : Value} (h : At2 W b x y) (hb : Below W.heap.size W w1) : At2 w1 b x y := ⟨cell_of hb h.1, cell_of hb h.2⟩
theorem At3.alloc {W : World} {b : Nat} {x y z : Value} (h : At3 W b x y z) (o : Obj) : At3 (W.alloc o) b x y z := h.below ((Below.refl _ _).alloc (Nat.le_refl _) _)
theorem At2.alloc {W : World} {b : Nat} {x y : Value} (h : At2 W b x y) (o : Obj) : At2 (W.alloc o) b x y := h.below ((Below.refl _ _).alloc (Nat.le_refl _) _)
theorem wp_region_class {P : Program} {C : World → Prop} {id : Nat} {Q : Exit → Act → World → Prop} {a : Act} {w : World} {l : List Oper} (hm : P.follows .mixedOrders = true) (hB : Region.lexB .any l.toArray = true) (hC : C w.drew)
    (h : wpQuiet P l.toArray C (fun a' => ∀ w', C w' → Q .normal a' w') l a) : (Code.region id l.toArray true).wp P Q a w :=
  wp_region_quiet (C := C) hm hB hC (by simpa using h)
theorem wrap_fit (x : Int) (h0 : -9223372036854775808 ≤ x) (h1 : x ≤ 9223372036854775807) : IntKind.i64.wrap x = x := by rw [IntKind.wrap_i64]; omega
theorem Calls.class_of {P : Program} {f : FuncId} {args : Array Value} {C : World → Prop} {W : World} {v : Value} (h : Calls P f args W fun e w' => e = .returned v ∧ Below W.heap.size W w') (k : ∀ w', Below W.heap.size W w' → C w') : Calls P f args W fun e w'' => e = .returned v ∧ C w'' :=
  h.mono fun _ _ ⟨he, hb⟩ => ⟨he, k _ hb⟩
end Go.Proofs.YtmjkpjmccdjkjadDoor
namespace Go.Proofs.YtmjkpjmccdjkjadDoor
open Go.RowKit
set_option linter.unusedVariables false
set_option maxRecDepth 100000
theorem digitCount_64 (w : World) : Calls Tryd.prog 102 #[.agg #[]] w fun e w' => e = .returned (.int .i64 16) ∧ Below w.heap.size w w' := by
  go_enter Tryd.func102, Tryd.ntmps102
  go_wp2
  go_ret
  exact ⟨rfl, (Below.refl _ _).alloc (Nat.le_refl _) _⟩
theorem md_digitCount_64 (n : Nat) (X : World) : (method (n + 1) 42 (.agg #[]) "loop.example/g00085/impl.digitCount").run Tryd.prog X = .ok (102, .agg #[]) X := by kernel_rfl
theorem leastExp_64 (w : World) : Calls Tryd.prog 104 #[.agg #[]] w fun e w' => e = .returned (.int .i64 (-398)) ∧ Below w.heap.size w w' := by
  go_enter Tryd.func104, Tryd.ntmps104
  go_wp2
  go_ret
  exact ⟨rfl, (Below.refl _ _).alloc (Nat.le_refl _) _⟩
theorem md_leastExp_64 (n : Nat) (X : World) : (method (n + 1) 42 (.agg #[]) "loop.example/g00085/impl.leastExp").run Tryd.prog X = .ok (104, .agg #[]) X := by kernel_rfl
theorem greatestExp_64 (w : World) : Calls Tryd.prog 103 #[.agg #[]] w fun e w' => e = .returned (.int .i64 369) ∧ Below w.heap.size w w' := by
  go_enter Tryd.func103, Tryd.ntmps103
  go_wp2
  go_ret
  exact ⟨rfl, (Below.refl _ _).alloc (Nat.le_refl _) _⟩
theorem md_greatestExp_64 (n : Nat) (X : World) : (method (n + 1) 42 (.agg #[]) "loop.example/g00085/impl.greatestExp").run Tryd.prog X = .ok (103, .agg #[]) X := by kernel_rfl
theorem bias_64 (w : World) : Calls Tryd.prog 101 #[.agg #[]] w fun e w' => e = .returned (.int .i64 398) ∧ Below w.heap.size w w' := by
  go_enter Tryd.func101, Tryd.ntmps101
  go_wp2
  go_ret
  exact ⟨rfl, (Below.refl _ _).alloc (Nat.le_refl _) _⟩
theorem md_bias_64 (n : Nat) (X : World) : (method (n + 1) 42 (.agg #[]) "loop.example/g00085/impl.bias").run Tryd.prog X = .ok (101, .agg #[]) X := by kernel_rfl
theorem restWidth_64 (w : World) : Calls Tryd.prog 105 #[.agg #[]] w fun e w' => e = .returned (.int .i64 8) ∧ Below w.heap.size w w' := by
  go_enter Tryd.func105, Tryd.ntmps105
  go_wp2
  go_ret
  exact ⟨rfl, (Below.refl _ _).alloc (Nat.le_refl _) _⟩
theorem md_restWidth_64 (n : Nat) (X : World) : (method (n + 1) 42 (.agg #[]) "loop.example/g00085/impl.restWidth").run Tryd.prog X = .ok (105, .agg #[]) X := by kernel_rfl
theorem decletsIn_64 (w : World) : Calls Tryd.prog 44 #[.iface 42 (.agg #[])] w fun e w' => e = .returned (.int .i64 5) ∧ Below w.heap.size w w' := by
  go_enter Tryd.func44, Tryd.ntmps44
  go_wp2_with fail
  refine (digitCount_64 _).mono ?_
  rintro e w1 ⟨rfl, hb⟩
  go_wp2
  go_ret
  exact ⟨rfl, hb⟩
theorem digitCount_128 (w : World) : Calls Tryd.prog 107 #[.agg #[]] w fun e w' => e = .returned (.int .i64 34) ∧ Below w.heap.size w w' := by
  go_enter Tryd.func107, Tryd.ntmps107
  go_wp2
  go_ret
  exact ⟨rfl, (Below.refl _ _).alloc (Nat.le_refl _) _⟩
theorem md_digitCount_128 (n : Nat) (X : World) : (method (n + 1) 48 (.agg #[]) "loop.example/g00085/impl.digitCount").run Tryd.prog X = .ok (107, .agg #[]) X := by kernel_rfl
theorem leastExp_128 (w : World) : Calls Tryd.prog 109 #[.agg #[]] w fun e w' => e = .returned (.int .i64 (-6176)) ∧ Below w.heap.size w w' := by
  go_enter Tryd.func109, Tryd.ntmps109
  go_wp2
  go_ret
  exact ⟨rfl, (Below.refl _ _).alloc (Nat.le_refl _) _⟩
theorem md_leastExp_128 (n : Nat) (X : World) : (method (n + 1) 48 (.agg #[]) "loop.example/g00085/impl.leastExp").run Tryd.prog X = .ok (109, .agg #[]) X := by kernel_rfl
theorem greatestExp_128 (w : World) : Calls Tryd.prog 108 #[.agg #[]] w fun e w' => e = .returned (.int .i64 6111) ∧ Below w.heap.size w w' := by
  go_enter Tryd.func108, Tryd.ntmps108
  go_wp2
  go_ret
  exact ⟨rfl, (Below.refl _ _).alloc (Nat.le_refl _) _⟩
theorem md_greatestExp_128 (n : Nat) (X : World) : (method (n + 1) 48 (.agg #[]) "loop.example/g00085/impl.greatestExp").run Tryd.prog X = .ok (108, .agg #[]) X := by kernel_rfl
theorem bias_128 (w : World) : Calls Tryd.prog 106 #[.agg #[]] w fun e w' => e = .returned (.int .i64 6176) ∧ Below w.heap.size w w' := by
  go_enter Tryd.func106, Tryd.ntmps106
  go_wp2
  go_ret
  exact ⟨rfl, (Below.refl _ _).alloc (Nat.le_refl _) _⟩
theorem md_bias_128 (n : Nat) (X : World) : (method (n + 1) 48 (.agg #[]) "loop.example/g00085/impl.bias").run Tryd.prog X = .ok (106, .agg #[]) X := by kernel_rfl
theorem restWidth_128 (w : World) : Calls Tryd.prog 110 #[.agg #[]] w fun e w' => e = .returned (.int .i64 12) ∧ Below w.heap.size w w' := by
  go_enter Tryd.func110, Tryd.ntmps110
  go_wp2
  go_ret
  exact ⟨rfl, (Below.refl _ _).alloc (Nat.le_refl _) _⟩
theorem md_restWidth_128 (n : Nat) (X : World) : (method (n + 1) 48 (.agg #[]) "loop.example/g00085/impl.restWidth").run Tryd.prog X = .ok (110, .agg #[]) X := by kernel_rfl
theorem decletsIn_128 (w : World) : Calls Tryd.prog 44 #[.iface 48 (.agg #[])] w fun e w' => e = .returned (.int .i64 11) ∧ Below w.heap.size w w' := by
  go_enter Tryd.func44, Tryd.ntmps44
  go_wp2_with fail
  refine (digitCount_128 _).mono ?_
  rintro e w1 ⟨rfl, hb⟩
  go_wp2
  go_ret
  exact ⟨rfl, hb⟩
end Go.Proofs.YtmjkpjmccdjkjadDoor
