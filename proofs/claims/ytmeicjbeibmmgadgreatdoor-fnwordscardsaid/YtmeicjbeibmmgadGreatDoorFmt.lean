/-
  The two formats behind their interface, walked.
-/
import Derived.Test.YtmeicjbeibmmgadGreatDoorNum
import Derived.Lib.SmallJoins
import Derived.ProofKit
import Derived.OpenShut
import Derived.BigQuiet
import Derived.Deep.Quiet
import Derived.Deep.DeepCutAuto
import Derived.Test.YtmeicjbeibmmgadGreatDoorDig
import Derived.Test.YtmeicjbeibmmgadGreatDoorRows
import Derived.WalkKit
namespace Go.Proofs.YtmeicjbeibmmgadGreatDoor
open Go.ChangeShapes Go.WideShapes Go.ChangeAt Go.RowKit
set_option linter.unusedVariables false
set_option maxRecDepth 100000
end Go.Proofs.YtmeicjbeibmmgadGreatDoor
namespace Go.Proofs.YtmeicjbeibmmgadGreatDoor
open Go.RowKit
set_option linter.unusedVariables false
set_option maxRecDepth 100000
theorem cell_of {w w' : World} (h : Below w.heap.size w w') {a : Addr} {v : Value} (hc : w.cell? a = some v) : w'.cell? a = some v := by
  rw [h.cell (World.block_lt_of_cell? w a hc)]
  exact hc
theorem bel1 {w W0 w1 : World} (h0 : Below w.heap.size w W0) (h1 : Below W0.heap.size W0 w1) : Below w.heap.size w w1 := h0.trans (h1.mono h0.size)
theorem bel2 {w W0 w1 w2 : World} (h0 : Below w.heap.size w W0) (h1 : Below W0.heap.size W0 w1) (h2 : Below w1.heap.size w1 w2) : Below w.heap.size w w2 := bel1 (bel1 h0 h1) h2
/-- The cells of a struct of three numbers, or two, that lies in a block. -/
def At3 (W : World) (b : Nat) (x y z : Value) : Prop := W.cell? ⟨b, 0, none⟩ = some x ∧ W.cell? ⟨b, 1, none⟩ = some y ∧ W.cell? ⟨b, 2, none⟩ = some z
def At2 (W : World) (b : Nat) (x y : Value) : Prop := W.cell? ⟨b, 0, none⟩ = some x ∧ W.cell? ⟨b, 1, none⟩ = some y
theorem at3_new (w : World) (x y z : Value) (t : TypeId) : At3 (w.alloc (.cells #[x, y, z] t)) w.heap.size x y z := by
  have h := (MapKept.heap_alloc w (.cells #[x, y, z] t)).1
  unfold At3 World.cell?
  simp only [h]
  exact ⟨rfl, rfl, rfl⟩
theorem at2_new (w : World) (x y : Value) (t : TypeId) : At2 (w.alloc (.cells #[x, y] t)) w.heap.size x y := by
  have h := (MapKept.heap_alloc w (.cells #[x, y] t)).1
  unfold At2 World.cell?
  simp only [h]
  exact ⟨rfl, rfl⟩
theorem At3.below {W w1 : World} {b : Nat} {x y z : Value} (h : At3 W b x y z) (hb : Below W.heap.size W w1) : At3 w1 b x y z := ⟨cell_of hb h.1, cell_of hb h.2.1, cell_of hb h.2.2⟩
theorem At2.below {W w1 : World} {b : Nat} {x y : Value} (h : At2 W b x y) (hb : Below W.heap.size W w1) : At2 w1 b x y := ⟨cell_of hb h.1, cell_of hb h.2⟩
theorem At3.alloc {W : World} {b : Nat} {x y z : Value} (h : At3 W b x y z) (o : Obj) : At3 (W.alloc o) b x y z := h.below ((Below.refl _ _).alloc (Nat.le_refl _) _)
theorem At2.alloc {W : World} {b : Nat} {x y : Value} (h : At2 W b x y) (o : Obj) : At2 (W.alloc o) b x y := h.below ((Below.refl _ _).alloc (Nat.le_refl _) _)
theorem wp_region_class {P : Program} {C : World → Prop} {id : Nat} {Q : Exit → Act → World → Prop} {a : Act} {w : World} {l : List Oper} (hm : P.follows .mixedOrders = true) (hB : Region.lexB .any l.toArray = true) (hC : C w.drew)
    (h : wpQuiet P l.toArray C (fun a' => ∀ w', C w' → Q .normal a' w') l a) : (Code.region id l.toArray true).wp P Q a w :=
  wp_region_quiet (C := C) hm hB hC (by simpa using h)
theorem wrap_fit (x : Int) (h0 : -9223372036854775808 ≤ x) (h1 : x ≤ 9223372036854775807) : IntKind.i64.wrap x = x := by rw [IntKind.wrap_i64]; omega
theorem Calls.class_of {P : Program} {f : FuncId} {args : Array Value} {C : World → Prop} {W : World} {v : Value} (h : Calls P f args W fun e w' => e = .returned v ∧ Below W.heap.size W w') (k : ∀ w', Below W.heap.size W w' → C w') : Calls P f args W fun e w'' => e = .returned v ∧ C w'' :=
  h.mono fun _ _ ⟨he, hb⟩ => ⟨he, k _ hb⟩
end Go.Proofs.YtmeicjbeibmmgadGreatDoor
namespace Go.Proofs.YtmeicjbeibmmgadGreatDoor
open Go.RowKit
set_option linter.unusedVariables false
set_option maxRecDepth 100000
theorem digitCount_64 (w : World) : Calls Tryz.prog 110 #[.agg #[]] w fun e w' => e = .returned (.int .i64 16) ∧ Below w.heap.size w w' := by
  go_enter Tryz.func110, Tryz.ntmps110
  go_wp2
  go_ret
  exact ⟨rfl, (Below.refl _ _).alloc (Nat.le_refl _) _⟩
theorem md_digitCount_64 (n : Nat) (X : World) : (method (n + 1) 46 (.agg #[]) "loop.example/g00085/impl.digitCount").run Tryz.prog X = .ok (110, .agg #[]) X := by kernel_rfl
theorem leastExp_64 (w : World) : Calls Tryz.prog 112 #[.agg #[]] w fun e w' => e = .returned (.int .i64 (-398)) ∧ Below w.heap.size w w' := by
  go_enter Tryz.func112, Tryz.ntmps112
  go_wp2
  go_ret
  exact ⟨rfl, (Below.refl _ _).alloc (Nat.le_refl _) _⟩
theorem md_leastExp_64 (n : Nat) (X : World) : (method (n + 1) 46 (.agg #[]) "loop.example/g00085/impl.leastExp").run Tryz.prog X = .ok (112, .agg #[]) X := by kernel_rfl
theorem greatestExp_64 (w : World) : Calls Tryz.prog 111 #[.agg #[]] w fun e w' => e = .returned (.int .i64 369) ∧ Below w.heap.size w w' := by
  go_enter Tryz.func111, Tryz.ntmps111
  go_wp2
  go_ret
  exact ⟨rfl, (Below.refl _ _).alloc (Nat.le_refl _) _⟩
theorem md_greatestExp_64 (n : Nat) (X : World) : (method (n + 1) 46 (.agg #[]) "loop.example/g00085/impl.greatestExp").run Tryz.prog X = .ok (111, .agg #[]) X := by kernel_rfl
theorem bias_64 (w : World) : Calls Tryz.prog 109 #[.agg #[]] w fun e w' => e = .returned (.int .i64 398) ∧ Below w.heap.size w w' := by
  go_enter Tryz.func109, Tryz.ntmps109
  go_wp2
  go_ret
  exact ⟨rfl, (Below.refl _ _).alloc (Nat.le_refl _) _⟩
theorem md_bias_64 (n : Nat) (X : World) : (method (n + 1) 46 (.agg #[]) "loop.example/g00085/impl.bias").run Tryz.prog X = .ok (109, .agg #[]) X := by kernel_rfl
theorem restWidth_64 (w : World) : Calls Tryz.prog 113 #[.agg #[]] w fun e w' => e = .returned (.int .i64 8) ∧ Below w.heap.size w w' := by
  go_enter Tryz.func113, Tryz.ntmps113
  go_wp2
  go_ret
  exact ⟨rfl, (Below.refl _ _).alloc (Nat.le_refl _) _⟩
theorem md_restWidth_64 (n : Nat) (X : World) : (method (n + 1) 46 (.agg #[]) "loop.example/g00085/impl.restWidth").run Tryz.prog X = .ok (113, .agg #[]) X := by kernel_rfl
theorem fmtOf_64 (w : World) : Calls Tryz.prog 24 #[.int .i64 64] w fun e w' => e = .returned (.tuple #[.iface 46 (.agg #[]), .bool true]) ∧ w' = w := by
  go_enter Tryz.func24, Tryz.ntmps24
  go_wp2
  go_ret2
  exact ⟨rfl, rfl⟩
theorem decletsIn_64 (w : World) : Calls Tryz.prog 45 #[.iface 46 (.agg #[])] w fun e w' => e = .returned (.int .i64 5) ∧ Below w.heap.size w w' := by
  go_enter Tryz.func45, Tryz.ntmps45
  go_wp2_with fail
  refine (digitCount_64 _).mono ?_
  rintro e w1 ⟨rfl, hb⟩
  go_wp2
  go_ret
  exact ⟨rfl, hb⟩
theorem digitCount_128 (w : World) : Calls Tryz.prog 115 #[.agg #[]] w fun e w' => e = .returned (.int .i64 34) ∧ Below w.heap.size w w' := by
  go_enter Tryz.func115, Tryz.ntmps115
  go_wp2
  go_ret
  exact ⟨rfl, (Below.refl _ _).alloc (Nat.le_refl _) _⟩
theorem md_digitCount_128 (n : Nat) (X : World) : (method (n + 1) 57 (.agg #[]) "loop.example/g00085/impl.digitCount").run Tryz.prog X = .ok (115, .agg #[]) X := by kernel_rfl
theorem leastExp_128 (w : World) : Calls Tryz.prog 117 #[.agg #[]] w fun e w' => e = .returned (.int .i64 (-6176)) ∧ Below w.heap.size w w' := by
  go_enter Tryz.func117, Tryz.ntmps117
  go_wp2
  go_ret
  exact ⟨rfl, (Below.refl _ _).alloc (Nat.le_refl _) _⟩
theorem md_leastExp_128 (n : Nat) (X : World) : (method (n + 1) 57 (.agg #[]) "loop.example/g00085/impl.leastExp").run Tryz.prog X = .ok (117, .agg #[]) X := by kernel_rfl
theorem greatestExp_128 (w : World) : Calls Tryz.prog 116 #[.agg #[]] w fun e w' => e = .returned (.int .i64 6111) ∧ Below w.heap.size w w' := by
  go_enter Tryz.func116, Tryz.ntmps116
  go_wp2
  go_ret
  exact ⟨rfl, (Below.refl _ _).alloc (Nat.le_refl _) _⟩
theorem md_greatestExp_128 (n : Nat) (X : World) : (method (n + 1) 57 (.agg #[]) "loop.example/g00085/impl.greatestExp").run Tryz.prog X = .ok (116, .agg #[]) X := by kernel_rfl
theorem bias_128 (w : World) : Calls Tryz.prog 114 #[.agg #[]] w fun e w' => e = .returned (.int .i64 6176) ∧ Below w.heap.size w w' := by
  go_enter Tryz.func114, Tryz.ntmps114
  go_wp2
  go_ret
  exact ⟨rfl, (Below.refl _ _).alloc (Nat.le_refl _) _⟩
theorem md_bias_128 (n : Nat) (X : World) : (method (n + 1) 57 (.agg #[]) "loop.example/g00085/impl.bias").run Tryz.prog X = .ok (114, .agg #[]) X := by kernel_rfl
theorem restWidth_128 (w : World) : Calls Tryz.prog 118 #[.agg #[]] w fun e w' => e = .returned (.int .i64 12) ∧ Below w.heap.size w w' := by
  go_enter Tryz.func118, Tryz.ntmps118
  go_wp2
  go_ret
  exact ⟨rfl, (Below.refl _ _).alloc (Nat.le_refl _) _⟩
theorem md_restWidth_128 (n : Nat) (X : World) : (method (n + 1) 57 (.agg #[]) "loop.example/g00085/impl.restWidth").run Tryz.prog X = .ok (118, .agg #[]) X := by kernel_rfl
theorem fmtOf_128 (w : World) : Calls Tryz.prog 24 #[.int .i64 128] w fun e w' => e = .returned (.tuple #[.iface 57 (.agg #[]), .bool true]) ∧ w' = w := by
  go_enter Tryz.func24, Tryz.ntmps24
  go_wp2
  go_ret2
  exact ⟨rfl, rfl⟩
theorem decletsIn_128 (w : World) : Calls Tryz.prog 45 #[.iface 57 (.agg #[])] w fun e w' => e = .returned (.int .i64 11) ∧ Below w.heap.size w w' := by
  go_enter Tryz.func45, Tryz.ntmps45
  go_wp2_with fail
  refine (digitCount_128 _).mono ?_
  rintro e w1 ⟨rfl, hb⟩
  go_wp2
  go_ret
  exact ⟨rfl, hb⟩
theorem fmtOf_no (f : Int) (w : World) (h1 : f ≠ 64) (h2 : f ≠ 128) : Calls Tryz.prog 24 #[.int .i64 f] w fun e w' => e = .returned (.tuple #[.nilIface, .bool false]) ∧ w' = w := by
  have e1 : (f == 64) = false := beq_eq_false_iff_ne.2 h1
  have e2 : (f == 128) = false := beq_eq_false_iff_ne.2 h2
  go_enter Tryz.func24, Tryz.ntmps24
  go_wp2
  go_ret2
  exact ⟨rfl, rfl⟩
end Go.Proofs.YtmeicjbeibmmgadGreatDoor
