/-
  Structs in blocks; regions that draw their order and whose callees lay memory: one walk over a class of worlds.
-/
import Derived.BigQuiet
import Derived.Deep.Quiet
import Derived.Deep.DeepCutAuto
import Derived.Test.YteofommckgeemaaGreatDoorSl
namespace Go.Proofs.YteofommckgeemaaGreatDoor
open Go.RowKit
set_option linter.unusedVariables false
set_option maxRecDepth 100000
theorem cell_of {w w' : World} (h : Below w.heap.size w w') {a : Addr} {v : Value} (hc : w.cell? a = some v) : w'.cell? a = some v := by
  rw [h.cell (World.block_lt_of_cell? w a hc)]
  exact hc
theorem bel1 {w W0 w1 : World} (h0 : Below w.heap.size w W0) (h1 : Below W0.heap.size W0 w1) : Below w.heap.size w w1 := h0.trans (h1.mono h0.size)
/-- The cells of a struct of three numbers, or two, that lies in a block. -/
def At3 (W : World) (b : Nat) (x y z : Value) : Prop := W.cell? ⟨b, 0, none⟩ = some x ∧ W.cell? ⟨b, 1, none⟩ = some y ∧ W.cell? ⟨b, 2, none⟩ = some z
def At2 (W : World) (b : Nat) (x y : Value) : Prop := W.cell? ⟨b, 0, none⟩ = some x ∧ W.cell? ⟨b, 1, none⟩ = some y
theorem At3.below {W w1 : World} {b : Nat} {x y z : Value} (h : At3 W b x y z) (hb : Below W.heap.size W w1) : At3 w1 b x y z := ⟨cell_of hb h.1, cell_of hb h.2.1, cell_of hb h.2.2⟩
theorem At2.below {W w1 : World} {b : Nat} {x y : Value} (h : At2 W b x y) (hb : Below W.heap.size W w1) : At2 w1 b x y := ⟨cell_of hb h.1, cell_of hb h.2⟩
theorem At3.alloc {W : World} {b : Nat} {x y z : Value} (h : At3 W b x y z) (o : Obj) : At3 (W.alloc o) b x y z := h.below ((Below.refl _ _).alloc (Nat.le_refl _) _)
theorem At2.alloc {W : World} {b : Nat} {x y : Value} (h : At2 W b x y) (o : Obj) : At2 (W.alloc o) b x y := h.below ((Below.refl _ _).alloc (Nat.le_refl _) _)
theorem wp_region_class {P : Program} {C : World → Prop} {id : Nat} {Q : Exit → Act → World → Prop} {a : Act} {w : World} {l : List Oper} (hm : P.follows .mixedOrders = true) (hB : Region.lexB .any l.toArray = true) (hC : C w.drew)
    (h : wpQuiet P l.toArray C (fun a' => ∀ w', C w' → Q .normal a' w') l a) : (Code.region id l.toArray true).wp P Q a w :=
  wp_region_quiet (C := C) hm hB hC (by simpa using h)
theorem Calls.class_of {P : Program} {f : FuncId} {args : Array Value} {C : World → Prop} {W : World} {v : Value} (h : Calls P f args W fun e w' => e = .returned v ∧ Below W.heap.size W w') (k : ∀ w', Below W.heap.size W w' → C w') : Calls P f args W fun e w'' => e = .returned v ∧ C w'' :=
  h.mono fun _ _ ⟨he, hb⟩ => ⟨he, k _ hb⟩
end Go.Proofs.YteofommckgeemaaGreatDoor
