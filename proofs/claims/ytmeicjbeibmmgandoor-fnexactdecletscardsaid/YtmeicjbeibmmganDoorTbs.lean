/-
  Both tables of the program lie in their variables.
-/
import Derived.Test.YtmeicjbeibmmganDoorDcX
namespace Go.Proofs.YtmeicjbeibmmganDoor
open Go.RowKit
set_option linter.unusedVariables false
def Tabs (w : World) : Prop := Tab w ∧ DRows w ∧ 1 < w.heap.size ∧ 0 < w.heap.size
theorem Tabs.below {B : Nat} {w w' : World} (h : Tabs w) (hb : Below B w w') (hB : w.heap.size ≤ B) : Tabs w' :=
  ⟨h.1.below hb (Nat.lt_of_lt_of_le h.2.2.1 hB), h.2.1.below hb (Nat.lt_of_lt_of_le h.2.2.2 hB), Nat.lt_of_lt_of_le h.2.2.1 hb.size, Nat.lt_of_lt_of_le h.2.2.2 hb.size⟩
/-- .. where at least the tables lie below. -/
theorem Tabs.at {B : Nat} {w w' : World} (h : Tabs w) (hb : Below B w w') (h1 : 1 < B) (h2 : 0 < B) : Tabs w' :=
  ⟨h.1.below hb h1, h.2.1.below hb h2, Nat.lt_of_lt_of_le h.2.2.1 hb.size, Nat.lt_of_lt_of_le h.2.2.2 hb.size⟩
theorem Tabs.alloc {w : World} (h : Tabs w) (o : Obj) : Tabs (w.alloc o) := h.below ((Below.refl _ _).alloc (Nat.le_refl _) o) (Nat.le_refl _)
theorem Tabs.declet {w : World} (h : Tabs w) (n : Int) : Calls Tryd.prog 7 #[.int .i64 n] w fun e w' => e = .returned (.int .i64 (dcl n)) ∧ Below w.heap.size w w' := iDeclet_any n w h.1 h.2.1 h.2.2.1 h.2.2.2
end Go.Proofs.YtmeicjbeibmmganDoor
