/-
  A number's four cells in a block that may be written.
-/
import Derived.Test.YtdkpiofeidcffaaGreatDoorRdl
import Derived.Test.YtdkpiofeidcffaaGreatDoorFinP
import Derived.Test.YtdkpiofeidcffaaGreatDoorSmA
namespace Go.Proofs.YtdkpiofeidcffaaGreatDoor
open Go.RowKit
set_option linter.unusedVariables false
set_option maxRecDepth 100000
theorem build_num (k : Int) (b : Bool) (e : Int) (s : ByteArray) (w : World) : (Instr.build 25 #[(0, .int .i64 k), (1, .bool b), (2, .int .i64 e), (3, .string s)]).run Tryz.prog w = .ok (numV k b e s) w := run_build w _ _ _ (by kernel_rfl)
/-- A Num's four cells in a block, which may be written. -/
def At4r (W : World) (b : Nat) (x y z u : Value) : Prop := W.heap[b]? = some (.cells #[x, y, z, u] 25 (0, 0))
theorem at4r_new (w : World) (x y z u : Value) : At4r (w.alloc (.cells #[x, y, z, u] 25)) w.heap.size x y z u := new_at w (.cells #[x, y, z, u] 25)
theorem At4r.cells {w : World} {b : Nat} {x y z u : Value} (h : At4r w b x y z u) : w.cell? ⟨b, 0, none⟩ = some x ∧ w.cell? ⟨b, 1, none⟩ = some y ∧ w.cell? ⟨b, 2, none⟩ = some z ∧ w.cell? ⟨b, 3, none⟩ = some u ∧ ∀ i, w.frozen? ⟨b, i, none⟩ = false := by
  unfold At4r at h
  exact ⟨by simp [World.cell?, h], by simp [World.cell?, h], by simp [World.cell?, h], by simp [World.cell?, h], fun i => by simp [World.frozen?, h]⟩
theorem At4r.lt {w : World} {b : Nat} {x y z u : Value} (h : At4r w b x y z u) : b < w.heap.size := (Array.getElem?_eq_some_iff.1 h).1
theorem At4r.below {w w' : World} {b B : Nat} {x y z u : Value} (h : At4r w b x y z u) (hb : Below B w w') (hB : b < B) : At4r w' b x y z u := (hb.block b hB).trans h
theorem At4r.next {w w' : World} {b : Nat} {x y z u : Value} (h : At4r w b x y z u) (hb : Below w.heap.size w w') : At4r w' b x y z u := h.below hb h.lt
theorem At4r.row {w : World} {b : Nat} {x y z u : Value} (h : At4r w b x y z u) (x' y' z' u' : Value) : At4r (w.setRow b #[x', y', z', u']) b x' y' z' u' := setRow_heap w b _ _ _ _ h
theorem At4r.other {w : World} {b c : Nat} {x y z u : Value} (h : At4r w b x y z u) (hc : b ≠ c) (cs : Array Value) : At4r (w.setRow c cs) b x y z u := (setRow_other w c b cs hc).trans h
end Go.Proofs.YtdkpiofeidcffaaGreatDoor
