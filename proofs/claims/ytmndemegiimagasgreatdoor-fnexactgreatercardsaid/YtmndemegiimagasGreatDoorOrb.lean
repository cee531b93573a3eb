/-
  Order of the program: two numbers held against each other, by sign, kind, size and exponent; walked.
-/
import Derived.Test.YtmndemegiimagasGreatDoorOra
namespace Go.Proofs.YtmndemegiimagasGreatDoor
open Go.RowKit
set_option linter.unusedVariables false
set_option maxRecDepth 100000
/-- The place of a kind. -/
def kpl (k : Int) : Int := if k = 1 then 0 else if k = 2 then 1 else if k = 4 then 2 else 3
/-- The table of places lies in its variable. -/
def KTab (w : World) : Prop := (∀ k : Nat, 1 ≤ k → k ≤ 4 → w.cell? ⟨0, k, none⟩ = some (.int .i64 (kpl k))) ∧ 0 < w.heap.size
theorem KTab.below {B : Nat} {w w' : World} (h : KTab w) (hb : Below B w w') (hB : 0 < B) : KTab w' :=
  ⟨fun k h1 h4 => (hb.cell (p := ⟨0, k, none⟩) hB).trans (h.1 k h1 h4), Nat.lt_of_lt_of_le h.2 hb.size⟩
theorem KTab.next {w w' : World} (h : KTab w) (hb : Below w.heap.size w w') : KTab w' := h.below hb h.2
/-- Two of one sign, above nought. -/
def cmpU (x : Bool) (ka ea : Int) (sa : ByteArray) (kb eb : Int) (sb : ByteArray) : Int :=
  if x then orI (orI (cI (kpl ka) (kpl kb)) (cszI ka ea sa kb eb sb)) (cI ea eb) else orI (cI (kpl ka) (kpl kb)) (cszI ka ea sa kb eb sb)
def cmpR (x : Bool) (ka : Int) (na : Bool) (ea : Int) (sa : ByteArray) (kb : Int) (nb : Bool) (eb : Int) (sb : ByteArray) : Int :=
  if na && !nb then -1 else if nb && !na then 1 else if na then cmpU x kb eb sb ka ea sa else cmpU x ka ea sa kb eb sb
/-- The box of how it is compared, and the two numbers'. -/
def N3o (p : Nat) (x : Bool) (ka : Int) (na : Bool) (ea : Int) (sa : ByteArray) (kb : Int) (nb : Bool) (eb : Int) (sb : ByteArray) (W : World) : Prop :=
  W.heap[p]? = some (.cells #[.bool x] 77 (0, 0)) ∧ At4q W (p + 1) (.int .i64 ka) (.bool na) (.int .i64 ea) (.string sa) ∧ At4q W (p + 2) (.int .i64 kb) (.bool nb) (.int .i64 eb) (.string sb)
theorem N3o.next {p : Nat} {x : Bool} {W W' : World} {ka : Int} {na : Bool} {ea : Int} {sa : ByteArray} {kb : Int} {nb : Bool} {eb : Int} {sb : ByteArray} (h : N3o p x ka na ea sa kb nb eb sb W) (hb : Below W.heap.size W W') : N3o p x ka na ea sa kb nb eb sb W' :=
  ⟨(hb.block p (Array.getElem?_eq_some_iff.1 h.1).1).trans h.1, h.2.1.next hb, h.2.2.next hb⟩
theorem N3o.box {p : Nat} {x : Bool} {W : World} {ka : Int} {na : Bool} {ea : Int} {sa : ByteArray} {kb : Int} {nb : Bool} {eb : Int} {sb : ByteArray} (h : N3o p x ka na ea sa kb nb eb sb W) : W.cell? ⟨p, 0, none⟩ = some (.bool x) := by
  unfold World.cell?; simp only [h.1]; rfl
theorem n3o_new (w : World) (x : Bool) (ka : Int) (na : Bool) (ea : Int) (sa : ByteArray) (kb : Int) (nb : Bool) (eb : Int) (sb : ByteArray) :
    N3o w.heap.size x ka na ea sa kb nb eb sb (n2W (w.alloc (.cells #[.bool x] 77)) ka na ea sa kb nb eb sb) ∧ Below w.heap.size w (n2W (w.alloc (.cells #[.bool x] 77)) ka na ea sa kb nb eb sb) := by
  have h1 := (MapKept.heap_alloc w (.cells #[.bool x] 77)).1
  have z1 : (w.alloc (.cells #[.bool x] 77)).heap.size = w.heap.size + 1 := by simp
  have b1 : Below w.heap.size w (w.alloc (.cells #[.bool x] 77)) := (Below.refl _ _).alloc (Nat.le_refl _) _
  generalize w.alloc (.cells #[.bool x] 77) = w1 at *
  obtain ⟨hN, hb, hz⟩ := n2_new w1 ka na ea sa kb nb eb sb
  rw [z1] at hN
  exact ⟨⟨(hb.block _ (by omega)).trans h1, hN.1, hN.2⟩, b1.trans (hb.mono b1.size)⟩
/-- The two numbers swapped. -/
theorem N3o.swap {p : Nat} {x : Bool} {W : World} {ka : Int} {na : Bool} {ea : Int} {sa : ByteArray} {kb : Int} {nb : Bool} {eb : Int} {sb : ByteArray} (h : N3o p x ka na ea sa kb nb eb sb W) :
    N3o p x kb nb eb sb ka na ea sa ((W.setRow (p + 1) #[.int .i64 kb, .bool nb, .int .i64 eb, .string sb]).setRow (p + 2) #[.int .i64 ka, .bool na, .int .i64 ea, .string sa]) := by
  have h2 : At4q (W.setRow (p + 1) #[.int .i64 kb, .bool nb, .int .i64 eb, .string sb]) (p + 1) (.int .i64 kb) (.bool nb) (.int .i64 eb) (.string sb) := setRow_heap W _ _ _ _ _ h.2.1
  have h3 : At4q (W.setRow (p + 1) #[.int .i64 kb, .bool nb, .int .i64 eb, .string sb]) (p + 2) (.int .i64 kb) (.bool nb) (.int .i64 eb) (.string sb) := (setRow_other W (p + 1) (p + 2) _ (by omega)).trans h.2.2
  exact ⟨(setRow_other _ (p + 2) p _ (by omega)).trans ((setRow_other W (p + 1) p _ (by omega)).trans h.1), (setRow_other _ (p + 2) (p + 1) _ (by omega)).trans h2, setRow_heap _ _ _ _ _ _ h3⟩
end Go.Proofs.YtmndemegiimagasGreatDoor
