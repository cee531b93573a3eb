/-
  Quantize of the model, walked.
-/
import Derived.Test.YtmndemegiimagarGreatDoorWhs
import Derived.Test.YtmndemegiimagarGreatDoorQzp
namespace Go.Proofs.YtmndemegiimagarGreatDoor
open Go.RowKit
set_option linter.unusedVariables false
set_option maxRecDepth 100000
theorem SU.a4 {w W : World} {ka : Int} {na : Bool} {ea : Int} {sa : ByteArray} {kb : Int} {nb : Bool} {eb : Int} {sb : ByteArray} (h : SU w W ka na ea sa kb nb eb sb) : At4r W w.heap.size (.int .i64 ka) (.bool na) (.int .i64 ea) (.string sa) := h.1
theorem SU.b4 {w W : World} {ka : Int} {na : Bool} {ea : Int} {sa : ByteArray} {kb : Int} {nb : Bool} {eb : Int} {sb : ByteArray} (h : SU w W ka na ea sa kb nb eb sb) : At4r W (w.heap.size + 1) (.int .i64 kb) (.bool nb) (.int .i64 eb) (.string sb) := h.2.1
theorem SU.end {w W W' : World} {ka : Int} {na : Bool} {ea : Int} {sa : ByteArray} {kb : Int} {nb : Bool} {eb : Int} {sb : ByteArray} (h : SU w W ka na ea sa kb nb eb sb) (hb : Below W.heap.size W W') : At5 W' (w.heap.size + 2) (.int .i64 0) (.bool false) (.int .i64 0) (.string { data := #[] }) (.int .i64 0) ∧ Below w.heap.size w W' := ⟨(h.next hb).2.2.1, (h.next hb).2.2.2.1⟩
theorem At5.set4 {w : World} {b : Nat} {x y z u v : Value} (h : At5 w b x y z u v) (v' : Value) : At5 (w.setCell ⟨b, 4, none⟩ v') b x y z u v' := by
  unfold At5 at *
  simp [World.setCell, Array.getElem?_modify, h]
theorem At5.far {w : World} {b c : Nat} {x y z u v : Value} (h : At5 w b x y z u v) (hc : c ≠ b) (i : Nat) (v' : Value) : At5 (w.setCell ⟨c, i, none⟩ v') b x y z u v := by
  unfold At5 at *
  simp [World.setCell, Array.getElem?_modify, h, hc]
theorem l11Shift_is (a : List Int) (n : Int) (w : World) (ha : Canon a) (la : a.length ≤ 200) (h0 : 0 ≤ n) (hn : a = [0] ∨ n ≤ 200) :
    Calls Tryz.prog 51 #[.string (tx a), .int .i64 n] w fun e w' => e = .returned (.string (tx (nt (vl a * 10 ^ n.toNat)))) ∧ Below w.heap.size w w' := by
  by_cases hz : a = [0]
  · subst hz
    have hb : ((tx [0]).toList == [48]) = true := by rw [tx_zero]; rfl
    have E : Hid (tx (nt (vl [0] * 10 ^ n.toNat)) = tx [0]) := by
      show _ = _
      rw [show vl [0] = 0 from rfl, Int.zero_mul, ← nt_of [0] 0 canon_zero rfl (by decide)]
    rw [E.out]
    clear E hn
    generalize tx [0] = T at *
    go_enter Tryz.func51, Tryz.ntmps51
    go_wp2
    go_ret
    exact ⟨rfl, Below.refl _ _⟩
  · have hn2 := hn.resolve_left hz
    have := l11Shift_all a n.toNat w ha la (by omega)
    rw [show ((n.toNat : Nat) : Int) = n by omega] at this
    refine this.mono ?_
    rintro e w' ⟨R, rfl, hR, -, hb⟩
    exact ⟨by rw [hR], hb⟩
end Go.Proofs.YtmndemegiimagarGreatDoor
