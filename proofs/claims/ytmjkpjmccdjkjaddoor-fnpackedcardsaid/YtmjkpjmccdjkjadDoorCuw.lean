/-
  A word cut into its fields, by the program: what lies where meanwhile.
-/
import Derived.Test.YtmjkpjmccdjkjadDoorSpw
import Derived.Test.YtmjkpjmccdjkjadDoorJoi
import Derived.Test.YtmjkpjmccdjkjadDoorDcU
namespace Go.Proofs.YtmjkpjmccdjkjadDoor
open Go.RowKit
set_option linter.unusedVariables false
set_option maxRecDepth 100000
set_option linter.unusedSimpArgs false
theorem low_isW (W H L : Int) (n : Nat) (w : World) (h : IsW W H L) (hn : Wn n) :
    Calls Tryd.prog 45 #[wpV H L, .int .i64 n] w fun e w' => e = .returned (.int .u16 (W % 2 ^ n)) ∧ Below w.heap.size w w' := by
  obtain ⟨rfl, rfl, h0, h1⟩ := h
  exact lowBits_any W n w hn h0 h1
theorem drop_isW (W H L : Int) (n : Nat) (w : World) (h : IsW W H L) (hn : Wn n) :
    Calls Tryd.prog 46 #[wpV H L, .int .i64 n] w fun e w' => ∃ H' L', e = .returned (wpV H' L') ∧ Hid (IsW (W / 2 ^ n) H' L') ∧ Below w.heap.size w w' := by
  obtain ⟨rfl, rfl, h0, h1⟩ := h
  have hp : (0 : Int) < 2 ^ n := Int.pow_pos (by decide)
  have a := Int.ediv_nonneg h0 (Int.le_of_lt hp)
  have b := Int.ediv_le_self (2 ^ n) h0
  exact (dropBits_any W n w hn h0 h1).mono fun e w' ⟨e1, hb⟩ => ⟨_, _, e1, ⟨rfl, rfl, a, by omega⟩, hb⟩
/-- The word's box (written into), the answer's, and the row of declets. -/
def CU (w : World) (g : Nat) (wx : World) (gb : Nat) (H L : Int) (X : List Int) : Prop :=
  Below w.heap.size w wx ∧ wx.cell? ⟨w.heap.size, 0, none⟩ = some (.int .u64 H) ∧ wx.cell? ⟨w.heap.size, 1, none⟩ = some (.int .u64 L) ∧ (∀ i, wx.frozen? ⟨w.heap.size, i, none⟩ = false) ∧ At4 wx (w.heap.size + 1) (.bool false) (.int .u8 0) (.int .u16 0) (.slice none 0 0) ∧ wx.ownsRow (w.heap.size + 2) 2 1 (.slice (some ⟨gb, 0, none⟩) g g) g (X.map (Value.int .i64))
theorem CU.next {w wx w1 : World} {g gb : Nat} {H L : Int} {X : List Int} (h : CU w g wx gb H L X) (hb : Below wx.heap.size wx w1) : CU w g w1 gb H L X := by
  obtain ⟨h1, h2, h3, h4, h5, h6⟩ := h
  exact ⟨h1.trans (hb.mono h1.size), cell_of hb h2, cell_of hb h3, fun i => (hb.frozen (p := ⟨w.heap.size, i, none⟩) (show w.heap.size < wx.heap.size from World.block_lt_of_cell? wx ⟨w.heap.size, 0, none⟩ h2)).trans (h4 i), h5.same hb, own_below h6 hb (Nat.le_refl _)⟩
theorem CU.drew {w wx : World} {g gb : Nat} {H L : Int} {X : List Int} (h : CU w g wx gb H L X) : CU w g wx.drew gb H L X := h.next (Below.refl _ _).drew
theorem CU.word {w wx : World} {g gb : Nat} {H L : Int} {X : List Int} (h : CU w g wx gb H L X) (H' L' : Int) : CU w g ((wx.setCell ⟨w.heap.size, 0, none⟩ (.int .u64 H')).setCell ⟨w.heap.size, 1, none⟩ (.int .u64 L')) gb H' L' X := by
  obtain ⟨h1, h2, h3, h4, h5, h6⟩ := h
  have p := put2w h2 h3 (.int .u64 H') (.int .u64 L')
  exact ⟨(h1.setCell (Nat.le_refl _) _).setCell (Nat.le_refl _) _, p.1, p.2, fun i => by rw [World.frozen?_setCell, World.frozen?_setCell]; exact h4 i, (h5.far (by omega) _ _).far (by omega) _ _, ownsRow_setCell_below (ownsRow_setCell_below h6 (by show w.heap.size < _; omega) _) (by show w.heap.size < _; omega) _⟩
theorem CU.ge {w wx : World} {g gb : Nat} {H L : Int} {X : List Int} (h : CU w g wx gb H L X) (hX : 0 < g) : w.heap.size + 2 ≤ gb ∧ gb < wx.heap.size := by
  obtain ⟨-, -, -, -, -, h6⟩ := h
  obtain ⟨hl, h6⟩ := h6
  rcases h6 with ⟨e, -⟩ | ⟨g', cap, cur, e, hb, hc, -⟩
  · cases e
  · cases e
    exact ⟨hb, (Array.getElem?_eq_some_iff.1 hc).1⟩
theorem CU.row {w wx : World} {g gb : Nat} {H L : Int} {X : List Int} (h : CU w g wx gb H L X) (hX : X.length = g) (i : Nat) (hi : i < g) (d : Int) : CU w g (wx.setCell ⟨gb, i, none⟩ (.int .i64 d)) gb H L (X.set i d) ∧ wx.cell? ⟨gb, i, none⟩ = some (.int .i64 (X.getD i 0)) ∧ wx.frozen? ⟨gb, i, none⟩ = false := by
  obtain ⟨hge, hlt⟩ := h.ge (by omega)
  obtain ⟨h1, h2, h3, h4, h5, h6⟩ := h
  have n0 : w.heap.size ≠ gb := by omega
  refine ⟨⟨h1.setCell (by show w.heap.size ≤ gb; omega) _, far_cell n0 h2, far_cell n0 h3, fun j => by rw [World.frozen?_setCell]; exact h4 j, h5.far (by omega) _ _, ?_⟩, ?_, World.ownsRow.frozenAt h6 i⟩
  · have := (World.ownsRow.stored h6 i (.int .i64 d)).1
    rw [List.map_set]
    exact this
  · rw [World.ownsRow.cellAt h6 i (by omega)]
    simp only [List.getElem?_map, List.getD]
    rw [List.getElem?_eq_getElem (by omega)]
    rfl
theorem CU.fin {w wx : World} {g gb : Nat} {H L : Int} {X : List Int} (h : CU w g wx gb H L X) (hX : X.length = g) (hp : 0 < g) (x y z u : Value) : At4 (res4 wx (w.heap.size + 1) x y z u) (w.heap.size + 1) x y z u ∧ gb < (res4 wx (w.heap.size + 1) x y z u).heap.size ∧ (∀ i, i < g → (res4 wx (w.heap.size + 1) x y z u).cell? ⟨gb, i, none⟩ = some (.int .i64 (X.getD i 0))) ∧ Below w.heap.size w (res4 wx (w.heap.size + 1) x y z u) := by
  obtain ⟨hge, hlt⟩ := h.ge hp
  have hn : gb ≠ w.heap.size + 1 := by omega
  have hc := fun i hi => (h.row hX i hi 0).2.1
  obtain ⟨h1, h2, h3, h4, h5, h6⟩ := h
  exact ⟨h5.put x y z u, by simpa [res4] using hlt, fun i hi => far_cell hn (far_cell hn (far_cell hn (far_cell hn (hc i hi)))), bel_four h1 (by omega) x y z u⟩
theorem CU.start {w w1 : World} {H L : Int} (g : Nat) (cs : Array Value) (hg : g ≤ 1000) (hz : cs.size = g) (hz2 : cs.toList = (List.replicate g 0).map (Value.int .i64)) (hb : Below ((w.alloc (.cells #[.int .u64 H, .int .u64 L] 33)).alloc (.cells #[.bool false, .int .u8 0, .int .u16 0, .slice none 0 0] 65)).heap.size ((w.alloc (.cells #[.int .u64 H, .int .u64 L] 33)).alloc (.cells #[.bool false, .int .u8 0, .int .u16 0, .slice none 0 0] 65)) w1) :
    CU w g (w1.alloc (.cells cs 2)) w1.heap.size H L (List.replicate g 0) := by
  have hs1 := hb.size
  have hs0 : ((w.alloc (.cells #[.int .u64 H, .int .u64 L] 33)).alloc (.cells #[.bool false, .int .u8 0, .int .u16 0, .slice none 0 0] 65)).heap.size = w.heap.size + 2 := by simp
  rw [hs0] at hs1
  have n := new4 (w.alloc (.cells #[.int .u64 H, .int .u64 L] 33)) (.bool false) (.int .u8 0) (.int .u16 0) (.slice none 0 0) 65
  rw [show (w.alloc (.cells #[.int .u64 H, .int .u64 L] 33)).heap.size = w.heap.size + 1 by simp] at n
  have c0 : (w.alloc (.cells #[.int .u64 H, .int .u64 L] 33)).cell? ⟨w.heap.size, 0, none⟩ = some (.int .u64 H) := by simp
  have c1 : (w.alloc (.cells #[.int .u64 H, .int .u64 L] 33)).cell? ⟨w.heap.size, 1, none⟩ = some (.int .u64 L) := by simp
  have cf : ∀ i, (w.alloc (.cells #[.int .u64 H, .int .u64 L] 33)).frozen? ⟨w.heap.size, i, none⟩ = false := fun i => by simp
  have b1 : Below w.heap.size w w1 := (((Below.refl _ _).alloc (Nat.le_refl _) _).alloc (by simp) _).trans (hb.mono (by rw [hs0]; omega))
  have f1 : ∀ i, w1.frozen? ⟨w.heap.size, i, none⟩ = false := fun i => (hb.frozen (p := ⟨w.heap.size, i, none⟩) (by rw [hs0]; show w.heap.size < _; omega)).trans (alf_of (by simp) (cf i) _)
  have a1 : At4 w1 (w.heap.size + 1) (.bool false) (.int .u8 0) (.int .u16 0) (.slice none 0 0) := At4.same n hb
  refine ⟨b1.alloc (by omega) _, al_of (cell_of hb (al_of c0 _)) _, al_of (cell_of hb (al_of c1 _)) _, fun i => alf_of (by omega) (f1 i) _, a1.alloc (by omega) _, ?_⟩
  rw [← hz2]
  exact World.ownsRow_lit (base := w.heap.size + 2) (e := 2) (size := 1) w1 cs g (by omega) (by unfold maxLen; omega) (by omega)
/-- The row of declets, its last j laid. -/
def cdl (W : Int) (g : Nat) : Nat → List Int
  | 0 => List.replicate g 0
  | j + 1 => (cdl W g j).set (g - 1 - j) (W / 2 ^ (10 * j) % 1024)
theorem cdl_len (W : Int) (g j : Nat) : (cdl W g j).length = g := by
  induction j with
  | zero => simp [cdl]
  | succ j ih => simp [cdl, ih]
theorem cdl_at (W : Int) (g j i : Nat) (hj : j ≤ g) (h : g ≤ i + j) (hi : i < g) : (cdl W g j).getD i 0 = W / 2 ^ (10 * (g - 1 - i)) % 1024 := by
  induction j with
  | zero => omega
  | succ j ih =>
    unfold cdl
    by_cases c : i = g - 1 - j
    · rw [← c, show g - 1 - i = j by omega]
      simp only [List.getD, List.getElem?_set, cdl_len]
      rw [if_pos trivial, if_pos hi]; rfl
    · have : ((cdl W g j).set (g - 1 - j) (W / 2 ^ (10 * j) % 1024)).getD i 0 = (cdl W g j).getD i 0 := by
        simp only [List.getD, List.getElem?_set]
        rw [if_neg (fun e => c e.symm)]
      rw [this]
      exact ih (by omega) (by omega)
theorem div_more (W : Int) (a b : Nat) : W / 2 ^ a / 2 ^ b = W / 2 ^ (a + b) := by
  rw [Int.pow_add, Int.ediv_ediv_of_nonneg (Int.le_of_lt (Int.pow_pos (by decide)))]
theorem isW_div {W H L : Int} (h : IsW W H L) (n : Nat) : 0 ≤ W / 2 ^ n := Int.ediv_nonneg h.2.2.1 (Int.le_of_lt (Int.pow_pos (by decide)))
end Go.Proofs.YtmjkpjmccdjkjadDoor
