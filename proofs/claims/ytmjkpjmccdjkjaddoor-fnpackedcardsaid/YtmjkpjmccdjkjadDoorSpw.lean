/-
  The fields of a number that is not finite, by the program, walked.
-/
import Derived.Test.YtmjkpjmccdjkjadDoorRows
import Derived.WalkKit
import Derived.BigQuiet
import Derived.Deep.QuietTactic
import Derived.Test.YtmjkpjmccdjkjadDoorDig
import Derived.Test.YtmjkpjmccdjkjadDoorDcU
import Derived.Test.YtmjkpjmccdjkjadDoorWrdR
import Derived.Test.YtmjkpjmccdjkjadDoorFmt
import Derived.Test.YtmjkpjmccdjkjadDoorIsR2
import Derived.Deep.RegionWith
import Derived.Deep.DeepCutAuto
namespace Go.Proofs.YtmjkpjmccdjkjadDoor
open Go.RowKit
set_option linter.unusedVariables false
set_option maxRecDepth 100000
theorem results_num {fn : Func} {p : Tmp} {b : Nat} {x y z u : Value} (h : fn.results = #[.cell p 25]) (tmps : Array Value) (w : World) (hp : tmps[p]?.getD undef = .pointer (some ⟨b, 0, none⟩))
    (q0 : w.cell? ⟨b, 0, none⟩ = some x) (q1 : w.cell? ⟨b, 1, none⟩ = some y) (q2 : w.cell? ⟨b, 2, none⟩ = some z) (q3 : w.cell? ⟨b, 3, none⟩ = some u) : (results fn tmps).run Tryd.prog w = .ok (.agg #[x, y, z, u]) w := by
  simp [results, h, hp, go_sem, q0, q1, q2, q3]
/-- A Num's four cells in a block. -/
def At4 (W : World) (b : Nat) (x y z u : Value) : Prop := W.cell? ⟨b, 0, none⟩ = some x ∧ W.cell? ⟨b, 1, none⟩ = some y ∧ W.cell? ⟨b, 2, none⟩ = some z ∧ W.cell? ⟨b, 3, none⟩ = some u ∧ ∀ i, W.frozen? ⟨b, i, none⟩ = false
theorem at4_new (w : World) (x y z u : Value) : At4 (w.alloc (.cells #[x, y, z, u] 25)) w.heap.size x y z u := by
  refine ⟨?_, ?_, ?_, ?_, fun i => ?_⟩ <;> simp
theorem At4.below {W w1 : World} {b B : Nat} {x y z u : Value} (h : At4 W b x y z u) (hb : Below B W w1) (hB : b < B) : At4 w1 b x y z u :=
  ⟨(hb.cell (p := ⟨b, 0, none⟩) hB).trans h.1, (hb.cell (p := ⟨b, 1, none⟩) hB).trans h.2.1, (hb.cell (p := ⟨b, 2, none⟩) hB).trans h.2.2.1, (hb.cell (p := ⟨b, 3, none⟩) hB).trans h.2.2.2.1, fun i => (hb.frozen (p := ⟨b, i, none⟩) hB).trans (h.2.2.2.2 i)⟩
theorem At4.alloc {W : World} {b : Nat} {x y z u : Value} (h : At4 W b x y z u) (hb : b < W.heap.size) (o : Obj) : At4 (W.alloc o) b x y z u := h.below ((Below.refl _ _).alloc (Nat.le_refl _) _) hb
theorem At4.put {W : World} {b : Nat} {x y z u : Value} (h : At4 W b x y z u) (x' y' z' u' : Value) : At4 ((((W.setCell ⟨b, 0, none⟩ x').setCell ⟨b, 1, none⟩ y').setCell ⟨b, 2, none⟩ z').setCell ⟨b, 3, none⟩ u') b x' y' z' u' := by
  obtain ⟨h0, h1, h2, h3, h4⟩ := h
  refine ⟨?_, ?_, ?_, ?_, fun i => ?_⟩
  · rw [World.cell?_setCell_other _ _ _ _ (by simp), World.cell?_setCell_other _ _ _ _ (by simp), World.cell?_setCell_other _ _ _ _ (by simp)]; exact World.cell?_setCell_same _ _ _ h0
  · rw [World.cell?_setCell_other _ _ _ _ (by simp), World.cell?_setCell_other _ _ _ _ (by simp)]; exact World.cell?_setCell_same _ _ _ (u := y) (by rw [World.cell?_setCell_other _ _ _ _ (by simp)]; exact h1)
  · rw [World.cell?_setCell_other _ _ _ _ (by simp)]; exact World.cell?_setCell_same _ _ _ (u := z) (by rw [World.cell?_setCell_other _ _ _ _ (by simp), World.cell?_setCell_other _ _ _ _ (by simp)]; exact h2)
  · exact World.cell?_setCell_same _ _ _ (u := u) (by rw [World.cell?_setCell_other _ _ _ _ (by simp), World.cell?_setCell_other _ _ _ _ (by simp), World.cell?_setCell_other _ _ _ _ (by simp)]; exact h3)
  · rw [World.frozen?_setCell, World.frozen?_setCell, World.frozen?_setCell, World.frozen?_setCell]; exact h4 i
theorem At4.drewN {W : World} {b : Nat} {x y z u : Value} (h : At4 W b x y z u) (n : Nat) : At4 (W.drewN n) b x y z u := h
theorem At4.far {W : World} {b : Nat} {x y z u : Value} (h : At4 W b x y z u) {b' : Nat} (hb : b' ≠ b) (i : Nat) (v : Value) : At4 (W.setCell ⟨b', i, none⟩ v) b x y z u := by
  obtain ⟨h0, h1, h2, h3, h4⟩ := h
  have ne : ∀ j, (⟨b', i, none⟩ : Addr) ≠ ⟨b, j, none⟩ := fun j e => hb (by cases e; rfl)
  refine ⟨?_, ?_, ?_, ?_, fun i => by rw [World.frozen?_setCell]; exact h4 i⟩
  · rw [World.cell?_setCell_other _ _ _ _ (ne 0)]; exact h0
  · rw [World.cell?_setCell_other _ _ _ _ (ne 1)]; exact h1
  · rw [World.cell?_setCell_other _ _ _ _ (ne 2)]; exact h2
  · rw [World.cell?_setCell_other _ _ _ _ (ne 3)]; exact h3
theorem bel_four {B : Nat} {w W : World} (h : Below B w W) {b : Nat} (hb : B ≤ b) (x y z u : Value) : Below B w ((((W.setCell ⟨b, 0, none⟩ x).setCell ⟨b, 1, none⟩ y).setCell ⟨b, 2, none⟩ z).setCell ⟨b, 3, none⟩ u) := (((h.setCell hb _).setCell hb _).setCell hb _).setCell hb _
end Go.Proofs.YtmjkpjmccdjkjadDoor
namespace Go.Proofs.YtmjkpjmccdjkjadDoor
open Go.RowKit
set_option linter.unusedVariables false
set_option maxRecDepth 100000
set_option linter.unusedSimpArgs false
theorem lead_tab : ∀ h : Fin 3, ∀ f : Fin 10, (f.val < 8 → bits .or .u8 ((h.val : Int) * 8) (f.val : Int) = fv h.val f.val) ∧ (8 ≤ f.val → bits .or .u8 (bits .or .u8 24 ((h.val : Int) * 2)) ((f.val : Int) - 8) = fv h.val f.val) := by decide +kernel
theorem leadOf_any (h f : Int) (w : World) (h0 : 0 ≤ h) (h2 : h ≤ 2) (f0 : 0 ≤ f) (f9 : f ≤ 9) :
    Calls Tryd.prog 43 #[.int .u8 h, .int .u8 f] w fun e w' => e = .returned (.int .u8 (fv h f)) ∧ w' = w := by
  obtain ⟨H, rfl⟩ := Int.eq_ofNat_of_zero_le h0
  obtain ⟨F, rfl⟩ := Int.eq_ofNat_of_zero_le f0
  have t := lead_tab ⟨H, by omega⟩ ⟨F, by omega⟩
  by_cases hf : (F : Int) < 8
  · have e := t.1 (by simp; omega)
    simp only at e
    clear t
    have w1 : IntKind.u8.wrap ((H : Int) * 8) = H * 8 := by rw [IntKind.wrap_u8]; omega
    go_enter Tryd.func43, Tryd.ntmps43
    go_wp2
    go_ret
    exact ⟨Ln.ret_int (by first | exact e | rfl), rfl⟩
  · have e := t.2 (by simp; omega)
    simp only at e
    clear t
    have w1 : IntKind.u8.wrap ((H : Int) * 2) = H * 2 := by rw [IntKind.wrap_u8]; omega
    have w2 : IntKind.u8.wrap ((F : Int) - 8) = F - 8 := by rw [IntKind.wrap_u8]; omega
    go_enter Tryd.func43, Tryd.ntmps43
    go_wp2
    go_ret
    exact ⟨Ln.ret_int (by first | exact e | rfl), rfl⟩
theorem splitLead_any (c : Int) (w : World) (h0 : 0 ≤ c) (h1 : c ≤ 31) :
    Calls Tryd.prog 34 #[.int .u8 c] w fun e w' => e = .returned (.tuple #[.int .u8 (uH c), .int .u8 (uF c)]) ∧ w' = w := by
  by_cases hc : c / 8 = 3
  · have e1 : uH c = c / 2 % 4 := by unfold uH; rw [if_pos hc]
    have e2 : uF c = 8 + c % 2 := by unfold uF; rw [if_pos hc]
    rw [e1, e2]
    clear e1 e2
    have m1 : bits .and .u8 (c / 2) 3 = c / 2 % 4 := by
      have := Bm.mask_u8 (c / 2) 2 (by omega) (by omega) (by omega)
      rw [show (2 : Int) ^ 2 - 1 = 3 by decide, show (2 : Int) ^ 2 = 4 by decide] at this
      exact this
    have m2 := Bm.one_u8 c h0 (by omega)
    have m3 : IntKind.u8.wrap (8 + c % 2) = 8 + c % 2 := by rw [IntKind.wrap_u8]; omega
    have m4 : 0 ≤ c % 2 ∧ c % 2 ≤ 1 := by omega
    go_enter Tryd.func34, Tryd.ntmps34
    go_wp2
    go_ret2
    exact ⟨rfl, rfl⟩
  · have e1 : uH c = c / 8 := by unfold uH; rw [if_neg hc]
    have e2 : uF c = c % 8 := by unfold uF; rw [if_neg hc]
    rw [e1, e2]
    clear e1 e2
    have hcb : (c / 8 == 3) = false := beq_eq_false_iff_ne.2 hc
    go_enter Tryd.func34, Tryd.ntmps34
    go_wp2
    go_ret2
    exact ⟨rfl, rfl⟩
/-- Noughts, the first k digits laid behind. -/
def pdg (m : Nat) (ds : List Int) : Nat → List Int
  | 0 => List.replicate m 0
  | k + 1 => (pdg m ds k).set (m - ds.length + k) (ds.getD k 0)
theorem pdg_len (m : Nat) (ds : List Int) (k : Nat) : (pdg m ds k).length = m := by
  induction k with
  | zero => simp [pdg]
  | succ k ih => simp [pdg, ih]
theorem pdg_at (m : Nat) (ds : List Int) (h : ds.length ≤ m) (k i : Nat) (hk : k ≤ ds.length) : (pdg m ds k).getD i 0 = if m - ds.length ≤ i ∧ i < m - ds.length + k then ds.getD (i - (m - ds.length)) 0 else 0 := by
  induction k with
  | zero =>
    rw [if_neg (by omega)]
    simp only [pdg, List.getD, List.getElem?_replicate]
    split <;> rfl
  | succ k ih =>
    unfold pdg
    by_cases c : i = m - ds.length + k
    · subst c
      rw [if_pos (by omega)]
      simp only [List.getD, List.getElem?_set, pdg_len]
      rw [if_pos trivial, if_pos (by omega)]
      simp
    · have : ((pdg m ds k).set (m - ds.length + k) (ds.getD k 0)).getD i 0 = (pdg m ds k).getD i 0 := by
        simp only [List.getD, List.getElem?_set]
        rw [if_neg (fun e => c e.symm)]
      rw [this, ih (by omega)]
      by_cases c2 : m - ds.length ≤ i ∧ i < m - ds.length + k
      · rw [if_pos c2, if_pos (by omega)]
      · rw [if_neg c2, if_neg (by omega)]
theorem pdg_all (m : Nat) (ds : List Int) (h : ds.length ≤ m) : pdg m ds ds.length = npad m ds := by
  apply List.ext_getElem
  · rw [pdg_len, npad_len m ds h]
  · intro i h1 h2
    rw [pdg_len] at h1
    have g : ∀ (L : List Int) (hh : i < L.length), L[i] = L.getD i 0 := fun L hh => by rw [List.getD, List.getElem?_eq_getElem hh]; rfl
    rw [g, g, pdg_at m ds h ds.length i (Nat.le_refl _)]
    unfold npad
    by_cases c : i < m - ds.length
    · rw [if_neg (by omega), getD_left _ _ _ (by simp; omega)]
      simp only [List.getD, List.getElem?_replicate]
      rw [if_pos c]; rfl
    · rw [if_pos (by omega), show i = (List.replicate (m - ds.length) (0 : Int)).length + (i - (m - ds.length)) by simp; omega, getD_right]
      simp
theorem paddedDigits_any (ds : List Int) (m : Nat) (w : World) (hd : Dec ds) (hl : ds.length ≤ m) (hm : m ≤ 34) (hp : 0 < m) :
    Calls Tryd.prog 41 #[.string (tx ds), .int .i64 m] w fun e w' => ∃ v, e = .returned v ∧ HasN w' w.heap.size v (npad m ds) ∧ Below w.heap.size w w' := by
  obtain ⟨i0, hi, hz0, hz1, hz2⟩ := info_parts info64
  obtain ⟨w1, hrun, hown, hgrow⟩ := run_make_full (P := Tryd.prog) w w.heap.size 45 2 i0 (.int .i64 0) 1 Tryd.underlying45 hi hz0 hz1 .i64 .i64 m (by rw [hz2]; omega) (by unfold maxLen; omega) (Nat.le_refl _)
  have hz : (tx ds).size = ds.length := tx_size ds
  have HN : Hid (w1.ownsRow w.heap.size 2 1 (.slice (some ⟨w.heap.size, 0, none⟩) m m) m ((pdg m ds 0).map (Value.int .i64)) ∧ Below w.heap.size w w1) := by
    refine ⟨?_, Below.grown (Below.refl _ _) hgrow (Nat.le_refl _) (fun k hk => by cases hk)⟩
    have := hown
    rw [Nat.mul_one, show (Value.int .i64 0).cells = #[Value.int .i64 0] from rfl, toList_madeCells_one] at this
    simpa [pdg] using this
  have HA : Hid (∀ k (hk : k < (tx ds).size), (((tx ds)[k]'hk).toNat : Int) = 48 + ds.getD k 0) := fun k hk => tx_at ds hd k hk
  have HD : Hid (∀ k, 0 ≤ ds.getD k 0 ∧ ds.getD k 0 ≤ 9) := fun k => dec_at ds hd k
  have HL : Hid (∀ k, (pdg m ds k).length = m) := pdg_len m ds
  have HF : Hid (pdg m ds (tx ds).size = npad m ds) := by show _ = _; rw [hz]; exact pdg_all m ds hl
  clear hown hgrow hd
  have ha : (m : Int) - ((tx ds).size : Int) = ((m - ds.length : Nat) : Int) := by omega
  have hsz : (tx ds).size ≤ m := by omega
  have hm2 : (m - ds.length) + (tx ds).size ≤ m := by omega
  have HS : Hid (∀ k, pdg m ds (k + 1) = (pdg m ds k).set (m - ds.length + k) (ds.getD k 0)) := fun k => rfl
  clear hz hl
  generalize m - ds.length = A at *
  generalize tx ds = T at *
  go_enter Tryd.func41, Tryd.ntmps41
  go_wp2
  clear hrun ha
  go_loopw [16] (fun i wr => ∃ k : Nat, k ≤ T.size ∧ i = .int .i64 (k : Int) ∧ Hid (wr.ownsRow w.heap.size 2 1 (.slice (some ⟨w.heap.size, 0, none⟩) m m) m ((pdg m ds k).map (Value.int .i64))) ∧ Hid (Below w.heap.size w wr)) (fun i _ => T.size - (intOf i).toNat)
  case atStart => exact ⟨0, Nat.zero_le _, rfl, HN.out.1, HN.out.2⟩
  case round =>
    obtain ⟨k, hk, rfl, hown, hbel⟩ := hrel
    by_cases hlt : k < T.size
    · have hlt' : (k : Int) < (T.size : Int) := by omega
      have ht := HA.out k hlt
      have hdk := HD.out k
      have HSk : Hid (pdg m ds (k + 1) = (pdg m ds k).set (A + k) (ds.getD k 0)) := HS.out k
      have hln := HL.out k
      generalize ds.getD k 0 = d at *
      have wF : IntKind.u8.wrap (((T[k]'hlt).toNat : Int) - 48) = d := by rw [IntKind.wrap_u8, ht]; omega
      clear ht
      have hf := World.ownsRow.frozenAt hown.out (A + k)
      have hc : wr.cell? ⟨w.heap.size, A + k, none⟩ = some (.int .i64 ((pdg m ds k).getD (A + k) 0)) := by
        rw [World.ownsRow.cellAt hown.out (A + k) (by omega)]
        simp only [List.getElem?_map, List.getD]
        rw [List.getElem?_eq_getElem (by rw [hln]; omega)]
        rfl
      have Hst : Hid (_ ∧ _) := World.ownsRow.stored hown.out (A + k) (.int .i64 d)
      have hix : (A : Int) + (k : Int) < (m : Int) := by omega
      have hix0 : 0 ≤ (A : Int) + (k : Int) := by omega
      have hix1 : ((A : Int) + (k : Int)).toNat = A + k := by omega
      generalize (pdg m ds k).getD (A + k) 0 = old at *
      go_wp2
      go_roundw
      case rel =>
        refine ⟨k + 1, by omega, by go_num, ?_, hbel.out.setCell (Nat.le_refl _) _⟩
        have := Hst.out.1
        rw [HSk.out]
        rw [Hid, List.map_set]
        exact this
      case measure => simp [intOf]; omega
    · obtain rfl : k = T.size := by omega
      have HO : Hid (HasN wr w.heap.size (.slice (some ⟨w.heap.size, 0, none⟩) m m) (npad m ds)) := by
        refine ⟨?_, by simp⟩
        have := hown.out
        rw [HF.out] at this
        unfold Has
        have hn := HL.out T.size
        rw [HF.out] at hn
        rw [hn]
        exact this
      clear hown
      go_wp2
      go_ret
      exact ⟨_, rfl, HO.out, hbel.out⟩
end Go.Proofs.YtmjkpjmccdjkjadDoor
namespace Go.Proofs.YtmjkpjmccdjkjadDoor
open Go.RowKit
set_option linter.unusedVariables false
set_option maxRecDepth 100000
set_option linter.unusedSimpArgs false
theorem results_fl {fn : Func} {p : Tmp} {b : Nat} {x y z u : Value} (h : fn.results = #[.cell p 65]) (tmps : Array Value) (w : World) (hp : tmps[p]?.getD undef = .pointer (some ⟨b, 0, none⟩))
    (q0 : w.cell? ⟨b, 0, none⟩ = some x) (q1 : w.cell? ⟨b, 1, none⟩ = some y) (q2 : w.cell? ⟨b, 2, none⟩ = some z) (q3 : w.cell? ⟨b, 3, none⟩ = some u) : (results fn tmps).run Tryd.prog w = .ok (.agg #[x, y, z, u]) w := by
  simp [results, h, hp, go_sem, q0, q1, q2, q3]
/-- Fields as a value. -/
abbrev flV (b : Bool) (ld rs : Int) (v : Value) : Value := .agg #[.bool b, .int .u8 ld, .int .u16 rs, v]
/-- The number's box and the answer's. -/
abbrev gbx (w : World) (k : Int) (b : Bool) (e : Int) (s : ByteArray) : World := (nbq w k b e s).alloc (.cells #[.bool false, .int .u8 0, .int .u16 0, .slice none 0 0] 65)
theorem gbx_cells {w W : World} {k : Int} {b : Bool} {e : Int} {s : ByteArray} (h : Below (w.heap.size + 2) (gbx w k b e s) W) : W.cell? ⟨w.heap.size, 0, none⟩ = some (.int .i64 k) ∧ W.cell? ⟨w.heap.size, 1, none⟩ = some (.bool b) ∧ W.cell? ⟨w.heap.size, 2, none⟩ = some (.int .i64 e) ∧ W.cell? ⟨w.heap.size, 3, none⟩ = some (.string s) ∧
    W.cell? ⟨w.heap.size + 1, 0, none⟩ = some (.bool false) ∧ W.cell? ⟨w.heap.size + 1, 1, none⟩ = some (.int .u8 0) ∧ W.cell? ⟨w.heap.size + 1, 2, none⟩ = some (.int .u16 0) ∧ W.cell? ⟨w.heap.size + 1, 3, none⟩ = some (.slice none 0 0) ∧ ∀ i, W.frozen? ⟨w.heap.size + 1, i, none⟩ = false := by
  refine ⟨?_, ?_, ?_, ?_, ?_, ?_, ?_, ?_, fun i => ?_⟩
  · rw [h.cell (p := ⟨w.heap.size, 0, none⟩) (by simp)]; simp
  · rw [h.cell (p := ⟨w.heap.size, 1, none⟩) (by simp)]; simp
  · rw [h.cell (p := ⟨w.heap.size, 2, none⟩) (by simp)]; simp
  · rw [h.cell (p := ⟨w.heap.size, 3, none⟩) (by simp)]; simp
  · rw [h.cell (p := ⟨w.heap.size + 1, 0, none⟩) (by simp)]; simp
  · rw [h.cell (p := ⟨w.heap.size + 1, 1, none⟩) (by simp)]; simp
  · rw [h.cell (p := ⟨w.heap.size + 1, 2, none⟩) (by simp)]; simp
  · rw [h.cell (p := ⟨w.heap.size + 1, 3, none⟩) (by simp)]; simp
  · rw [h.frozen (p := ⟨w.heap.size + 1, i, none⟩) (by simp)]; simp
theorem gbx_out {w W : World} {k : Int} {b : Bool} {e : Int} {s : ByteArray} (h : Below (w.heap.size + 2) (gbx w k b e s) W) : Below w.heap.size w W := (((Below.refl _ _).alloc (Nat.le_refl _) _).alloc (by simp) _).trans (h.mono (by omega))
theorem gbx_room {w W : World} {k : Int} {b : Bool} {e : Int} {s : ByteArray} (h : Below (w.heap.size + 2) (gbx w k b e s) W) : w.heap.size + 2 ≤ W.heap.size := by
  have := h.size
  simpa using this
theorem gbx_next {w W w1 : World} {k : Int} {b : Bool} {e : Int} {s : ByteArray} (h : Below (w.heap.size + 2) (gbx w k b e s) W) (hb : Below W.heap.size W w1) : Below (w.heap.size + 2) (gbx w k b e s) w1 := h.trans (hb.mono (gbx_room h))
/-- .. and a box for the fields behind them. -/
abbrev sbx (w : World) (k : Int) (b : Bool) (e : Int) (s : ByteArray) : World := (gbx w k b e s).alloc (.cells #[.bool false, .int .u8 0, .int .u16 0, .slice none 0 0] 65)
theorem gbx_size (w : World) (k : Int) (b : Bool) (e : Int) (s : ByteArray) : (gbx w k b e s).heap.size = w.heap.size + 1 + 1 := by simp
theorem new4 (X : World) (x y z u : Value) (t : TypeId) : (X.alloc (.cells #[x, y, z, u] t)).cell? ⟨X.heap.size, 0, none⟩ = some x ∧ (X.alloc (.cells #[x, y, z, u] t)).cell? ⟨X.heap.size, 1, none⟩ = some y ∧ (X.alloc (.cells #[x, y, z, u] t)).cell? ⟨X.heap.size, 2, none⟩ = some z ∧ (X.alloc (.cells #[x, y, z, u] t)).cell? ⟨X.heap.size, 3, none⟩ = some u ∧ ∀ i, (X.alloc (.cells #[x, y, z, u] t)).frozen? ⟨X.heap.size, i, none⟩ = false := by
  refine ⟨?_, ?_, ?_, ?_, fun i => ?_⟩ <;> simp
theorem sp_arm0 {w w4 : World} {k : Int} {b : Bool} {e : Int} {s : ByteArray} (h : Below (gbx w k b e s).drew.heap.size (gbx w k b e s).drew w4) : Below (w.heap.size + 2) (gbx w k b e s) w4 :=
  gbx_next (Below.refl _ _).drew h
theorem al_of {w4 : World} {a : Addr} {v : Value} (h : w4.cell? a = some v) (o : Obj) : (w4.alloc o).cell? a = some v := by
  rw [((Below.refl w4.heap.size w4).alloc (Nat.le_refl _) o).cell (World.block_lt_of_cell? w4 a h)]; exact h
theorem alf_of {w4 : World} {p i : Nat} (hp : p < w4.heap.size) (h : w4.frozen? ⟨p, i, none⟩ = false) (o : Obj) : (w4.alloc o).frozen? ⟨p, i, none⟩ = false :=
  (((Below.refl w4.heap.size w4).alloc (Nat.le_refl _) o).frozen (p := ⟨p, i, none⟩) hp).trans h
theorem sp_arm1 {w w4 : World} {k : Int} {b : Bool} {e : Int} {s : ByteArray} (h : Below (sbx w k b e s).drew.heap.size (sbx w k b e s).drew w4) : Below (w.heap.size + 2) (gbx w k b e s) w4 ∧ w4.cell? ⟨w.heap.size + 1 + 1, 0, none⟩ = some (.bool false) ∧ w4.cell? ⟨w.heap.size + 1 + 1, 1, none⟩ = some (.int .u8 0) ∧ w4.cell? ⟨w.heap.size + 1 + 1, 2, none⟩ = some (.int .u16 0) ∧ w4.cell? ⟨w.heap.size + 1 + 1, 3, none⟩ = some (.slice none 0 0) ∧ (∀ i, w4.frozen? ⟨w.heap.size + 1 + 1, i, none⟩ = false) ∧ w.heap.size + 3 ≤ w4.heap.size := by
  obtain ⟨n0, n1, n2, n3, n4⟩ := new4 (gbx w k b e s) (.bool false) (.int .u8 0) (.int .u16 0) (.slice none 0 0) 65
  rw [gbx_size] at n0 n1 n2 n3 n4
  have hs := h.size
  have hs' : (sbx w k b e s).drew.heap.size = w.heap.size + 3 := by simp
  exact ⟨gbx_next (((Below.refl _ _).alloc (by simp) _).drew) h, cell_of h n0, cell_of h n1, cell_of h n2, cell_of h n3, fun i => (h.frozen (p := ⟨w.heap.size + 1 + 1, i, none⟩) (by rw [hs']; simp)).trans (n4 i), by omega⟩
theorem newc (X : World) (cs : Array Value) (t : TypeId) (i : Nat) : (X.alloc (.cells cs t)).cell? ⟨X.heap.size, i, none⟩ = cs[i]? := by
  have h := (MapKept.heap_alloc X (.cells cs t)).1
  unfold World.cell?
  simp only [h]
  rfl
/-- The fields under way: their box p, their row gb of noughts. -/
def SPW (w : World) (k : Int) (b : Bool) (e : Int) (s : ByteArray) (g : Nat) (wx : World) (p gb : Nat) (ld rs : Int) : Prop :=
  Below (w.heap.size + 2) (gbx w k b e s) wx ∧ w.heap.size + 2 ≤ p ∧ p < wx.heap.size ∧ At4 wx p (.bool b) (.int .u8 ld) (.int .u16 rs) (.slice (some ⟨gb, 0, none⟩) g g) ∧ w.heap.size + 2 ≤ gb ∧ gb < wx.heap.size ∧ gb ≠ p ∧ ∀ i, i < g → wx.cell? ⟨gb, i, none⟩ = some (.int .i64 0)
theorem At4.same {W w1 : World} {b : Nat} {x y z u : Value} (h : At4 W b x y z u) (hb : Below W.heap.size W w1) : At4 w1 b x y z u := h.below hb (World.block_lt_of_cell? W _ h.1)
theorem At4.set1 {W : World} {b : Nat} {x y z u : Value} (h : At4 W b x y z u) (v : Value) : At4 (W.setCell ⟨b, 1, none⟩ v) b x v z u := by
  obtain ⟨h0, h1, h2, h3, h4⟩ := h
  refine ⟨?_, World.cell?_setCell_same _ _ _ h1, ?_, ?_, fun i => by rw [World.frozen?_setCell]; exact h4 i⟩
  · rw [World.cell?_setCell_other _ _ _ _ (by simp)]; exact h0
  · rw [World.cell?_setCell_other _ _ _ _ (by simp)]; exact h2
  · rw [World.cell?_setCell_other _ _ _ _ (by simp)]; exact h3
theorem At4.set2 {W : World} {b : Nat} {x y z u : Value} (h : At4 W b x y z u) (v : Value) : At4 (W.setCell ⟨b, 2, none⟩ v) b x y v u := by
  obtain ⟨h0, h1, h2, h3, h4⟩ := h
  refine ⟨?_, ?_, World.cell?_setCell_same _ _ _ h2, ?_, fun i => by rw [World.frozen?_setCell]; exact h4 i⟩
  · rw [World.cell?_setCell_other _ _ _ _ (by simp)]; exact h0
  · rw [World.cell?_setCell_other _ _ _ _ (by simp)]; exact h1
  · rw [World.cell?_setCell_other _ _ _ _ (by simp)]; exact h3
theorem far_cell {W : World} {b g i j : Nat} {v u : Value} (hb : g ≠ b) (h : W.cell? ⟨g, i, none⟩ = some u) : (W.setCell ⟨b, j, none⟩ v).cell? ⟨g, i, none⟩ = some u := by
  rw [World.cell?_setCell_other _ _ _ _ (fun e => hb (by cases e; rfl))]; exact h
theorem SPW.next {w wx w1 : World} {k : Int} {b : Bool} {e : Int} {s : ByteArray} {g p gb : Nat} {ld rs : Int} (h : SPW w k b e s g wx p gb ld rs) (hb : Below wx.heap.size wx w1) : SPW w k b e s g w1 p gb ld rs := by
  obtain ⟨h1, h2, h3, h4, h5, h6, h7, h8⟩ := h
  exact ⟨gbx_next h1 hb, h2, Nat.lt_of_lt_of_le h3 hb.size, h4.same hb, h5, Nat.lt_of_lt_of_le h6 hb.size, h7, fun i hi => cell_of hb (h8 i hi)⟩
theorem SPW.lead {w wx : World} {k : Int} {b : Bool} {e : Int} {s : ByteArray} {g p gb : Nat} {ld rs : Int} (h : SPW w k b e s g wx p gb ld rs) (ld' : Int) : SPW w k b e s g (wx.setCell ⟨p, 1, none⟩ (.int .u8 ld')) p gb ld' rs := by
  obtain ⟨h1, h2, h3, h4, h5, h6, h7, h8⟩ := h
  exact ⟨h1.setCell h2 _, h2, by simpa using h3, h4.set1 _, h5, by simpa using h6, h7, fun i hi => far_cell h7 (h8 i hi)⟩
theorem SPW.rest {w wx : World} {k : Int} {b : Bool} {e : Int} {s : ByteArray} {g p gb : Nat} {ld rs : Int} (h : SPW w k b e s g wx p gb ld rs) (rs' : Int) : SPW w k b e s g (wx.setCell ⟨p, 2, none⟩ (.int .u16 rs')) p gb ld rs' := by
  obtain ⟨h1, h2, h3, h4, h5, h6, h7, h8⟩ := h
  exact ⟨h1.setCell h2 _, h2, by simpa using h3, h4.set2 _, h5, by simpa using h6, h7, fun i hi => far_cell h7 (h8 i hi)⟩
abbrev res4 (W : World) (b : Nat) (x y z u : Value) : World := (((W.setCell ⟨b, 0, none⟩ x).setCell ⟨b, 1, none⟩ y).setCell ⟨b, 2, none⟩ z).setCell ⟨b, 3, none⟩ u
theorem gbx_at {w W : World} {k : Int} {b : Bool} {e : Int} {s : ByteArray} (h : Below (w.heap.size + 2) (gbx w k b e s) W) : At4 W (w.heap.size + 1) (.bool false) (.int .u8 0) (.int .u16 0) (.slice none 0 0) := by
  obtain ⟨-, -, -, -, c4, c5, c6, c7, c8⟩ := gbx_cells h
  exact ⟨c4, c5, c6, c7, c8⟩
theorem SPW.fin {w wx : World} {k : Int} {b : Bool} {e : Int} {s : ByteArray} {g p gb : Nat} {ld rs : Int} (h : SPW w k b e s g wx p gb ld rs) (x y z u : Value) : At4 (res4 wx (w.heap.size + 1) x y z u) (w.heap.size + 1) x y z u ∧ gb < (res4 wx (w.heap.size + 1) x y z u).heap.size ∧ (∀ i, i < g → (res4 wx (w.heap.size + 1) x y z u).cell? ⟨gb, i, none⟩ = some (.int .i64 0)) ∧ Below w.heap.size w (res4 wx (w.heap.size + 1) x y z u) := by
  obtain ⟨h1, h2, h3, h4, h5, h6, h7, h8⟩ := h
  have hn : gb ≠ w.heap.size + 1 := by omega
  exact ⟨(gbx_at h1).put x y z u, by simpa [res4] using h6, fun i hi => far_cell hn (far_cell hn (far_cell hn (far_cell hn (h8 i hi)))), bel_four (gbx_out h1) (by omega) x y z u⟩
theorem spA {w w4 : World} {k : Int} {b : Bool} {e : Int} {s : ByteArray} (g : Nat) (cs : Array Value) (hz : ∀ i, i < g → cs[i]? = some (.int .i64 0)) (h : Below (w.heap.size + 2) (gbx w k b e s) w4) : SPW w k b e s g ((w4.alloc (.cells cs 2)).alloc (.cells #[.bool b, .int .u8 31, .int .u16 0, .slice (some ⟨w4.heap.size, 0, none⟩) g g] 65)) (w4.heap.size + 1) w4.heap.size 31 0 := by
  have hr := gbx_room h
  have n := new4 (w4.alloc (.cells cs 2)) (.bool b) (.int .u8 31) (.int .u16 0) (.slice (some ⟨w4.heap.size, 0, none⟩) g g) 65
  rw [show (w4.alloc (.cells cs 2)).heap.size = w4.heap.size + 1 by simp] at n
  refine ⟨(h.alloc hr _).alloc (by simp; omega) _, by omega, by simp, n, hr, by simp <;> omega, by omega, fun i hi => ?_⟩
  exact al_of ((newc w4 cs 2 i).trans (hz i hi)) _
theorem spB {w w4 : World} {k : Int} {b : Bool} {e : Int} {s : ByteArray} (g : Nat) (cs : Array Value) (hz : ∀ i, i < g → cs[i]? = some (.int .i64 0)) (h : Below (w.heap.size + 2) (gbx w k b e s) w4) : SPW w k b e s g ((w4.alloc (.cells #[.bool b, .int .u8 31, .int .u16 0, .slice (some ⟨w4.heap.size + 1, 0, none⟩) g g] 65)).alloc (.cells cs 2)) w4.heap.size (w4.heap.size + 1) 31 0 := by
  have hr := gbx_room h
  have n := new4 w4 (.bool b) (.int .u8 31) (.int .u16 0) (.slice (some ⟨w4.heap.size + 1, 0, none⟩) g g) 65
  refine ⟨(h.alloc hr _).alloc (by simp; omega) _, hr, by simp <;> omega, At4.alloc n (by simp) _, by omega, by simp, by omega, fun i hi => ?_⟩
  have := newc (w4.alloc (.cells #[.bool b, .int .u8 31, .int .u16 0, .slice (some ⟨w4.heap.size + 1, 0, none⟩) g g] 65)) cs 2 i
  rw [show (w4.alloc (.cells #[.bool b, .int .u8 31, .int .u16 0, .slice (some ⟨w4.heap.size + 1, 0, none⟩) g g] 65)).heap.size = w4.heap.size + 1 by simp] at this
  exact this.trans (hz i hi)
theorem spC {w w4 : World} {k : Int} {b : Bool} {e : Int} {s : ByteArray} (g : Nat) (cs : Array Value) (hz : ∀ i, i < g → cs[i]? = some (.int .i64 0)) (h : Below (w.heap.size + 2) (gbx w k b e s) w4) (r0 : w4.cell? ⟨w.heap.size + 1 + 1, 0, none⟩ = some (.bool false)) (r1 : w4.cell? ⟨w.heap.size + 1 + 1, 1, none⟩ = some (.int .u8 0)) (r2 : w4.cell? ⟨w.heap.size + 1 + 1, 2, none⟩ = some (.int .u16 0)) (r3 : w4.cell? ⟨w.heap.size + 1 + 1, 3, none⟩ = some (.slice none 0 0)) (rf : ∀ i, w4.frozen? ⟨w.heap.size + 1 + 1, i, none⟩ = false) : SPW w k b e s g (res4 (w4.alloc (.cells cs 2)) (w.heap.size + 1 + 1) (.bool b) (.int .u8 31) (.int .u16 0) (.slice (some ⟨w4.heap.size, 0, none⟩) g g)) (w.heap.size + 1 + 1) w4.heap.size 31 0 := by
  have hr := gbx_room h
  have hp := World.block_lt_of_cell? w4 _ r0
  have a4 : At4 w4 (w.heap.size + 1 + 1) (.bool false) (.int .u8 0) (.int .u16 0) (.slice none 0 0) := ⟨r0, r1, r2, r3, rf⟩
  have hn : w4.heap.size ≠ w.heap.size + 1 + 1 := by simp at hp; omega
  have hp' : w.heap.size + 1 + 1 < w4.heap.size := hp
  refine ⟨bel_four (h.alloc hr _) (by omega) _ _ _ _, by omega, by simp [res4]; omega, (a4.alloc hp' _).put _ _ _ _, hr, by simp [res4], hn, fun i hi => ?_⟩
  exact far_cell hn (far_cell hn (far_cell hn (far_cell hn ((newc w4 cs 2 i).trans (hz i hi)))))
end Go.Proofs.YtmjkpjmccdjkjadDoor
