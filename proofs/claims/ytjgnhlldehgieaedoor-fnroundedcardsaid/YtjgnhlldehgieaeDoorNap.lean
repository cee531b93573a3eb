/-
  Naturals of the program: digits in slices, one digit, noughts at the high end struck, which of two is more; walked.
-/
import Derived.Test.YtjgnhlldehgieaeDoorNaM
import Derived.Test.YtjgnhlldehgieaeDoorSl
import Derived.BigQuiet
import Derived.Deep.QuietTactic
namespace Go.Proofs.YtjgnhlldehgieaeDoor
open Go.RowKit
set_option linter.unusedVariables false
set_option maxRecDepth 100000
/-- The slice v shows the digits L. -/
def NRd (w : World) (v : Value) (L : List Int) : Prop := ∃ g cap : Nat, v = .slice (some ⟨g, 0, none⟩) L.length cap ∧ L.length ≤ cap ∧ g < w.heap.size ∧ ∀ i, i < L.length → w.cell? ⟨g, i, none⟩ = some (.int .u8 (L.getD i 0))
/-- The slice v is the number n. -/
def NIs (w : World) (v : Value) (n : Int) : Prop := ∃ L, NRd w v L ∧ NCan L ∧ lv L = n
/-- The slice v lies in a block from b on. -/
def NAt (b : Nat) (v : Value) : Prop := ∃ g n cap : Nat, v = .slice (some ⟨g, 0, none⟩) n cap ∧ b ≤ g
/-- The slice v is the number n, in a block from b on. -/
def NIsF (w : World) (b : Nat) (v : Value) (n : Int) : Prop := NIs w v n ∧ NAt b v
theorem NIsF.mono {w : World} {b c : Nat} {v : Value} {n : Int} (h : NIsF w b v n) (hc : c ≤ b) : NIsF w c v n := by
  obtain ⟨h, g, m, cap, e, hb⟩ := h
  exact ⟨h, g, m, cap, e, Nat.le_trans hc hb⟩
theorem NRd.below {w w' : World} {B : Nat} {v : Value} {L : List Int} (h : NRd w v L) (hb : Below B w w') (hB : w.heap.size ≤ B) : NRd w' v L := by
  obtain ⟨g, cap, e, hc, hg, hcell⟩ := h
  have hl : g < w'.heap.size := by
    have := hb.block g (by omega)
    rw [Array.getElem?_eq_getElem hg] at this
    exact (Array.getElem?_eq_some_iff.1 this).1
  exact ⟨g, cap, e, hc, hl, fun i hi => (hb.cell (p := ⟨g, i, none⟩) (by show g < B; omega)).trans (hcell i hi)⟩
theorem NIs.below {w w' : World} {B : Nat} {v : Value} {n : Int} (h : NIs w v n) (hb : Below B w w') (hB : w.heap.size ≤ B) : NIs w' v n := by
  obtain ⟨L, h, r⟩ := h
  exact ⟨L, h.below hb hB, r⟩
theorem NIsF.below {w w' : World} {B b : Nat} {v : Value} {n : Int} (h : NIsF w b v n) (hb : Below B w w') (hB : w.heap.size ≤ B) : NIsF w' b v n := ⟨h.1.below hb hB, h.2⟩
theorem NIsF.set {w : World} {b : Nat} {v : Value} {n : Int} (h : NIsF w b v n) (q k : Nat) (x : Value) (hq : q < b) : NIsF (w.setCell ⟨q, k, none⟩ x) b v n := by
  obtain ⟨⟨L, ⟨g, cap, rfl, hc, hg, hcell⟩, r⟩, g', m, cap', e, hb⟩ := h
  cases e
  have hh : (w.setCell ⟨q, k, none⟩ x).heap[g]? = w.heap[g]? := Below.heap_setCell _ _ _ _ (fun e => by have : g = q := e; omega)
  refine ⟨⟨L, ⟨g, cap, rfl, hc, ?_, fun i hi => ?_⟩, r⟩, g, _, _, rfl, hb⟩
  · rw [Array.getElem?_eq_getElem hg] at hh
    exact (Array.getElem?_eq_some_iff.1 hh).1
  · rw [← hcell i hi]
    unfold World.cell?
    rw [hh]
/-- A row of bytes that the call owns. -/
def NRow (w : World) (base g n : Nat) (L : List Int) : Prop := w.ownsRow base 5 1 (.slice (some ⟨g, 0, none⟩) n n) n (L.map (Value.int .u8))
theorem NRow.len {w : World} {base g n : Nat} {L : List Int} (h : NRow w base g n L) : L.length = n := by
  have := h.1; simpa using this
theorem NRow.lt {w : World} {base g n : Nat} {L : List Int} (h : NRow w base g n L) : base ≤ g ∧ g < w.heap.size := by
  obtain ⟨hl, h⟩ := h
  rcases h with ⟨h, _⟩ | ⟨g', cap, cur, e, hg, hc, r⟩
  · cases h
  · cases e; exact ⟨hg, (Array.getElem?_eq_some_iff.1 hc).1⟩
theorem NRow.cell {w : World} {base g n : Nat} {L : List Int} (h : NRow w base g n L) (k : Nat) (hk : k < n) : w.cell? ⟨g, k, none⟩ = some (.int .u8 (L.getD k 0)) := by
  have hl := h.len
  rw [World.ownsRow.cellAt h k (by omega)]
  simp only [List.getElem?_map, List.getD]
  rw [List.getElem?_eq_getElem (by omega)]
  rfl
theorem NRow.frozen {w : World} {base g n : Nat} {L : List Int} (h : NRow w base g n L) (k : Nat) : w.frozen? ⟨g, k, none⟩ = false := World.ownsRow.frozenAt h k
theorem NRow.set {w : World} {base g n : Nat} {L : List Int} (h : NRow w base g n L) (k : Nat) (x : Int) : NRow (w.setCell ⟨g, k, none⟩ (.int .u8 x)) base g n (L.set k x) := by
  have := (World.ownsRow.stored h k (.int .u8 x)).1
  unfold NRow
  simpa using this
theorem NRow.rd {w : World} {base g n : Nat} {L : List Int} (h : NRow w base g n L) : NRd w (.slice (some ⟨g, 0, none⟩) n n) L :=
  ⟨g, n, by rw [h.len], by rw [h.len]; exact Nat.le_refl _, h.lt.2, fun i hi => h.cell i (by rw [← h.len]; exact hi)⟩
theorem NRow.below {w w' : World} {base g n B : Nat} {L : List Int} (h : NRow w base g n L) (hb : Below B w w') (hB : w.heap.size ≤ B) : NRow w' base g n L := own_below h hb hB
def slN : Value → Nat
  | .slice _ n _ => n
  | _ => 0
theorem nAt_any (v : Value) (L : List Int) (p : Nat) (w : World) (h : NRd w v L) (hp : p ≤ 100000) (hL : L.length ≤ 100000) :
    Calls Tryd.prog 74 #[v, .int .i64 (p : Int)] w fun e w' => e = .returned (.int .u8 (L.getD p 0)) ∧ w' = w := by
  obtain ⟨g, cap, rfl, hc, hg, hcell⟩ := h
  by_cases hlt : p < L.length
  · have h1 := hcell p hlt
    have h2 : (p : Int) < (L.length : Int) := by omega
    generalize L.getD p 0 = x at *
    clear hcell
    generalize L.length = n at *
    go_enter Tryd.func74, Tryd.ntmps74
    go_wp2
    go_ret
    exact ⟨rfl, rfl⟩
  · have E : Hid (L.getD p 0 = 0) := by show _ = _; simp [List.getD, List.getElem?_eq_none (Nat.le_of_not_lt hlt)]
    have h2 : ¬ (p : Int) < (L.length : Int) := by omega
    rw [E.out]
    clear hcell E
    generalize L.length = n at *
    go_enter Tryd.func74, Tryd.ntmps74
    go_wp2
    go_ret
    exact ⟨rfl, rfl⟩
theorem nTrim_any (v : Value) (L : List Int) (w : World) (b : Nat) (h : NRd w v L) (hv : NAt b v) (hd : Dec L) (hL : L.length ≤ 100000) :
    Calls Tryd.prog 75 #[v] w fun e w' => ∃ u, e = .returned u ∧ NIsF w b u (lv L) ∧ w' = w := by
  obtain ⟨g, cap, rfl, hc, hg, hcell⟩ := h
  obtain ⟨g', n', c', e', hbg⟩ := hv
  cases e'
  have HC : Hid (∀ i, i < L.length → w.cell? ⟨g, i, none⟩ = some (.int .u8 (L.getD i 0))) := hcell
  have HB : Hid (∀ i, 0 ≤ L.getD i 0 ∧ L.getD i 0 ≤ 9) := fun i => dec_at L hd i
  have HD : Hid (∀ m, m ≤ L.length → lv (L.take m) = lv L → (m = 0 ∨ L.getD (m - 1) 0 ≠ 0) → NIsF w b (.slice (some ⟨g, 0, none⟩) m cap) (lv L)) := fun m hm hv hz => by
    have hl : (L.take m).length = m := by rw [List.length_take]; omega
    refine ⟨⟨L.take m, ⟨g, cap, by rw [hl], by omega, hg, fun i hi => ?_⟩, ⟨dec_take L m hd, ?_⟩, hv⟩, g, m, cap, rfl, hbg⟩
    · rw [hl] at hi
      rw [hcell i (by omega)]
      simp [List.getD, List.getElem?_take_of_lt hi]
    · rcases hz with c | c
      · exact .inl (List.length_eq_zero_iff.1 (by omega))
      · rcases Nat.eq_zero_or_pos m with c0 | c0
        · exact .inl (List.length_eq_zero_iff.1 (by omega))
        · refine .inr ?_
          rw [hl]
          simpa [List.getD, List.getElem?_take_of_lt (show m - 1 < m by omega)] using c
  have HT : Hid (∀ k, k < L.length → L.getD k 0 = 0 → lv (L.take (k + 1)) = lv (L.take k)) := fun k hk hz => by
    rw [lv_take1 L k hk, hz]; omega
  have H0 : Hid (lv (L.take L.length) = lv L) := by show _ = _; rw [List.take_length]
  obtain ⟨n, hn⟩ : ∃ n, L.length = n := ⟨_, rfl⟩
  rw [hn] at HC HD HT H0 hL hc ⊢
  clear hcell hd hn hbg
  go_enter Tryd.func75, Tryd.ntmps75
  go_wp2
  go_loop [0] (fun x => ∃ m : Nat, m ≤ n ∧ x = .slice (some ⟨g, 0, none⟩) m cap ∧ Hid (lv (L.take m) = lv L)) (fun x => slN x)
  case atStart => exact ⟨n, Nat.le_refl _, rfl, H0⟩
  case round =>
    obtain ⟨m, hm, rfl, hv⟩ := hrel
    rcases Nat.eq_zero_or_pos m with h0 | h0
    · subst h0
      have E : Hid (NIsF w b (.slice (some ⟨g, 0, none⟩) 0 cap) (lv L)) := HD.out 0 (by omega) hv.out (.inl rfl)
      go_wp2
      go_ret
      exact ⟨_, rfl, E.out, rfl⟩
    · obtain ⟨k, rfl⟩ : ∃ k, m = k + 1 := ⟨m - 1, by omega⟩
      have hcl := HC.out k (by omega)
      have hb := HB.out k
      have hpos : (0 : Int) < (k : Int) + 1 := by omega
      by_cases hz : L.getD k 0 = 0
      · have HV : Hid (lv (L.take k) = lv L) := by
          show _ = _
          rw [← HT.out k (by omega) hz]; exact hv.out
        rw [hz] at hcl
        clear hz hv
        go_wp2
        go_round
        case rel => exact ⟨k, by omega, rfl, HV⟩
        case measure => simp [slN]
      · have E : Hid (NIsF w b (.slice (some ⟨g, 0, none⟩) (k + 1) cap) (lv L)) := HD.out (k + 1) hm hv.out (.inr (by simpa using hz))
        generalize L.getD k 0 = x at *
        clear hv
        go_wp2
        go_ret
        exact ⟨_, rfl, E.out, rfl⟩
end Go.Proofs.YtjgnhlldehgieaeDoor
