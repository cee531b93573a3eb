/-
  Naturals of the program: sums, differences, a digit more, noughts more; walked.
-/
import Derived.Test.YteofommckgeemaaGreatDoorFmt
import Derived.BigQuiet
import Derived.Deep.QuietTactic
import Derived.Test.YteofommckgeemaaGreatDoorSl

namespace Go.Proofs.YteofommckgeemaaGreatDoor
set_option linter.unusedVariables false
set_option maxRecDepth 100000
/-- Digits low first, no nought at the high end. -/
def NCan (L : List Int) : Prop := Dec L ∧ (L = [] ∨ L.getD (L.length - 1) 0 ≠ 0)
/-- Below ten to the k. -/
def NFit (n : Int) (k : Nat) : Prop := n < 10 ^ k
theorem lv_split (L : List Int) (p : Nat) (hp : p < L.length) : lv L = lv (L.take p) + 10 ^ p * (L.getD p 0 + 10 * lv (L.drop (p + 1))) := by
  have e : L = L.take p ++ (L[p] :: L.drop (p + 1)) := by
    rw [← List.drop_eq_getElem_cons hp, List.take_append_drop]
  have hl : (L.take p).length = p := by rw [List.length_take]; omega
  have h1 := lv_append (L.take p) (L[p] :: L.drop (p + 1))
  rw [← e, hl] at h1
  rw [h1]
  simp [lv, List.getD, hp]
theorem lv_take1 (L : List Int) (p : Nat) (hp : p < L.length) : lv (L.take (p + 1)) = lv (L.take p) + 10 ^ p * L.getD p 0 := by
  have hl : (L.take p).length = p := by rw [List.length_take]; omega
  rw [List.take_succ_eq_append_getElem hp, lv_append, hl]
  simp [lv, List.getD, hp]
theorem nl_set (L : List Int) (p : Nat) (d : Int) (hp : p < L.length) : lv (L.set p d) = lv L + 10 ^ p * (d - L.getD p 0) := by
  have hs := lv_split L p hp
  have hs2 := lv_split (L.set p d) p (by simpa using hp)
  rw [List.take_set_of_le (by omega), List.drop_set_of_lt (by omega)] at hs2
  have e : (L.set p d).getD p 0 = d := by simp [List.getD, hp]
  rw [e] at hs2
  rw [hs2, hs]
  simp only [Int.mul_add, Int.mul_sub]
  omega
theorem nd_set (L : List Int) (p : Nat) (d : Int) (h : Dec L) (h0 : 0 ≤ d) (h9 : d ≤ 9) : Dec (L.set p d) := fun x hx => by
  rcases List.mem_or_eq_of_mem_set hx with c | c
  · exact h x c
  · omega
theorem dec_take (L : List Int) (p : Nat) (h : Dec L) : Dec (L.take p) := fun x hx => h x (List.mem_of_mem_take hx)
theorem dec_noughts (n : Nat) : Dec (List.replicate n 0) := fun x hx => by
  have := (List.mem_replicate.1 hx).2; omega
theorem nd_snoc (L : List Int) (d : Int) (h : Dec L) (h0 : 0 ≤ d) (h9 : d ≤ 9) : Dec (L ++ [d]) := fun x hx => by
  rcases List.mem_append.1 hx with c | c
  · exact h x c
  · simp at c; omega
theorem dec_app (L M : List Int) (h : Dec L) (hM : Dec M) : Dec (L ++ M) := fun x hx => by
  rcases List.mem_append.1 hx with c | c
  · exact h x c
  · exact hM x c
theorem lv_noughts (n : Nat) : lv (List.replicate n 0) = 0 := by
  induction n with
  | zero => rfl
  | succ n ih => rw [List.replicate_succ]; simp [lv, ih]
theorem lv_less (L : List Int) (p : Nat) (h : Dec L) (hp : p ≤ L.length) : 0 ≤ lv (L.take p) ∧ lv (L.take p) < 10 ^ p := by
  have b := lv_bd (L.take p) (dec_take L p h)
  rw [List.length_take, Nat.min_eq_left hp] at b
  exact b
theorem ncan_low (L : List Int) (h : NCan L) (hp : 0 < L.length) : 10 ^ (L.length - 1) ≤ lv L := by
  obtain ⟨hd, hz⟩ := h
  have hz : L.getD (L.length - 1) 0 ≠ 0 := by
    rcases hz with c | c
    · rw [c] at hp; simp at hp
    · exact c
  have s := lv_take1 L (L.length - 1) (by omega)
  rw [Nat.sub_add_cancel hp, List.take_length] at s
  have b := (lv_less L (L.length - 1) hd (by omega)).1
  have d := dec_at L hd (L.length - 1)
  have p : (0 : Int) < 10 ^ (L.length - 1) := Int.pow_pos (by decide)
  have : 10 ^ (L.length - 1) * 1 ≤ 10 ^ (L.length - 1) * L.getD (L.length - 1) 0 := Int.mul_le_mul_of_nonneg_left (by omega) (Int.le_of_lt p)
  omega
theorem ncan_len (L : List Int) (k : Nat) (h : NCan L) (hf : NFit (lv L) k) : L.length ≤ k := by
  rcases Nat.lt_or_ge k L.length with c | c
  · exfalso
    have l := ncan_low L h (by omega)
    have m := pow_mono k (L.length - 1) (by omega)
    unfold NFit at hf
    omega
  · exact c
theorem short_less (X Y : List Int) (hX : Dec X) (hY : NCan Y) (hl : X.length < Y.length) : lv X < lv Y := by
  have b := (lv_bd X hX).2
  have l := ncan_low Y hY (by omega)
  have m := pow_mono X.length (Y.length - 1) (by omega)
  omega
theorem low_lt (X Y : List Int) (p : Nat) (hX : Dec X) (hY : Dec Y) (pX : p < X.length) (pY : p < Y.length) (hd : X.drop (p + 1) = Y.drop (p + 1)) (hlt : X.getD p 0 < Y.getD p 0) : lv X < lv Y := by
  rw [lv_split X p pX, lv_split Y p pY, hd]
  have bX := lv_less X p hX (by omega)
  have bY := lv_less Y p hY (by omega)
  have p0 : (0 : Int) < 10 ^ p := Int.pow_pos (by decide)
  have : 10 ^ p * (X.getD p 0 + 1) ≤ 10 ^ p * Y.getD p 0 := Int.mul_le_mul_of_nonneg_left (by omega) (Int.le_of_lt p0)
  simp only [Int.mul_add] at this ⊢
  omega
theorem drop_same (X Y : List Int) (p : Nat) (pX : p < X.length) (pY : p < Y.length) (hd : X.drop (p + 1) = Y.drop (p + 1)) (he : X.getD p 0 = Y.getD p 0) : X.drop p = Y.drop p := by
  rw [List.drop_eq_getElem_cons pX, List.drop_eq_getElem_cons pY, hd]
  simp [List.getD, pX, pY] at he
  rw [he]
theorem ncan_nt (L : List Int) (h : NCan L) (hp : L ≠ []) (hl : L.length ≤ 500) : L.reverse = nt (lv L) := by
  refine nt_of L.reverse _ ⟨dec_rev L h.1, ?_, ?_⟩ (vl_rev L) (by simpa using hl)
  · rw [List.length_reverse]; exact List.length_pos_iff.2 hp
  · refine .inr ?_
    have hq : 0 < L.length := List.length_pos_iff.2 hp
    rcases h.2 with c | c
    · exact absurd c hp
    · intro e
      apply c
      rw [List.headD_eq_head?_getD, List.head?_reverse, List.getLast?_eq_getElem?] at e
      exact e
theorem nt_nought : nt 0 = [0] := (nt_of [0] 0 canon_zero rfl (by decide)).symm
theorem ncan_nought (L : List Int) (h : NCan L) (hv : lv L = 0) : L = [] := by
  rcases Nat.eq_zero_or_pos L.length with c | c
  · exact List.length_eq_zero_iff.1 c
  · have := ncan_low L h c
    have p0 : (0 : Int) < 10 ^ (L.length - 1) := Int.pow_pos (by decide)
    omega
/-- One column more: a digit, and what goes on. -/
theorem col_step (D : List Int) (j : Nat) (V c s x : Int) (hl : D.length = j) (h : lv D + 10 ^ j * c = V) (hs : s = x + c) : lv (D ++ [s % 10]) + 10 ^ (j + 1) * (s / 10) = V + 10 ^ j * x := by
  rw [lv_append, hl]
  simp only [lv, Int.pow_succ]
  have k : ∀ p r q : Int, r + 10 * q = x + c → p * (r + 10 * 0) + p * 10 * q = p * x + p * c := fun p r q hr => by
    rw [Int.mul_zero, Int.add_zero, Int.mul_assoc, ← Int.mul_add, hr, Int.mul_add]
  have k1 := k (10 ^ j) (s % 10) (s / 10) (by omega)
  omega
theorem pv_all (L : List Int) (j : Nat) (hj : L.length ≤ j) : pv (fun i => L.getD i 0) j = lv L := by
  rw [pv_past _ L.length j hj (fun i hi => by simp [List.getD, List.getElem?_eq_none hi]), pv_take L L.length (Nat.le_refl _), List.take_length]
theorem fill_set (D : List Int) (n j : Nat) (d : Int) (hl : D.length = j) (hj : j < n) : (D ++ List.replicate (n - j) 0).set j d = (D ++ [d]) ++ List.replicate (n - (j + 1)) 0 := by
  rw [List.set_append_right _ _ (by omega), hl, Nat.sub_self]
  obtain ⟨m, hm⟩ : ∃ m, n - j = m + 1 := ⟨n - j - 1, by omega⟩
  rw [hm, List.replicate_succ, List.set_cons_zero, show n - (j + 1) = m by omega, List.append_assoc]
  rfl
theorem fill_set_back (D : List Int) (n k : Nat) (d : Int) (hl : D.length = k) (hk : k < n) : (List.replicate (n - k) 0 ++ D).set (n - 1 - k) d = List.replicate (n - (k + 1)) 0 ++ (d :: D) := by
  rw [List.set_append_left _ _ (by simp; omega)]
  have : (List.replicate (n - k) (0 : Int)).set (n - 1 - k) d = List.replicate (n - (k + 1)) 0 ++ [d] := by
    obtain ⟨m, hm⟩ : ∃ m, n - k = m + 1 := ⟨n - k - 1, by omega⟩
    rw [hm, show n - 1 - k = m by omega, show n - (k + 1) = m by omega, List.replicate_succ', List.set_append_right _ _ (by simp), List.length_replicate, Nat.sub_self]
    rfl
  rw [this, List.append_assoc]
  rfl
end Go.Proofs.YteofommckgeemaaGreatDoor
namespace Go.Proofs.YteofommckgeemaaGreatDoor
open Go.RowKit
set_option linter.unusedVariables false
set_option maxRecDepth 100000
/-- The slice v shows the digits L. -/
def NRd (w : World) (v : Value) (L : List Int) : Prop := ∃ g cap : Nat, v = .slice (some ⟨g, 0, none⟩) L.length cap ∧ L.length ≤ cap ∧ g < w.heap.size ∧ ∀ i, i < L.length → w.cell? ⟨g, i, none⟩ = some (.int .u8 (L.getD i 0))
/-- The slice v is the number n. -/
def NIs (w : World) (v : Value) (n : Int) : Prop := ∃ L, NRd w v L ∧ NCan L ∧ lv L = n
/-- The slice v lies in a block from b on. -/
def NAt (b : Nat) (v : Value) : Prop := ∃ g n cap : Nat, v = .slice (some ⟨g, 0, none⟩) n cap ∧ b ≤ g
/-- The slice v is the number n, in a block from b on. -/
def NIsF (w : World) (b : Nat) (v : Value) (n : Int) : Prop := NIs w v n ∧ NAt b v
theorem NIsF.mono {w : World} {b c : Nat} {v : Value} {n : Int} (h : NIsF w b v n) (hc : c ≤ b) : NIsF w c v n := by
  obtain ⟨h, g, m, cap, e, hb⟩ := h
  exact ⟨h, g, m, cap, e, Nat.le_trans hc hb⟩
theorem NRd.below {w w' : World} {B : Nat} {v : Value} {L : List Int} (h : NRd w v L) (hb : Below B w w') (hB : w.heap.size ≤ B) : NRd w' v L := by
  obtain ⟨g, cap, e, hc, hg, hcell⟩ := h
  have hl : g < w'.heap.size := by
    have := hb.block g (by omega)
    rw [Array.getElem?_eq_getElem hg] at this
    exact (Array.getElem?_eq_some_iff.1 this).1
  exact ⟨g, cap, e, hc, hl, fun i hi => (hb.cell (p := ⟨g, i, none⟩) (by show g < B; omega)).trans (hcell i hi)⟩
theorem NIs.below {w w' : World} {B : Nat} {v : Value} {n : Int} (h : NIs w v n) (hb : Below B w w') (hB : w.heap.size ≤ B) : NIs w' v n := by
  obtain ⟨L, h, r⟩ := h
  exact ⟨L, h.below hb hB, r⟩
theorem NIsF.below {w w' : World} {B b : Nat} {v : Value} {n : Int} (h : NIsF w b v n) (hb : Below B w w') (hB : w.heap.size ≤ B) : NIsF w' b v n := ⟨h.1.below hb hB, h.2⟩
theorem NIsF.set {w : World} {b : Nat} {v : Value} {n : Int} (h : NIsF w b v n) (q k : Nat) (x : Value) (hq : q < b) : NIsF (w.setCell ⟨q, k, none⟩ x) b v n := by
  obtain ⟨⟨L, ⟨g, cap, rfl, hc, hg, hcell⟩, r⟩, g', m, cap', e, hb⟩ := h
  cases e
  have hh : (w.setCell ⟨q, k, none⟩ x).heap[g]? = w.heap[g]? := Below.heap_setCell _ _ _ _ (fun e => by have : g = q := e; omega)
  refine ⟨⟨L, ⟨g, cap, rfl, hc, ?_, fun i hi => ?_⟩, r⟩, g, _, _, rfl, hb⟩
  · rw [Array.getElem?_eq_getElem hg] at hh
    exact (Array.getElem?_eq_some_iff.1 hh).1
  · rw [← hcell i hi]
    unfold World.cell?
    rw [hh]
/-- A row of bytes that the call owns. -/
def NRow (w : World) (base g n : Nat) (L : List Int) : Prop := w.ownsRow base 5 1 (.slice (some ⟨g, 0, none⟩) n n) n (L.map (Value.int .u8))
theorem NRow.len {w : World} {base g n : Nat} {L : List Int} (h : NRow w base g n L) : L.length = n := by
  have := h.1; simpa using this
theorem NRow.lt {w : World} {base g n : Nat} {L : List Int} (h : NRow w base g n L) : base ≤ g ∧ g < w.heap.size := by
  obtain ⟨hl, h⟩ := h
  rcases h with ⟨h, _⟩ | ⟨g', cap, cur, e, hg, hc, r⟩
  · cases h
  · cases e; exact ⟨hg, (Array.getElem?_eq_some_iff.1 hc).1⟩
theorem NRow.cell {w : World} {base g n : Nat} {L : List Int} (h : NRow w base g n L) (k : Nat) (hk : k < n) : w.cell? ⟨g, k, none⟩ = some (.int .u8 (L.getD k 0)) := by
  have hl := h.len
  rw [World.ownsRow.cellAt h k (by omega)]
  simp only [List.getElem?_map, List.getD]
  rw [List.getElem?_eq_getElem (by omega)]
  rfl
theorem NRow.frozen {w : World} {base g n : Nat} {L : List Int} (h : NRow w base g n L) (k : Nat) : w.frozen? ⟨g, k, none⟩ = false := World.ownsRow.frozenAt h k
theorem NRow.set {w : World} {base g n : Nat} {L : List Int} (h : NRow w base g n L) (k : Nat) (x : Int) : NRow (w.setCell ⟨g, k, none⟩ (.int .u8 x)) base g n (L.set k x) := by
  have := (World.ownsRow.stored h k (.int .u8 x)).1
  unfold NRow
  simpa using this
theorem NRow.rd {w : World} {base g n : Nat} {L : List Int} (h : NRow w base g n L) : NRd w (.slice (some ⟨g, 0, none⟩) n n) L :=
  ⟨g, n, by rw [h.len], by rw [h.len]; exact Nat.le_refl _, h.lt.2, fun i hi => h.cell i (by rw [← h.len]; exact hi)⟩
theorem NRow.below {w w' : World} {base g n B : Nat} {L : List Int} (h : NRow w base g n L) (hb : Below B w w') (hB : w.heap.size ≤ B) : NRow w' base g n L := own_below h hb hB
def slN : Value → Nat
  | .slice _ n _ => n
  | _ => 0
theorem nAt_any (v : Value) (L : List Int) (p : Nat) (w : World) (h : NRd w v L) (hp : p ≤ 100000) (hL : L.length ≤ 100000) :
    Calls Tryz.prog 224 #[v, .int .i64 (p : Int)] w fun e w' => e = .returned (.int .u8 (L.getD p 0)) ∧ w' = w := by
  obtain ⟨g, cap, rfl, hc, hg, hcell⟩ := h
  by_cases hlt : p < L.length
  · have h1 := hcell p hlt
    have h2 : (p : Int) < (L.length : Int) := by omega
    generalize L.getD p 0 = x at *
    clear hcell
    generalize L.length = n at *
    go_enter Tryz.func224, Tryz.ntmps224
    go_wp2
    go_ret
    exact ⟨rfl, rfl⟩
  · have E : Hid (L.getD p 0 = 0) := by show _ = _; simp [List.getD, List.getElem?_eq_none (Nat.le_of_not_lt hlt)]
    have h2 : ¬ (p : Int) < (L.length : Int) := by omega
    rw [E.out]
    clear hcell E
    generalize L.length = n at *
    go_enter Tryz.func224, Tryz.ntmps224
    go_wp2
    go_ret
    exact ⟨rfl, rfl⟩
theorem nTrim_any (v : Value) (L : List Int) (w : World) (b : Nat) (h : NRd w v L) (hv : NAt b v) (hd : Dec L) (hL : L.length ≤ 100000) :
    Calls Tryz.prog 218 #[v] w fun e w' => ∃ u, e = .returned u ∧ NIsF w b u (lv L) ∧ w' = w := by
  obtain ⟨g, cap, rfl, hc, hg, hcell⟩ := h
  obtain ⟨g', n', c', e', hbg⟩ := hv
  cases e'
  have HC : Hid (∀ i, i < L.length → w.cell? ⟨g, i, none⟩ = some (.int .u8 (L.getD i 0))) := hcell
  have HB : Hid (∀ i, 0 ≤ L.getD i 0 ∧ L.getD i 0 ≤ 9) := fun i => dec_at L hd i
  have HD : Hid (∀ m, m ≤ L.length → lv (L.take m) = lv L → (m = 0 ∨ L.getD (m - 1) 0 ≠ 0) → NIsF w b (.slice (some ⟨g, 0, none⟩) m cap) (lv L)) := fun m hm hv hz => by
    have hl : (L.take m).length = m := by rw [List.length_take]; omega
    refine ⟨⟨L.take m, ⟨g, cap, by rw [hl], by omega, hg, fun i hi => ?_⟩, ⟨dec_take L m hd, ?_⟩, hv⟩, g, m, cap, rfl, hbg⟩
    · rw [hl] at hi
      rw [hcell i (by omega)]
      simp [List.getD, List.getElem?_take_of_lt hi]
    · rcases hz with c | c
      · exact .inl (List.length_eq_zero_iff.1 (by omega))
      · rcases Nat.eq_zero_or_pos m with c0 | c0
        · exact .inl (List.length_eq_zero_iff.1 (by omega))
        · refine .inr ?_
          rw [hl]
          simpa [List.getD, List.getElem?_take_of_lt (show m - 1 < m by omega)] using c
  have HT : Hid (∀ k, k < L.length → L.getD k 0 = 0 → lv (L.take (k + 1)) = lv (L.take k)) := fun k hk hz => by
    rw [lv_take1 L k hk, hz]; omega
  have H0 : Hid (lv (L.take L.length) = lv L) := by show _ = _; rw [List.take_length]
  obtain ⟨n, hn⟩ : ∃ n, L.length = n := ⟨_, rfl⟩
  rw [hn] at HC HD HT H0 hL hc ⊢
  clear hcell hd hn hbg
  go_enter Tryz.func218, Tryz.ntmps218
  go_wp2
  go_loop [0] (fun x => ∃ m : Nat, m ≤ n ∧ x = .slice (some ⟨g, 0, none⟩) m cap ∧ Hid (lv (L.take m) = lv L)) (fun x => slN x)
  case atStart => exact ⟨n, Nat.le_refl _, rfl, H0⟩
  case round =>
    obtain ⟨m, hm, rfl, hv⟩ := hrel
    rcases Nat.eq_zero_or_pos m with h0 | h0
    · subst h0
      have E : Hid (NIsF w b (.slice (some ⟨g, 0, none⟩) 0 cap) (lv L)) := HD.out 0 (by omega) hv.out (.inl rfl)
      go_wp2
      go_ret
      exact ⟨_, rfl, E.out, rfl⟩
    · obtain ⟨k, rfl⟩ : ∃ k, m = k + 1 := ⟨m - 1, by omega⟩
      have hcl := HC.out k (by omega)
      have hb := HB.out k
      have hpos : (0 : Int) < (k : Int) + 1 := by omega
      by_cases hz : L.getD k 0 = 0
      · have HV : Hid (lv (L.take k) = lv L) := by
          show _ = _
          rw [← HT.out k (by omega) hz]; exact hv.out
        rw [hz] at hcl
        clear hz hv
        go_wp2
        go_round
        case rel => exact ⟨k, by omega, rfl, HV⟩
        case measure => simp [slN]
      · have E : Hid (NIsF w b (.slice (some ⟨g, 0, none⟩) (k + 1) cap) (lv L)) := HD.out (k + 1) hm hv.out (.inr (by simpa using hz))
        generalize L.getD k 0 = x at *
        clear hv
        go_wp2
        go_ret
        exact ⟨_, rfl, E.out, rfl⟩
end Go.Proofs.YteofommckgeemaaGreatDoor

namespace Go.Proofs.YteofommckgeemaaGreatDoor
open Go.RowKit
set_option linter.unusedVariables false
set_option maxRecDepth 100000
theorem nNaN_int (x : Int) (w : World) : Calls Tryz.prog 295 #[.int .i64 x] w fun e w' => e = .returned (.bool false) ∧ w' = w := by
  go_enter Tryz.func295, Tryz.ntmps295
  go_wp2
  go_ret
  exact ⟨by simp, rfl⟩
theorem nNaN_u8 (x : Int) (w : World) : Calls Tryz.prog 296 #[.int .u8 x] w fun e w' => e = .returned (.bool false) ∧ w' = w := by
  go_enter Tryz.func296, Tryz.ntmps296
  go_wp2
  go_ret
  exact ⟨by simp, rfl⟩
theorem nCmp_int (x y : Int) (w : World) : Calls Tryz.prog 258 #[.int .i64 x, .int .i64 y] w fun e w' => e = .returned (.int .i64 (cmpI x y)) ∧ w' = w := by
  have HS : Hid ((x < y → cmpI x y = -1) ∧ (y < x → cmpI x y = 1) ∧ (x = y → cmpI x y = 0)) := ⟨cmpI_lt x y, cmpI_gt x y, fun e => e ▸ cmpI_eq x⟩
  generalize cmpI x y = C at *
  by_cases h1 : x < y
  · have E : Hid (C = -1) := HS.out.1 h1
    go_enter Tryz.func258, Tryz.ntmps258
    go_wp2_with fail
    refine (nNaN_int x _).mono ?_
    rintro e w1 ⟨rfl, rfl⟩
    go_wp2_with fail
    refine (nNaN_int y _).mono ?_
    rintro e w1 ⟨rfl, rfl⟩
    go_wp2
    go_ret
    exact ⟨by rw [E.out]; rfl, rfl⟩
  · by_cases h2 : y < x
    · have E : Hid (C = 1) := HS.out.2.1 h2
      go_enter Tryz.func258, Tryz.ntmps258
      go_wp2_with fail
      refine (nNaN_int x _).mono ?_
      rintro e w1 ⟨rfl, rfl⟩
      go_wp2_with fail
      refine (nNaN_int y _).mono ?_
      rintro e w1 ⟨rfl, rfl⟩
      go_wp2
      go_ret
      exact ⟨by rw [E.out]; rfl, rfl⟩
    · have E : Hid (C = 0) := HS.out.2.2 (by omega)
      go_enter Tryz.func258, Tryz.ntmps258
      go_wp2_with fail
      refine (nNaN_int x _).mono ?_
      rintro e w1 ⟨rfl, rfl⟩
      go_wp2_with fail
      refine (nNaN_int y _).mono ?_
      rintro e w1 ⟨rfl, rfl⟩
      go_wp2
      go_ret
      exact ⟨by rw [E.out]; rfl, rfl⟩
theorem nCmp_u8 (x y : Int) (w : World) : Calls Tryz.prog 259 #[.int .u8 x, .int .u8 y] w fun e w' => e = .returned (.int .i64 (cmpI x y)) ∧ w' = w := by
  have HS : Hid ((x < y → cmpI x y = -1) ∧ (y < x → cmpI x y = 1) ∧ (x = y → cmpI x y = 0)) := ⟨cmpI_lt x y, cmpI_gt x y, fun e => e ▸ cmpI_eq x⟩
  generalize cmpI x y = C at *
  by_cases h1 : x < y
  · have E : Hid (C = -1) := HS.out.1 h1
    go_enter Tryz.func259, Tryz.ntmps259
    go_wp2_with fail
    refine (nNaN_u8 x _).mono ?_
    rintro e w1 ⟨rfl, rfl⟩
    go_wp2_with fail
    refine (nNaN_u8 y _).mono ?_
    rintro e w1 ⟨rfl, rfl⟩
    go_wp2
    go_ret
    exact ⟨by rw [E.out]; rfl, rfl⟩
  · by_cases h2 : y < x
    · have E : Hid (C = 1) := HS.out.2.1 h2
      go_enter Tryz.func259, Tryz.ntmps259
      go_wp2_with fail
      refine (nNaN_u8 x _).mono ?_
      rintro e w1 ⟨rfl, rfl⟩
      go_wp2_with fail
      refine (nNaN_u8 y _).mono ?_
      rintro e w1 ⟨rfl, rfl⟩
      go_wp2
      go_ret
      exact ⟨by rw [E.out]; rfl, rfl⟩
    · have E : Hid (C = 0) := HS.out.2.2 (by omega)
      go_enter Tryz.func259, Tryz.ntmps259
      go_wp2_with fail
      refine (nNaN_u8 x _).mono ?_
      rintro e w1 ⟨rfl, rfl⟩
      go_wp2_with fail
      refine (nNaN_u8 y _).mono ?_
      rintro e w1 ⟨rfl, rfl⟩
      go_wp2
      go_ret
      exact ⟨by rw [E.out]; rfl, rfl⟩
theorem len_cmp (X Y : List Int) (hX : NCan X) (hY : NCan Y) (hl : X.length ≠ Y.length) : cmpI (X.length : Int) (Y.length : Int) = cmpI (lv X) (lv Y) := by
  rcases Nat.lt_or_ge X.length Y.length with c | c
  · rw [cmpI_lt _ _ (by omega), cmpI_lt _ _ (short_less X Y hX.1 hY c)]
  · rw [cmpI_gt _ _ (by omega), cmpI_gt _ _ (short_less Y X hY.1 hX (by omega))]
theorem dig_cmp (X Y : List Int) (p : Nat) (hX : NCan X) (hY : NCan Y) (pX : p < X.length) (pY : p < Y.length) (hd : X.drop (p + 1) = Y.drop (p + 1)) (hne : X.getD p 0 ≠ Y.getD p 0) : cmpI (X.getD p 0) (Y.getD p 0) = cmpI (lv X) (lv Y) := by
  rcases Int.lt_or_gt_of_ne hne with c | c
  · rw [cmpI_lt _ _ c, cmpI_lt _ _ (low_lt X Y p hX.1 hY.1 pX pY hd c)]
  · rw [cmpI_gt _ _ c, cmpI_gt _ _ (low_lt Y X p hY.1 hX.1 pY pX hd.symm c)]
set_option maxHeartbeats 2000000 in
theorem nCompare_any (x y : Value) (a b : Int) (w : World) (hx : NIs w x a) (hy : NIs w y b) (fa : NFit a 1000) (fb : NFit b 1000) :
    Calls Tryz.prog 216 #[x, y] w fun e w' => e = .returned (.int .i64 (cmpI a b)) ∧ Below w.heap.size w w' := by
  obtain ⟨X, ⟨g, cg, rfl, hcg, hgl, hcx⟩, cX, rfl⟩ := hx
  obtain ⟨Y, ⟨k, ck, rfl, hck, hkl, hcy⟩, cY, rfl⟩ := hy
  have lX := ncan_len X 1000 cX fa
  have lY := ncan_len Y 1000 cY fb
  by_cases hl : X.length = Y.length
  · have HX : Hid (∀ i, i < X.length → w.cell? ⟨g, i, none⟩ = some (.int .u8 (X.getD i 0))) := hcx
    have HY : Hid (∀ i, i < Y.length → w.cell? ⟨k, i, none⟩ = some (.int .u8 (Y.getD i 0))) := hcy
    have HD : Hid (∀ p, p < X.length → X.drop (p + 1) = Y.drop (p + 1) → X.getD p 0 ≠ Y.getD p 0 → cmpI (X.getD p 0) (Y.getD p 0) = cmpI (lv X) (lv Y)) := fun p hp hd hne => dig_cmp X Y p cX cY hp (by omega) hd hne
    have HS : Hid (∀ p, p < X.length → X.drop (p + 1) = Y.drop (p + 1) → X.getD p 0 = Y.getD p 0 → X.drop p = Y.drop p) := fun p hp hd he => drop_same X Y p hp (by omega) hd he
    have HE : Hid (X.drop 0 = Y.drop 0 → cmpI (lv X) (lv Y) = 0) := fun h => by
      rw [List.drop_zero, List.drop_zero] at h; rw [h]; exact cmpI_eq _
    have H0 : Hid (X.drop X.length = Y.drop X.length) := by show _ = _; rw [List.drop_length, hl, List.drop_length]
    generalize cmpI (lv X) (lv Y) = C at *
    rw [← hl] at hck HY ⊢
    obtain ⟨n, hn⟩ : ∃ n, X.length = n := ⟨_, rfl⟩
    rw [hn] at HX HY HD HS H0 lX hcg hck ⊢
    clear hcx hcy cX cY lY hl fa fb hn
    go_enter Tryz.func216, Tryz.ntmps216
    go_wp2
    go_loopw [19] (fun i wr => ∃ q : Nat, q ≤ n ∧ i = .int .i64 (q : Int) ∧ Hid (X.drop (n - q) = Y.drop (n - q)) ∧ Below w.heap.size w wr) (fun i _ => n - (intOf i).toNat)
    case atStart => exact ⟨0, Nat.zero_le _, rfl, H0, Below.refl _ _⟩
    case round =>
      obtain ⟨q, hq, rfl, hd, hbel⟩ := hrel
      by_cases hlt : q < n
      · obtain ⟨p, hp⟩ : ∃ p, n - 1 - q = p := ⟨_, rfl⟩
        have hd' : Hid (X.drop (p + 1) = Y.drop (p + 1)) := by
          have := hd.out
          rw [show n - q = p + 1 by omega] at this; exact this
        have ep : (n : Int) - 1 - (q : Int) = (p : Int) := by omega
        have hpn : (p : Int) < (n : Int) := by omega
        have hqn : (q : Int) < (n : Int) := by omega
        have hpn' : p < n := by omega
        have h1 := (hbel.cell (p := ⟨g, p, none⟩) hgl).trans (HX.out p hpn')
        have h2 := (hbel.cell (p := ⟨k, p, none⟩) hkl).trans (HY.out p hpn')
        by_cases he : X.getD p 0 = Y.getD p 0
        · have HN : Hid (X.drop (n - (q + 1)) = Y.drop (n - (q + 1))) := by
            show _ = _
            rw [show n - (q + 1) = p by omega]
            exact HS.out p hpn' hd'.out he
          rw [← he] at h2
          generalize X.getD p 0 = d at *
          clear he hd hd'
          go_wp2
          go_quiet (fail)
          go_wp2
          go_roundw
          case rel => exact ⟨q + 1, by omega, by go_num, HN, below_drewN hbel _⟩
          case measure => simp [intOf]; omega
        · have E : Hid (cmpI (X.getD p 0) (Y.getD p 0) = C) := HD.out p hpn' hd'.out he
          have HC : Hid (∀ W, Calls Tryz.prog 259 #[.int .u8 (X.getD p 0), .int .u8 (Y.getD p 0)] W fun e w' => e = .returned (.int .i64 C) ∧ w' = W) := fun W => by
            rw [← E.out]; exact nCmp_u8 _ _ W
          have he' : (X.getD p 0 == Y.getD p 0) = false := beq_eq_false_iff_ne.2 he
          generalize X.getD p 0 = d at *
          generalize Y.getD p 0 = d' at *
          clear hd hd' E
          go_wp2
          go_quiet (fail)
          have h3 : (wr.drewN nq).cell? ⟨g, p, none⟩ = some (.int .u8 d) := by simpa using h1
          have h4 : (wr.drewN nq).cell? ⟨k, p, none⟩ = some (.int .u8 d') := by simpa using h2
          have hbel2 := below_drewN hbel nq
          clear h1 h2 hbel
          generalize wr.drewN nq = wr2 at *
          go_wp2
          go_quiet (first | (go_at_call 259; refine Calls.quiet_of_same (HC.out _)))
          go_wp2
          go_ret
          exact ⟨rfl, below_drewN hbel2 _⟩
      · have e : q = n := by omega
        subst e
        have E : Hid (C = 0) := HE.out (by have := hd.out; rwa [Nat.sub_self] at this)
        go_wp2
        go_ret
        exact ⟨by rw [E.out]; rfl, hbel⟩
  · have E : Hid (cmpI (X.length : Int) (Y.length : Int) = cmpI (lv X) (lv Y)) := len_cmp X Y cX cY hl
    have HC : Hid (∀ W, Calls Tryz.prog 258 #[.int .i64 (X.length : Int), .int .i64 (Y.length : Int)] W fun e w' => e = .returned (.int .i64 (cmpI (lv X) (lv Y))) ∧ w' = W) := fun W => by
      rw [← E.out]; exact nCmp_int _ _ W
    have hne : ((X.length : Int) == (Y.length : Int)) = false := beq_eq_false_iff_ne.2 (by omega)
    generalize cmpI (lv X) (lv Y) = C at *
    generalize X.length = n at *
    generalize Y.length = m at *
    clear hcx hcy cX cY E fa fb
    go_enter Tryz.func216, Tryz.ntmps216
    go_wp2_with fail
    refine (HC.out _).mono ?_
    rintro e w1 ⟨rfl, rfl⟩
    go_wp2
    go_ret
    exact ⟨rfl, Below.refl _ _⟩
end Go.Proofs.YteofommckgeemaaGreatDoor

namespace Go.Proofs.YteofommckgeemaaGreatDoor
open Go.RowKit
set_option linter.unusedVariables false
set_option maxRecDepth 100000
theorem ninfo8 : (Tryz.prog.info? 5).map (fun i => (i.zero, i.size, i.bytes)) = some (some (.int .u8 0), 1, 1) := by kernel_rfl
theorem nMake (w : World) (n : Nat) (hn : n ≤ 100000) : ∃ w1, (Instr.makeSlice 183 (.int .i64 (n : Int)) (.int .i64 (n : Int))).run Tryz.prog w = .ok (.slice (some ⟨w.heap.size, 0, none⟩) n n) w1 ∧ NRow w1 w.heap.size w.heap.size n (List.replicate n 0) ∧ Below w.heap.size w w1 := by
  obtain ⟨i0, hi, hz0, hz1, hz2⟩ := info_parts ninfo8
  obtain ⟨w1, hrun, hown, hgrow⟩ := run_make_full (P := Tryz.prog) w w.heap.size 183 5 i0 (.int .u8 0) 1 Tryz.underlying183 hi hz0 hz1 .i64 .i64 n (by rw [hz2]; omega) (by unfold maxLen; omega) (Nat.le_refl _)
  refine ⟨w1, hrun, ?_, Below.grown (Below.refl _ _) hgrow (Nat.le_refl _) (fun k hk => by cases hk)⟩
  rw [show (Value.int .u8 0).cells = #[Value.int .u8 0] from rfl, toList_madeCells_one, Nat.mul_one] at hown
  unfold NRow
  simpa using hown
theorem NRow.below1 {w w' : World} {base g n : Nat} {L : List Int} (h : NRow w base g n L) (hb : Below w.heap.size w w') : NRow w' base g n L := h.below hb (Nat.le_refl _)
theorem plus_end (X Y D : List Int) (n : Nat) (c : Int) (hX : Dec X) (hY : Dec Y) (hD : Dec D) (lD : D.length = n) (hn : n = max X.length Y.length + 1) (c0 : 0 ≤ c) (h : lv D + 10 ^ n * c = pv (fun i => X.getD i 0) n + pv (fun i => Y.getD i 0) n) : lv D = lv X + lv Y := by
  rw [pv_all X n (by omega), pv_all Y n (by omega)] at h
  have bX := (lv_bd X hX).2
  have bY := (lv_bd Y hY).2
  have mX := pow_mono X.length (n - 1) (by omega)
  have mY := pow_mono Y.length (n - 1) (by omega)
  have bD := (lv_bd D hD).1
  have e : (10 : Int) ^ n = 10 ^ (n - 1) * 10 := by rw [← Int.pow_succ]; congr 1; omega
  have p0 : (0 : Int) < 10 ^ (n - 1) := Int.pow_pos (by decide)
  have hc : c = 0 := by
    rcases Int.lt_or_le 0 c with q | q
    · exfalso
      have : 10 ^ n * 1 ≤ 10 ^ n * c := Int.mul_le_mul_of_nonneg_left (by omega) (Int.le_of_lt (Int.pow_pos (by decide)))
      omega
    · omega
  rw [hc] at h
  omega
set_option maxHeartbeats 2000000 in
theorem nPlus_any (x y : Value) (a b : Int) (w : World) (hx : NIs w x a) (hy : NIs w y b) (fa : NFit a 1000) (fb : NFit b 1000) :
    Calls Tryz.prog 225 #[x, y] w fun e w' => ∃ u, e = .returned u ∧ NIsF w' w.heap.size u (a + b) ∧ Below w.heap.size w w' := by
  obtain ⟨X, rX, cX, rfl⟩ := hx
  obtain ⟨Y, rY, cY, rfl⟩ := hy
  have lX := ncan_len X 1000 cX fa
  have lY := ncan_len Y 1000 cY fb
  obtain ⟨n, hn⟩ : ∃ n, max X.length Y.length + 1 = n := ⟨_, rfl⟩
  obtain ⟨w1, hrun, hown, hb1⟩ := nMake w n (by omega)
  have HO : Hid (NRow w1 w.heap.size w.heap.size n (List.replicate n 0)) := hown
  have HAX : Hid (∀ p, p ≤ n → ∀ W, Below w.heap.size w W → Calls Tryz.prog 224 #[x, .int .i64 (p : Int)] W fun e w' => e = .returned (.int .u8 (X.getD p 0)) ∧ w' = W) := fun p hp W hW => nAt_any x X p W (rX.below hW (Nat.le_refl _)) (by omega) (by omega)
  have HAY : Hid (∀ p, p ≤ n → ∀ W, Below w.heap.size w W → Calls Tryz.prog 224 #[y, .int .i64 (p : Int)] W fun e w' => e = .returned (.int .u8 (Y.getD p 0)) ∧ w' = W) := fun p hp W hW => nAt_any y Y p W (rY.below hW (Nat.le_refl _)) (by omega) (by omega)
  have HE : Hid (∀ D c, Dec D → D.length = n → 0 ≤ c → lv D + 10 ^ n * c = pv (fun i => X.getD i 0) n + pv (fun i => Y.getD i 0) n → lv D = lv X + lv Y) := fun D c hD lD c0 h => plus_end X Y D n c cX.1 cY.1 hD lD hn.symm c0 h
  have HBX : Hid (∀ p, 0 ≤ X.getD p 0 ∧ X.getD p 0 ≤ 9) := fun p => dec_at X cX.1 p
  have HBY : Hid (∀ p, 0 ≤ Y.getD p 0 ∧ Y.getD p 0 ≤ 9) := fun p => dec_at Y cY.1 p
  obtain ⟨g, cg, rfl, -, -, -⟩ := rX
  obtain ⟨k, ck, rfl, -, -, -⟩ := rY
  have hmx : max (X.length : Int) (Y.length : Int) + 1 = (n : Int) := by omega
  have hn2 : n ≤ 1001 := by omega
  clear cX cY fa fb hown hn
  generalize X.length = lx at *
  generalize Y.length = ly at *
  have hr1 : lx < ly → (Instr.makeSlice 183 (.int .i64 ((ly : Int) + 1)) (.int .i64 ((ly : Int) + 1))).run Tryz.prog w = .ok (.slice (some ⟨w.heap.size, 0, none⟩) n n) w1 := fun h => by
    rw [show (ly : Int) + 1 = n by omega]; exact hrun
  have hr2 : ¬ lx < ly → (Instr.makeSlice 183 (.int .i64 ((lx : Int) + 1)) (.int .i64 ((lx : Int) + 1))).run Tryz.prog w = .ok (.slice (some ⟨w.heap.size, 0, none⟩) n n) w1 := fun h => by
    rw [show (lx : Int) + 1 = n by omega]; exact hrun
  clear hrun hmx
  by_cases hlx : lx < ly
  all_goals first | have hrun := hr1 hlx | have hrun := hr2 hlx
  all_goals clear hr1 hr2
  all_goals
    go_enter Tryz.func225, Tryz.ntmps225
    go_wp2
    go_loopw [6, 19] (fun c i wr => ∃ (j : Nat) (D : List Int) (cv : Int), j ≤ n ∧ c = .int .u8 cv ∧ i = .int .i64 (j : Int) ∧ 0 ≤ cv ∧ cv ≤ 1 ∧ Hid (NRow wr w.heap.size w.heap.size n (D ++ List.replicate (n - j) 0) ∧ D.length = j ∧ Dec D ∧ lv D + 10 ^ j * cv = pv (fun i => X.getD i 0) j + pv (fun i => Y.getD i 0) j) ∧ Below w.heap.size w wr) (fun _ i _ => n - (intOf i).toNat)
    case atStart => exact ⟨0, [], 0, Nat.zero_le _, rfl, rfl, by omega, by omega, ⟨HO.out, rfl, (fun d hd => by cases hd), rfl⟩, hb1⟩
    case round =>
      obtain ⟨j, D, cv, hj, rfl, rfl, c0, c1, HI, hbel⟩ := hrel
      clear hrun HO hb1
      by_cases hlt : j < n
      · have hlt' : (j : Int) < (n : Int) := by omega
        have bx := HBX.out j
        have by' := HBY.out j
        have hAX := HAX.out j hj wr hbel
        have hAY := HAY.out j hj wr hbel
        have HAX' : Hid (Calls Tryz.prog 224 #[.slice (some ⟨g, 0, none⟩) lx cg, .int .i64 (j : Int)] wr fun e w' => e = .returned (.int .u8 (X.getD j 0)) ∧ w' = wr) := hAX
        have HAY' : Hid (Calls Tryz.prog 224 #[.slice (some ⟨k, 0, none⟩) ly ck, .int .i64 (j : Int)] wr fun e w' => e = .returned (.int .u8 (Y.getD j 0)) ∧ w' = wr) := hAY
        clear hAX hAY
        obtain ⟨hR, hl, hD, hv⟩ := HI.out
        have hcell := hR.cell j hlt
        have hf := hR.frozen j
        have HN : Hid (∀ s, s = X.getD j 0 + Y.getD j 0 + cv → NRow (wr.setCell ⟨w.heap.size, j, none⟩ (.int .u8 (s % 10))) w.heap.size w.heap.size n ((D ++ [s % 10]) ++ List.replicate (n - (j + 1)) 0) ∧ (D ++ [s % 10]).length = j + 1 ∧ Dec (D ++ [s % 10]) ∧ lv (D ++ [s % 10]) + 10 ^ (j + 1) * (s / 10) = pv (fun i => X.getD i 0) (j + 1) + pv (fun i => Y.getD i 0) (j + 1)) := fun s hs => by
          refine ⟨?_, by simp [hl], nd_snoc D _ hD (by omega) (by omega), ?_⟩
          · rw [← fill_set D n j (s % 10) hl hlt]
            exact hR.set j (s % 10)
          · rw [col_step D j _ cv s (X.getD j 0 + Y.getD j 0) hl hv hs]
            simp only [pv, Int.mul_comm (10 ^ j), Int.add_mul]
            omega
        clear hR hl hD hv HI
        generalize (D ++ List.replicate (n - j) 0).getD j 0 = o at *
        generalize X.getD j 0 = xj at *
        generalize Y.getD j 0 = yj at *
        have ht : Int.tmod (xj + yj + cv) 10 = (xj + yj + cv) % 10 := Int.tmod_eq_emod_of_nonneg (by omega)
        have hq : Int.tdiv (xj + yj + cv) 10 = (xj + yj + cv) / 10 := Int.tdiv_eq_ediv_of_nonneg (by omega)
        have hr0 : 0 ≤ (xj + yj + cv) % 10 := by omega
        have hr1 : (xj + yj + cv) % 10 < 10 := by omega
        have hq0 : 0 ≤ (xj + yj + cv) / 10 := by omega
        have hq1 : (xj + yj + cv) / 10 ≤ 1 := by omega
        go_wp2_with fail
        refine HAX'.out.mono ?_
        rintro e w2 ⟨rfl, rfl⟩
        go_wp2_with fail
        refine HAY'.out.mono ?_
        rintro e w3 ⟨rfl, hw3⟩
        obtain rfl := hw3
        go_wp2
        go_roundw
        case rel => exact ⟨j + 1, D ++ [(xj + yj + cv) % 10], (xj + yj + cv) / 10, by omega, rfl, by go_num, hq0, hq1, HN.out _ rfl, hbel.setCell (Nat.le_refl _) _⟩
        case measure => simp [intOf]; omega
      · have e : j = n := by omega
        subst e
        obtain ⟨hR, hl, hD, hv⟩ := HI.out
        rw [Nat.sub_self, List.replicate_zero, List.append_nil] at hR
        have HT : Hid (Calls Tryz.prog 218 #[.slice (some ⟨w.heap.size, 0, none⟩) j j] wr fun e w' => ∃ u, e = .returned u ∧ NIsF wr w.heap.size u (lv X + lv Y) ∧ w' = wr) := by
          have := nTrim_any _ D wr w.heap.size hR.rd ⟨_, _, _, rfl, Nat.le_refl _⟩ hD (by omega)
          rw [HE.out D cv hD hl c0 hv] at this
          exact this
        clear hR hl hD hv HI
        go_wp2_with fail
        refine HT.out.mono ?_
        rintro e w2 ⟨u, rfl, hu, rfl⟩
        have HU : Hid (NIsF w2 w.heap.size u (lv X + lv Y)) := hu
        clear hu
        go_wp2
        go_ret
        exact ⟨u, rfl, HU.out, hbel⟩
end Go.Proofs.YteofommckgeemaaGreatDoor
