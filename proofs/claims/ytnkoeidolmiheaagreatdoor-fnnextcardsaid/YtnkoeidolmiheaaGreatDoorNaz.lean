/-
  Naturals of the program: what is a natural, texts into two naturals, and what the functions on texts answer; walked.
-/
import Derived.Test.YtnkoeidolmiheaaGreatDoorTxt3
import Derived.Test.YtnkoeidolmiheaaGreatDoorIn
import Derived.BigQuiet
import Derived.Deep.QuietTactic
import Derived.Deep.LoopGhost
import Derived.Test.YtnkoeidolmiheaaGreatDoorNatS
import Derived.Test.YtnkoeidolmiheaaGreatDoorNtL
namespace Go.Proofs.YtnkoeidolmiheaaGreatDoor
set_option linter.unusedVariables false
set_option maxRecDepth 100000
/-- Digits low first, no nought at the high end. -/
def NCan (L : List Int) : Prop := Dec L ∧ (L = [] ∨ L.getD (L.length - 1) 0 ≠ 0)
/-- Below ten to the k. -/
def NFit (n : Int) (k : Nat) : Prop := n < 10 ^ k
theorem lv_split (L : List Int) (p : Nat) (hp : p < L.length) : lv L = lv (L.take p) + 10 ^ p * (L.getD p 0 + 10 * lv (L.drop (p + 1))) := by
  have e : L = L.take p ++ (L[p] :: L.drop (p + 1)) := by
    rw [← List.drop_eq_getElem_cons hp, List.take_append_drop]
  have hl : (L.take p).length = p := by rw [List.length_take]; omega
  have h1 := lv_append (L.take p) (L[p] :: L.drop (p + 1))
  rw [← e, hl] at h1
  rw [h1]
  simp [lv, List.getD, hp]
theorem lv_take1 (L : List Int) (p : Nat) (hp : p < L.length) : lv (L.take (p + 1)) = lv (L.take p) + 10 ^ p * L.getD p 0 := by
  have hl : (L.take p).length = p := by rw [List.length_take]; omega
  rw [List.take_succ_eq_append_getElem hp, lv_append, hl]
  simp [lv, List.getD, hp]
theorem nl_set (L : List Int) (p : Nat) (d : Int) (hp : p < L.length) : lv (L.set p d) = lv L + 10 ^ p * (d - L.getD p 0) := by
  have hs := lv_split L p hp
  have hs2 := lv_split (L.set p d) p (by simpa using hp)
  rw [List.take_set_of_le (by omega), List.drop_set_of_lt (by omega)] at hs2
  have e : (L.set p d).getD p 0 = d := by simp [List.getD, hp]
  rw [e] at hs2
  rw [hs2, hs]
  simp only [Int.mul_add, Int.mul_sub]
  omega
theorem nd_set (L : List Int) (p : Nat) (d : Int) (h : Dec L) (h0 : 0 ≤ d) (h9 : d ≤ 9) : Dec (L.set p d) := fun x hx => by
  rcases List.mem_or_eq_of_mem_set hx with c | c
  · exact h x c
  · omega
theorem dec_take (L : List Int) (p : Nat) (h : Dec L) : Dec (L.take p) := fun x hx => h x (List.mem_of_mem_take hx)
theorem dec_noughts (n : Nat) : Dec (List.replicate n 0) := fun x hx => by
  have := (List.mem_replicate.1 hx).2; omega
theorem nd_snoc (L : List Int) (d : Int) (h : Dec L) (h0 : 0 ≤ d) (h9 : d ≤ 9) : Dec (L ++ [d]) := fun x hx => by
  rcases List.mem_append.1 hx with c | c
  · exact h x c
  · simp at c; omega
theorem dec_app (L M : List Int) (h : Dec L) (hM : Dec M) : Dec (L ++ M) := fun x hx => by
  rcases List.mem_append.1 hx with c | c
  · exact h x c
  · exact hM x c
theorem lv_noughts (n : Nat) : lv (List.replicate n 0) = 0 := by
  induction n with
  | zero => rfl
  | succ n ih => rw [List.replicate_succ]; simp [lv, ih]
theorem lv_less (L : List Int) (p : Nat) (h : Dec L) (hp : p ≤ L.length) : 0 ≤ lv (L.take p) ∧ lv (L.take p) < 10 ^ p := by
  have b := lv_bd (L.take p) (dec_take L p h)
  rw [List.length_take, Nat.min_eq_left hp] at b
  exact b
theorem ncan_low (L : List Int) (h : NCan L) (hp : 0 < L.length) : 10 ^ (L.length - 1) ≤ lv L := by
  obtain ⟨hd, hz⟩ := h
  have hz : L.getD (L.length - 1) 0 ≠ 0 := by
    rcases hz with c | c
    · rw [c] at hp; simp at hp
    · exact c
  have s := lv_take1 L (L.length - 1) (by omega)
  rw [Nat.sub_add_cancel hp, List.take_length] at s
  have b := (lv_less L (L.length - 1) hd (by omega)).1
  have d := dec_at L hd (L.length - 1)
  have p : (0 : Int) < 10 ^ (L.length - 1) := Int.pow_pos (by decide)
  have : 10 ^ (L.length - 1) * 1 ≤ 10 ^ (L.length - 1) * L.getD (L.length - 1) 0 := Int.mul_le_mul_of_nonneg_left (by omega) (Int.le_of_lt p)
  omega
theorem ncan_len (L : List Int) (k : Nat) (h : NCan L) (hf : NFit (lv L) k) : L.length ≤ k := by
  rcases Nat.lt_or_ge k L.length with c | c
  · exfalso
    have l := ncan_low L h (by omega)
    have m := pow_mono k (L.length - 1) (by omega)
    unfold NFit at hf
    omega
  · exact c
theorem short_less (X Y : List Int) (hX : Dec X) (hY : NCan Y) (hl : X.length < Y.length) : lv X < lv Y := by
  have b := (lv_bd X hX).2
  have l := ncan_low Y hY (by omega)
  have m := pow_mono X.length (Y.length - 1) (by omega)
  omega
theorem low_lt (X Y : List Int) (p : Nat) (hX : Dec X) (hY : Dec Y) (pX : p < X.length) (pY : p < Y.length) (hd : X.drop (p + 1) = Y.drop (p + 1)) (hlt : X.getD p 0 < Y.getD p 0) : lv X < lv Y := by
  rw [lv_split X p pX, lv_split Y p pY, hd]
  have bX := lv_less X p hX (by omega)
  have bY := lv_less Y p hY (by omega)
  have p0 : (0 : Int) < 10 ^ p := Int.pow_pos (by decide)
  have : 10 ^ p * (X.getD p 0 + 1) ≤ 10 ^ p * Y.getD p 0 := Int.mul_le_mul_of_nonneg_left (by omega) (Int.le_of_lt p0)
  simp only [Int.mul_add] at this ⊢
  omega
theorem drop_same (X Y : List Int) (p : Nat) (pX : p < X.length) (pY : p < Y.length) (hd : X.drop (p + 1) = Y.drop (p + 1)) (he : X.getD p 0 = Y.getD p 0) : X.drop p = Y.drop p := by
  rw [List.drop_eq_getElem_cons pX, List.drop_eq_getElem_cons pY, hd]
  simp [List.getD, pX, pY] at he
  rw [he]
theorem ncan_nt (L : List Int) (h : NCan L) (hp : L ≠ []) (hl : L.length ≤ 500) : L.reverse = nt (lv L) := by
  refine nt_of L.reverse _ ⟨dec_rev L h.1, ?_, ?_⟩ (vl_rev L) (by simpa using hl)
  · rw [List.length_reverse]; exact List.length_pos_iff.2 hp
  · refine .inr ?_
    have hq : 0 < L.length := List.length_pos_iff.2 hp
    rcases h.2 with c | c
    · exact absurd c hp
    · intro e
      apply c
      rw [List.headD_eq_head?_getD, List.head?_reverse, List.getLast?_eq_getElem?] at e
      exact e
theorem nt_nought : nt 0 = [0] := (nt_of [0] 0 canon_zero rfl (by decide)).symm
theorem ncan_nought (L : List Int) (h : NCan L) (hv : lv L = 0) : L = [] := by
  rcases Nat.eq_zero_or_pos L.length with c | c
  · exact List.length_eq_zero_iff.1 c
  · have := ncan_low L h c
    have p0 : (0 : Int) < 10 ^ (L.length - 1) := Int.pow_pos (by decide)
    omega
/-- One column more: a digit, and what goes on. -/
theorem col_step (D : List Int) (j : Nat) (V c s x : Int) (hl : D.length = j) (h : lv D + 10 ^ j * c = V) (hs : s = x + c) : lv (D ++ [s % 10]) + 10 ^ (j + 1) * (s / 10) = V + 10 ^ j * x := by
  rw [lv_append, hl]
  simp only [lv, Int.pow_succ]
  have k : ∀ p r q : Int, r + 10 * q = x + c → p * (r + 10 * 0) + p * 10 * q = p * x + p * c := fun p r q hr => by
    rw [Int.mul_zero, Int.add_zero, Int.mul_assoc, ← Int.mul_add, hr, Int.mul_add]
  have k1 := k (10 ^ j) (s % 10) (s / 10) (by omega)
  omega
theorem pv_all (L : List Int) (j : Nat) (hj : L.length ≤ j) : pv (fun i => L.getD i 0) j = lv L := by
  rw [pv_past _ L.length j hj (fun i hi => by simp [List.getD, List.getElem?_eq_none hi]), pv_take L L.length (Nat.le_refl _), List.take_length]
theorem fill_set (D : List Int) (n j : Nat) (d : Int) (hl : D.length = j) (hj : j < n) : (D ++ List.replicate (n - j) 0).set j d = (D ++ [d]) ++ List.replicate (n - (j + 1)) 0 := by
  rw [List.set_append_right _ _ (by omega), hl, Nat.sub_self]
  obtain ⟨m, hm⟩ : ∃ m, n - j = m + 1 := ⟨n - j - 1, by omega⟩
  rw [hm, List.replicate_succ, List.set_cons_zero, show n - (j + 1) = m by omega, List.append_assoc]
  rfl
theorem fill_set_back (D : List Int) (n k : Nat) (d : Int) (hl : D.length = k) (hk : k < n) : (List.replicate (n - k) 0 ++ D).set (n - 1 - k) d = List.replicate (n - (k + 1)) 0 ++ (d :: D) := by
  rw [List.set_append_left _ _ (by simp; omega)]
  have : (List.replicate (n - k) (0 : Int)).set (n - 1 - k) d = List.replicate (n - (k + 1)) 0 ++ [d] := by
    obtain ⟨m, hm⟩ : ∃ m, n - k = m + 1 := ⟨n - k - 1, by omega⟩
    rw [hm, show n - 1 - k = m by omega, show n - (k + 1) = m by omega, List.replicate_succ', List.set_append_right _ _ (by simp), List.length_replicate, Nat.sub_self]
    rfl
  rw [this, List.append_assoc]
  rfl
end Go.Proofs.YtnkoeidolmiheaaGreatDoor
namespace Go.Proofs.YtnkoeidolmiheaaGreatDoor
open Go.RowKit
set_option linter.unusedVariables false
set_option maxRecDepth 100000
/-- The slice v shows the digits L. -/
def NRd (w : World) (v : Value) (L : List Int) : Prop := ∃ g cap : Nat, v = .slice (some ⟨g, 0, none⟩) L.length cap ∧ L.length ≤ cap ∧ g < w.heap.size ∧ ∀ i, i < L.length → w.cell? ⟨g, i, none⟩ = some (.int .u8 (L.getD i 0))
/-- The slice v is the number n. -/
def NIs (w : World) (v : Value) (n : Int) : Prop := ∃ L, NRd w v L ∧ NCan L ∧ lv L = n
/-- The slice v lies in a block from b on. -/
def NAt (b : Nat) (v : Value) : Prop := ∃ g n cap : Nat, v = .slice (some ⟨g, 0, none⟩) n cap ∧ b ≤ g
/-- The slice v is the number n, in a block from b on. -/
def NIsF (w : World) (b : Nat) (v : Value) (n : Int) : Prop := NIs w v n ∧ NAt b v
theorem NIsF.mono {w : World} {b c : Nat} {v : Value} {n : Int} (h : NIsF w b v n) (hc : c ≤ b) : NIsF w c v n := by
  obtain ⟨h, g, m, cap, e, hb⟩ := h
  exact ⟨h, g, m, cap, e, Nat.le_trans hc hb⟩
theorem NRd.below {w w' : World} {B : Nat} {v : Value} {L : List Int} (h : NRd w v L) (hb : Below B w w') (hB : w.heap.size ≤ B) : NRd w' v L := by
  obtain ⟨g, cap, e, hc, hg, hcell⟩ := h
  have hl : g < w'.heap.size := by
    have := hb.block g (by omega)
    rw [Array.getElem?_eq_getElem hg] at this
    exact (Array.getElem?_eq_some_iff.1 this).1
  exact ⟨g, cap, e, hc, hl, fun i hi => (hb.cell (p := ⟨g, i, none⟩) (by show g < B; omega)).trans (hcell i hi)⟩
theorem NIs.below {w w' : World} {B : Nat} {v : Value} {n : Int} (h : NIs w v n) (hb : Below B w w') (hB : w.heap.size ≤ B) : NIs w' v n := by
  obtain ⟨L, h, r⟩ := h
  exact ⟨L, h.below hb hB, r⟩
theorem NIsF.below {w w' : World} {B b : Nat} {v : Value} {n : Int} (h : NIsF w b v n) (hb : Below B w w') (hB : w.heap.size ≤ B) : NIsF w' b v n := ⟨h.1.below hb hB, h.2⟩
theorem NIsF.set {w : World} {b : Nat} {v : Value} {n : Int} (h : NIsF w b v n) (q k : Nat) (x : Value) (hq : q < b) : NIsF (w.setCell ⟨q, k, none⟩ x) b v n := by
  obtain ⟨⟨L, ⟨g, cap, rfl, hc, hg, hcell⟩, r⟩, g', m, cap', e, hb⟩ := h
  cases e
  have hh : (w.setCell ⟨q, k, none⟩ x).heap[g]? = w.heap[g]? := Below.heap_setCell _ _ _ _ (fun e => by have : g = q := e; omega)
  refine ⟨⟨L, ⟨g, cap, rfl, hc, ?_, fun i hi => ?_⟩, r⟩, g, _, _, rfl, hb⟩
  · rw [Array.getElem?_eq_getElem hg] at hh
    exact (Array.getElem?_eq_some_iff.1 hh).1
  · rw [← hcell i hi]
    unfold World.cell?
    rw [hh]
/-- A row of bytes that the call owns. -/
def NRow (w : World) (base g n : Nat) (L : List Int) : Prop := w.ownsRow base 5 1 (.slice (some ⟨g, 0, none⟩) n n) n (L.map (Value.int .u8))
theorem NRow.len {w : World} {base g n : Nat} {L : List Int} (h : NRow w base g n L) : L.length = n := by
  have := h.1; simpa using this
theorem NRow.lt {w : World} {base g n : Nat} {L : List Int} (h : NRow w base g n L) : base ≤ g ∧ g < w.heap.size := by
  obtain ⟨hl, h⟩ := h
  rcases h with ⟨h, _⟩ | ⟨g', cap, cur, e, hg, hc, r⟩
  · cases h
  · cases e; exact ⟨hg, (Array.getElem?_eq_some_iff.1 hc).1⟩
theorem NRow.cell {w : World} {base g n : Nat} {L : List Int} (h : NRow w base g n L) (k : Nat) (hk : k < n) : w.cell? ⟨g, k, none⟩ = some (.int .u8 (L.getD k 0)) := by
  have hl := h.len
  rw [World.ownsRow.cellAt h k (by omega)]
  simp only [List.getElem?_map, List.getD]
  rw [List.getElem?_eq_getElem (by omega)]
  rfl
theorem NRow.frozen {w : World} {base g n : Nat} {L : List Int} (h : NRow w base g n L) (k : Nat) : w.frozen? ⟨g, k, none⟩ = false := World.ownsRow.frozenAt h k
theorem NRow.set {w : World} {base g n : Nat} {L : List Int} (h : NRow w base g n L) (k : Nat) (x : Int) : NRow (w.setCell ⟨g, k, none⟩ (.int .u8 x)) base g n (L.set k x) := by
  have := (World.ownsRow.stored h k (.int .u8 x)).1
  unfold NRow
  simpa using this
theorem NRow.rd {w : World} {base g n : Nat} {L : List Int} (h : NRow w base g n L) : NRd w (.slice (some ⟨g, 0, none⟩) n n) L :=
  ⟨g, n, by rw [h.len], by rw [h.len]; exact Nat.le_refl _, h.lt.2, fun i hi => h.cell i (by rw [← h.len]; exact hi)⟩
theorem NRow.below {w w' : World} {base g n B : Nat} {L : List Int} (h : NRow w base g n L) (hb : Below B w w') (hB : w.heap.size ≤ B) : NRow w' base g n L := own_below h hb hB
def slN : Value → Nat
  | .slice _ n _ => n
  | _ => 0
theorem nAt_any (v : Value) (L : List Int) (p : Nat) (w : World) (h : NRd w v L) (hp : p ≤ 100000) (hL : L.length ≤ 100000) :
    Calls Tryz.prog 160 #[v, .int .i64 (p : Int)] w fun e w' => e = .returned (.int .u8 (L.getD p 0)) ∧ w' = w := by
  obtain ⟨g, cap, rfl, hc, hg, hcell⟩ := h
  by_cases hlt : p < L.length
  · have h1 := hcell p hlt
    have h2 : (p : Int) < (L.length : Int) := by omega
    generalize L.getD p 0 = x at *
    clear hcell
    generalize L.length = n at *
    go_enter Tryz.func160, Tryz.ntmps160
    go_wp2
    go_ret
    exact ⟨rfl, rfl⟩
  · have E : Hid (L.getD p 0 = 0) := by show _ = _; simp [List.getD, List.getElem?_eq_none (Nat.le_of_not_lt hlt)]
    have h2 : ¬ (p : Int) < (L.length : Int) := by omega
    rw [E.out]
    clear hcell E
    generalize L.length = n at *
    go_enter Tryz.func160, Tryz.ntmps160
    go_wp2
    go_ret
    exact ⟨rfl, rfl⟩
theorem nTrim_any (v : Value) (L : List Int) (w : World) (b : Nat) (h : NRd w v L) (hv : NAt b v) (hd : Dec L) (hL : L.length ≤ 100000) :
    Calls Tryz.prog 158 #[v] w fun e w' => ∃ u, e = .returned u ∧ NIsF w b u (lv L) ∧ w' = w := by
  obtain ⟨g, cap, rfl, hc, hg, hcell⟩ := h
  obtain ⟨g', n', c', e', hbg⟩ := hv
  cases e'
  have HC : Hid (∀ i, i < L.length → w.cell? ⟨g, i, none⟩ = some (.int .u8 (L.getD i 0))) := hcell
  have HB : Hid (∀ i, 0 ≤ L.getD i 0 ∧ L.getD i 0 ≤ 9) := fun i => dec_at L hd i
  have HD : Hid (∀ m, m ≤ L.length → lv (L.take m) = lv L → (m = 0 ∨ L.getD (m - 1) 0 ≠ 0) → NIsF w b (.slice (some ⟨g, 0, none⟩) m cap) (lv L)) := fun m hm hv hz => by
    have hl : (L.take m).length = m := by rw [List.length_take]; omega
    refine ⟨⟨L.take m, ⟨g, cap, by rw [hl], by omega, hg, fun i hi => ?_⟩, ⟨dec_take L m hd, ?_⟩, hv⟩, g, m, cap, rfl, hbg⟩
    · rw [hl] at hi
      rw [hcell i (by omega)]
      simp [List.getD, List.getElem?_take_of_lt hi]
    · rcases hz with c | c
      · exact .inl (List.length_eq_zero_iff.1 (by omega))
      · rcases Nat.eq_zero_or_pos m with c0 | c0
        · exact .inl (List.length_eq_zero_iff.1 (by omega))
        · refine .inr ?_
          rw [hl]
          simpa [List.getD, List.getElem?_take_of_lt (show m - 1 < m by omega)] using c
  have HT : Hid (∀ k, k < L.length → L.getD k 0 = 0 → lv (L.take (k + 1)) = lv (L.take k)) := fun k hk hz => by
    rw [lv_take1 L k hk, hz]; omega
  have H0 : Hid (lv (L.take L.length) = lv L) := by show _ = _; rw [List.take_length]
  obtain ⟨n, hn⟩ : ∃ n, L.length = n := ⟨_, rfl⟩
  rw [hn] at HC HD HT H0 hL hc ⊢
  clear hcell hd hn hbg
  go_enter Tryz.func158, Tryz.ntmps158
  go_wp2
  go_loop [0] (fun x => ∃ m : Nat, m ≤ n ∧ x = .slice (some ⟨g, 0, none⟩) m cap ∧ Hid (lv (L.take m) = lv L)) (fun x => slN x)
  case atStart => exact ⟨n, Nat.le_refl _, rfl, H0⟩
  case round =>
    obtain ⟨m, hm, rfl, hv⟩ := hrel
    rcases Nat.eq_zero_or_pos m with h0 | h0
    · subst h0
      have E : Hid (NIsF w b (.slice (some ⟨g, 0, none⟩) 0 cap) (lv L)) := HD.out 0 (by omega) hv.out (.inl rfl)
      go_wp2
      go_ret
      exact ⟨_, rfl, E.out, rfl⟩
    · obtain ⟨k, rfl⟩ : ∃ k, m = k + 1 := ⟨m - 1, by omega⟩
      have hcl := HC.out k (by omega)
      have hb := HB.out k
      have hpos : (0 : Int) < (k : Int) + 1 := by omega
      by_cases hz : L.getD k 0 = 0
      · have HV : Hid (lv (L.take k) = lv L) := by
          show _ = _
          rw [← HT.out k (by omega) hz]; exact hv.out
        rw [hz] at hcl
        clear hz hv
        go_wp2
        go_round
        case rel => exact ⟨k, by omega, rfl, HV⟩
        case measure => simp [slN]
      · have E : Hid (NIsF w b (.slice (some ⟨g, 0, none⟩) (k + 1) cap) (lv L)) := HD.out (k + 1) hm hv.out (.inr (by simpa using hz))
        generalize L.getD k 0 = x at *
        clear hv
        go_wp2
        go_ret
        exact ⟨_, rfl, E.out, rfl⟩
end Go.Proofs.YtnkoeidolmiheaaGreatDoor
namespace Go.Proofs.YtnkoeidolmiheaaGreatDoor
open Go.RowKit
set_option linter.unusedVariables false
set_option maxRecDepth 100000
theorem nNaN_int (x : Int) (w : World) : Calls Tryz.prog 216 #[.int .i64 x] w fun e w' => e = .returned (.bool false) ∧ w' = w := by
  go_enter Tryz.func216, Tryz.ntmps216
  go_wp2
  go_ret
  exact ⟨by simp, rfl⟩
theorem nNaN_u8 (x : Int) (w : World) : Calls Tryz.prog 217 #[.int .u8 x] w fun e w' => e = .returned (.bool false) ∧ w' = w := by
  go_enter Tryz.func217, Tryz.ntmps217
  go_wp2
  go_ret
  exact ⟨by simp, rfl⟩
theorem nCmp_int (x y : Int) (w : World) : Calls Tryz.prog 190 #[.int .i64 x, .int .i64 y] w fun e w' => e = .returned (.int .i64 (cmpI x y)) ∧ w' = w := by
  have HS : Hid ((x < y → cmpI x y = -1) ∧ (y < x → cmpI x y = 1) ∧ (x = y → cmpI x y = 0)) := ⟨cmpI_lt x y, cmpI_gt x y, fun e => e ▸ cmpI_eq x⟩
  generalize cmpI x y = C at *
  by_cases h1 : x < y
  · have E : Hid (C = -1) := HS.out.1 h1
    go_enter Tryz.func190, Tryz.ntmps190
    go_wp2_with fail
    refine (nNaN_int x _).mono ?_
    rintro e w1 ⟨rfl, rfl⟩
    go_wp2_with fail
    refine (nNaN_int y _).mono ?_
    rintro e w1 ⟨rfl, rfl⟩
    go_wp2
    go_ret
    exact ⟨by rw [E.out]; rfl, rfl⟩
  · by_cases h2 : y < x
    · have E : Hid (C = 1) := HS.out.2.1 h2
      go_enter Tryz.func190, Tryz.ntmps190
      go_wp2_with fail
      refine (nNaN_int x _).mono ?_
      rintro e w1 ⟨rfl, rfl⟩
      go_wp2_with fail
      refine (nNaN_int y _).mono ?_
      rintro e w1 ⟨rfl, rfl⟩
      go_wp2
      go_ret
      exact ⟨by rw [E.out]; rfl, rfl⟩
    · have E : Hid (C = 0) := HS.out.2.2 (by omega)
      go_enter Tryz.func190, Tryz.ntmps190
      go_wp2_with fail
      refine (nNaN_int x _).mono ?_
      rintro e w1 ⟨rfl, rfl⟩
      go_wp2_with fail
      refine (nNaN_int y _).mono ?_
      rintro e w1 ⟨rfl, rfl⟩
      go_wp2
      go_ret
      exact ⟨by rw [E.out]; rfl, rfl⟩
theorem nCmp_u8 (x y : Int) (w : World) : Calls Tryz.prog 191 #[.int .u8 x, .int .u8 y] w fun e w' => e = .returned (.int .i64 (cmpI x y)) ∧ w' = w := by
  have HS : Hid ((x < y → cmpI x y = -1) ∧ (y < x → cmpI x y = 1) ∧ (x = y → cmpI x y = 0)) := ⟨cmpI_lt x y, cmpI_gt x y, fun e => e ▸ cmpI_eq x⟩
  generalize cmpI x y = C at *
  by_cases h1 : x < y
  · have E : Hid (C = -1) := HS.out.1 h1
    go_enter Tryz.func191, Tryz.ntmps191
    go_wp2_with fail
    refine (nNaN_u8 x _).mono ?_
    rintro e w1 ⟨rfl, rfl⟩
    go_wp2_with fail
    refine (nNaN_u8 y _).mono ?_
    rintro e w1 ⟨rfl, rfl⟩
    go_wp2
    go_ret
    exact ⟨by rw [E.out]; rfl, rfl⟩
  · by_cases h2 : y < x
    · have E : Hid (C = 1) := HS.out.2.1 h2
      go_enter Tryz.func191, Tryz.ntmps191
      go_wp2_with fail
      refine (nNaN_u8 x _).mono ?_
      rintro e w1 ⟨rfl, rfl⟩
      go_wp2_with fail
      refine (nNaN_u8 y _).mono ?_
      rintro e w1 ⟨rfl, rfl⟩
      go_wp2
      go_ret
      exact ⟨by rw [E.out]; rfl, rfl⟩
    · have E : Hid (C = 0) := HS.out.2.2 (by omega)
      go_enter Tryz.func191, Tryz.ntmps191
      go_wp2_with fail
      refine (nNaN_u8 x _).mono ?_
      rintro e w1 ⟨rfl, rfl⟩
      go_wp2_with fail
      refine (nNaN_u8 y _).mono ?_
      rintro e w1 ⟨rfl, rfl⟩
      go_wp2
      go_ret
      exact ⟨by rw [E.out]; rfl, rfl⟩
theorem len_cmp (X Y : List Int) (hX : NCan X) (hY : NCan Y) (hl : X.length ≠ Y.length) : cmpI (X.length : Int) (Y.length : Int) = cmpI (lv X) (lv Y) := by
  rcases Nat.lt_or_ge X.length Y.length with c | c
  · rw [cmpI_lt _ _ (by omega), cmpI_lt _ _ (short_less X Y hX.1 hY c)]
  · rw [cmpI_gt _ _ (by omega), cmpI_gt _ _ (short_less Y X hY.1 hX (by omega))]
theorem dig_cmp (X Y : List Int) (p : Nat) (hX : NCan X) (hY : NCan Y) (pX : p < X.length) (pY : p < Y.length) (hd : X.drop (p + 1) = Y.drop (p + 1)) (hne : X.getD p 0 ≠ Y.getD p 0) : cmpI (X.getD p 0) (Y.getD p 0) = cmpI (lv X) (lv Y) := by
  rcases Int.lt_or_gt_of_ne hne with c | c
  · rw [cmpI_lt _ _ c, cmpI_lt _ _ (low_lt X Y p hX.1 hY.1 pX pY hd c)]
  · rw [cmpI_gt _ _ c, cmpI_gt _ _ (low_lt Y X p hY.1 hX.1 pY pX hd.symm c)]
set_option maxHeartbeats 2000000 in
theorem nCompare_any (x y : Value) (a b : Int) (w : World) (hx : NIs w x a) (hy : NIs w y b) (fa : NFit a 1000) (fb : NFit b 1000) :
    Calls Tryz.prog 162 #[x, y] w fun e w' => e = .returned (.int .i64 (cmpI a b)) ∧ Below w.heap.size w w' := by
  obtain ⟨X, ⟨g, cg, rfl, hcg, hgl, hcx⟩, cX, rfl⟩ := hx
  obtain ⟨Y, ⟨k, ck, rfl, hck, hkl, hcy⟩, cY, rfl⟩ := hy
  have lX := ncan_len X 1000 cX fa
  have lY := ncan_len Y 1000 cY fb
  by_cases hl : X.length = Y.length
  · have HX : Hid (∀ i, i < X.length → w.cell? ⟨g, i, none⟩ = some (.int .u8 (X.getD i 0))) := hcx
    have HY : Hid (∀ i, i < Y.length → w.cell? ⟨k, i, none⟩ = some (.int .u8 (Y.getD i 0))) := hcy
    have HD : Hid (∀ p, p < X.length → X.drop (p + 1) = Y.drop (p + 1) → X.getD p 0 ≠ Y.getD p 0 → cmpI (X.getD p 0) (Y.getD p 0) = cmpI (lv X) (lv Y)) := fun p hp hd hne => dig_cmp X Y p cX cY hp (by omega) hd hne
    have HS : Hid (∀ p, p < X.length → X.drop (p + 1) = Y.drop (p + 1) → X.getD p 0 = Y.getD p 0 → X.drop p = Y.drop p) := fun p hp hd he => drop_same X Y p hp (by omega) hd he
    have HE : Hid (X.drop 0 = Y.drop 0 → cmpI (lv X) (lv Y) = 0) := fun h => by
      rw [List.drop_zero, List.drop_zero] at h; rw [h]; exact cmpI_eq _
    have H0 : Hid (X.drop X.length = Y.drop X.length) := by show _ = _; rw [List.drop_length, hl, List.drop_length]
    generalize cmpI (lv X) (lv Y) = C at *
    rw [← hl] at hck HY ⊢
    obtain ⟨n, hn⟩ : ∃ n, X.length = n := ⟨_, rfl⟩
    rw [hn] at HX HY HD HS H0 lX hcg hck ⊢
    clear hcx hcy cX cY lY hl fa fb hn
    go_enter Tryz.func162, Tryz.ntmps162
    go_wp2
    go_loopw [19] (fun i wr => ∃ q : Nat, q ≤ n ∧ i = .int .i64 (q : Int) ∧ Hid (X.drop (n - q) = Y.drop (n - q)) ∧ Below w.heap.size w wr) (fun i _ => n - (intOf i).toNat)
    case atStart => exact ⟨0, Nat.zero_le _, rfl, H0, Below.refl _ _⟩
    case round =>
      obtain ⟨q, hq, rfl, hd, hbel⟩ := hrel
      by_cases hlt : q < n
      · obtain ⟨p, hp⟩ : ∃ p, n - 1 - q = p := ⟨_, rfl⟩
        have hd' : Hid (X.drop (p + 1) = Y.drop (p + 1)) := by
          have := hd.out
          rw [show n - q = p + 1 by omega] at this; exact this
        have ep : (n : Int) - 1 - (q : Int) = (p : Int) := by omega
        have hpn : (p : Int) < (n : Int) := by omega
        have hqn : (q : Int) < (n : Int) := by omega
        have hpn' : p < n := by omega
        have h1 := (hbel.cell (p := ⟨g, p, none⟩) hgl).trans (HX.out p hpn')
        have h2 := (hbel.cell (p := ⟨k, p, none⟩) hkl).trans (HY.out p hpn')
        by_cases he : X.getD p 0 = Y.getD p 0
        · have HN : Hid (X.drop (n - (q + 1)) = Y.drop (n - (q + 1))) := by
            show _ = _
            rw [show n - (q + 1) = p by omega]
            exact HS.out p hpn' hd'.out he
          rw [← he] at h2
          generalize X.getD p 0 = d at *
          clear he hd hd'
          go_wp2
          go_quiet (fail)
          go_wp2
          go_roundw
          case rel => exact ⟨q + 1, by omega, by go_num, HN, below_drewN hbel _⟩
          case measure => simp [intOf]; omega
        · have E : Hid (cmpI (X.getD p 0) (Y.getD p 0) = C) := HD.out p hpn' hd'.out he
          have HC : Hid (∀ W, Calls Tryz.prog 191 #[.int .u8 (X.getD p 0), .int .u8 (Y.getD p 0)] W fun e w' => e = .returned (.int .i64 C) ∧ w' = W) := fun W => by
            rw [← E.out]; exact nCmp_u8 _ _ W
          have he' : (X.getD p 0 == Y.getD p 0) = false := beq_eq_false_iff_ne.2 he
          generalize X.getD p 0 = d at *
          generalize Y.getD p 0 = d' at *
          clear hd hd' E
          go_wp2
          go_quiet (fail)
          have h3 : (wr.drewN nq).cell? ⟨g, p, none⟩ = some (.int .u8 d) := by simpa using h1
          have h4 : (wr.drewN nq).cell? ⟨k, p, none⟩ = some (.int .u8 d') := by simpa using h2
          have hbel2 := below_drewN hbel nq
          clear h1 h2 hbel
          generalize wr.drewN nq = wr2 at *
          go_wp2
          go_quiet (first | (go_at_call 191; refine Calls.quiet_of_same (HC.out _)))
          go_wp2
          go_ret
          exact ⟨rfl, below_drewN hbel2 _⟩
      · have e : q = n := by omega
        subst e
        have E : Hid (C = 0) := HE.out (by have := hd.out; rwa [Nat.sub_self] at this)
        go_wp2
        go_ret
        exact ⟨by rw [E.out]; rfl, hbel⟩
  · have E : Hid (cmpI (X.length : Int) (Y.length : Int) = cmpI (lv X) (lv Y)) := len_cmp X Y cX cY hl
    have HC : Hid (∀ W, Calls Tryz.prog 190 #[.int .i64 (X.length : Int), .int .i64 (Y.length : Int)] W fun e w' => e = .returned (.int .i64 (cmpI (lv X) (lv Y))) ∧ w' = W) := fun W => by
      rw [← E.out]; exact nCmp_int _ _ W
    have hne : ((X.length : Int) == (Y.length : Int)) = false := beq_eq_false_iff_ne.2 (by omega)
    generalize cmpI (lv X) (lv Y) = C at *
    generalize X.length = n at *
    generalize Y.length = m at *
    clear hcx hcy cX cY E fa fb
    go_enter Tryz.func162, Tryz.ntmps162
    go_wp2_with fail
    refine (HC.out _).mono ?_
    rintro e w1 ⟨rfl, rfl⟩
    go_wp2
    go_ret
    exact ⟨rfl, Below.refl _ _⟩
end Go.Proofs.YtnkoeidolmiheaaGreatDoor
namespace Go.Proofs.YtnkoeidolmiheaaGreatDoor
open Go.RowKit
set_option linter.unusedVariables false
set_option maxRecDepth 100000
theorem ninfo8 : (Tryz.prog.info? 5).map (fun i => (i.zero, i.size, i.bytes)) = some (some (.int .u8 0), 1, 1) := by kernel_rfl
theorem nMake (w : World) (n : Nat) (hn : n ≤ 100000) : ∃ w1, (Instr.makeSlice 111 (.int .i64 (n : Int)) (.int .i64 (n : Int))).run Tryz.prog w = .ok (.slice (some ⟨w.heap.size, 0, none⟩) n n) w1 ∧ NRow w1 w.heap.size w.heap.size n (List.replicate n 0) ∧ Below w.heap.size w w1 := by
  obtain ⟨i0, hi, hz0, hz1, hz2⟩ := info_parts ninfo8
  obtain ⟨w1, hrun, hown, hgrow⟩ := run_make_full (P := Tryz.prog) w w.heap.size 111 5 i0 (.int .u8 0) 1 Tryz.underlying111 hi hz0 hz1 .i64 .i64 n (by rw [hz2]; omega) (by unfold maxLen; omega) (Nat.le_refl _)
  refine ⟨w1, hrun, ?_, Below.grown (Below.refl _ _) hgrow (Nat.le_refl _) (fun k hk => by cases hk)⟩
  rw [show (Value.int .u8 0).cells = #[Value.int .u8 0] from rfl, toList_madeCells_one, Nat.mul_one] at hown
  unfold NRow
  simpa using hown
theorem NRow.below1 {w w' : World} {base g n : Nat} {L : List Int} (h : NRow w base g n L) (hb : Below w.heap.size w w') : NRow w' base g n L := h.below hb (Nat.le_refl _)
theorem plus_end (X Y D : List Int) (n : Nat) (c : Int) (hX : Dec X) (hY : Dec Y) (hD : Dec D) (lD : D.length = n) (hn : n = max X.length Y.length + 1) (c0 : 0 ≤ c) (h : lv D + 10 ^ n * c = pv (fun i => X.getD i 0) n + pv (fun i => Y.getD i 0) n) : lv D = lv X + lv Y := by
  rw [pv_all X n (by omega), pv_all Y n (by omega)] at h
  have bX := (lv_bd X hX).2
  have bY := (lv_bd Y hY).2
  have mX := pow_mono X.length (n - 1) (by omega)
  have mY := pow_mono Y.length (n - 1) (by omega)
  have bD := (lv_bd D hD).1
  have e : (10 : Int) ^ n = 10 ^ (n - 1) * 10 := by rw [← Int.pow_succ]; congr 1; omega
  have p0 : (0 : Int) < 10 ^ (n - 1) := Int.pow_pos (by decide)
  have hc : c = 0 := by
    rcases Int.lt_or_le 0 c with q | q
    · exfalso
      have : 10 ^ n * 1 ≤ 10 ^ n * c := Int.mul_le_mul_of_nonneg_left (by omega) (Int.le_of_lt (Int.pow_pos (by decide)))
      omega
    · omega
  rw [hc] at h
  omega
set_option maxHeartbeats 2000000 in
theorem nPlus_any (x y : Value) (a b : Int) (w : World) (hx : NIs w x a) (hy : NIs w y b) (fa : NFit a 1000) (fb : NFit b 1000) :
    Calls Tryz.prog 161 #[x, y] w fun e w' => ∃ u, e = .returned u ∧ NIsF w' w.heap.size u (a + b) ∧ Below w.heap.size w w' := by
  obtain ⟨X, rX, cX, rfl⟩ := hx
  obtain ⟨Y, rY, cY, rfl⟩ := hy
  have lX := ncan_len X 1000 cX fa
  have lY := ncan_len Y 1000 cY fb
  obtain ⟨n, hn⟩ : ∃ n, max X.length Y.length + 1 = n := ⟨_, rfl⟩
  obtain ⟨w1, hrun, hown, hb1⟩ := nMake w n (by omega)
  have HO : Hid (NRow w1 w.heap.size w.heap.size n (List.replicate n 0)) := hown
  have HAX : Hid (∀ p, p ≤ n → ∀ W, Below w.heap.size w W → Calls Tryz.prog 160 #[x, .int .i64 (p : Int)] W fun e w' => e = .returned (.int .u8 (X.getD p 0)) ∧ w' = W) := fun p hp W hW => nAt_any x X p W (rX.below hW (Nat.le_refl _)) (by omega) (by omega)
  have HAY : Hid (∀ p, p ≤ n → ∀ W, Below w.heap.size w W → Calls Tryz.prog 160 #[y, .int .i64 (p : Int)] W fun e w' => e = .returned (.int .u8 (Y.getD p 0)) ∧ w' = W) := fun p hp W hW => nAt_any y Y p W (rY.below hW (Nat.le_refl _)) (by omega) (by omega)
  have HE : Hid (∀ D c, Dec D → D.length = n → 0 ≤ c → lv D + 10 ^ n * c = pv (fun i => X.getD i 0) n + pv (fun i => Y.getD i 0) n → lv D = lv X + lv Y) := fun D c hD lD c0 h => plus_end X Y D n c cX.1 cY.1 hD lD hn.symm c0 h
  have HBX : Hid (∀ p, 0 ≤ X.getD p 0 ∧ X.getD p 0 ≤ 9) := fun p => dec_at X cX.1 p
  have HBY : Hid (∀ p, 0 ≤ Y.getD p 0 ∧ Y.getD p 0 ≤ 9) := fun p => dec_at Y cY.1 p
  obtain ⟨g, cg, rfl, -, -, -⟩ := rX
  obtain ⟨k, ck, rfl, -, -, -⟩ := rY
  have hmx : max (X.length : Int) (Y.length : Int) + 1 = (n : Int) := by omega
  have hn2 : n ≤ 1001 := by omega
  clear cX cY fa fb hown hn
  generalize X.length = lx at *
  generalize Y.length = ly at *
  have hr1 : lx < ly → (Instr.makeSlice 111 (.int .i64 ((ly : Int) + 1)) (.int .i64 ((ly : Int) + 1))).run Tryz.prog w = .ok (.slice (some ⟨w.heap.size, 0, none⟩) n n) w1 := fun h => by
    rw [show (ly : Int) + 1 = n by omega]; exact hrun
  have hr2 : ¬ lx < ly → (Instr.makeSlice 111 (.int .i64 ((lx : Int) + 1)) (.int .i64 ((lx : Int) + 1))).run Tryz.prog w = .ok (.slice (some ⟨w.heap.size, 0, none⟩) n n) w1 := fun h => by
    rw [show (lx : Int) + 1 = n by omega]; exact hrun
  clear hrun hmx
  by_cases hlx : lx < ly
  all_goals first | have hrun := hr1 hlx | have hrun := hr2 hlx
  all_goals clear hr1 hr2
  all_goals
    go_enter Tryz.func161, Tryz.ntmps161
    go_wp2
    go_loopw [6, 19] (fun c i wr => ∃ (j : Nat) (D : List Int) (cv : Int), j ≤ n ∧ c = .int .u8 cv ∧ i = .int .i64 (j : Int) ∧ 0 ≤ cv ∧ cv ≤ 1 ∧ Hid (NRow wr w.heap.size w.heap.size n (D ++ List.replicate (n - j) 0) ∧ D.length = j ∧ Dec D ∧ lv D + 10 ^ j * cv = pv (fun i => X.getD i 0) j + pv (fun i => Y.getD i 0) j) ∧ Below w.heap.size w wr) (fun _ i _ => n - (intOf i).toNat)
    case atStart => exact ⟨0, [], 0, Nat.zero_le _, rfl, rfl, by omega, by omega, ⟨HO.out, rfl, (fun d hd => by cases hd), rfl⟩, hb1⟩
    case round =>
      obtain ⟨j, D, cv, hj, rfl, rfl, c0, c1, HI, hbel⟩ := hrel
      clear hrun HO hb1
      by_cases hlt : j < n
      · have hlt' : (j : Int) < (n : Int) := by omega
        have bx := HBX.out j
        have by' := HBY.out j
        have hAX := HAX.out j hj wr hbel
        have hAY := HAY.out j hj wr hbel
        have HAX' : Hid (Calls Tryz.prog 160 #[.slice (some ⟨g, 0, none⟩) lx cg, .int .i64 (j : Int)] wr fun e w' => e = .returned (.int .u8 (X.getD j 0)) ∧ w' = wr) := hAX
        have HAY' : Hid (Calls Tryz.prog 160 #[.slice (some ⟨k, 0, none⟩) ly ck, .int .i64 (j : Int)] wr fun e w' => e = .returned (.int .u8 (Y.getD j 0)) ∧ w' = wr) := hAY
        clear hAX hAY
        obtain ⟨hR, hl, hD, hv⟩ := HI.out
        have hcell := hR.cell j hlt
        have hf := hR.frozen j
        have HN : Hid (∀ s, s = X.getD j 0 + Y.getD j 0 + cv → NRow (wr.setCell ⟨w.heap.size, j, none⟩ (.int .u8 (s % 10))) w.heap.size w.heap.size n ((D ++ [s % 10]) ++ List.replicate (n - (j + 1)) 0) ∧ (D ++ [s % 10]).length = j + 1 ∧ Dec (D ++ [s % 10]) ∧ lv (D ++ [s % 10]) + 10 ^ (j + 1) * (s / 10) = pv (fun i => X.getD i 0) (j + 1) + pv (fun i => Y.getD i 0) (j + 1)) := fun s hs => by
          refine ⟨?_, by simp [hl], nd_snoc D _ hD (by omega) (by omega), ?_⟩
          · rw [← fill_set D n j (s % 10) hl hlt]
            exact hR.set j (s % 10)
          · rw [col_step D j _ cv s (X.getD j 0 + Y.getD j 0) hl hv hs]
            simp only [pv, Int.mul_comm (10 ^ j), Int.add_mul]
            omega
        clear hR hl hD hv HI
        generalize (D ++ List.replicate (n - j) 0).getD j 0 = o at *
        generalize X.getD j 0 = xj at *
        generalize Y.getD j 0 = yj at *
        have ht : Int.tmod (xj + yj + cv) 10 = (xj + yj + cv) % 10 := Int.tmod_eq_emod_of_nonneg (by omega)
        have hq : Int.tdiv (xj + yj + cv) 10 = (xj + yj + cv) / 10 := Int.tdiv_eq_ediv_of_nonneg (by omega)
        have hr0 : 0 ≤ (xj + yj + cv) % 10 := by omega
        have hr1 : (xj + yj + cv) % 10 < 10 := by omega
        have hq0 : 0 ≤ (xj + yj + cv) / 10 := by omega
        have hq1 : (xj + yj + cv) / 10 ≤ 1 := by omega
        go_wp2_with fail
        refine HAX'.out.mono ?_
        rintro e w2 ⟨rfl, rfl⟩
        go_wp2_with fail
        refine HAY'.out.mono ?_
        rintro e w3 ⟨rfl, hw3⟩
        obtain rfl := hw3
        go_wp2
        go_roundw
        case rel => exact ⟨j + 1, D ++ [(xj + yj + cv) % 10], (xj + yj + cv) / 10, by omega, rfl, by go_num, hq0, hq1, HN.out _ rfl, hbel.setCell (Nat.le_refl _) _⟩
        case measure => simp [intOf]; omega
      · have e : j = n := by omega
        subst e
        obtain ⟨hR, hl, hD, hv⟩ := HI.out
        rw [Nat.sub_self, List.replicate_zero, List.append_nil] at hR
        have HT : Hid (Calls Tryz.prog 158 #[.slice (some ⟨w.heap.size, 0, none⟩) j j] wr fun e w' => ∃ u, e = .returned u ∧ NIsF wr w.heap.size u (lv X + lv Y) ∧ w' = wr) := by
          have := nTrim_any _ D wr w.heap.size hR.rd ⟨_, _, _, rfl, Nat.le_refl _⟩ hD (by omega)
          rw [HE.out D cv hD hl c0 hv] at this
          exact this
        clear hR hl hD hv HI
        go_wp2_with fail
        refine HT.out.mono ?_
        rintro e w2 ⟨u, rfl, hu, rfl⟩
        have HU : Hid (NIsF w2 w.heap.size u (lv X + lv Y)) := hu
        clear hu
        go_wp2
        go_ret
        exact ⟨u, rfl, HU.out, hbel⟩
end Go.Proofs.YtnkoeidolmiheaaGreatDoor
namespace Go.Proofs.YtnkoeidolmiheaaGreatDoor
open Go.RowKit
set_option linter.unusedVariables false
set_option maxRecDepth 100000
theorem minus_end (X Y D : List Int) (n : Nat) (c : Int) (hX : NCan X) (hY : NCan Y) (hD : Dec D) (lD : D.length = n) (hn : n = X.length) (hle : lv Y ≤ lv X) (c0 : 0 ≤ c) (h : lv D + 10 ^ n * (-c) = pv (fun i => X.getD i 0) n - pv (fun i => Y.getD i 0) n) : lv D = lv X - lv Y := by
  have hl : Y.length ≤ X.length := by
    rcases Nat.lt_or_ge X.length Y.length with q | q
    · have := short_less X Y hX.1 hY q; omega
    · exact q
  rw [pv_all X n (by omega), pv_all Y n (by omega)] at h
  have bD := (lv_bd D hD).2
  rw [lD] at bD
  have hc : c = 0 := by
    rcases Int.lt_or_le 0 c with q | q
    · exfalso
      have : 10 ^ n * 1 ≤ 10 ^ n * c := Int.mul_le_mul_of_nonneg_left (by omega) (Int.le_of_lt (Int.pow_pos (by decide)))
      rw [Int.mul_neg] at h
      omega
    · omega
  rw [hc] at h
  omega
set_option maxHeartbeats 2000000 in
theorem nMinus_any (x y : Value) (a b : Int) (w : World) (hx : NIs w x a) (hy : NIs w y b) (fa : NFit a 1000) (fb : NFit b 1000) (hle : b ≤ a) :
    Calls Tryz.prog 163 #[x, y] w fun e w' => ∃ u, e = .returned u ∧ NIsF w' w.heap.size u (a - b) ∧ Below w.heap.size w w' := by
  obtain ⟨X, rX, cX, rfl⟩ := hx
  obtain ⟨Y, rY, cY, rfl⟩ := hy
  have lX := ncan_len X 1000 cX fa
  have lY := ncan_len Y 1000 cY fb
  obtain ⟨n, hn⟩ : ∃ n, X.length = n := ⟨_, rfl⟩
  obtain ⟨w1, hrun, hown, hb1⟩ := nMake w n (by omega)
  have HO : Hid (NRow w1 w.heap.size w.heap.size n (List.replicate n 0)) := hown
  have HAY : Hid (∀ p, p ≤ n → ∀ W, Below w.heap.size w W → Calls Tryz.prog 160 #[y, .int .i64 (p : Int)] W fun e w' => e = .returned (.int .u8 (Y.getD p 0)) ∧ w' = W) := fun p hp W hW => nAt_any y Y p W (rY.below hW (Nat.le_refl _)) (by omega) (by omega)
  have HE : Hid (∀ D c, Dec D → D.length = n → 0 ≤ c → lv D + 10 ^ n * (-c) = pv (fun i => X.getD i 0) n - pv (fun i => Y.getD i 0) n → lv D = lv X - lv Y) := fun D c hD lD c0 h => minus_end X Y D n c cX cY hD lD hn.symm hle c0 h
  have HBX : Hid (∀ p, 0 ≤ X.getD p 0 ∧ X.getD p 0 ≤ 9) := fun p => dec_at X cX.1 p
  have HBY : Hid (∀ p, 0 ≤ Y.getD p 0 ∧ Y.getD p 0 ≤ 9) := fun p => dec_at Y cY.1 p
  obtain ⟨g, cg, rfl, hcg, hgl, hcx⟩ := rX
  obtain ⟨k, ck, rfl, -, -, -⟩ := rY
  rw [hn] at hcg hcx lX ⊢
  have HCX : Hid (∀ i, i < n → w.cell? ⟨g, i, none⟩ = some (.int .u8 (X.getD i 0))) := hcx
  clear cX cY fa fb hown hn hcx hle
  generalize Y.length = ly at *
  go_enter Tryz.func163, Tryz.ntmps163
  go_wp2
  go_loopw [6, 15] (fun c i wr => ∃ (j : Nat) (D : List Int) (cv : Int), j ≤ n ∧ c = .int .u8 cv ∧ i = .int .i64 (j : Int) ∧ 0 ≤ cv ∧ cv ≤ 1 ∧ Hid (NRow wr w.heap.size w.heap.size n (D ++ List.replicate (n - j) 0) ∧ D.length = j ∧ Dec D ∧ lv D + 10 ^ j * (-cv) = pv (fun i => X.getD i 0) j - pv (fun i => Y.getD i 0) j) ∧ Below w.heap.size w wr) (fun _ i _ => n - (intOf i).toNat)
  case atStart => exact ⟨0, [], 0, Nat.zero_le _, rfl, rfl, by omega, by omega, ⟨HO.out, rfl, (fun d hd => by cases hd), rfl⟩, hb1⟩
  case round =>
    obtain ⟨j, D, cv, hj, rfl, rfl, c0, c1, HI, hbel⟩ := hrel
    clear hrun HO hb1
    by_cases hlt : j < n
    · have hlt' : (j : Int) < (n : Int) := by omega
      have bx := HBX.out j
      have by' := HBY.out j
      have HAY' : Hid (∀ m, Calls Tryz.prog 160 #[.slice (some ⟨k, 0, none⟩) ly ck, .int .i64 (j : Int)] (wr.drewN m) fun e w' => e = .returned (.int .u8 (Y.getD j 0)) ∧ w' = wr.drewN m) := fun m => HAY.out j hj _ (below_drewN hbel m)
      have hcx := (hbel.cell (p := ⟨g, j, none⟩) hgl).trans (HCX.out j hlt)
      obtain ⟨hR, hl, hD, hv⟩ := HI.out
      have hcell := hR.cell j hlt
      have hf := hR.frozen j
      have hgw : g ≠ w.heap.size := by omega
      have HN : Hid (∀ m s, s = 10 + X.getD j 0 - Y.getD j 0 - cv → NRow ((wr.drewN m).setCell ⟨w.heap.size, j, none⟩ (.int .u8 (s % 10))) w.heap.size w.heap.size n ((D ++ [s % 10]) ++ List.replicate (n - (j + 1)) 0) ∧ (D ++ [s % 10]).length = j + 1 ∧ Dec (D ++ [s % 10]) ∧ lv (D ++ [s % 10]) + 10 ^ (j + 1) * (-(1 - s / 10)) = pv (fun i => X.getD i 0) (j + 1) - pv (fun i => Y.getD i 0) (j + 1)) := fun m s hs => by
        refine ⟨?_, by simp [hl], nd_snoc D _ hD (by omega) (by omega), ?_⟩
        · rw [← fill_set D n j (s % 10) hl hlt]
          exact (hR.below (below_drewN (Below.refl _ _) m) (Nat.le_refl _)).set j (s % 10)
        · have := col_step D j _ (-cv) (s - 10) (X.getD j 0 - Y.getD j 0) hl hv (by omega)
          rw [show (s - 10) % 10 = s % 10 by omega, show (s - 10) / 10 = -(1 - s / 10) by omega] at this
          rw [this]
          simp only [pv, Int.mul_comm (10 ^ j), Int.sub_mul]
          omega
      clear hR hl hD hv HI
      generalize (D ++ List.replicate (n - j) 0).getD j 0 = o at *
      generalize X.getD j 0 = xj at *
      generalize Y.getD j 0 = yj at *
      have ht : Int.tmod (10 + xj - yj - cv) 10 = (10 + xj - yj - cv) % 10 := Int.tmod_eq_emod_of_nonneg (by omega)
      have hq : Int.tdiv (10 + xj - yj - cv) 10 = (10 + xj - yj - cv) / 10 := Int.tdiv_eq_ediv_of_nonneg (by omega)
      have hr0 : 0 ≤ (10 + xj - yj - cv) % 10 := by omega
      have hr1 : (10 + xj - yj - cv) % 10 < 10 := by omega
      have hq0 : 0 ≤ (10 + xj - yj - cv) / 10 := by omega
      have hq1 : (10 + xj - yj - cv) / 10 ≤ 1 := by omega
      go_wp2
      go_quiet (first | (go_at_call 160; refine Calls.quiet_of_same (HAY'.out _)))
      go_wp2
      go_roundw
      case rel => exact ⟨j + 1, D ++ [(10 + xj - yj - cv) % 10], 1 - (10 + xj - yj - cv) / 10, by omega, rfl, by go_num, by omega, by omega, HN.out nq _ rfl, (below_drewN hbel nq).setCell (Nat.le_refl _) _⟩
      case measure => simp [intOf]; omega
    · have e : j = n := by omega
      subst e
      obtain ⟨hR, hl, hD, hv⟩ := HI.out
      rw [Nat.sub_self, List.replicate_zero, List.append_nil] at hR
      have HT : Hid (Calls Tryz.prog 158 #[.slice (some ⟨w.heap.size, 0, none⟩) j j] wr fun e w' => ∃ u, e = .returned u ∧ NIsF wr w.heap.size u (lv X - lv Y) ∧ w' = wr) := by
        have := nTrim_any _ D wr w.heap.size hR.rd ⟨_, _, _, rfl, Nat.le_refl _⟩ hD (by omega)
        rw [HE.out D cv hD hl c0 hv] at this
        exact this
      clear hR hl hD hv HI
      go_wp2_with fail
      refine HT.out.mono ?_
      rintro e w2 ⟨u, rfl, hu, rfl⟩
      have HU : Hid (NIsF w2 w.heap.size u (lv X - lv Y)) := hu
      clear hu
      go_wp2
      go_ret
      exact ⟨u, rfl, HU.out, hbel⟩
/-- A row of bytes of one's own, as long as it is, with the digits of a slice behind it. -/
theorem wpList_napp {w : World} {ops : Array Oper} {rest : List Oper} {o : Oper} {a : Act} {Q : Exit → Act → World → Prop} (hgd : o.guard = none) (s x : Operand)
    (ho : o.op = .call { callee := .builtin .append, args := #[s, x], argTypes := #[111, 111] }) (vd vs : Value) (hs : a.eval s = vd) (hx : a.eval x = vs)
    (base : Nat) (X Y : List Int) (hX : w.ownsRow base 5 1 vd X.length (X.map (Value.int .u8))) (hnil : vd ≠ .slice none 0 0) (hown0 : ∀ k, vd.ownBlock = some k → base ≤ k) (hY : NRd w vs Y) (hlen : X.length + Y.length ≤ 1000000) (hbase : base ≤ w.heap.size)
    (h : ∀ v' w', Hid (NRd w' v' (X ++ Y) ∧ NAt base v') → Hid (∀ B w0, Below B w0 w → B ≤ base → Below B w0 w') → wpList Tryz.prog ops Q rest (a.put o.dst v') w') : wpList Tryz.prog ops Q (o :: rest) a w := by
  obtain ⟨i0, hi, hz0, hz1, hz2⟩ := info_parts ninfo8
  obtain ⟨g, cap, rfl, hcp, hl, hc⟩ := hY
  refine wpList_append_own (P := Tryz.prog) w hgd s x 111 ho base 5 i0 (.int .u8 0) 1 1 Tryz.underlying111 hi hz0 hz1 hz2 rfl (by decide) vd X.length (X.map (Value.int .u8)) hs hX ⟨g, 0, none⟩ Y.length cap (Y.map (Value.int .u8)) hx (by simp) (fun j u hu => ?_) (fun u hu => ?_) (by unfold maxLen; omega) (by omega) hbase ?_
  · have hj : j < Y.length := by
      have := (List.getElem?_eq_some_iff.1 hu).1
      simpa using this
    rw [show (⟨g, 0, none⟩ : Addr).add j = ⟨g, j, none⟩ by unfold Addr.add; split <;> simp_all, hc j hj, ← hu]
    simp [List.getD, List.getElem?_eq_getElem hj]
  · obtain ⟨y, -, rfl⟩ := List.mem_map.1 hu
    rfl
  · intro v' w' hown hgrow hn
    refine h v' w' ?_ (fun B w0 hB hle => Below.grown hB hgrow (Nat.le_trans hle hbase) (fun k hk => Nat.le_trans hle (hown0 k hk)))
    have h0 := hown
    obtain ⟨hl', h'⟩ := hown
    rcases h' with ⟨e, _⟩ | ⟨g', cap', cur, rfl, hg', hc', hn', hm', hs', ht'⟩
    · exact absurd (hn.1 e).1 hnil
    · refine ⟨⟨g', cap', by rw [List.length_append], by rw [List.length_append]; exact hn', (Array.getElem?_eq_some_iff.1 hc').1, fun i hi => ?_⟩, g', _, _, rfl, hg'⟩
      rw [World.ownsRow.cellAt h0 i (by rw [List.length_append] at hi; omega), ← List.map_append, List.getElem?_map]
      simp only [List.getD, List.getElem?_eq_getElem hi]
      rfl
theorem one8 (w : World) (x : Int) : (w.alloc (.cells #[.int .u8 x] 5)).ownsRow w.heap.size 5 1 (.slice (some ⟨w.heap.size, 0, none⟩) 1 1) [x].length ([x].map (Value.int .u8)) :=
  World.ownsRow_lit (base := w.heap.size) (e := 5) (size := 1) w #[.int .u8 x] 1 (Nat.le_refl _) (by decide) (by simp)
theorem nFollow_any (x : Value) (a d : Int) (w : World) (hx : NIs w x a) (fa : NFit a 1000) (d0 : 0 ≤ d) (d9 : d ≤ 9) :
    Calls Tryz.prog 159 #[x, .int .u8 d] w fun e w' => ∃ u, e = .returned u ∧ NIsF w' w.heap.size u (10 * a + d) ∧ Below w.heap.size w w' := by
  obtain ⟨X, rX, cX, rfl⟩ := hx
  have lX := ncan_len X 1000 cX fa
  have HR : Hid (NRd (w.alloc (.cells #[.int .u8 d] 5)) x X) := rX.below ((Below.refl w.heap.size w).alloc (Nat.le_refl _) _) (Nat.le_refl _)
  have HT : Hid (∀ v W, NRd W v ([d] ++ X) → NAt w.heap.size v → Calls Tryz.prog 158 #[v] W fun e w' => ∃ u, e = .returned u ∧ NIsF W w.heap.size u (10 * lv X + d) ∧ w' = W) := fun v W hv ha => by
    have := nTrim_any v ([d] ++ X) W w.heap.size hv ha (dec_app [d] X (fun z hz => by simp at hz; omega) cX.1) (by simp; omega)
    rw [show lv ([d] ++ X) = 10 * lv X + d by simp [lv]; omega] at this
    exact this
  have HL : Hid (1 + X.length ≤ 1000000) := by show _ ≤ _; omega
  clear rX cX fa lX
  go_enter Tryz.func159, Tryz.ntmps159
  go_wp2_with (first | (at_builtin; refine wpList_napp rfl _ _ rfl _ _ rfl rfl w.heap.size [d] X (one8 w d) (show (Value.slice (some ⟨w.heap.size, 0, none⟩) 1 1) ≠ .slice none 0 0 by simp) (fun k hk => by cases hk; exact Nat.le_refl _) HR.out HL.out (by simp) ?_))
  intro v' w' hR2 hB2
  go_wp2_with fail
  refine (HT.out v' w' hR2.out.1 hR2.out.2).mono ?_
  rintro e w2 ⟨u, rfl, hu, rfl⟩
  have HU : Hid (NIsF w2 w.heap.size u (10 * lv X + d)) := hu
  clear hu
  go_wp2
  go_ret
  exact ⟨u, rfl, HU.out, hB2.out _ _ ((Below.refl w.heap.size w).alloc (Nat.le_refl _) _) (Nat.le_refl _)⟩
theorem nShift_any (x : Value) (a : Int) (n : Nat) (w : World) (hx : NIs w x a) (fa : NFit a 1000) (hn : n ≤ 200) :
    Calls Tryz.prog 118 #[x, .int .i64 (n : Int)] w fun e w' => ∃ u, e = .returned u ∧ NIsF w' w.heap.size u (a * 10 ^ n) ∧ Below w.heap.size w w' := by
  obtain ⟨X, rX, cX, rfl⟩ := hx
  have lX := ncan_len X 1000 cX fa
  obtain ⟨w1, hrun, hown, hb1⟩ := nMake w n (by omega)
  have HR : Hid (NRd w1 x X) := rX.below hb1 (Nat.le_refl _)
  have HO : Hid (w1.ownsRow w.heap.size 5 1 (.slice (some ⟨w.heap.size, 0, none⟩) n n) (List.replicate n (0 : Int)).length ((List.replicate n (0 : Int)).map (Value.int .u8))) := by
    have := hown; unfold NRow at this; rw [List.length_replicate]; exact this
  have HT : Hid (∀ v W, NRd W v (List.replicate n 0 ++ X) → NAt w.heap.size v → Calls Tryz.prog 158 #[v] W fun e w' => ∃ u, e = .returned u ∧ NIsF W w.heap.size u (lv X * 10 ^ n) ∧ w' = W) := fun v W hv ha => by
    have := nTrim_any v (List.replicate n 0 ++ X) W w.heap.size hv ha (dec_app _ X (dec_noughts n) cX.1) (by simp; omega)
    rw [lv_append, lv_noughts, List.length_replicate, Int.zero_add, Int.mul_comm] at this
    exact this
  have HL : Hid ((List.replicate n (0 : Int)).length + X.length ≤ 1000000) := by show _ ≤ _; rw [List.length_replicate]; omega
  have hz1 := hb1.size
  clear rX cX fa lX hown
  go_enter Tryz.func118, Tryz.ntmps118
  go_wp2_with (first | (at_builtin; refine wpList_napp rfl _ _ rfl _ _ rfl rfl w.heap.size (List.replicate n 0) X HO.out (show (Value.slice (some ⟨w.heap.size, 0, none⟩) n n) ≠ .slice none 0 0 by simp) (fun k hk => by cases hk; exact Nat.le_refl _) HR.out HL.out hz1 ?_))
  intro v' w' hR2 hB2
  go_wp2_with fail
  refine (HT.out v' w' hR2.out.1 hR2.out.2).mono ?_
  rintro e w2 ⟨u, rfl, hu, rfl⟩
  have HU : Hid (NIsF w2 w.heap.size u (lv X * 10 ^ n)) := hu
  clear hu
  go_wp2
  go_ret
  exact ⟨u, rfl, HU.out, hB2.out _ _ hb1 (Nat.le_refl _)⟩
end Go.Proofs.YtnkoeidolmiheaaGreatDoor
namespace Go.Proofs.YtnkoeidolmiheaaGreatDoor
open Go.RowKit
set_option linter.unusedVariables false
set_option maxRecDepth 100000
theorem rev_take (ds : List Int) (k : Nat) (hk : k < ds.length) : ds.reverse.take (k + 1) = ds.reverse.take k ++ [ds.getD (ds.length - 1 - k) 0] := by
  rw [List.take_succ_eq_append_getElem (by simpa using hk)]
  congr 2
  rw [List.getElem_reverse]
  simp [List.getD, show ds.length - 1 - k < ds.length by omega]
set_option maxHeartbeats 2000000 in
theorem nOf_any (ds : List Int) (w : World) (hd : Dec ds) (hl : ds.length ≤ 1000) :
    Calls Tryz.prog 115 #[.string (tx ds)] w fun e w' => ∃ u, e = .returned u ∧ NIsF w' w.heap.size u (vl ds) ∧ Below w.heap.size w w' := by
  obtain ⟨n, hn⟩ : ∃ n, ds.length = n := ⟨_, rfl⟩
  have hz : (tx ds).size = n := by rw [tx_size, hn]
  obtain ⟨w1, hrun, hown, hb1⟩ := nMake w n (by omega)
  have HO : Hid (NRow w1 w.heap.size w.heap.size n (List.replicate n 0)) := hown
  have HB : Hid (∀ k (hk : k < (tx ds).size), (((tx ds)[k]'hk).toNat : Int) = 48 + ds.getD k 0 ∧ 0 ≤ ds.getD k 0 ∧ ds.getD k 0 ≤ 9) := fun k hk => ⟨tx_at ds hd k hk, dec_at ds hd k⟩
  have HS : Hid (∀ k, k < n → ds.reverse.take (k + 1) = ds.reverse.take k ++ [ds.getD (n - 1 - k) 0]) := fun k hk => by
    rw [← hn] at hk ⊢; exact rev_take ds k hk
  have HL : Hid (∀ k, k ≤ n → (ds.reverse.take k).length = k) := fun k hk => by simp; omega
  have HT : Hid (∀ v W, NRd W v (ds.reverse.take n) → NAt w.heap.size v → Calls Tryz.prog 158 #[v] W fun e w' => ∃ u, e = .returned u ∧ NIsF W w.heap.size u (vl ds) ∧ w' = W) := fun v W hv ha => by
    rw [List.take_of_length_le (by simp; omega)] at hv
    exact nTrim_any v ds.reverse W w.heap.size hv ha (dec_rev ds hd) (by simp; omega)
  have hn1 : n ≤ 1000 := by omega
  generalize tx ds = S at *
  have hrun' : (Instr.makeSlice 111 (.int .i64 (S.size : Int)) (.int .i64 (S.size : Int))).run Tryz.prog w = .ok (.slice (some ⟨w.heap.size, 0, none⟩) n n) w1 := by rw [hz]; exact hrun
  have HZ : Hid (S.size = n) := hz
  have hz1 : S.size ≤ 1000 := by omega
  clear hown hd hrun hz hl hn
  go_enter Tryz.func115, Tryz.ntmps115
  go_wp2
  go_loopw [10] (fun i wr => ∃ k : Nat, k ≤ n ∧ i = .int .i64 (k : Int) ∧ Hid (NRow wr w.heap.size w.heap.size n (ds.reverse.take k ++ List.replicate (n - k) 0)) ∧ Below w.heap.size w wr) (fun i _ => n - (intOf i).toNat)
  case atStart => exact ⟨0, Nat.zero_le _, rfl, HO, hb1⟩
  case round =>
    obtain ⟨k, hk, rfl, HR, hbel⟩ := hrel
    clear hrun' HO hb1
    by_cases hlt : k < n
    · have hz := HZ.out
      have hlt' : (k : Int) < (S.size : Int) := by omega
      have hlt2 : (k : Int) < (n : Int) := by omega
      obtain ⟨p, hp⟩ : ∃ p, n - 1 - k = p := ⟨_, rfl⟩
      have ep : (S.size : Int) - 1 - (k : Int) = (p : Int) := by omega
      have hp1 : p < S.size := by omega
      have hp2 : (p : Int) < (S.size : Int) := by omega
      obtain ⟨hb, d0, d9⟩ := HB.out p hp1
      have hw : IntKind.u8.wrap (((S[p]'hp1).toNat : Int) - 48) = ds.getD p 0 := by
        rw [hb, show 48 + ds.getD p 0 - 48 = ds.getD p 0 by omega, IntKind.wrap_u8]; omega
      have hcell := HR.out.cell k hlt
      have hf := HR.out.frozen k
      have HN : Hid (NRow (wr.setCell ⟨w.heap.size, k, none⟩ (.int .u8 (ds.getD p 0))) w.heap.size w.heap.size n (ds.reverse.take (k + 1) ++ List.replicate (n - (k + 1)) 0)) := by
        have := HR.out.set k (ds.getD p 0)
        rw [fill_set _ n k _ (HL.out k hk) hlt, ← hp, ← HS.out k hlt] at this
        rw [hp] at this
        exact this
      clear hb hz hp
      generalize (ds.reverse.take k ++ List.replicate (n - k) 0).getD k 0 = o at *
      generalize ds.getD p 0 = d at *
      go_wp2
      go_roundw
      case rel => exact ⟨k + 1, by omega, by go_num, HN, hbel.setCell (Nat.le_refl _) _⟩
      case measure => simp [intOf]; omega
    · have e : k = n := by omega
      subst e
      have hz := HZ.out
      have hlt' : ¬ (k : Int) < (S.size : Int) := by omega
      have HT' : Hid (Calls Tryz.prog 158 #[.slice (some ⟨w.heap.size, 0, none⟩) k k] wr fun e w' => ∃ u, e = .returned u ∧ NIsF wr w.heap.size u (vl ds) ∧ w' = wr) := by
        have := HR.out
        rw [Nat.sub_self, List.replicate_zero, List.append_nil] at this
        exact HT.out _ _ this.rd ⟨_, _, _, rfl, Nat.le_refl _⟩
      clear hz
      go_wp2_with fail
      refine HT'.out.mono ?_
      rintro e w2 ⟨u, rfl, hu, rfl⟩
      have HU : Hid (NIsF w2 w.heap.size u (vl ds)) := hu
      clear hu
      go_wp2
      go_ret
      exact ⟨u, rfl, HU.out, hbel⟩
theorem ninfoB (w : World) (n : Nat) (hn : n ≤ 100000) : ∃ w1, (Instr.makeSlice 22 (.int .i64 (n : Int)) (.int .i64 (n : Int))).run Tryz.prog w = .ok (.slice (some ⟨w.heap.size, 0, none⟩) n n) w1 ∧ NRow w1 w.heap.size w.heap.size n (List.replicate n 0) ∧ Below w.heap.size w w1 := by
  obtain ⟨i0, hi, hz0, hz1, hz2⟩ := info_parts ninfo8
  obtain ⟨w1, hrun, hown, hgrow⟩ := run_make_full (P := Tryz.prog) w w.heap.size 22 5 i0 (.int .u8 0) 1 Tryz.underlying22 hi hz0 hz1 .i64 .i64 n (by rw [hz2]; omega) (by unfold maxLen; omega) (Nat.le_refl _)
  refine ⟨w1, hrun, ?_, Below.grown (Below.refl _ _) hgrow (Nat.le_refl _) (fun k hk => by cases hk)⟩
  rw [show (Value.int .u8 0).cells = #[Value.int .u8 0] from rfl, toList_madeCells_one, Nat.mul_one] at hown
  unfold NRow
  simpa using hown
theorem ntext_of (w : World) (base g n : Nat) (L : List Int) (h : NRow w base g n ((L.reverse).map (48 + ·))) (hl : L.length = n) :
    (convert 22 9 (.slice (some ⟨g, 0, none⟩) n n)).run Tryz.prog w = .ok (.string (tx L.reverse)) w := by
  have := run_convert_bytes_arg (P := Tryz.prog) w 22 5 Tryz.underlying22 Tryz.underlying5 g 0 n n (L.reverse.map (48 + ·)) (by simp [hl]) (fun i hi => by
      rw [Nat.zero_add]
      exact h.cell i hi)
  exact this 9 Tryz.underlying9
theorem text_take (L : List Int) (k : Nat) (hk : k < L.length) : ((L.take (k + 1)).reverse).map (48 + ·) = (48 + L.getD k 0) :: ((L.take k).reverse).map (48 + ·) := by
  rw [List.take_succ_eq_append_getElem hk, List.reverse_append, List.map_append]
  simp only [List.reverse_cons, List.reverse_nil, List.nil_append, List.map_cons, List.map_nil, List.getD, List.getElem?_eq_getElem hk, Option.getD_some, List.cons_append]
set_option maxHeartbeats 2000000 in
theorem nText_any (x : Value) (a : Int) (w : World) (hx : NIs w x a) (fa : NFit a 500) :
    Calls Tryz.prog 117 #[x] w fun e w' => e = .returned (.string (fitS (nt a))) ∧ Below w.heap.size w w' := by
  obtain ⟨X, ⟨g, cap, rfl, hcp, hgl, hcx⟩, cX, rfl⟩ := hx
  have lX := ncan_len X 500 cX fa
  by_cases h0 : X = []
  · subst h0
    have E : Hid (fitS (nt (lv [])) = { data := #[48] }) := by
      show fitS (nt 0) = _
      rw [nt_nought]; rfl
    rw [E.out]
    clear hcx cX fa
    go_enter Tryz.func117, Tryz.ntmps117
    go_wp2
    go_ret
    exact ⟨rfl, Below.refl _ _⟩
  · have hp : 0 < X.length := List.length_pos_iff.2 h0
    have hp' : ((X.length : Int) == 0) = false := beq_eq_false_iff_ne.2 (by omega)
    have en := ncan_nt X cX h0 lX
    have eln : (nt (lv X)).length = X.length := by rw [← en, List.length_reverse]
    by_cases hlong : X.length ≤ 200
    · have E : Hid (fitS (nt (lv X)) = tx X.reverse) := by show fitS (nt (lv X)) = _; unfold fitS; rw [eln, if_pos hlong, ← en]
      rw [E.out]
      obtain ⟨n, hn⟩ : ∃ n, X.length = n := ⟨_, rfl⟩
      obtain ⟨w1, hrun, hown, hb1⟩ := ninfoB w n (by omega)
      have HO : Hid (NRow w1 w.heap.size w.heap.size n (List.replicate n 0 ++ ((X.take 0).reverse).map (48 + ·))) := by
        show NRow _ _ _ _ _
        rw [List.take_zero]; simpa using hown
      have HC : Hid (∀ i, i < n → w.cell? ⟨g, i, none⟩ = some (.int .u8 (X.getD i 0))) := by rw [hn] at hcx; exact hcx
      have HB : Hid (∀ i, 0 ≤ X.getD i 0 ∧ X.getD i 0 ≤ 9) := fun i => dec_at X cX.1 i
      have HS : Hid (∀ k, k < n → (List.replicate (n - k) 0 ++ ((X.take k).reverse).map (48 + ·)).set (n - 1 - k) (48 + X.getD k 0) = List.replicate (n - (k + 1)) 0 ++ ((X.take (k + 1)).reverse).map (48 + ·)) := fun k hk => by
        rw [fill_set_back _ n k _ (by simp; omega) hk, text_take X k (by omega)]
      have HT : Hid (∀ W, NRow W w.heap.size w.heap.size n (List.replicate (n - n) 0 ++ ((X.take n).reverse).map (48 + ·)) → (convert 22 9 (.slice (some ⟨w.heap.size, 0, none⟩) n n)).run Tryz.prog W = .ok (.string (tx X.reverse)) W) := fun W hW => by
        rw [Nat.sub_self, List.replicate_zero, List.nil_append, List.take_of_length_le (by omega)] at hW
        exact ntext_of W w.heap.size w.heap.size n X hW hn
      rw [hn] at hp hp' hlong hcp ⊢
      have hlong' : ¬ (200 : Int) < (n : Int) := by omega
      generalize tx X.reverse = T at *
      clear hcx cX fa en eln E lX hown h0
      go_enter Tryz.func117, Tryz.ntmps117
      go_wp2
      go_loopw [18] (fun i wr => ∃ k : Nat, k ≤ n ∧ i = .int .i64 (k : Int) ∧ Hid (NRow wr w.heap.size w.heap.size n (List.replicate (n - k) 0 ++ ((X.take k).reverse).map (48 + ·))) ∧ Below w.heap.size w wr) (fun i _ => n - (intOf i).toNat)
      case atStart => exact ⟨0, Nat.zero_le _, rfl, HO, hb1⟩
      case round =>
        obtain ⟨k, hk, rfl, HR, hbel⟩ := hrel
        clear hrun HO hb1
        by_cases hlt : k < n
        · have hlt' : (k : Int) < (n : Int) := by omega
          obtain ⟨p, hp⟩ : ∃ p, n - 1 - k = p := ⟨_, rfl⟩
          have ep : (n : Int) - 1 - (k : Int) = (p : Int) := by omega
          have hpn : p < n := by omega
          have hpn' : (p : Int) < (n : Int) := by omega
          have hcx := (hbel.cell (p := ⟨g, k, none⟩) hgl).trans (HC.out k hlt)
          have hb := HB.out k
          have hcell := HR.out.cell p hpn
          have hf := HR.out.frozen p
          have HN : Hid (NRow (wr.setCell ⟨w.heap.size, p, none⟩ (.int .u8 (48 + X.getD k 0))) w.heap.size w.heap.size n (List.replicate (n - (k + 1)) 0 ++ ((X.take (k + 1)).reverse).map (48 + ·))) := by
            have := HR.out.set p (48 + X.getD k 0)
            rw [← hp, HS.out k hlt] at this
            rw [hp] at this
            exact this
          clear hp
          generalize (List.replicate (n - k) 0 ++ ((X.take k).reverse).map (48 + ·)).getD p 0 = o at *
          generalize X.getD k 0 = d at *
          go_wp2
          go_roundw
          case rel => exact ⟨k + 1, by omega, by go_num, HN, hbel.setCell (Nat.le_refl _) _⟩
          case measure => simp [intOf]; omega
        · have e : k = n := by omega
          subst e
          have hcv := HT.out wr HR.out
          clear HT
          go_wp2
          go_ret
          exact ⟨rfl, hbel⟩
    · have E : Hid (fitS (nt (lv X)) = { data := #[] }) := by show fitS (nt (lv X)) = _; unfold fitS; rw [eln, if_neg hlong]
      rw [E.out]
      have hlong' : (200 : Int) < (X.length : Int) := by omega
      clear hcx cX fa en eln E
      generalize X.length = n at *
      go_enter Tryz.func117, Tryz.ntmps117
      go_wp2
      go_ret
      exact ⟨rfl, Below.refl _ _⟩
end Go.Proofs.YtnkoeidolmiheaaGreatDoor
namespace Go.Proofs.YtnkoeidolmiheaaGreatDoor
open Go.RowKit
set_option linter.unusedVariables false
set_option maxRecDepth 100000
theorem times_in (P : List Int) (i j : Nat) (A xi yj c s V : Int) (hk : i + j < P.length) (h : lv P + 10 ^ (i + j) * c = A + 10 ^ i * xi * V) (hs : s = P.getD (i + j) 0 + xi * yj + c) :
    lv (P.set (i + j) (s % 10)) + 10 ^ (i + (j + 1)) * (s / 10) = A + 10 ^ i * xi * (V + yj * 10 ^ j) := by
  rw [nl_set P (i + j) _ hk, show i + (j + 1) = i + j + 1 by omega, Int.pow_succ]
  have hr : s = s % 10 + 10 * (s / 10) := by omega
  rw [Int.pow_add] at h ⊢
  generalize s % 10 = r at *
  generalize s / 10 = u at *
  generalize (10 : Int) ^ i = p at *
  generalize (10 : Int) ^ j = q at *
  generalize P.getD (i + j) 0 = K at *
  grind
theorem times_out (P X Y : List Int) (i : Nat) (c : Int) (hi : i < X.length) (hk : i + Y.length < P.length) (hz : P.getD (i + Y.length) 0 = 0) (h : lv P + 10 ^ (i + Y.length) * c = lv (X.take i) * lv Y + 10 ^ i * X.getD i 0 * pv (fun i => Y.getD i 0) Y.length) :
    lv (P.set (i + Y.length) c) = lv (X.take (i + 1)) * lv Y := by
  rw [nl_set P _ _ hk, hz, lv_take1 X i hi]
  rw [pv_all Y Y.length (Nat.le_refl _)] at h
  generalize (10 : Int) ^ (i + Y.length) = p at *
  grind
theorem getD_set_ne (P : List Int) (k q : Nat) (d : Int) (h : k ≠ q) : (P.set k d).getD q 0 = P.getD q 0 := by
  simp [List.getD, List.getElem?_set_ne h]
theorem replicate_at (n q : Nat) : (List.replicate n (0 : Int)).getD q 0 = 0 := by
  simp only [List.getD, List.getElem?_replicate]
  split <;> rfl
/-- What holds behind i rows and j columns of the next one. -/
def TI (w wr : World) (N : Nat) (X Y : List Int) (i j : Nat) (c : Int) : Prop :=
  ∃ P, NRow wr w.heap.size w.heap.size N P ∧ Dec P ∧ (∀ q, i + Y.length ≤ q → P.getD q 0 = 0) ∧ lv P + 10 ^ (i + j) * c = lv (X.take i) * lv Y + 10 ^ i * X.getD i 0 * pv (fun i => Y.getD i 0) j
theorem TI.first {w wr : World} {N : Nat} {X Y : List Int} {i : Nat} {P : List Int} (hR : NRow wr w.heap.size w.heap.size N P) (hD : Dec P) (hz : ∀ q, i + Y.length ≤ q → P.getD q 0 = 0) (hv : lv P = lv (X.take i) * lv Y) : TI w wr N X Y i 0 0 :=
  ⟨P, hR, hD, hz, by rw [hv]; simp [pv]⟩
theorem lv_sum_bd (xi yj k c : Int) (a0 : 0 ≤ xi) (a9 : xi ≤ 9) (b0 : 0 ≤ yj) (b9 : yj ≤ 9) : 0 ≤ xi * yj ∧ xi * yj ≤ 81 := by
  refine ⟨Int.mul_nonneg a0 b0, ?_⟩
  exact Int.le_trans (Int.mul_le_mul a9 b9 b0 (by decide)) (by decide)
set_option maxHeartbeats 4000000 in
theorem nTimes_any (x y : Value) (a b : Int) (w : World) (hx : NIs w x a) (hy : NIs w y b) (fa : NFit a 1000) (fb : NFit b 1000) :
    Calls Tryz.prog 173 #[x, y] w fun e w' => ∃ u, e = .returned u ∧ NIsF w' w.heap.size u (a * b) ∧ Below w.heap.size w w' := by
  obtain ⟨X, rX, cX, rfl⟩ := hx
  obtain ⟨Y, rY, cY, rfl⟩ := hy
  have lX := ncan_len X 1000 cX fa
  have lY := ncan_len Y 1000 cY fb
  obtain ⟨n, hn⟩ : ∃ n, X.length = n := ⟨_, rfl⟩
  obtain ⟨m, hm⟩ : ∃ m, Y.length = m := ⟨_, rfl⟩
  obtain ⟨N, hN⟩ : ∃ N, n + m = N := ⟨_, rfl⟩
  obtain ⟨w1, hrun, hown, hb1⟩ := nMake w N (by omega)
  have hrun' : (Instr.makeSlice 111 (.int .i64 ((n : Int) + (m : Int))) (.int .i64 ((n : Int) + (m : Int)))).run Tryz.prog w = .ok (.slice (some ⟨w.heap.size, 0, none⟩) N N) w1 := by
    rw [show (n : Int) + (m : Int) = (N : Int) by omega]; exact hrun
  have HO : Hid (TI w w1 N X Y 0 0 0) := TI.first hown (dec_noughts N) (fun q _ => replicate_at N q) (by rw [lv_noughts, List.take_zero]; simp [lv])
  have HBX : Hid (∀ p, 0 ≤ X.getD p 0 ∧ X.getD p 0 ≤ 9) := fun p => dec_at X cX.1 p
  have HBY : Hid (∀ p, 0 ≤ Y.getD p 0 ∧ Y.getD p 0 ≤ 9) := fun p => dec_at Y cY.1 p
  obtain ⟨g, cg, rfl, hcg, hgl, hcx⟩ := rX
  obtain ⟨k, ck, rfl, hck, hkl, hcy⟩ := rY
  rw [hn] at hcg hcx lX ⊢
  rw [hm] at hck hcy lY ⊢
  have HCX : Hid (∀ i, i < n → w.cell? ⟨g, i, none⟩ = some (.int .u8 (X.getD i 0))) := hcx
  have HCY : Hid (∀ i, i < m → w.cell? ⟨k, i, none⟩ = some (.int .u8 (Y.getD i 0))) := hcy
  have HT : Hid (∀ wr, TI w wr N X Y n 0 0 → Calls Tryz.prog 158 #[.slice (some ⟨w.heap.size, 0, none⟩) N N] wr fun e w' => ∃ u, e = .returned u ∧ NIsF wr w.heap.size u (lv X * lv Y) ∧ w' = wr) := fun wr ⟨P, hR, hD, hz, hv⟩ => by
    have := nTrim_any _ P wr w.heap.size hR.rd ⟨_, _, _, rfl, Nat.le_refl _⟩ hD (by rw [hR.len]; omega)
    rw [List.take_of_length_le (by omega)] at hv
    rw [show lv P = lv X * lv Y by simpa [pv] using hv] at this
    exact this
  have HIN : Hid (∀ wr i j c, i < n → j < m → 0 ≤ c → TI w wr N X Y i j c → ∃ K, wr.cell? ⟨w.heap.size, i + j, none⟩ = some (.int .u8 K) ∧ 0 ≤ K ∧ K ≤ 9 ∧ wr.frozen? ⟨w.heap.size, i + j, none⟩ = false ∧ (∀ M s, s = K + X.getD i 0 * Y.getD j 0 + c → TI w ((wr.drewN M).setCell ⟨w.heap.size, i + j, none⟩ (.int .u8 (s % 10))) N X Y i (j + 1) (s / 10))) := fun wr i j c hi hj c0 ⟨P, hR, hD, hz, hv⟩ => by
    have hlen := hR.len
    refine ⟨P.getD (i + j) 0, hR.cell (i + j) (by omega), (dec_at P hD _).1, (dec_at P hD _).2, hR.frozen _, fun M s hs => ⟨P.set (i + j) (s % 10), ?_, nd_set P _ _ hD (by omega) (by omega), fun q hq => ?_, ?_⟩⟩
    · exact (hR.below (below_drewN (Below.refl _ _) M) (Nat.le_refl _)).set (i + j) (s % 10)
    · rw [getD_set_ne _ _ _ _ (by omega)]; exact hz q hq
    · exact times_in P i j _ (X.getD i 0) (Y.getD j 0) c s _ (by omega) hv hs
  have HOUT : Hid (∀ wr i c, i < n → 0 ≤ c → c ≤ 9 → TI w wr N X Y i m c → ∃ K, wr.cell? ⟨w.heap.size, i + m, none⟩ = some (.int .u8 K) ∧ wr.frozen? ⟨w.heap.size, i + m, none⟩ = false ∧ TI w (wr.setCell ⟨w.heap.size, i + m, none⟩ (.int .u8 c)) N X Y (i + 1) 0 0) := fun wr i c hi c0 c9 ⟨P, hR, hD, hz, hv⟩ => by
    have hlen := hR.len
    refine ⟨P.getD (i + m) 0, hR.cell (i + m) (by omega), hR.frozen _, TI.first (hR.set (i + m) c) (nd_set P _ _ hD c0 c9) (fun q hq => ?_) ?_⟩
    · rw [getD_set_ne _ _ _ _ (by omega)]; exact hz q (by omega)
    · have := times_out P X Y i c (by omega) (by omega) (hz _ (Nat.le_refl _)) (by rw [hm]; exact hv)
      rw [hm] at this
      exact this
  clear cX cY fa fb hown hrun hcx hcy hn hm
  go_enter Tryz.func173, Tryz.ntmps173
  go_wp2
  go_loopw [18] (fun i wr => ∃ q : Nat, q ≤ n ∧ i = .int .i64 (q : Int) ∧ Hid (TI w wr N X Y q 0 0) ∧ Below w.heap.size w wr) (fun i _ => n - (intOf i).toNat)
  case atStart => exact ⟨0, Nat.zero_le _, rfl, HO, hb1⟩
  case round =>
    obtain ⟨q, hq, rfl, HI, hbel⟩ := hrel
    clear hrun' HO hb1
    by_cases hlt : q < n
    · have hlt' : (q : Int) < (n : Int) := by omega
      have bx := HBX.out q
      go_wp2
      go_loopw [7, 24] (fun c j wr => ∃ (r : Nat) (cv : Int), r ≤ m ∧ c = .int .u8 cv ∧ j = .int .i64 (r : Int) ∧ 0 ≤ cv ∧ cv ≤ 9 ∧ Hid (TI w wr N X Y q r cv) ∧ Below w.heap.size w wr) (fun _ j _ => m - (intOf j).toNat)
      case atStart => exact ⟨0, 0, Nat.zero_le _, rfl, rfl, by omega, by omega, HI, hbel⟩
      case round =>
        obtain ⟨r, cv, hr, rfl, rfl, c0, c9, HJ, hbel2⟩ := hrel
        clear HI hbel
        by_cases hlr : r < m
        · have hlr' : (r : Int) < (m : Int) := by omega
          have by' := HBY.out r
          have h1 := (hbel2.cell (p := ⟨g, q, none⟩) hgl).trans (HCX.out q hlt)
          have h2 := (hbel2.cell (p := ⟨k, r, none⟩) hkl).trans (HCY.out r hlr)
          obtain ⟨K, h3, k0, k9, h4, h5⟩ := HIN.out wr q r cv hlt hlr c0 HJ.out
          have H5 : Hid (∀ M s, s = K + X.getD q 0 * Y.getD r 0 + cv → TI w ((wr.drewN M).setCell ⟨w.heap.size, q + r, none⟩ (.int .u8 (s % 10))) N X Y q (r + 1) (s / 10)) := h5
          clear h5 HJ
          obtain ⟨p0, p1⟩ := lv_sum_bd (X.getD q 0) (Y.getD r 0) 0 0 bx.1 bx.2 by'.1 by'.2
          have hqr : (q : Int) + (r : Int) < (N : Int) := by omega
          have hqr0 : 0 ≤ (q : Int) + (r : Int) := by omega
          generalize X.getD q 0 = xi at *
          generalize Y.getD r 0 = yj at *
          have ht : Int.tmod (K + xi * yj + cv) 10 = (K + xi * yj + cv) % 10 := Int.tmod_eq_emod_of_nonneg (by omega)
          have hq' : Int.tdiv (K + xi * yj + cv) 10 = (K + xi * yj + cv) / 10 := Int.tdiv_eq_ediv_of_nonneg (by omega)
          have hr0 : 0 ≤ (K + xi * yj + cv) % 10 := by omega
          have hr1 : (K + xi * yj + cv) % 10 < 10 := by omega
          have hq0 : 0 ≤ (K + xi * yj + cv) / 10 := by omega
          have hq1 : (K + xi * yj + cv) / 10 ≤ 9 := by omega
          go_wp2
          go_quiet (fail)
          go_wp2
          go_roundw
          case rel => exact ⟨r + 1, (K + xi * yj + cv) / 10, by omega, rfl, by go_num, hq0, hq1, H5.out nq _ rfl, (below_drewN hbel2 nq).setCell (Nat.le_refl _) _⟩
          case measure => simp [intOf]; omega
        · have e : r = m := by omega
          subst e
          obtain ⟨K, h3, h4, h5⟩ := HOUT.out wr q cv hlt c0 c9 HJ.out
          have H5 : Hid (TI w (wr.setCell ⟨w.heap.size, q + r, none⟩ (.int .u8 cv)) N X Y (q + 1) 0 0) := h5
          have hqr : (q : Int) + (r : Int) < (N : Int) := by omega
          have hqr0 : 0 ≤ (q : Int) + (r : Int) := by omega
          clear h5 HJ
          go_wp2
          go_roundw
          case rel => exact ⟨q + 1, by omega, by go_num, H5, hbel2.setCell (Nat.le_refl _) _⟩
          case measure => simp [intOf]; omega
    · have e : q = n := by omega
      subst e
      go_wp2_with fail
      refine (HT.out _ HI.out).mono ?_
      rintro e w2 ⟨u, rfl, hu, rfl⟩
      have HU : Hid (NIsF w2 w.heap.size u (lv X * lv Y)) := hu
      clear hu
      go_wp2
      go_ret
      exact ⟨u, rfl, HU.out, hbel⟩
end Go.Proofs.YtnkoeidolmiheaaGreatDoor
namespace Go.Proofs.YtnkoeidolmiheaaGreatDoor
open Go.RowKit
set_option linter.unusedVariables false
set_option maxRecDepth 100000
theorem NFit.le {a b : Int} {k : Nat} (h : NFit b k) (hl : a ≤ b) : NFit a k := by unfold NFit at *; omega
theorem NFit.mono {a : Int} {k m : Nat} (h : NFit a k) (hl : k ≤ m) : NFit a m := by unfold NFit at *; have := pow_mono k m hl; omega
theorem NFit.ten {a b : Int} {k : Nat} (h : NFit b k) (hl : a < 10 * b) : NFit a (k + 1) := by unfold NFit at *; rw [Int.pow_succ]; omega
theorem nis_none (w : World) : NIsF (w.alloc (.cells #[] 5)) w.heap.size (.slice (some ⟨w.heap.size, 0, none⟩) 0 0) 0 :=
  ⟨⟨[], ⟨w.heap.size, 0, rfl, Nat.le_refl _, by simp, fun i hi => by cases hi⟩, ⟨(fun d hd => by cases hd), .inl rfl⟩, rfl⟩, _, _, _, rfl, Nat.le_refl _⟩
theorem NIs.nn {w : World} {v : Value} {n : Int} (h : NIs w v n) : 0 ≤ n := by
  obtain ⟨L, -, hc, rfl⟩ := h
  exact (lv_bd L hc.1).1
/-- What holds ahead of a place: p digits are still to come, R is left. -/
def NvO (w wr : World) (N : Nat) (X : List Int) (b : Int) (p : Nat) (R : Int) : Prop :=
  ∃ Q, NRow wr w.heap.size w.heap.size N Q ∧ Dec Q ∧ (∀ t, t < p → Q.getD t 0 = 0) ∧ b * lv Q + 10 ^ p * R + lv (X.take p) = lv X
/-- What holds at a place. -/
def NvN (w wr : World) (N : Nat) (X : List Int) (b : Int) (p : Nat) (S R : Int) : Prop :=
  ∃ Q, NRow wr w.heap.size w.heap.size N Q ∧ Dec Q ∧ (∀ t, t < p → Q.getD t 0 = 0) ∧ b * lv Q + 10 ^ p * R + lv (X.take p) = lv X ∧ Q.getD p 0 * b + R = S
theorem NvO.below {w wr w' : World} {N : Nat} {X : List Int} {b : Int} {p : Nat} {R : Int} (h : NvO w wr N X b p R) (hb : Below wr.heap.size wr w') : NvO w w' N X b p R := by
  obtain ⟨Q, hR, r⟩ := h
  exact ⟨Q, hR.below hb (Nat.le_refl _), r⟩
theorem NvN.below {w wr w' : World} {N : Nat} {X : List Int} {b : Int} {p : Nat} {S R : Int} (h : NvN w wr N X b p S R) (hb : Below wr.heap.size wr w') : NvN w w' N X b p S R := by
  obtain ⟨Q, hR, r⟩ := h
  exact ⟨Q, hR.below hb (Nat.le_refl _), r⟩
theorem NvO.start {w wr : World} {N : Nat} {X : List Int} {b : Int} (h : NRow wr w.heap.size w.heap.size N (List.replicate N 0)) (hX : X.length = N) : NvO w wr N X b N 0 :=
  ⟨_, h, dec_noughts N, fun t _ => replicate_at N t, by rw [lv_noughts, List.take_of_length_le (by omega)]; simp⟩
theorem NvO.into {w wr : World} {N : Nat} {X : List Int} {b : Int} {p : Nat} {R : Int} (h : NvO w wr N X b (p + 1) R) (hp : p < X.length) : NvN w wr N X b p (10 * R + X.getD p 0) (10 * R + X.getD p 0) := by
  obtain ⟨Q, hR, hD, hz, hv⟩ := h
  refine ⟨Q, hR, hD, fun t ht => hz t (by omega), ?_, by rw [hz p (by omega)]; omega⟩
  rw [lv_take1 X p hp, Int.pow_succ] at hv
  rw [← hv]
  generalize (10 : Int) ^ p = e
  grind
theorem NvN.out {w wr : World} {N : Nat} {X : List Int} {b : Int} {p : Nat} {S R : Int} (h : NvN w wr N X b p S R) : NvO w wr N X b p R := by
  obtain ⟨Q, hR, hD, hz, hv, -⟩ := h
  exact ⟨Q, hR, hD, hz, hv⟩
theorem NvN.low {b S R q : Int} (hS : S < 10 * b) (hb : 0 < b) (hge : b ≤ R) (h : q * b + R = S) : q ≤ 8 := by
  rcases Int.lt_or_le 8 q with c | c
  · exfalso
    have : 9 * b ≤ q * b := Int.mul_le_mul_of_nonneg_right (by omega) (by omega)
    omega
  · exact c
theorem NvN.step {w wr : World} {N : Nat} {X : List Int} {b : Int} {p : Nat} {S R : Int} (h : NvN w wr N X b p S R) (hp : p < N) (hS : S < 10 * b) (hb : 0 < b) (hge : b ≤ R) :
    ∃ q, wr.cell? ⟨w.heap.size, p, none⟩ = some (.int .u8 q) ∧ 0 ≤ q ∧ q ≤ 8 ∧ wr.frozen? ⟨w.heap.size, p, none⟩ = false ∧ NvN w (wr.setCell ⟨w.heap.size, p, none⟩ (.int .u8 (q + 1))) N X b p S (R - b) := by
  obtain ⟨Q, hR, hD, hz, hv, hs⟩ := h
  have hlen := hR.len
  have h8 := NvN.low hS hb hge hs
  have hd := dec_at Q hD p
  refine ⟨Q.getD p 0, hR.cell p hp, hd.1, h8, hR.frozen p, Q.set p (Q.getD p 0 + 1), hR.set p _, nd_set Q p _ hD (by omega) (by omega), fun t ht => ?_, ?_, ?_⟩
  · rw [getD_set_ne _ _ _ _ (by omega)]; exact hz t ht
  · rw [nl_set Q p _ (by omega), ← hv]
    generalize (10 : Int) ^ p = e
    grind
  · have e : (Q.set p (Q.getD p 0 + 1)).getD p 0 = Q.getD p 0 + 1 := by
      simp [List.getD, show p < Q.length by omega]
    rw [e, ← hs]
    grind
theorem NvO.fin {w wr : World} {N : Nat} {X : List Int} {b : Int} {R : Int} (h : NvO w wr N X b 0 R) (hb : 0 < b) (r0 : 0 ≤ R) (r1 : R < b) : ∃ Q, NRow wr w.heap.size w.heap.size N Q ∧ Dec Q ∧ lv Q = lv X / b ∧ R = lv X % b := by
  obtain ⟨Q, hR, hD, -, hv⟩ := h
  rw [Int.pow_zero, List.take_zero, Int.one_mul, show lv [] = 0 from rfl, Int.add_zero] at hv
  refine ⟨Q, hR, hD, ?_, ?_⟩
  · rw [← hv, Int.mul_add_ediv_left _ _ (by omega), Int.ediv_eq_zero_of_lt r0 r1]; omega
  · rw [← hv, Int.mul_add_emod_self_left, Int.emod_eq_of_lt r0 r1]
set_option maxHeartbeats 4000000 in
theorem nDivide_any (x y : Value) (a b : Int) (w : World) (hx : NIs w x a) (hy : NIs w y b) (fa : NFit a 900) (fb : NFit b 900) (hb : 0 < b) :
    Calls Tryz.prog 175 #[x, y] w fun e w' => ∃ u v, e = .returned (.tuple #[u, v]) ∧ NIsF w' w.heap.size u (a / b) ∧ NIsF w' w.heap.size v (a % b) ∧ Below w.heap.size w w' := by
  obtain ⟨X, rX, cX, rfl⟩ := hx
  have lX := ncan_len X 900 cX fa
  obtain ⟨n, hn⟩ : ∃ n, X.length = n := ⟨_, rfl⟩
  obtain ⟨w1, hrun, hown, hb1⟩ := nMake w n (by omega)
  have hz1 := hb1.size
  obtain ⟨w2, hw2⟩ : ∃ w2, w1.alloc (.cells #[] 5) = w2 := ⟨_, rfl⟩
  have hb2 : Below w.heap.size w w2 := by rw [← hw2]; exact hb1.alloc hz1 _
  have HO : Hid (NvO w w2 n X b n 0) := by
    rw [← hw2]
    exact NvO.start (hown.below1 ((Below.refl _ _).alloc (Nat.le_refl _) _)) hn
  have HN0 : Hid (NIsF w2 (w.heap.size + 1) (.slice (some ⟨w1.heap.size, 0, none⟩) 0 0) 0) := by rw [← hw2]; exact (nis_none w1).mono hown.lt.2
  have HY : Hid (∀ W, Below w.heap.size w W → NIs W y b) := fun W hW => hy.below hW (Nat.le_refl _)
  have HBX : Hid (∀ p, 0 ≤ X.getD p 0 ∧ X.getD p 0 ≤ 9) := fun p => dec_at X cX.1 p
  have HCMP : Hid (∀ W v R, Below w.heap.size w W → NIs W v R → R < 10 * b → Calls Tryz.prog 162 #[v, y] W fun e w' => e = .returned (.int .i64 (cmpI R b)) ∧ Below W.heap.size W w') := fun W v R hW hv hR => nCompare_any v y R b W hv (hy.below hW (Nat.le_refl _)) ((fb.ten hR).mono (by decide)) (fb.mono (by decide))
  have HMIN : Hid (∀ W v R, Below w.heap.size w W → NIs W v R → R < 10 * b → b ≤ R → Calls Tryz.prog 163 #[v, y] W fun e w' => ∃ u, e = .returned u ∧ NIsF w' W.heap.size u (R - b) ∧ Below W.heap.size W w') := fun W v R hW hv hR hge => nMinus_any v y R b W hv (hy.below hW (Nat.le_refl _)) ((fb.ten hR).mono (by decide)) (fb.mono (by decide)) hge
  have HFOL : Hid (∀ W v R d, NIs W v R → R < b → 0 ≤ d → d ≤ 9 → Calls Tryz.prog 159 #[v, .int .u8 d] W fun e w' => ∃ u, e = .returned u ∧ NIsF w' W.heap.size u (10 * R + d) ∧ Below W.heap.size W w') := fun W v R d hv hR d0 d9 => nFollow_any v R d W hv ((fb.le (Int.le_of_lt hR)).mono (by decide)) d0 d9
  have HINTO : Hid (∀ W p R, p < n → NvO w W n X b (p + 1) R → NvN w W n X b p (10 * R + X.getD p 0) (10 * R + X.getD p 0)) := fun W p R hp h => h.into (by omega)
  have HFIN : Hid (∀ W R, NvO w W n X b 0 R → 0 ≤ R → R < b → R = lv X % b ∧ Calls Tryz.prog 158 #[.slice (some ⟨w.heap.size, 0, none⟩) n n] W fun e w' => ∃ u, e = .returned u ∧ NIsF W w.heap.size u (lv X / b) ∧ w' = W) := fun W R h r0 r1 => by
    obtain ⟨Q, hR, hD, e1, e2⟩ := h.fin hb r0 r1
    refine ⟨e2, ?_⟩
    have := nTrim_any _ Q W w.heap.size hR.rd ⟨_, _, _, rfl, Nat.le_refl _⟩ hD (by rw [hR.len]; omega)
    rw [e1] at this
    exact this
  obtain ⟨g, cg, rfl, hcg, hgl, hcx⟩ := rX
  rw [hn] at hcg hcx lX ⊢
  have HCX : Hid (∀ i, i < n → w.cell? ⟨g, i, none⟩ = some (.int .u8 (X.getD i 0))) := hcx
  clear cX fa fb hown hcx hn hy
  subst hw2
  go_enter Tryz.func175, Tryz.ntmps175
  go_wp2
  go_loopw [7, 16] (fun v i wr => ∃ (q : Nat) (R : Int), q ≤ n ∧ i = .int .i64 (q : Int) ∧ 0 ≤ R ∧ R < b ∧ Hid (NvO w wr n X b (n - q) R) ∧ Hid (NIsF wr (w.heap.size + 1) v R) ∧ Below w.heap.size w wr) (fun _ i _ => n - (intOf i).toNat)
  case atStart => exact ⟨0, 0, Nat.zero_le _, rfl, Int.le_refl _, hb, HO, HN0, hb2⟩
  case round =>
    obtain ⟨q, R, hq, rfl, r0, r1, HD, HV, hbel⟩ := hrel
    clear hrun HO hb1 hb2 HN0 hz1
    by_cases hlt : q < n
    · have hlt' : (q : Int) < (n : Int) := by omega
      obtain ⟨p, hp⟩ : ∃ p, n - 1 - q = p := ⟨_, rfl⟩
      have ep : (n : Int) - 1 - (q : Int) = (p : Int) := by omega
      have hpn : p < n := by omega
      have hpn' : (p : Int) < (n : Int) := by omega
      have h1 := (hbel.cell (p := ⟨g, p, none⟩) hgl).trans (HCX.out p hpn)
      have bx := HBX.out p
      have HD1 : Hid (NvN w wr n X b p (10 * R + X.getD p 0) (10 * R + X.getD p 0)) := HINTO.out wr p R hpn (by have := HD.out; rwa [show n - q = p + 1 by omega] at this)
      have EP : Hid (n - (q + 1) = p) := by show _ = _; omega
      have HZ : Hid (w.heap.size + 1 ≤ wr.heap.size) := by obtain ⟨Q, hQ, -⟩ := HD1.out; exact hQ.lt.2
      clear HD hp
      generalize X.getD p 0 = d at *
      go_wp2_with fail
      refine (HFOL.out _ _ R d HV.out.1 r1 bx.1 bx.2).mono ?_
      rintro e w3 ⟨u, rfl, hu, hb3⟩
      have HU : Hid (NIsF w3 (w.heap.size + 1) u (10 * R + d)) := hu.mono HZ.out
      have HD2 : Hid (NvN w w3 n X b p (10 * R + d) (10 * R + d)) := HD1.out.below hb3
      have hbel3 : Below w.heap.size w w3 := hbel.trans (hb3.mono hbel.size)
      obtain ⟨S, hS⟩ : ∃ S, 10 * R + d = S := ⟨_, rfl⟩
      rw [hS] at HU HD2
      have hS0 : 0 ≤ S := by omega
      have hS1 : S < 10 * b := by omega
      clear hu hb3 HD1 HV hbel hS h1
      go_wp2
      go_loopg [7] S.toNat (fun gk v wx => ∃ T : Int, 0 ≤ T ∧ T ≤ S ∧ gk = T.toNat ∧ Hid (NvN w wx n X b p S T) ∧ Hid (NIsF wx (w.heap.size + 1) v T) ∧ Below w.heap.size w wx)
      case atStart => exact ⟨S, hS0, Int.le_refl _, rfl, HD2, HU, hbel3⟩
      case round =>
        clear HU HD2 hbel3
        obtain ⟨T, t0, t1, hgk, HD, HV, hbel⟩ := hrel
        have HG : Hid (gk = T.toNat) := hgk
        clear hgk
        by_cases hge : b ≤ T
        · have HC1 : Hid (0 ≤ cmpI T b ∧ cmpI T b ≤ 1) := by
            show _ ∧ _
            unfold cmpI; rw [if_neg (by omega)]; split <;> omega
          go_wp2_with fail
          refine (HCMP.out _ _ T hbel HV.out.1 (by omega)).mono ?_
          rintro e w4 ⟨rfl, hb4⟩
          have hc0 := HC1.out.1
          have hc1 := HC1.out.2
          generalize cmpI T b = C at *
          have HV4 : Hid (NIsF w4 (w.heap.size + 1) _ T) := HV.out.below hb4 (Nat.le_refl _)
          have HD4 : Hid (NvN w w4 n X b p S T) := HD.out.below hb4
          have hbel4 : Below w.heap.size w w4 := hbel.trans (hb4.mono hbel.size)
          have HZ4 : Hid (w.heap.size + 1 ≤ w4.heap.size) := by obtain ⟨Q, hQ, -⟩ := HD4.out; exact hQ.lt.2
          clear hb4 HV HD hbel HC1
          go_wp2_with fail
          refine (HMIN.out _ _ T hbel4 HV4.out.1 (by omega) hge).mono ?_
          rintro e w5 ⟨u, rfl, hu, hb5⟩
          have HV5 : Hid (NIsF w5 (w.heap.size + 1) u (T - b)) := hu.mono HZ4.out
          have hbel5 : Below w.heap.size w w5 := hbel4.trans (hb5.mono hbel4.size)
          obtain ⟨t, h3, q0, q8, h4, h5⟩ := (HD4.out.below hb5).step hpn hS1 hb hge
          have HD5 : Hid (NvN w (w5.setCell ⟨w.heap.size, p, none⟩ (.int .u8 (t + 1))) n X b p S (T - b)) := h5
          have HV6 : Hid (NIsF (w5.setCell ⟨w.heap.size, p, none⟩ (.int .u8 (t + 1))) (w.heap.size + 1) u (T - b)) := HV5.out.set _ _ _ (Nat.lt_succ_self _)
          clear h5 hu hb5 HV4 HD4 hbel4 HV5
          go_wp2
          go_roundg (T - b).toNat
          case measure => have := HG.out; omega
          case rel => exact ⟨T - b, by omega, by omega, rfl, HD5, HV6, hbel5.setCell (Nat.le_refl _) _⟩
        · have HC1 : Hid (cmpI T b = -1) := cmpI_lt _ _ (by omega)
          have HDO : Hid (NvO w _ n X b p T) := HD.out.out
          go_wp2_with fail
          refine (HCMP.out _ _ T hbel HV.out.1 (by omega)).mono ?_
          rintro e w4 ⟨rfl, hb4⟩
          rw [HC1.out]
          have HV4 : Hid (NIsF w4 (w.heap.size + 1) _ T) := HV.out.below hb4 (Nat.le_refl _)
          have HD4 : Hid (NvO w w4 n X b p T) := HDO.out.below hb4
          have hbel4 : Below w.heap.size w w4 := hbel.trans (hb4.mono hbel.size)
          clear hb4 HV HD hbel HC1 HDO
          go_wp2
          go_roundw
          case rel => exact ⟨q + 1, T, by omega, by go_num, t0, by omega, by rw [EP.out]; exact HD4, HV4, hbel4⟩
          case measure => simp [intOf]; omega
    · have e : q = n := by omega
      subst e
      obtain ⟨e2, hT⟩ := HFIN.out wr R (by have := HD.out; rwa [Nat.sub_self] at this) r0 r1
      have E2 : Hid (R = lv X % b) := e2
      have HT : Hid (Calls Tryz.prog 158 #[.slice (some ⟨w.heap.size, 0, none⟩) q q] wr fun e w' => ∃ u, e = .returned u ∧ NIsF wr w.heap.size u (lv X / b) ∧ w' = wr) := hT
      clear e2 hT HFIN
      go_wp2_with fail
      refine HT.out.mono ?_
      rintro e w2 ⟨u, rfl, hu, rfl⟩
      have HU : Hid (NIsF w2 w.heap.size u (lv X / b)) := hu
      clear hu
      go_wp2
      go_ret2
      exact ⟨u, _, rfl, HU.out, by rw [← E2.out]; exact HV.out.mono (Nat.le_succ _), hbel⟩
end Go.Proofs.YtnkoeidolmiheaaGreatDoor
namespace Go.Proofs.YtnkoeidolmiheaaGreatDoor
open Go.RowKit
set_option linter.unusedVariables false
set_option maxRecDepth 100000
theorem lv_takeN (L : List Int) (p : Nat) : lv (L.take (p + 1)) = lv (L.take p) + 10 ^ p * L.getD p 0 := by
  rcases Nat.lt_or_ge p L.length with c | c
  · exact lv_take1 L p c
  · rw [List.take_of_length_le (by omega), List.take_of_length_le c]
    simp [List.getD, List.getElem?_eq_none c]
theorem NFit.big {R z : Int} {k : Nat} (h : NFit R k) (hz : z ≤ 1000 * (R + 1)) : NFit z (k + 4) := by
  unfold NFit at *
  have p0 : (0 : Int) < 10 ^ k := Int.pow_pos (by decide)
  rw [show (10 : Int) ^ (k + 4) = 10 ^ k * 10000 by rw [Int.pow_add]; rfl]
  omega
/-- What holds where t pairs are still to come. -/
def RI (X : List Int) (t : Nat) (S R : Int) : Prop := 0 ≤ S ∧ 0 ≤ R ∧ R ≤ 2 * S ∧ 10 ^ (2 * t) * (S * S + R) + lv (X.take (2 * t)) = lv X
theorem RI.start (X : List Int) (t : Nat) (h : X.length ≤ 2 * t) : RI X t 0 0 := ⟨by decide, by decide, by decide, by rw [List.take_of_length_le h]; simp⟩
theorem RI.small {X : List Int} {t : Nat} {S R : Int} (h : RI X t S R) (hX : Dec X) (k : Nat) (hf : NFit (lv X) k) : NFit S k ∧ NFit R k := by
  obtain ⟨h0, h1, h2, h3⟩ := h
  have p0 : (0 : Int) < 10 ^ (2 * t) := Int.pow_pos (by decide)
  have t0 := (lv_bd (X.take (2 * t)) (dec_take X _ hX)).1
  have q0 : 0 ≤ S * S := Int.mul_nonneg h0 h0
  have m : 1 * (S * S + R) ≤ 10 ^ (2 * t) * (S * S + R) := Int.mul_le_mul_of_nonneg_right (by omega) (by omega)
  have s : S ≤ S * S := by
    rcases Int.lt_or_le 0 S with c | c
    · have : S * 1 ≤ S * S := Int.mul_le_mul_of_nonneg_left (by omega) h0
      omega
    · omega
  unfold NFit at *
  exact ⟨by omega, by omega⟩
theorem RI.next {X : List Int} {t : Nat} {S R T d : Int} (h : RI X (t + 1) S R) (t0 : 0 ≤ T) (d0 : 0 ≤ d) (hT : T + (20 * S + d) * d = 100 * R + 10 * X.getD (2 * t + 1) 0 + X.getD (2 * t) 0) (hlt : T < 20 * S + 2 * d + 1) : RI X t (10 * S + d) T := by
  obtain ⟨h0, h1, h2, h3⟩ := h
  refine ⟨by omega, t0, by omega, ?_⟩
  rw [show 2 * (t + 1) = 2 * t + 1 + 1 by omega, lv_takeN, lv_takeN, Int.pow_succ, Int.pow_succ] at h3
  rw [← h3]
  generalize (10 : Int) ^ (2 * t) = e at *
  generalize X.getD (2 * t + 1) 0 = x1 at *
  generalize X.getD (2 * t) 0 = x0 at *
  grind
theorem RI.digit {S R T d x1 x0 : Int} (r2 : R ≤ 2 * S) (s0 : 0 ≤ S) (a : x1 ≤ 9) (b : x0 ≤ 9) (d0 : 0 ≤ d) (d9 : d ≤ 9) (hT : T + (20 * S + d) * d = 100 * R + 10 * x1 + x0) (hge : 20 * S + 2 * d + 1 ≤ T) : d ≤ 8 := by
  rcases Int.lt_or_le 8 d with c | c
  · exfalso
    have e : d = 9 := by omega
    subst e
    omega
  · exact c
theorem nis_one (w : World) (d : Int) (h : 1 ≤ d) (h9 : d ≤ 9) : NIs (w.alloc (.cells #[.int .u8 d] 5)) (.slice (some ⟨w.heap.size, 0, none⟩) 1 1) d := by
  refine ⟨[d], ⟨w.heap.size, 1, rfl, Nat.le_refl _, by simp, fun i hi => ?_⟩, ⟨(fun x hx => by simp at hx; omega), .inr (by simp; omega)⟩, by simp [lv]⟩
  have e : i = 0 := by simp at hi; exact hi
  subst e
  simp
set_option maxHeartbeats 4000000 in
theorem nRoot_any (x : Value) (a : Int) (w : World) (hx : NIs w x a) (fa : NFit a 500) :
    Calls Tryz.prog 116 #[x] w fun e w' => ∃ u v, e = .returned (.tuple #[u, v]) ∧ (∃ S R : Int, NIs w' u S ∧ NIs w' v R ∧ S * S + R = a ∧ 0 ≤ S ∧ 0 ≤ R ∧ R ≤ 2 * S) ∧ Below w.heap.size w w' := by
  obtain ⟨X, rX, cX, rfl⟩ := hx
  have lX := ncan_len X 500 cX fa
  obtain ⟨n, hn⟩ : ∃ n, X.length = n := ⟨_, rfl⟩
  obtain ⟨P, hP⟩ : ∃ P, (n + 1) / 2 = P := ⟨_, rfl⟩
  obtain ⟨w2, hw2⟩ : ∃ w2, (w.alloc (.cells #[] 5)).alloc (.cells #[] 5) = w2 := ⟨_, rfl⟩
  have hb2 : Below w.heap.size w w2 := by rw [← hw2]; exact ((Below.refl w.heap.size w).alloc (Nat.le_refl _) _).alloc (by simp) _
  have HN1 : Hid (NIs w2 (.slice (some ⟨w.heap.size, 0, none⟩) 0 0) 0) := by
    rw [← hw2]; exact (nis_none w).1.below ((Below.refl _ _).alloc (Nat.le_refl _) _) (Nat.le_refl _)
  have HN2 : Hid (NIs w2 (.slice (some ⟨w.heap.size + 1, 0, none⟩) 0 0) 0) := by
    rw [← hw2]
    have := (nis_none (w.alloc (.cells #[] 5))).1
    show NIs _ _ _
    simpa using this
  have HO : Hid (RI X P 0 0) := RI.start X P (by omega)
  have HSM : Hid (∀ t S R, RI X t S R → NFit S 500 ∧ NFit R 500) := fun t S R h => h.small cX.1 500 fa
  have HBX : Hid (∀ p, 0 ≤ X.getD p 0 ∧ X.getD p 0 ≤ 9) := fun p => dec_at X cX.1 p
  have HAT : Hid (∀ W (p : Nat), Below w.heap.size w W → p ≤ 1000 → Calls Tryz.prog 160 #[x, .int .i64 (p : Int)] W fun e w' => e = .returned (.int .u8 (X.getD p 0)) ∧ w' = W) := fun W p hW hp => nAt_any x X p W (rX.below hW (Nat.le_refl _)) (by omega) (by omega)
  have HFIN : Hid (∀ S R, RI X 0 S R → S * S + R = lv X ∧ 0 ≤ S ∧ 0 ≤ R ∧ R ≤ 2 * S) := fun S R ⟨h0, h1, h2, h3⟩ => ⟨by simpa [lv] using h3, h0, h1, h2⟩
  obtain ⟨g, cg, rfl, hcg, hgl, hcx⟩ := rX
  rw [hn] at hcg lX HAT ⊢
  have hdv : Int.tdiv ((n : Int) + 1) 2 = (P : Int) := by rw [Int.tdiv_eq_ediv_of_nonneg (by omega)]; omega
  have hP2 : P ≤ 251 := by omega
  clear cX fa hcx hn hP hgl
  subst hw2
  go_enter Tryz.func116, Tryz.ntmps116
  go_wp2
  go_loopw [4, 5, 18] (fun u v i wr => ∃ (q : Nat) (S R : Int), q ≤ P ∧ i = .int .i64 (q : Int) ∧ Hid (RI X (P - q) S R) ∧ Hid (NIs wr u S) ∧ Hid (NIs wr v R) ∧ Below w.heap.size w wr) (fun _ _ i _ => P - (intOf i).toNat)
  case atStart => exact ⟨0, 0, 0, Nat.zero_le _, rfl, HO, HN1, HN2, hb2⟩
  case round =>
    obtain ⟨q, S, R, hq, rfl, HR, HU, HV, hbel⟩ := hrel
    clear HO hb2 HN1 HN2 hdv
    by_cases hlt : q < P
    · have hlt' : (q : Int) < (P : Int) := by omega
      obtain ⟨t, ht⟩ : ∃ t, P - 1 - q = t := ⟨_, rfl⟩
      have ep : (P : Int) - 1 - (q : Int) = (t : Int) := by omega
      have htP : t ≤ 250 := by omega
      have HR1 : Hid (RI X (t + 1) S R) := by
        have := HR.out; rwa [show P - q = t + 1 by omega] at this
      have EP : Hid (P - (q + 1) = t) := by show _ = _; omega
      obtain ⟨fS, fR⟩ := HSM.out _ S R HR1.out
      obtain ⟨s0, r0, r2, -⟩ := HR1.out
      have b1 := HBX.out (2 * t + 1)
      have b0 := HBX.out (2 * t)
      have FS : Hid (NFit S 500) := fS
      have FR : Hid (NFit R 500) := fR
      have HA1 : Hid (∀ W, Below w.heap.size w W → Calls Tryz.prog 160 #[.slice (some ⟨g, 0, none⟩) n cg, .int .i64 (2 * (t : Int) + 1)] W fun e w' => e = .returned (.int .u8 (X.getD (2 * t + 1) 0)) ∧ w' = W) := fun W hW => by
        have := HAT.out W (2 * t + 1) hW (by omega)
        rw [show ((2 * t + 1 : Nat) : Int) = 2 * (t : Int) + 1 by omega] at this
        exact this
      have HA0 : Hid (∀ W, Below w.heap.size w W → Calls Tryz.prog 160 #[.slice (some ⟨g, 0, none⟩) n cg, .int .i64 (2 * (t : Int))] W fun e w' => e = .returned (.int .u8 (X.getD (2 * t) 0)) ∧ w' = W) := fun W hW => by
        have := HAT.out W (2 * t) hW (by omega)
        rw [show ((2 * t : Nat) : Int) = 2 * (t : Int) by omega] at this
        exact this
      have HNX : Hid (∀ T d, 0 ≤ T → 0 ≤ d → T + (20 * S + d) * d = 100 * R + 10 * X.getD (2 * t + 1) 0 + X.getD (2 * t) 0 → T < 20 * S + 2 * d + 1 → RI X t (10 * S + d) T) := fun T d t0 d0 h1 h2 => HR1.out.next t0 d0 h1 h2
      clear fS fR HR HR1 ht
      generalize X.getD (2 * t + 1) 0 = x1 at *
      generalize X.getD (2 * t) 0 = x0 at *
      go_wp2_with fail
      refine (HA1.out _ hbel).mono ?_
      rintro e w3 ⟨rfl, rfl⟩
      go_wp2_with fail
      refine (nFollow_any _ R x1 _ HV.out (FR.out.mono (by decide)) b1.1 b1.2).mono ?_
      rintro e w4 ⟨v4, rfl, hv4, hb4⟩
      have HV4 : Hid (NIs w4 v4 (10 * R + x1)) := hv4.1
      have HU4 : Hid (NIs w4 _ S) := HU.out.below hb4 (Nat.le_refl _)
      have hbel4 : Below w.heap.size w w4 := hbel.trans (hb4.mono hbel.size)
      clear hv4 hb4 HV HU hbel
      go_wp2_with fail
      refine (HA0.out _ hbel4).mono ?_
      rintro e w5 ⟨rfl, rfl⟩
      go_wp2_with fail
      refine (nFollow_any _ (10 * R + x1) x0 _ HV4.out ((FR.out.big (by omega)).mono (by decide)) b0.1 b0.2).mono ?_
      rintro e w6 ⟨v6, rfl, hv6, hb6⟩
      have HV6 : Hid (NIs w6 v6 (10 * (10 * R + x1) + x0)) := hv6.1
      have HU6 : Hid (NIs w6 _ S) := HU4.out.below hb6 (Nat.le_refl _)
      have hbel6 : Below w.heap.size w w6 := hbel4.trans (hb6.mono hbel4.size)
      clear hv6 hb6 HV4 HU4 hbel4
      obtain ⟨R0, hR0⟩ : ∃ R0, 10 * (10 * R + x1) + x0 = R0 := ⟨_, rfl⟩
      rw [hR0] at HV6
      have HE0 : Hid (R0 = 100 * R + 10 * x1 + x0) := by show _ = _; omega
      have F0 : Hid (NFit R0 900 ∧ NFit (20 * S + 100) 900) := by
        exact ⟨(FR.out.big (by omega)).mono (by decide), (FS.out.big (by omega)).mono (by decide)⟩
      have h00 : 0 ≤ R0 := by omega
      clear hR0
      go_wp2_with fail
      refine (nPlus_any _ _ S S _ HU6.out HU6.out (FS.out.mono (by decide)) (FS.out.mono (by decide))).mono ?_
      rintro e w7 ⟨z7, rfl, hu7, hb7⟩
      have HP7 : Hid (NIs w7 z7 (S + S)) := hu7.1
      have HV7 : Hid (NIs w7 _ R0) := HV6.out.below hb7 (Nat.le_refl _)
      have HU7 : Hid (NIs w7 _ S) := HU6.out.below hb7 (Nat.le_refl _)
      have hbel7 : Below w.heap.size w w7 := hbel6.trans (hb7.mono hbel6.size)
      clear hu7 hb7 HV6 HU6 hbel6
      go_wp2_with fail
      refine (nFollow_any _ (S + S) 1 _ HP7.out ((F0.out.2.le (by omega)).mono (by decide)) (by decide) (by decide)).mono ?_
      rintro e w8 ⟨z8, rfl, hu8, hb8⟩
      have HP8 : Hid (NIs w8 z8 (20 * S + 2 * 0 + 1)) := by
        have := hu8.1; rwa [show 10 * (S + S) + 1 = 20 * S + 2 * 0 + 1 by omega] at this
      have HV8 : Hid (NIs w8 _ R0) := HV7.out.below hb8 (Nat.le_refl _)
      have HU8 : Hid (NIs w8 _ S) := HU7.out.below hb8 (Nat.le_refl _)
      have hbel8 : Below w.heap.size w w8 := hbel7.trans (hb8.mono hbel7.size)
      clear hu8 hb8 HV7 HU7 hbel7 HP7
      go_wp2
      go_loopg [5, 9, 10] R0.toNat (fun gk v o c wx => ∃ (T d : Int), 0 ≤ T ∧ T ≤ R0 ∧ 0 ≤ d ∧ d ≤ 9 ∧ gk = T.toNat ∧ c = .int .u8 d ∧ Hid (T + (20 * S + d) * d = R0) ∧ Hid (NIs wx v T) ∧ Hid (NIs wx o (20 * S + 2 * d + 1)) ∧ Hid (NIs wx u4 S) ∧ Below w.heap.size w wx)
      case atStart => exact ⟨R0, 0, h00, Int.le_refl _, by decide, by decide, rfl, rfl, by show _ = _; omega, HV8, HP8, HU8, hbel8⟩
      case round =>
        clear HV8 HP8 HU8 hbel8
        obtain ⟨T, d, t0, t1, d0, d9, hgk, rfl, HT, HV, HP, HU, hbel⟩ := hrel
        have HG : Hid (gk = T.toNat) := hgk
        clear hgk
        by_cases hge : 20 * S + 2 * d + 1 ≤ T
        · have HC1 : Hid (0 ≤ cmpI T (20 * S + 2 * d + 1) ∧ cmpI T (20 * S + 2 * d + 1) ≤ 1) := by
            show _ ∧ _
            unfold cmpI; rw [if_neg (by omega)]; split <;> omega
          have h8 : d ≤ 8 := RI.digit r2 s0 b1.2 b0.2 d0 d9 (by rw [HT.out]; exact HE0.out) hge
          have HTN : Hid (T - (20 * S + 2 * d + 1) + (20 * S + (d + 1)) * (d + 1) = R0) := by
            show _ = _
            rw [← HT.out]; grind
          go_wp2_with fail
          refine (nCompare_any _ _ T (20 * S + 2 * d + 1) _ HV.out HP.out ((F0.out.1.le t1).mono (by decide)) ((F0.out.2.le (by omega)).mono (by decide))).mono ?_
          rintro e w9 ⟨rfl, hb9⟩
          have hc0 := HC1.out.1
          have hc1 := HC1.out.2
          generalize cmpI T (20 * S + 2 * d + 1) = C at *
          have HV9 : Hid (NIs w9 _ T) := HV.out.below hb9 (Nat.le_refl _)
          have HP9 : Hid (NIs w9 _ (20 * S + 2 * d + 1)) := HP.out.below hb9 (Nat.le_refl _)
          have HU9 : Hid (NIs w9 _ S) := HU.out.below hb9 (Nat.le_refl _)
          have hbel9 : Below w.heap.size w w9 := hbel.trans (hb9.mono hbel.size)
          clear hb9 HV HP HU hbel HC1 HT
          go_wp2_with fail
          refine (nMinus_any _ _ T (20 * S + 2 * d + 1) _ HV9.out HP9.out ((F0.out.1.le t1).mono (by decide)) ((F0.out.2.le (by omega)).mono (by decide)) hge).mono ?_
          rintro e wa ⟨ua, rfl, hua, hba⟩
          have HVa : Hid (NIs wa ua (T - (20 * S + 2 * d + 1))) := hua.1
          have HPa : Hid (NIs wa _ (20 * S + 2 * d + 1)) := HP9.out.below hba (Nat.le_refl _)
          have HUa : Hid (NIs wa _ S) := HU9.out.below hba (Nat.le_refl _)
          have hbela : Below w.heap.size w wa := hbel9.trans (hba.mono hbel9.size)
          have HL2 : Hid (NIs (wa.alloc (.cells #[.int .u8 2] 5)) (.slice (some ⟨wa.heap.size, 0, none⟩) 1 1) 2) := nis_one wa 2 (by decide) (by decide)
          clear hua hba HV9 HP9 HU9 hbel9
          have hal : Below wa.heap.size wa (wa.alloc (.cells #[.int .u8 2] 5)) := (Below.refl _ _).alloc (Nat.le_refl _) _
          have HVb : Hid (NIs (wa.alloc (.cells #[.int .u8 2] 5)) ua (T - (20 * S + 2 * d + 1))) := HVa.out.below hal (Nat.le_refl _)
          have HPb : Hid (NIs (wa.alloc (.cells #[.int .u8 2] 5)) _ (20 * S + 2 * d + 1)) := HPa.out.below hal (Nat.le_refl _)
          have HUb : Hid (NIs (wa.alloc (.cells #[.int .u8 2] 5)) _ S) := HUa.out.below hal (Nat.le_refl _)
          have hbelb : Below w.heap.size w (wa.alloc (.cells #[.int .u8 2] 5)) := hbela.alloc hbela.size _
          clear hal HVa HPa HUa hbela
          go_wp2_with fail
          refine (nPlus_any _ _ (20 * S + 2 * d + 1) 2 _ HPb.out HL2.out ((F0.out.2.le (by omega)).mono (by decide)) ((F0.out.2.le (by omega)).mono (by decide))).mono ?_
          rintro e wc ⟨uc, rfl, huc, hbc⟩
          have HPc : Hid (NIs wc uc (20 * S + 2 * (d + 1) + 1)) := by
            have := huc.1; rwa [show 20 * S + 2 * d + 1 + 2 = 20 * S + 2 * (d + 1) + 1 by omega] at this
          have HVc : Hid (NIs wc ua (T - (20 * S + 2 * d + 1))) := HVb.out.below hbc (Nat.le_refl _)
          have HUc : Hid (NIs wc _ S) := HUb.out.below hbc (Nat.le_refl _)
          have hbelc : Below w.heap.size w wc := hbelb.trans (hbc.mono hbelb.size)
          clear huc hbc HVb HPb HUb hbelb HL2
          go_wp2
          go_roundg (T - (20 * S + 2 * d + 1)).toNat
          case measure => have := HG.out; omega
          case rel => exact ⟨T - (20 * S + 2 * d + 1), d + 1, by omega, by omega, by omega, by omega, rfl, rfl, HTN, HVc, HPc, HUc, hbelc⟩
        · have HC1 : Hid (cmpI T (20 * S + 2 * d + 1) = -1) := cmpI_lt _ _ (by omega)
          have HRN : Hid (RI X t (10 * S + d) T) := HNX.out T d t0 d0 (by rw [HT.out]; exact HE0.out) (by omega)
          go_wp2_with fail
          refine (nCompare_any _ _ T (20 * S + 2 * d + 1) _ HV.out HP.out ((F0.out.1.le t1).mono (by decide)) ((F0.out.2.le (by omega)).mono (by decide))).mono ?_
          rintro e w9 ⟨rfl, hb9⟩
          rw [HC1.out]
          have HV9 : Hid (NIs w9 _ T) := HV.out.below hb9 (Nat.le_refl _)
          have HU9 : Hid (NIs w9 _ S) := HU.out.below hb9 (Nat.le_refl _)
          have hbel9 : Below w.heap.size w w9 := hbel.trans (hb9.mono hbel.size)
          clear hb9 HV HP HU hbel HC1 HT
          go_wp2_with fail
          refine (nFollow_any _ S d _ HU9.out (FS.out.mono (by decide)) d0 d9).mono ?_
          rintro e wa ⟨ua, rfl, hua, hba⟩
          have HUa : Hid (NIs wa ua (10 * S + d)) := hua.1
          have HVa : Hid (NIs wa _ T) := HV9.out.below hba (Nat.le_refl _)
          have hbela : Below w.heap.size w wa := hbel9.trans (hba.mono hbel9.size)
          clear hua hba HV9 HU9 hbel9
          go_wp2
          go_roundw
          case rel => exact ⟨q + 1, 10 * S + d, T, by omega, by go_num, by rw [EP.out]; exact HRN, HUa, HVa, hbela⟩
          case measure => simp [intOf]; omega
    · have e : q = P := by omega
      subst e
      have HF : Hid (S * S + R = lv X ∧ 0 ≤ S ∧ 0 ≤ R ∧ R ≤ 2 * S) := HFIN.out S R (by have := HR.out; rwa [Nat.sub_self] at this)
      go_wp2
      go_ret2
      exact ⟨_, _, rfl, ⟨S, R, HU.out, HV.out, HF.out⟩, hbel⟩
end Go.Proofs.YtnkoeidolmiheaaGreatDoor
namespace Go.Proofs.YtnkoeidolmiheaaGreatDoor
open Go.RowKit
set_option linter.unusedVariables false
set_option maxRecDepth 100000
set_option maxHeartbeats 4000000 in
theorem iNat_any (s : ByteArray) (n : Int) (w : World) (hs : s.size ≤ 4611686018427387904) :
    Calls Tryz.prog 148 #[.string s, .int .i64 n] w fun e w' => e = .returned (.bool (natB n s)) ∧ w' = w := by
  by_cases hA : s.size < 1
  · have E : Hid (natB n s = false) := natB_empty n s hA
    have h1 : (s.size : Int) = 0 := by omega
    clear hA
    go_enter Tryz.func148, Tryz.ntmps148
    go_wp2
    go_ret
    exact ⟨Ln.ret_bool E.out.symm, rfl⟩
  have h1 : ((s.size : Int) == 0) = false := beq_eq_false_iff_ne.2 (by omega)
  have h0 : 0 < s.size := by omega
  by_cases hB : n < (s.size : Int)
  · have E : Hid (natB n s = false) := natB_long n s hB
    go_enter Tryz.func148, Tryz.ntmps148
    go_wp2
    go_ret
    exact ⟨Ln.ret_bool E.out.symm, rfl⟩
  have h2' : decide (n < (s.size : Int)) = false := by simpa using hB
  have HG : Hid ((∀ k (hk : k < s.size), 48 ≤ (s[k]'hk).toNat ∧ (s[k]'hk).toNat ≤ 57) → (s.size ≤ 1 ∨ (s[0]'h0).toNat ≠ 48) → natB n s = true) := fun h hc => natB_good n s h0 (by omega) hc h
  have HZ : Hid (1 < s.size → (s[0]'h0).toNat = 48 → natB n s = false) := fun h hz => natB_zero n s h hz
  have HB : Hid (∀ k (hk : k < s.size), ((s[k]'hk).toNat < 48 ∨ 57 < (s[k]'hk).toNat) → natB n s = false) := fun k hk h => natB_bad n s k hk h
  clear hA hB
  generalize natB n s = r at *
  go_enter Tryz.func148, Tryz.ntmps148
  go_wp2
  go_loop [17] (fun i => ∃ k : Nat, k ≤ s.size ∧ i = .int .i64 k ∧ Hid (∀ q (hq : q < s.size), q < k → 48 ≤ (s[q]'hq).toNat ∧ (s[q]'hq).toNat ≤ 57)) (fun i => s.size - (intOf i).toNat)
  case atStart => exact ⟨0, Nat.zero_le _, rfl, fun q hq h => absurd h (Nat.not_lt_zero q)⟩
  case round =>
    obtain ⟨k, hk, rfl, hz⟩ := hrel
    by_cases hlt : k < s.size
    · have hlt' : (k : Int) < (s.size : Int) := by omega
      by_cases hlo : (s[k]'hlt).toNat < 48
      · have hl' : ((s[k]'hlt).toNat : Int) < 48 := by omega
        go_wp2
        go_ret
        exact ⟨Ln.ret_bool (HB.out k hlt (.inl hlo)).symm, rfl⟩
      · have hl' : ¬ ((s[k]'hlt).toNat : Int) < 48 := by omega
        have hl'' : decide (((s[k]'hlt).toNat : Int) < 48) = false := decide_eq_false hl'
        by_cases hhi : 57 < (s[k]'hlt).toNat
        · have hh' : (57 : Int) < ((s[k]'hlt).toNat : Int) := by omega
          go_wp2
          go_ret
          exact ⟨Ln.ret_bool (HB.out k hlt (.inr hhi)).symm, rfl⟩
        · have hh' : ¬ (57 : Int) < ((s[k]'hlt).toNat : Int) := by omega
          go_wp2
          go_round
          case rel => exact ⟨k + 1, by omega, by go_num, fun q hq h => by rcases Nat.lt_or_ge q k with c | c; exact hz.out q hq c; obtain rfl : q = k := (by omega); omega⟩
          case measure => simp [intOf]; omega
    · have hkk : ¬ (k : Int) < (s.size : Int) := by omega
      have HA : Hid (∀ q (hq : q < s.size), 48 ≤ (s[q]'hq).toNat ∧ (s[q]'hq).toNat ≤ 57) := fun q hq => hz.out q hq (by omega)
      clear hz
      by_cases h3 : s.size ≤ 1
      · have h3' : (s.size : Int) = 1 := by omega
        have E : Hid (r = true) := HG.out HA.out (.inl h3)
        clear h3
        go_wp2
        go_ret
        exact ⟨Ln.ret_bool E.out.symm, rfl⟩
      · have h3' : ((s.size : Int) == 1) = false := beq_eq_false_iff_ne.2 (by omega)
        by_cases h4 : (s[0]'h0).toNat = 48
        · have h4' : ((s[0]'h0).toNat : Int) = 48 := by omega
          have E : Hid (r = false) := HZ.out (by omega) h4
          clear h4
          go_wp2
          go_ret
          exact ⟨Ln.ret_bool E.out.symm, rfl⟩
        · have h4' : (((s[0]'h0).toNat : Int) == 48) = false := beq_eq_false_iff_ne.2 (by omega)
          have E : Hid (r = true) := HG.out HA.out (.inr h4)
          have h4'' : Hid ((((s[0]'h0).toNat : Int) != 48) = true) := by show _ = _; rw [bne, h4']; rfl
          go_wp2
          go_ret
          exact ⟨Ln.ret_bool (by rw [h4''.out, E.out]), rfl⟩
theorem iNatOk_any (s : ByteArray) (w : World) (hs : s.size ≤ 4611686018427387904) :
    Calls Tryz.prog 114 #[.string s] w fun e w' => e = .returned (.bool (natB 200 s)) ∧ w' = w := by
  go_enter Tryz.func114, Tryz.ntmps114
  go_wp2_with fail
  refine (iNat_any s 200 _ hs).mono ?_
  rintro e w' ⟨rfl, rfl⟩
  go_wp2
  go_ret
  exact ⟨rfl, rfl⟩
theorem nv_fit (s : ByteArray) (h : natB 200 s = true) : NFit (nv s) 200 := (nv_bd 200 s h).2
theorem nt_len (n : Int) (k : Nat) (h0 : 0 ≤ n) (hf : NFit n k) (hk : 1 ≤ k) (hk5 : k ≤ 500) : (nt n).length ≤ k := by
  have hf5 : NFit n 500 := by unfold NFit at *; have := pow_mono k 500 hk5; omega
  obtain ⟨hc, hv⟩ := nt_spec n h0 hf5
  rcases Nat.lt_or_ge k (nt n).length with c | c
  · exfalso
    have l := canon_low (nt n) hc (by omega)
    have m := pow_mono k ((nt n).length - 1) (by omega)
    unfold NFit at hf
    omega
  · exact c
theorem fit_nt (n : Int) (h0 : 0 ≤ n) (hf : NFit n 200) : fitS (nt n) = tx (nt n) := by
  unfold fitS; rw [if_pos (nt_len n 200 h0 hf (by decide) (by decide))]
theorem nOf_text (s : ByteArray) (w : World) (h : natB 200 s = true) :
    Calls Tryz.prog 115 #[.string s] w fun e w' => ∃ u, e = .returned u ∧ NIsF w' w.heap.size u (nv s) ∧ Below w.heap.size w w' := by
  obtain ⟨hc, hl, e⟩ := natB_dl 200 s h
  have := nOf_any (dl s) w hc.1 (by omega)
  rw [← e] at this
  exact this
theorem nsOf_no (s t : ByteArray) (w : World) (hs : s.size ≤ 4611686018427387904) (ht : t.size ≤ 4611686018427387904) (h : ok2 s t = false) :
    Calls Tryz.prog 172 #[.string s, .string t] w fun e w' => e = .returned (.tuple #[.slice none 0 0, .slice none 0 0, .bool false]) ∧ Below w.heap.size w w' := by
  rcases ok2_no h with h1 | ⟨h1, h2⟩
  · have H1 : Hid (natB 200 s = false) := h1
    clear h h1
    go_enter Tryz.func172, Tryz.ntmps172
    go_wp2_with fail
    refine (iNatOk_any s _ hs).mono ?_
    rintro e w' ⟨rfl, rfl⟩
    rw [H1.out]
    go_wp2
    refine bodyPost_ret (results_tmp3 rfl _ _ _) rfl ?_
    exact ⟨rfl, Below.refl _ _⟩
  · have H1 : Hid (natB 200 s = true ∧ natB 200 t = false) := ⟨h1, h2⟩
    clear h h1 h2
    go_enter Tryz.func172, Tryz.ntmps172
    go_wp2_with fail
    refine (iNatOk_any s _ hs).mono ?_
    rintro e w' ⟨rfl, rfl⟩
    rw [H1.out.1]
    go_wp2_with fail
    refine (iNatOk_any t _ ht).mono ?_
    rintro e w' ⟨rfl, rfl⟩
    rw [H1.out.2]
    go_wp2
    refine bodyPost_ret (results_tmp3 rfl _ _ _) rfl ?_
    exact ⟨rfl, Below.refl _ _⟩
theorem nsOf_yes (s t : ByteArray) (w : World) (hs : s.size ≤ 4611686018427387904) (ht : t.size ≤ 4611686018427387904) (h : ok2 s t = true) :
    Calls Tryz.prog 172 #[.string s, .string t] w fun e w' => ∃ u v, e = .returned (.tuple #[u, v, .bool true]) ∧ NIs w' u (nv s) ∧ NIs w' v (nv t) ∧ Below w.heap.size w w' := by
  obtain ⟨h1, h2⟩ := ok2_yes h
  have H1 : Hid (natB 200 s = true ∧ natB 200 t = true) := ⟨h1, h2⟩
  clear h h1 h2
  go_enter Tryz.func172, Tryz.ntmps172
  go_wp2_with fail
  refine (iNatOk_any s _ hs).mono ?_
  rintro e w' ⟨rfl, rfl⟩
  rw [H1.out.1]
  go_wp2_with fail
  refine (iNatOk_any t _ ht).mono ?_
  rintro e w' ⟨rfl, rfl⟩
  rw [H1.out.2]
  go_wp2_with fail
  refine (nOf_text s _ H1.out.1).mono ?_
  rintro e w1 ⟨u, rfl, hu, hb1⟩
  have HU : Hid (NIs w1 u (nv s)) := hu.1
  clear hu
  go_wp2_with fail
  refine (nOf_text t _ H1.out.2).mono ?_
  rintro e w2 ⟨v, rfl, hv, hb2⟩
  have HV : Hid (NIs w2 v (nv t)) := hv.1
  have HU2 : Hid (NIs w2 u (nv s)) := HU.out.below hb2 (Nat.le_refl _)
  have HB : Hid (Below w'.heap.size w' w2) := hb1.trans (hb2.mono hb1.size)
  clear hv hb1 hb2 HU
  go_wp2
  refine bodyPost_ret (results_tmp3 rfl _ _ _) rfl ?_
  exact ⟨u, v, rfl, HU2.out, HV.out, HB.out⟩
theorem iNatCmp_any (s t : ByteArray) (w : World) (hs : s.size ≤ 4611686018427387904) (ht : t.size ≤ 4611686018427387904) :
    Calls Tryz.prog 142 #[.string s, .string t] w fun e w' => e = .returned (.int .i64 (cmpS s t)) ∧ Below w.heap.size w w' := by
  cases h : ok2 s t with
  | false =>
    have HE : Hid (cmpS s t = 2) := by unfold cmpS; rw [h]; rfl
    rw [HE.out]
    have HC : Hid (∀ W, Calls Tryz.prog 172 #[.string s, .string t] W fun e w' => e = .returned (.tuple #[.slice none 0 0, .slice none 0 0, .bool false]) ∧ Below W.heap.size W w') := fun W => nsOf_no s t W hs ht h
    clear h
    go_enter Tryz.func142, Tryz.ntmps142
    go_wp2_with fail
    refine (HC.out _).mono ?_
    rintro e w1 ⟨rfl, hb1⟩
    have HB : Hid (Below w.heap.size w w1) := hb1
    clear hb1
    go_wp2
    go_ret
    exact ⟨rfl, HB.out⟩
  | true =>
    obtain ⟨h1, h2⟩ := ok2_yes h
    have fs := nv_fit s h1
    have ft := nv_fit t h2
    have ns := (nv_bd 200 s h1).1
    have nt' := (nv_bd 200 t h2).1
    have HC : Hid (∀ W, Calls Tryz.prog 172 #[.string s, .string t] W fun e w' => ∃ u v, e = .returned (.tuple #[u, v, .bool true]) ∧ NIs w' u (nv s) ∧ NIs w' v (nv t) ∧ Below W.heap.size W w') := fun W => nsOf_yes s t W hs ht h
    have HE : Hid (cmpS s t = cmpI (nv s) (nv t)) := by unfold cmpS; rw [h]; rfl
    rw [HE.out]
    have FS : Hid (NFit (nv s) 1000 ∧ NFit (nv t) 1000) := ⟨by unfold NFit at *; have := pow_mono 200 1000 (by decide); omega, by unfold NFit at *; have := pow_mono 200 1000 (by decide); omega⟩
    clear fs ft ns nt'
    clear h h1 h2
    go_enter Tryz.func142, Tryz.ntmps142
    go_wp2_with fail
    refine (HC.out _).mono ?_
    rintro e w1 ⟨u, v, rfl, hu, hv, hb1⟩
    have HU : Hid (NIs w1 u (nv s)) := hu
    have HV : Hid (NIs w1 v (nv t)) := hv
    clear hu hv
    go_wp2_with fail
    refine (nCompare_any _ _ _ _ _ HU.out HV.out FS.out.1 FS.out.2).mono ?_
    rintro e w2 ⟨rfl, hb2⟩
    have HB : Hid (Below w.heap.size w w2) := hb1.trans (hb2.mono hb1.size)
    clear hb1 hb2
    go_wp2
    go_ret
    exact ⟨rfl, HB.out⟩
theorem fit_add (a b : Int) (ha : NFit a 200) (hb : NFit b 200) : NFit (a + b) 500 := by
  unfold NFit at *
  have h1 := pow_mono 201 500 (by decide)
  have h2 : (10 : Int) ^ 201 = 10 ^ 200 * 10 := Int.pow_succ 10 200
  have p0 : (0 : Int) < 10 ^ 200 := Int.pow_pos (by decide)
  generalize (10 : Int) ^ 200 = e at *
  generalize (10 : Int) ^ 201 = f at *
  generalize (10 : Int) ^ 500 = g at *
  omega
theorem fit_mul (a b : Int) (ha : NFit a 200) (hb : NFit b 200) (a0 : 0 ≤ a) (b0 : 0 ≤ b) : NFit (a * b) 500 := by
  unfold NFit at *
  have h1 := pow_mono 400 500 (by decide)
  have h2 : (10 : Int) ^ 400 = 10 ^ 200 * 10 ^ 200 := Int.pow_add 10 200 200
  have p0 : (0 : Int) < 10 ^ 200 := Int.pow_pos (by decide)
  generalize (10 : Int) ^ 200 = e at *
  generalize (10 : Int) ^ 400 = f at *
  generalize (10 : Int) ^ 500 = g at *
  have h3 : a * b ≤ a * e := Int.mul_le_mul_of_nonneg_left (Int.le_of_lt hb) a0
  have h4 : a * e < e * e := Int.mul_lt_mul_of_pos_right ha p0
  omega
theorem iNatAdd_any (s t : ByteArray) (w : World) (hs : s.size ≤ 4611686018427387904) (ht : t.size ≤ 4611686018427387904) :
    Calls Tryz.prog 143 #[.string s, .string t] w fun e w' => e = .returned (.string (addS s t)) ∧ Below w.heap.size w w' := by
  cases h : ok2 s t with
  | false =>
    have HE : Hid (addS s t = { data := #[] }) := by unfold addS; rw [h]; rfl
    rw [HE.out]
    have HC : Hid (∀ W, Calls Tryz.prog 172 #[.string s, .string t] W fun e w' => e = .returned (.tuple #[.slice none 0 0, .slice none 0 0, .bool false]) ∧ Below W.heap.size W w') := fun W => nsOf_no s t W hs ht h
    clear h
    go_enter Tryz.func143, Tryz.ntmps143
    go_wp2_with fail
    refine (HC.out _).mono ?_
    rintro e w1 ⟨rfl, hb1⟩
    have HB : Hid (Below w.heap.size w w1) := hb1
    clear hb1
    go_wp2
    go_ret
    exact ⟨rfl, HB.out⟩
  | true =>
    obtain ⟨h1, h2⟩ := ok2_yes h
    have fs := nv_fit s h1
    have ft := nv_fit t h2
    have ns := (nv_bd 200 s h1).1
    have nt' := (nv_bd 200 t h2).1
    have HC : Hid (∀ W, Calls Tryz.prog 172 #[.string s, .string t] W fun e w' => ∃ u v, e = .returned (.tuple #[u, v, .bool true]) ∧ NIs w' u (nv s) ∧ NIs w' v (nv t) ∧ Below W.heap.size W w') := fun W => nsOf_yes s t W hs ht h
    have HE : Hid (addS s t = fitS (nt (nv s + nv t))) := by show addS s t = _; unfold addS; rw [h, if_pos rfl]
    rw [HE.out]
    have FS : Hid (NFit (nv s) 1000 ∧ NFit (nv t) 1000) := ⟨by unfold NFit at *; have := pow_mono 200 1000 (by decide); omega, by unfold NFit at *; have := pow_mono 200 1000 (by decide); omega⟩
    have FO : Hid (NFit (nv s + nv t) 500) := fit_add _ _ fs ft
    clear fs ft ns nt'
    clear h h1 h2
    go_enter Tryz.func143, Tryz.ntmps143
    go_wp2_with fail
    refine (HC.out _).mono ?_
    rintro e w1 ⟨u, v, rfl, hu, hv, hb1⟩
    have HU : Hid (NIs w1 u (nv s)) := hu
    have HV : Hid (NIs w1 v (nv t)) := hv
    clear hu hv
    go_wp2_with fail
    refine (nPlus_any _ _ _ _ _ HU.out HV.out FS.out.1 FS.out.2).mono ?_
    rintro e w2 ⟨x, rfl, hx, hb2⟩
    have HX : Hid (NIs w2 x (nv s + nv t)) := hx.1
    have hb12 : Below w.heap.size w w2 := hb1.trans (hb2.mono hb1.size)
    clear hb1 hb2 hx HU HV
    go_wp2_with fail
    refine (nText_any _ _ _ HX.out FO.out).mono ?_
    rintro e w3 ⟨rfl, hb3⟩
    have HB : Hid (Below w.heap.size w w3) := hb12.trans (hb3.mono hb12.size)
    clear hb12 hb3
    go_wp2
    go_ret
    exact ⟨rfl, HB.out⟩
theorem iNatMul_any (s t : ByteArray) (w : World) (hs : s.size ≤ 4611686018427387904) (ht : t.size ≤ 4611686018427387904) :
    Calls Tryz.prog 136 #[.string s, .string t] w fun e w' => e = .returned (.string (mulS s t)) ∧ Below w.heap.size w w' := by
  cases h : ok2 s t with
  | false =>
    have HE : Hid (mulS s t = { data := #[] }) := by unfold mulS; rw [h]; rfl
    rw [HE.out]
    have HC : Hid (∀ W, Calls Tryz.prog 172 #[.string s, .string t] W fun e w' => e = .returned (.tuple #[.slice none 0 0, .slice none 0 0, .bool false]) ∧ Below W.heap.size W w') := fun W => nsOf_no s t W hs ht h
    clear h
    go_enter Tryz.func136, Tryz.ntmps136
    go_wp2_with fail
    refine (HC.out _).mono ?_
    rintro e w1 ⟨rfl, hb1⟩
    have HB : Hid (Below w.heap.size w w1) := hb1
    clear hb1
    go_wp2
    go_ret
    exact ⟨rfl, HB.out⟩
  | true =>
    obtain ⟨h1, h2⟩ := ok2_yes h
    have fs := nv_fit s h1
    have ft := nv_fit t h2
    have ns := (nv_bd 200 s h1).1
    have nt' := (nv_bd 200 t h2).1
    have HC : Hid (∀ W, Calls Tryz.prog 172 #[.string s, .string t] W fun e w' => ∃ u v, e = .returned (.tuple #[u, v, .bool true]) ∧ NIs w' u (nv s) ∧ NIs w' v (nv t) ∧ Below W.heap.size W w') := fun W => nsOf_yes s t W hs ht h
    have HE : Hid (mulS s t = fitS (nt (nv s * nv t))) := by show mulS s t = _; unfold mulS; rw [h, if_pos rfl]
    rw [HE.out]
    have FS : Hid (NFit (nv s) 1000 ∧ NFit (nv t) 1000) := ⟨by unfold NFit at *; have := pow_mono 200 1000 (by decide); omega, by unfold NFit at *; have := pow_mono 200 1000 (by decide); omega⟩
    have FO : Hid (NFit (nv s * nv t) 500) := fit_mul _ _ fs ft ns nt'
    clear fs ft ns nt'
    clear h h1 h2
    go_enter Tryz.func136, Tryz.ntmps136
    go_wp2_with fail
    refine (HC.out _).mono ?_
    rintro e w1 ⟨u, v, rfl, hu, hv, hb1⟩
    have HU : Hid (NIs w1 u (nv s)) := hu
    have HV : Hid (NIs w1 v (nv t)) := hv
    clear hu hv
    go_wp2_with fail
    refine (nTimes_any _ _ _ _ _ HU.out HV.out FS.out.1 FS.out.2).mono ?_
    rintro e w2 ⟨x, rfl, hx, hb2⟩
    have HX : Hid (NIs w2 x (nv s * nv t)) := hx.1
    have hb12 : Below w.heap.size w w2 := hb1.trans (hb2.mono hb1.size)
    clear hb1 hb2 hx HU HV
    go_wp2_with fail
    refine (nText_any _ _ _ HX.out FO.out).mono ?_
    rintro e w3 ⟨rfl, hb3⟩
    have HB : Hid (Below w.heap.size w w3) := hb12.trans (hb3.mono hb12.size)
    clear hb12 hb3
    go_wp2
    go_ret
    exact ⟨rfl, HB.out⟩
theorem iNatSub_any (s t : ByteArray) (w : World) (hs : s.size ≤ 4611686018427387904) (ht : t.size ≤ 4611686018427387904) :
    Calls Tryz.prog 146 #[.string s, .string t] w fun e w' => e = .returned (.string (subS s t)) ∧ Below w.heap.size w w' := by
  cases h : ok2 s t with
  | false =>
    have HE : Hid (subS s t = { data := #[] }) := by unfold subS; rw [h]; rfl
    rw [HE.out]
    have HC : Hid (∀ W, Calls Tryz.prog 172 #[.string s, .string t] W fun e w' => e = .returned (.tuple #[.slice none 0 0, .slice none 0 0, .bool false]) ∧ Below W.heap.size W w') := fun W => nsOf_no s t W hs ht h
    clear h
    go_enter Tryz.func146, Tryz.ntmps146
    go_wp2_with fail
    refine (HC.out _).mono ?_
    rintro e w1 ⟨rfl, hb1⟩
    have HB : Hid (Below w.heap.size w w1) := hb1
    clear hb1
    go_wp2
    go_ret
    exact ⟨rfl, HB.out⟩
  | true =>
    obtain ⟨h1, h2⟩ := ok2_yes h
    have fs := nv_fit s h1
    have ft := nv_fit t h2
    have ns := (nv_bd 200 s h1).1
    have nt' := (nv_bd 200 t h2).1
    have HC : Hid (∀ W, Calls Tryz.prog 172 #[.string s, .string t] W fun e w' => ∃ u v, e = .returned (.tuple #[u, v, .bool true]) ∧ NIs w' u (nv s) ∧ NIs w' v (nv t) ∧ Below W.heap.size W w') := fun W => nsOf_yes s t W hs ht h
    have FS : Hid (NFit (nv s) 1000 ∧ NFit (nv t) 1000) := ⟨by unfold NFit at *; have := pow_mono 200 1000 (by decide); omega, by unfold NFit at *; have := pow_mono 200 1000 (by decide); omega⟩
    by_cases hlt : nv s < nv t
    · have HE : Hid (subS s t = { data := #[] }) := by show subS s t = _; unfold subS; rw [h, if_pos rfl, if_pos hlt]
      rw [HE.out]
      have HL : Hid (cmpI (nv s) (nv t) = -1) := cmpI_lt _ _ hlt
      clear fs ft ns nt' hlt
      clear h h1 h2
      go_enter Tryz.func146, Tryz.ntmps146
      go_wp2_with fail
      refine (HC.out _).mono ?_
      rintro e w1 ⟨u, v, rfl, hu, hv, hb1⟩
      have HU : Hid (NIs w1 u (nv s)) := hu
      have HV : Hid (NIs w1 v (nv t)) := hv
      clear hu hv
      go_wp2_with fail
      refine (nCompare_any _ _ _ _ _ HU.out HV.out FS.out.1 FS.out.2).mono ?_
      rintro e w2 ⟨rfl, hb2⟩
      rw [HL.out]
      have HB : Hid (Below w.heap.size w w2) := hb1.trans (hb2.mono hb1.size)
      clear hb1 hb2
      go_wp2
      go_ret
      exact ⟨rfl, HB.out⟩
    · have HE : Hid (subS s t = fitS (nt (nv s - nv t))) := by
        show subS s t = _
        unfold subS; rw [h, if_pos rfl, if_neg hlt, fit_nt _ (by omega) (by unfold NFit at *; omega)]
      rw [HE.out]
      have FO : Hid (NFit (nv s - nv t) 500) := by
        show NFit _ _
        unfold NFit at *; have := pow_mono 200 500 (by decide); omega
      have HLE : Hid (nv t ≤ nv s) := by show _ ≤ _; omega
      have HL : Hid (0 ≤ cmpI (nv s) (nv t) ∧ cmpI (nv s) (nv t) ≤ 1) := by show _ ∧ _; unfold cmpI; rw [if_neg hlt]; split <;> omega
      clear fs ft ns nt' hlt
      clear h h1 h2
      go_enter Tryz.func146, Tryz.ntmps146
      go_wp2_with fail
      refine (HC.out _).mono ?_
      rintro e w1 ⟨u, v, rfl, hu, hv, hb1⟩
      have HU : Hid (NIs w1 u (nv s)) := hu
      have HV : Hid (NIs w1 v (nv t)) := hv
      clear hu hv
      go_wp2_with fail
      refine (nCompare_any _ _ _ _ _ HU.out HV.out FS.out.1 FS.out.2).mono ?_
      rintro e w2 ⟨rfl, hb2⟩
      have HU2 : Hid (NIs w2 u (nv s)) := HU.out.below hb2 (Nat.le_refl _)
      have HV2 : Hid (NIs w2 v (nv t)) := HV.out.below hb2 (Nat.le_refl _)
      have hb12 : Below w.heap.size w w2 := hb1.trans (hb2.mono hb1.size)
      have hc0 := HL.out.1
      have hc1 := HL.out.2
      generalize cmpI (nv s) (nv t) = C at *
      have hC : decide (C < 0) = false := decide_eq_false (by omega)
      clear hb1 hb2 HU HV HL
      go_wp2_with fail
      refine (nMinus_any _ _ _ _ _ HU2.out HV2.out FS.out.1 FS.out.2 HLE.out).mono ?_
      rintro e w3 ⟨x, rfl, hx, hb3⟩
      have HX : Hid (NIs w3 x (nv s - nv t)) := hx.1
      have hb13 : Below w.heap.size w w3 := hb12.trans (hb3.mono hb12.size)
      clear hb12 hb3 hx HU2 HV2
      go_wp2_with fail
      refine (nText_any _ _ _ HX.out FO.out).mono ?_
      rintro e w4 ⟨rfl, hb4⟩
      have HB : Hid (Below w.heap.size w w4) := hb13.trans (hb4.mono hb13.size)
      clear hb13 hb4
      go_wp2
      go_ret
      exact ⟨rfl, HB.out⟩
theorem iNatDiv_any (s t : ByteArray) (w : World) (hs : s.size ≤ 4611686018427387904) (ht : t.size ≤ 4611686018427387904) :
    Calls Tryz.prog 141 #[.string s, .string t] w fun e w' => e = .returned (.tuple #[.string (divQ s t), .string (divR s t)]) ∧ Below w.heap.size w w' := by
  cases h : ok2 s t with
  | false =>
    have HE : Hid (divQ s t = { data := #[] } ∧ divR s t = { data := #[] }) := by unfold divQ divR; rw [h]; exact ⟨rfl, rfl⟩
    rw [HE.out.1, HE.out.2]
    have HC : Hid (∀ W, Calls Tryz.prog 172 #[.string s, .string t] W fun e w' => e = .returned (.tuple #[.slice none 0 0, .slice none 0 0, .bool false]) ∧ Below W.heap.size W w') := fun W => nsOf_no s t W hs ht h
    clear h
    go_enter Tryz.func141, Tryz.ntmps141
    go_wp2_with fail
    refine (HC.out _).mono ?_
    rintro e w1 ⟨rfl, hb1⟩
    have HB : Hid (Below w.heap.size w w1) := hb1
    clear hb1
    go_wp2
    go_ret2
    exact ⟨rfl, HB.out⟩
  | true =>
    obtain ⟨h1, h2⟩ := ok2_yes h
    have fs := nv_fit s h1
    have ft := nv_fit t h2
    have ns := (nv_bd 200 s h1).1
    have nt' := (nv_bd 200 t h2).1
    have HC : Hid (∀ W, Calls Tryz.prog 172 #[.string s, .string t] W fun e w' => ∃ u v, e = .returned (.tuple #[u, v, .bool true]) ∧ NIs w' u (nv s) ∧ NIs w' v (nv t) ∧ Below W.heap.size W w') := fun W => nsOf_yes s t W hs ht h
    have FS : Hid (NFit (nv s) 900 ∧ NFit (nv t) 900) := ⟨by unfold NFit at *; have := pow_mono 200 900 (by decide); omega, by unfold NFit at *; have := pow_mono 200 900 (by decide); omega⟩
    by_cases hz : nv t = 0
    · have HE : Hid (divQ s t = { data := #[] } ∧ divR s t = { data := #[] }) := by
        show _ ∧ _
        unfold divQ divR; rw [h, if_pos rfl, if_pos rfl, if_pos hz, if_pos hz]; exact ⟨rfl, rfl⟩
      rw [HE.out.1, HE.out.2]
      have HZ : Hid (∀ W v, NIs W v (nv t) → ∃ g c, v = .slice (some ⟨g, 0, none⟩) 0 c) := fun W v hv => by
        obtain ⟨L, ⟨g, c, e, -⟩, hc, hl⟩ := hv
        rw [ncan_nought L hc (by rw [hl, hz])] at e
        exact ⟨g, c, e⟩
      clear fs ft ns nt' hz
      clear h h1 h2
      go_enter Tryz.func141, Tryz.ntmps141
      go_wp2_with fail
      refine (HC.out _).mono ?_
      rintro e w1 ⟨u, v, rfl, hu, hv, hb1⟩
      have HU : Hid (NIs w1 u (nv s)) := hu
      have HV : Hid (NIs w1 v (nv t)) := hv
      clear hu hv
      obtain ⟨g, c, rfl⟩ := HZ.out _ _ HV.out
      have HB : Hid (Below w.heap.size w w1) := hb1
      clear hb1
      go_wp2
      go_ret2
      exact ⟨rfl, HB.out⟩
    · have hq : 0 ≤ nv s / nv t := Int.ediv_nonneg ns nt'
      have hr : 0 ≤ nv s % nv t := Int.emod_nonneg _ hz
      have hq2 : nv s / nv t ≤ nv s := Int.ediv_le_self _ ns
      have hr2 : nv s % nv t < nv t := Int.emod_lt_of_pos _ (by omega)
      have HE : Hid (divQ s t = fitS (nt (nv s / nv t)) ∧ divR s t = fitS (nt (nv s % nv t))) := by
        show _ ∧ _
        unfold divQ divR; rw [h, if_pos rfl, if_pos rfl, if_neg hz, if_neg hz, fit_nt _ hq (by unfold NFit at *; omega), fit_nt _ hr (by unfold NFit at *; omega)]; exact ⟨rfl, rfl⟩
      rw [HE.out.1, HE.out.2]
      have FO : Hid (NFit (nv s / nv t) 500 ∧ NFit (nv s % nv t) 500) := by
        show _ ∧ _
        have := pow_mono 200 500 (by decide)
        unfold NFit at *; exact ⟨by omega, by omega⟩
      have HP : Hid (0 < nv t) := by show _ < _; omega
      have HZ : Hid (∀ W v, NIs W v (nv t) → ∃ (g c n : Nat), v = .slice (some ⟨g, 0, none⟩) n c ∧ ((n : Int) == 0) = false ∧ n ≤ 200) := fun W v hv => by
        obtain ⟨L, ⟨g, c, e, -⟩, hc, hl⟩ := hv
        refine ⟨g, c, L.length, e, beq_eq_false_iff_ne.2 fun e0 => hz ?_, ncan_len L 200 hc (by rw [hl]; exact ft)⟩
        rw [← hl, List.length_eq_zero_iff.1 (show L.length = 0 by omega)]; rfl
      clear fs ft ns nt' hz hq hr hq2 hr2
      clear h h1 h2
      go_enter Tryz.func141, Tryz.ntmps141
      go_wp2_with fail
      refine (HC.out _).mono ?_
      rintro e w1 ⟨u, v, rfl, hu, hv, hb1⟩
      have HU : Hid (NIs w1 u (nv s)) := hu
      have HV : Hid (NIs w1 v (nv t)) := hv
      clear hu hv
      obtain ⟨g, c, n, rfl, hn0, hn2⟩ := HZ.out _ _ HV.out
      go_wp2_with fail
      refine (nDivide_any _ _ _ _ _ HU.out HV.out FS.out.1 FS.out.2 HP.out).mono ?_
      rintro e w2 ⟨x, y, rfl, hx, hy, hb2⟩
      have HX : Hid (NIs w2 x (nv s / nv t)) := hx.1
      have HY : Hid (NIs w2 y (nv s % nv t)) := hy.1
      have hb12 : Below w.heap.size w w2 := hb1.trans (hb2.mono hb1.size)
      clear hb1 hb2 hx hy HU HV
      go_wp2_with fail
      refine (nText_any _ _ _ HX.out FO.out.1).mono ?_
      rintro e w3 ⟨rfl, hb3⟩
      have HY3 : Hid (NIs w3 y (nv s % nv t)) := HY.out.below hb3 (Nat.le_refl _)
      have hb13 : Below w.heap.size w w3 := hb12.trans (hb3.mono hb12.size)
      clear hb12 hb3 HX HY
      go_wp2_with fail
      refine (nText_any _ _ _ HY3.out FO.out.2).mono ?_
      rintro e w4 ⟨rfl, hb4⟩
      have HB : Hid (Below w.heap.size w w4) := hb13.trans (hb4.mono hb13.size)
      clear hb13 hb4
      go_wp2
      go_ret2
      exact ⟨rfl, HB.out⟩
theorem iNatRoot_no (s : ByteArray) (w : World) (hs : s.size ≤ 4611686018427387904) (h : natB 200 s = false) :
    Calls Tryz.prog 53 #[.string s] w fun e w' => e = .returned (.tuple #[.string { data := #[] }, .string { data := #[] }]) ∧ Below w.heap.size w w' := by
  have H : Hid (natB 200 s = false) := h
  clear h
  go_enter Tryz.func53, Tryz.ntmps53
  go_wp2_with fail
  refine (iNatOk_any s _ hs).mono ?_
  rintro e w' ⟨rfl, rfl⟩
  rw [H.out]
  go_wp2
  go_ret2
  exact ⟨rfl, Below.refl _ _⟩
theorem iNatRoot_yes (s : ByteArray) (w : World) (hs : s.size ≤ 4611686018427387904) (h : natB 200 s = true) :
    Calls Tryz.prog 53 #[.string s] w fun e w' => ∃ S R : Int, e = .returned (.tuple #[.string (tx (nt S)), .string (tx (nt R))]) ∧ S * S + R = nv s ∧ 0 ≤ S ∧ 0 ≤ R ∧ R ≤ 2 * S ∧ Below w.heap.size w w' := by
  have H : Hid (natB 200 s = true) := h
  have fs := nv_fit s h
  have F5 : Hid (NFit (nv s) 500) := by show NFit _ _; unfold NFit at *; have := pow_mono 200 500 (by decide); omega
  have HTX : Hid (∀ S R : Int, S * S + R = nv s → 0 ≤ S → 0 ≤ R → fitS (nt S) = tx (nt S) ∧ fitS (nt R) = tx (nt R) ∧ NFit S 500 ∧ NFit R 500) := fun S R h1 h2 h3 => by
    have q0 : 0 ≤ S * S := Int.mul_nonneg h2 h2
    have q1 : S ≤ S * S := by
      rcases Int.lt_or_le 0 S with c | c
      · have : S * 1 ≤ S * S := Int.mul_le_mul_of_nonneg_left (by omega) h2
        omega
      · omega
    have g1 : NFit S 200 := by unfold NFit at *; omega
    have g2 : NFit R 200 := by unfold NFit at *; omega
    have := pow_mono 200 500 (by decide)
    exact ⟨fit_nt S h2 g1, fit_nt R h3 g2, by unfold NFit at *; omega, by unfold NFit at *; omega⟩
  clear h fs
  go_enter Tryz.func53, Tryz.ntmps53
  go_wp2_with fail
  refine (iNatOk_any s _ hs).mono ?_
  rintro e w' ⟨rfl, rfl⟩
  rw [H.out]
  go_wp2_with fail
  refine (nOf_text s _ H.out).mono ?_
  rintro e w1 ⟨u, rfl, hu, hb1⟩
  have HU : Hid (NIs w1 u (nv s)) := hu.1
  clear hu
  go_wp2_with fail
  refine (nRoot_any _ _ _ HU.out F5.out).mono ?_
  rintro e w2 ⟨x, y, rfl, ⟨S, R, hx, hy, g1, g2, g3, g4⟩, hb2⟩
  obtain ⟨e1, e2, f1, f2⟩ := HTX.out S R g1 g2 g3
  have HX : Hid (NIs w2 x S) := hx
  have HY : Hid (NIs w2 y R) := hy
  have HF : Hid (NFit S 500 ∧ NFit R 500) := ⟨f1, f2⟩
  have HE : Hid (fitS (nt S) = tx (nt S) ∧ fitS (nt R) = tx (nt R)) := ⟨e1, e2⟩
  have HG : Hid (S * S + R = nv s ∧ 0 ≤ S ∧ 0 ≤ R ∧ R ≤ 2 * S) := ⟨g1, g2, g3, g4⟩
  have hb12 : Below w'.heap.size w' w2 := hb1.trans (hb2.mono hb1.size)
  clear hb1 hb2 hx hy HU e1 e2 f1 f2 g1 g2 g3 g4
  go_wp2_with fail
  refine (nText_any _ _ _ HX.out HF.out.1).mono ?_
  rintro e w3 ⟨rfl, hb3⟩
  have HY3 : Hid (NIs w3 y R) := HY.out.below hb3 (Nat.le_refl _)
  have hb13 : Below w'.heap.size w' w3 := hb12.trans (hb3.mono hb12.size)
  clear hb12 hb3 HX HY
  go_wp2_with fail
  refine (nText_any _ _ _ HY3.out HF.out.2).mono ?_
  rintro e w4 ⟨rfl, hb4⟩
  have HB : Hid (Below w'.heap.size w' w4) := hb13.trans (hb4.mono hb13.size)
  clear hb13 hb4
  rw [HE.out.1, HE.out.2]
  go_wp2
  go_ret2
  exact ⟨S, R, rfl, HG.out.1, HG.out.2.1, HG.out.2.2.1, HG.out.2.2.2, HB.out⟩
/-- Each number has a root, and what is left. -/
theorem root_is (n : Nat) : ∃ S R : Int, S * S + R = (n : Int) ∧ 0 ≤ S ∧ 0 ≤ R ∧ R ≤ 2 * S := by
  induction n with
  | zero => exact ⟨0, 0, by decide, by decide, by decide, by decide⟩
  | succ n ih =>
    obtain ⟨S, R, h1, h2, h3, h4⟩ := ih
    by_cases h : R + 1 ≤ 2 * S
    · exact ⟨S, R + 1, by omega, h2, by omega, h⟩
    · refine ⟨S + 1, 0, ?_, by omega, by decide, by omega⟩
      have e : (S + 1) * (S + 1) = S * S + 2 * S + 1 := by rw [Int.add_mul, Int.mul_add]; omega
      omega
theorem fit_shift (a : Int) (n : Nat) (ha : NFit a 200) (hn : n ≤ 200) : NFit (a * 10 ^ n) 500 := by
  unfold NFit at *
  have h1 := pow_mono (200 + n) 500 (by omega)
  rw [Int.pow_add] at h1
  have p0 : (0 : Int) < 10 ^ n := Int.pow_pos (by decide)
  have h4 : a * 10 ^ n < 10 ^ 200 * 10 ^ n := Int.mul_lt_mul_of_pos_right ha p0
  exact Int.lt_of_lt_of_le h4 h1
theorem iNatShift_any (s : ByteArray) (n : Int) (w : World) (hs : s.size ≤ 4611686018427387904) :
    Calls Tryz.prog 54 #[.string s, .int .i64 n] w fun e w' => e = .returned (.string (shiftS s n)) ∧ Below w.heap.size w w' := by
  cases h : natB 200 s with
  | false =>
    have HE : Hid (shiftS s n = { data := #[] }) := by show shiftS s n = _; unfold shiftS; rw [h]; rfl
    rw [HE.out]
    have H1 : Hid (natB 200 s = false) := h
    clear h
    go_enter Tryz.func54, Tryz.ntmps54
    go_wp2_with fail
    refine (iNatOk_any s _ hs).mono ?_
    rintro e w' ⟨rfl, rfl⟩
    rw [H1.out]
    go_wp2
    go_ret
    exact ⟨rfl, Below.refl _ _⟩
  | true =>
    have H1 : Hid (natB 200 s = true) := h
    by_cases hn : 0 ≤ n ∧ n ≤ 200
    · have HE : Hid (shiftS s n = fitS (nt (nv s * 10 ^ n.toNat))) := by show shiftS s n = _; unfold shiftS; rw [h, decide_eq_true hn.1, decide_eq_true hn.2]; exact if_pos (by decide)
      rw [HE.out]
      obtain ⟨m, rfl⟩ := Int.eq_ofNat_of_zero_le hn.1
      have fs := nv_fit s h
      have hm : m ≤ 200 := by omega
      have F5 : Hid (NFit (nv s) 1000) := by show NFit _ _; unfold NFit at *; have := pow_mono 200 1000 (by decide); omega
      have FO : Hid (NFit (nv s * 10 ^ m) 500) := fit_shift _ _ fs hm
      have hA : ¬ (m : Int) < 0 := by omega
      have hB : ¬ (200 : Int) < (m : Int) := by omega
      have hB' : decide ((200 : Int) < (m : Int)) = false := decide_eq_false hB
      rw [Int.toNat_natCast]
      clear h fs HE
      go_enter Tryz.func54, Tryz.ntmps54
      go_wp2_with fail
      refine (iNatOk_any s _ hs).mono ?_
      rintro e w' ⟨rfl, rfl⟩
      rw [H1.out]
      go_wp2_with fail
      refine (nOf_text s _ H1.out).mono ?_
      rintro e w1 ⟨u, rfl, hu, hb1⟩
      have HU : Hid (NIs w1 u (nv s)) := hu.1
      clear hu
      go_wp2_with fail
      refine (nShift_any _ _ m _ HU.out F5.out hm).mono ?_
      rintro e w2 ⟨x, rfl, hx, hb2⟩
      have HX : Hid (NIs w2 x (nv s * 10 ^ m)) := hx.1
      have hb12 : Below w'.heap.size w' w2 := hb1.trans (hb2.mono hb1.size)
      clear hb1 hb2 hx HU
      go_wp2_with fail
      refine (nText_any _ _ _ HX.out FO.out).mono ?_
      rintro e w3 ⟨rfl, hb3⟩
      have HB : Hid (Below w'.heap.size w' w3) := hb12.trans (hb3.mono hb12.size)
      clear hb12 hb3
      go_wp2
      go_ret
      exact ⟨rfl, HB.out⟩
    · have HE : Hid (shiftS s n = { data := #[] }) := by
        show shiftS s n = _
        unfold shiftS
        rw [if_neg]
        simp
        omega
      rw [HE.out]
      clear h
      by_cases hA : n < 0
      · go_enter Tryz.func54, Tryz.ntmps54
        go_wp2_with fail
        refine (iNatOk_any s _ hs).mono ?_
        rintro e w' ⟨rfl, rfl⟩
        rw [H1.out]
        go_wp2
        go_ret
        exact ⟨rfl, Below.refl _ _⟩
      · have hB : (200 : Int) < n := by omega
        have hA' : decide (n < 0) = false := decide_eq_false hA
        go_enter Tryz.func54, Tryz.ntmps54
        go_wp2_with fail
        refine (iNatOk_any s _ hs).mono ?_
        rintro e w' ⟨rfl, rfl⟩
        rw [H1.out]
        go_wp2
        go_ret
        exact ⟨rfl, Below.refl _ _⟩
end Go.Proofs.YtnkoeidolmiheaaGreatDoor
