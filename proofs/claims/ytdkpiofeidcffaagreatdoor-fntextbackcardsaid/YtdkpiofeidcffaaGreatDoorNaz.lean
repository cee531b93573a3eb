/-
  Naturals of the program: what is a natural, texts into two naturals, and what the functions on texts answer; walked.
-/
import Derived.Test.YtdkpiofeidcffaaGreatDoorTxt3
import Derived.Test.YtdkpiofeidcffaaGreatDoorIn
import Derived.BigQuiet
import Derived.Deep.QuietTactic
import Derived.Deep.LoopGhost
import Derived.Test.YtdkpiofeidcffaaGreatDoorNatS
import Derived.Test.YtdkpiofeidcffaaGreatDoorNtL
namespace Go.Proofs.YtdkpiofeidcffaaGreatDoor
set_option linter.unusedVariables false
set_option maxRecDepth 100000
/-- Digits low first, no nought at the high end. -/
def NCan (L : List Int) : Prop := Dec L ∧ (L = [] ∨ L.getD (L.length - 1) 0 ≠ 0)
/-- Below ten to the k. -/
def NFit (n : Int) (k : Nat) : Prop := n < 10 ^ k
theorem lv_split (L : List Int) (p : Nat) (hp : p < L.length) : lv L = lv (L.take p) + 10 ^ p * (L.getD p 0 + 10 * lv (L.drop (p + 1))) := by
  have e : L = L.take p ++ (L[p] :: L.drop (p + 1)) := by
    rw [← List.drop_eq_getElem_cons hp, List.take_append_drop]
  have hl : (L.take p).length = p := by rw [List.length_take]; omega
  have h1 := lv_append (L.take p) (L[p] :: L.drop (p + 1))
  rw [← e, hl] at h1
  rw [h1]
  simp [lv, List.getD, hp]
theorem lv_take1 (L : List Int) (p : Nat) (hp : p < L.length) : lv (L.take (p + 1)) = lv (L.take p) + 10 ^ p * L.getD p 0 := by
  have hl : (L.take p).length = p := by rw [List.length_take]; omega
  rw [List.take_succ_eq_append_getElem hp, lv_append, hl]
  simp [lv, List.getD, hp]
theorem nl_set (L : List Int) (p : Nat) (d : Int) (hp : p < L.length) : lv (L.set p d) = lv L + 10 ^ p * (d - L.getD p 0) := by
  have hs := lv_split L p hp
  have hs2 := lv_split (L.set p d) p (by simpa using hp)
  rw [List.take_set_of_le (by omega), List.drop_set_of_lt (by omega)] at hs2
  have e : (L.set p d).getD p 0 = d := by simp [List.getD, hp]
  rw [e] at hs2
  rw [hs2, hs]
  simp only [Int.mul_add, Int.mul_sub]
  omega
theorem nd_set (L : List Int) (p : Nat) (d : Int) (h : Dec L) (h0 : 0 ≤ d) (h9 : d ≤ 9) : Dec (L.set p d) := fun x hx => by
  rcases List.mem_or_eq_of_mem_set hx with c | c
  · exact h x c
  · omega
theorem dec_take (L : List Int) (p : Nat) (h : Dec L) : Dec (L.take p) := fun x hx => h x (List.mem_of_mem_take hx)
theorem dec_noughts (n : Nat) : Dec (List.replicate n 0) := fun x hx => by
  have := (List.mem_replicate.1 hx).2; omega
theorem nd_snoc (L : List Int) (d : Int) (h : Dec L) (h0 : 0 ≤ d) (h9 : d ≤ 9) : Dec (L ++ [d]) := fun x hx => by
  rcases List.mem_append.1 hx with c | c
  · exact h x c
  · simp at c; omega
theorem dec_app (L M : List Int) (h : Dec L) (hM : Dec M) : Dec (L ++ M) := fun x hx => by
  rcases List.mem_append.1 hx with c | c
  · exact h x c
  · exact hM x c
theorem lv_noughts (n : Nat) : lv (List.replicate n 0) = 0 := by
  induction n with
  | zero => rfl
  | succ n ih => rw [List.replicate_succ]; simp [lv, ih]
theorem lv_less (L : List Int) (p : Nat) (h : Dec L) (hp : p ≤ L.length) : 0 ≤ lv (L.take p) ∧ lv (L.take p) < 10 ^ p := by
  have b := lv_bd (L.take p) (dec_take L p h)
  rw [List.length_take, Nat.min_eq_left hp] at b
  exact b
theorem ncan_low (L : List Int) (h : NCan L) (hp : 0 < L.length) : 10 ^ (L.length - 1) ≤ lv L := by
  obtain ⟨hd, hz⟩ := h
  have hz : L.getD (L.length - 1) 0 ≠ 0 := by
    rcases hz with c | c
    · rw [c] at hp; simp at hp
    · exact c
  have s := lv_take1 L (L.length - 1) (by omega)
  rw [Nat.sub_add_cancel hp, List.take_length] at s
  have b := (lv_less L (L.length - 1) hd (by omega)).1
  have d := dec_at L hd (L.length - 1)
  have p : (0 : Int) < 10 ^ (L.length - 1) := Int.pow_pos (by decide)
  have : 10 ^ (L.length - 1) * 1 ≤ 10 ^ (L.length - 1) * L.getD (L.length - 1) 0 := Int.mul_le_mul_of_nonneg_left (by omega) (Int.le_of_lt p)
  omega
theorem ncan_len (L : List Int) (k : Nat) (h : NCan L) (hf : NFit (lv L) k) : L.length ≤ k := by
  rcases Nat.lt_or_ge k L.length with c | c
  · exfalso
    have l := ncan_low L h (by omega)
    have m := pow_mono k (L.length - 1) (by omega)
    unfold NFit at hf
    omega
  · exact c
theorem short_less (X Y : List Int) (hX : Dec X) (hY : NCan Y) (hl : X.length < Y.length) : lv X < lv Y := by
  have b := (lv_bd X hX).2
  have l := ncan_low Y hY (by omega)
  have m := pow_mono X.length (Y.length - 1) (by omega)
  omega
theorem low_lt (X Y : List Int) (p : Nat) (hX : Dec X) (hY : Dec Y) (pX : p < X.length) (pY : p < Y.length) (hd : X.drop (p + 1) = Y.drop (p + 1)) (hlt : X.getD p 0 < Y.getD p 0) : lv X < lv Y := by
  rw [lv_split X p pX, lv_split Y p pY, hd]
  have bX := lv_less X p hX (by omega)
  have bY := lv_less Y p hY (by omega)
  have p0 : (0 : Int) < 10 ^ p := Int.pow_pos (by decide)
  have : 10 ^ p * (X.getD p 0 + 1) ≤ 10 ^ p * Y.getD p 0 := Int.mul_le_mul_of_nonneg_left (by omega) (Int.le_of_lt p0)
  simp only [Int.mul_add] at this ⊢
  omega
theorem drop_same (X Y : List Int) (p : Nat) (pX : p < X.length) (pY : p < Y.length) (hd : X.drop (p + 1) = Y.drop (p + 1)) (he : X.getD p 0 = Y.getD p 0) : X.drop p = Y.drop p := by
  rw [List.drop_eq_getElem_cons pX, List.drop_eq_getElem_cons pY, hd]
  simp [List.getD, pX, pY] at he
  rw [he]
theorem ncan_nt (L : List Int) (h : NCan L) (hp : L ≠ []) (hl : L.length ≤ 500) : L.reverse = nt (lv L) := by
  refine nt_of L.reverse _ ⟨dec_rev L h.1, ?_, ?_⟩ (vl_rev L) (by simpa using hl)
  · rw [List.length_reverse]; exact List.length_pos_iff.2 hp
  · refine .inr ?_
    have hq : 0 < L.length := List.length_pos_iff.2 hp
    rcases h.2 with c | c
    · exact absurd c hp
    · intro e
      apply c
      rw [List.headD_eq_head?_getD, List.head?_reverse, List.getLast?_eq_getElem?] at e
      exact e
theorem nt_nought : nt 0 = [0] := (nt_of [0] 0 canon_zero rfl (by decide)).symm
theorem ncan_nought (L : List Int) (h : NCan L) (hv : lv L = 0) : L = [] := by
  rcases Nat.eq_zero_or_pos L.length with c | c
  · exact List.length_eq_zero_iff.1 c
  · have := ncan_low L h c
    have p0 : (0 : Int) < 10 ^ (L.length - 1) := Int.pow_pos (by decide)
    omega
/-- One column more: a digit, and what goes on. -/
theorem col_step (D : List Int) (j : Nat) (V c s x : Int) (hl : D.length = j) (h : lv D + 10 ^ j * c = V) (hs : s = x + c) : lv (D ++ [s % 10]) + 10 ^ (j + 1) * (s / 10) = V + 10 ^ j * x := by
  rw [lv_append, hl]
  simp only [lv, Int.pow_succ]
  have k : ∀ p r q : Int, r + 10 * q = x + c → p * (r + 10 * 0) + p * 10 * q = p * x + p * c := fun p r q hr => by
    rw [Int.mul_zero, Int.add_zero, Int.mul_assoc, ← Int.mul_add, hr, Int.mul_add]
  have k1 := k (10 ^ j) (s % 10) (s / 10) (by omega)
  omega
theorem pv_all (L : List Int) (j : Nat) (hj : L.length ≤ j) : pv (fun i => L.getD i 0) j = lv L := by
  rw [pv_past _ L.length j hj (fun i hi => by simp [List.getD, List.getElem?_eq_none hi]), pv_take L L.length (Nat.le_refl _), List.take_length]
theorem fill_set (D : List Int) (n j : Nat) (d : Int) (hl : D.length = j) (hj : j < n) : (D ++ List.replicate (n - j) 0).set j d = (D ++ [d]) ++ List.replicate (n - (j + 1)) 0 := by
  rw [List.set_append_right _ _ (by omega), hl, Nat.sub_self]
  obtain ⟨m, hm⟩ : ∃ m, n - j = m + 1 := ⟨n - j - 1, by omega⟩
  rw [hm, List.replicate_succ, List.set_cons_zero, show n - (j + 1) = m by omega, List.append_assoc]
  rfl
theorem fill_set_back (D : List Int) (n k : Nat) (d : Int) (hl : D.length = k) (hk : k < n) : (List.replicate (n - k) 0 ++ D).set (n - 1 - k) d = List.replicate (n - (k + 1)) 0 ++ (d :: D) := by
  rw [List.set_append_left _ _ (by simp; omega)]
  have : (List.replicate (n - k) (0 : Int)).set (n - 1 - k) d = List.replicate (n - (k + 1)) 0 ++ [d] := by
    obtain ⟨m, hm⟩ : ∃ m, n - k = m + 1 := ⟨n - k - 1, by omega⟩
    rw [hm, show n - 1 - k = m by omega, show n - (k + 1) = m by omega, List.replicate_succ', List.set_append_right _ _ (by simp), List.length_replicate, Nat.sub_self]
    rfl
  rw [this, List.append_assoc]
  rfl
end Go.Proofs.YtdkpiofeidcffaaGreatDoor
namespace Go.Proofs.YtdkpiofeidcffaaGreatDoor
open Go.RowKit
set_option linter.unusedVariables false
set_option maxRecDepth 100000
/-- The slice v shows the digits L. -/
def NRd (w : World) (v : Value) (L : List Int) : Prop := ∃ g cap : Nat, v = .slice (some ⟨g, 0, none⟩) L.length cap ∧ L.length ≤ cap ∧ g < w.heap.size ∧ ∀ i, i < L.length → w.cell? ⟨g, i, none⟩ = some (.int .u8 (L.getD i 0))
/-- The slice v is the number n. -/
def NIs (w : World) (v : Value) (n : Int) : Prop := ∃ L, NRd w v L ∧ NCan L ∧ lv L = n
/-- The slice v lies in a block from b on. -/
def NAt (b : Nat) (v : Value) : Prop := ∃ g n cap : Nat, v = .slice (some ⟨g, 0, none⟩) n cap ∧ b ≤ g
/-- The slice v is the number n, in a block from b on. -/
def NIsF (w : World) (b : Nat) (v : Value) (n : Int) : Prop := NIs w v n ∧ NAt b v
theorem NIsF.mono {w : World} {b c : Nat} {v : Value} {n : Int} (h : NIsF w b v n) (hc : c ≤ b) : NIsF w c v n := by
  obtain ⟨h, g, m, cap, e, hb⟩ := h
  exact ⟨h, g, m, cap, e, Nat.le_trans hc hb⟩
theorem NRd.below {w w' : World} {B : Nat} {v : Value} {L : List Int} (h : NRd w v L) (hb : Below B w w') (hB : w.heap.size ≤ B) : NRd w' v L := by
  obtain ⟨g, cap, e, hc, hg, hcell⟩ := h
  have hl : g < w'.heap.size := by
    have := hb.block g (by omega)
    rw [Array.getElem?_eq_getElem hg] at this
    exact (Array.getElem?_eq_some_iff.1 this).1
  exact ⟨g, cap, e, hc, hl, fun i hi => (hb.cell (p := ⟨g, i, none⟩) (by show g < B; omega)).trans (hcell i hi)⟩
theorem NIs.below {w w' : World} {B : Nat} {v : Value} {n : Int} (h : NIs w v n) (hb : Below B w w') (hB : w.heap.size ≤ B) : NIs w' v n := by
  obtain ⟨L, h, r⟩ := h
  exact ⟨L, h.below hb hB, r⟩
theorem NIsF.below {w w' : World} {B b : Nat} {v : Value} {n : Int} (h : NIsF w b v n) (hb : Below B w w') (hB : w.heap.size ≤ B) : NIsF w' b v n := ⟨h.1.below hb hB, h.2⟩
theorem NIsF.set {w : World} {b : Nat} {v : Value} {n : Int} (h : NIsF w b v n) (q k : Nat) (x : Value) (hq : q < b) : NIsF (w.setCell ⟨q, k, none⟩ x) b v n := by
  obtain ⟨⟨L, ⟨g, cap, rfl, hc, hg, hcell⟩, r⟩, g', m, cap', e, hb⟩ := h
  cases e
  have hh : (w.setCell ⟨q, k, none⟩ x).heap[g]? = w.heap[g]? := Below.heap_setCell _ _ _ _ (fun e => by have : g = q := e; omega)
  refine ⟨⟨L, ⟨g, cap, rfl, hc, ?_, fun i hi => ?_⟩, r⟩, g, _, _, rfl, hb⟩
  · rw [Array.getElem?_eq_getElem hg] at hh
    exact (Array.getElem?_eq_some_iff.1 hh).1
  · rw [← hcell i hi]
    unfold World.cell?
    rw [hh]
/-- A row of bytes that the call owns. -/
def NRow (w : World) (base g n : Nat) (L : List Int) : Prop := w.ownsRow base 5 1 (.slice (some ⟨g, 0, none⟩) n n) n (L.map (Value.int .u8))
theorem NRow.len {w : World} {base g n : Nat} {L : List Int} (h : NRow w base g n L) : L.length = n := by
  have := h.1; simpa using this
theorem NRow.lt {w : World} {base g n : Nat} {L : List Int} (h : NRow w base g n L) : base ≤ g ∧ g < w.heap.size := by
  obtain ⟨hl, h⟩ := h
  rcases h with ⟨h, _⟩ | ⟨g', cap, cur, e, hg, hc, r⟩
  · cases h
  · cases e; exact ⟨hg, (Array.getElem?_eq_some_iff.1 hc).1⟩
theorem NRow.cell {w : World} {base g n : Nat} {L : List Int} (h : NRow w base g n L) (k : Nat) (hk : k < n) : w.cell? ⟨g, k, none⟩ = some (.int .u8 (L.getD k 0)) := by
  have hl := h.len
  rw [World.ownsRow.cellAt h k (by omega)]
  simp only [List.getElem?_map, List.getD]
  rw [List.getElem?_eq_getElem (by omega)]
  rfl
theorem NRow.frozen {w : World} {base g n : Nat} {L : List Int} (h : NRow w base g n L) (k : Nat) : w.frozen? ⟨g, k, none⟩ = false := World.ownsRow.frozenAt h k
theorem NRow.set {w : World} {base g n : Nat} {L : List Int} (h : NRow w base g n L) (k : Nat) (x : Int) : NRow (w.setCell ⟨g, k, none⟩ (.int .u8 x)) base g n (L.set k x) := by
  have := (World.ownsRow.stored h k (.int .u8 x)).1
  unfold NRow
  simpa using this
theorem NRow.rd {w : World} {base g n : Nat} {L : List Int} (h : NRow w base g n L) : NRd w (.slice (some ⟨g, 0, none⟩) n n) L :=
  ⟨g, n, by rw [h.len], by rw [h.len]; exact Nat.le_refl _, h.lt.2, fun i hi => h.cell i (by rw [← h.len]; exact hi)⟩
theorem NRow.below {w w' : World} {base g n B : Nat} {L : List Int} (h : NRow w base g n L) (hb : Below B w w') (hB : w.heap.size ≤ B) : NRow w' base g n L := own_below h hb hB
def slN : Value → Nat
  | .slice _ n _ => n
  | _ => 0
theorem nAt_any (v : Value) (L : List Int) (p : Nat) (w : World) (h : NRd w v L) (hp : p ≤ 100000) (hL : L.length ≤ 100000) :
    Calls Tryz.prog 146 #[v, .int .i64 (p : Int)] w fun e w' => e = .returned (.int .u8 (L.getD p 0)) ∧ w' = w := by
  obtain ⟨g, cap, rfl, hc, hg, hcell⟩ := h
  by_cases hlt : p < L.length
  · have h1 := hcell p hlt
    have h2 : (p : Int) < (L.length : Int) := by omega
    generalize L.getD p 0 = x at *
    clear hcell
    generalize L.length = n at *
    go_enter Tryz.func146, Tryz.ntmps146
    go_wp2
    go_ret
    exact ⟨rfl, rfl⟩
  · have E : Hid (L.getD p 0 = 0) := by show _ = _; simp [List.getD, List.getElem?_eq_none (Nat.le_of_not_lt hlt)]
    have h2 : ¬ (p : Int) < (L.length : Int) := by omega
    rw [E.out]
    clear hcell E
    generalize L.length = n at *
    go_enter Tryz.func146, Tryz.ntmps146
    go_wp2
    go_ret
    exact ⟨rfl, rfl⟩
theorem nTrim_any (v : Value) (L : List Int) (w : World) (b : Nat) (h : NRd w v L) (hv : NAt b v) (hd : Dec L) (hL : L.length ≤ 100000) :
    Calls Tryz.prog 147 #[v] w fun e w' => ∃ u, e = .returned u ∧ NIsF w b u (lv L) ∧ w' = w := by
  obtain ⟨g, cap, rfl, hc, hg, hcell⟩ := h
  obtain ⟨g', n', c', e', hbg⟩ := hv
  cases e'
  have HC : Hid (∀ i, i < L.length → w.cell? ⟨g, i, none⟩ = some (.int .u8 (L.getD i 0))) := hcell
  have HB : Hid (∀ i, 0 ≤ L.getD i 0 ∧ L.getD i 0 ≤ 9) := fun i => dec_at L hd i
  have HD : Hid (∀ m, m ≤ L.length → lv (L.take m) = lv L → (m = 0 ∨ L.getD (m - 1) 0 ≠ 0) → NIsF w b (.slice (some ⟨g, 0, none⟩) m cap) (lv L)) := fun m hm hv hz => by
    have hl : (L.take m).length = m := by rw [List.length_take]; omega
    refine ⟨⟨L.take m, ⟨g, cap, by rw [hl], by omega, hg, fun i hi => ?_⟩, ⟨dec_take L m hd, ?_⟩, hv⟩, g, m, cap, rfl, hbg⟩
    · rw [hl] at hi
      rw [hcell i (by omega)]
      simp [List.getD, List.getElem?_take_of_lt hi]
    · rcases hz with c | c
      · exact .inl (List.length_eq_zero_iff.1 (by omega))
      · rcases Nat.eq_zero_or_pos m with c0 | c0
        · exact .inl (List.length_eq_zero_iff.1 (by omega))
        · refine .inr ?_
          rw [hl]
          simpa [List.getD, List.getElem?_take_of_lt (show m - 1 < m by omega)] using c
  have HT : Hid (∀ k, k < L.length → L.getD k 0 = 0 → lv (L.take (k + 1)) = lv (L.take k)) := fun k hk hz => by
    rw [lv_take1 L k hk, hz]; omega
  have H0 : Hid (lv (L.take L.length) = lv L) := by show _ = _; rw [List.take_length]
  obtain ⟨n, hn⟩ : ∃ n, L.length = n := ⟨_, rfl⟩
  rw [hn] at HC HD HT H0 hL hc ⊢
  clear hcell hd hn hbg
  go_enter Tryz.func147, Tryz.ntmps147
  go_wp2
  go_loop [0] (fun x => ∃ m : Nat, m ≤ n ∧ x = .slice (some ⟨g, 0, none⟩) m cap ∧ Hid (lv (L.take m) = lv L)) (fun x => slN x)
  case atStart => exact ⟨n, Nat.le_refl _, rfl, H0⟩
  case round =>
    obtain ⟨m, hm, rfl, hv⟩ := hrel
    rcases Nat.eq_zero_or_pos m with h0 | h0
    · subst h0
      have E : Hid (NIsF w b (.slice (some ⟨g, 0, none⟩) 0 cap) (lv L)) := HD.out 0 (by omega) hv.out (.inl rfl)
      go_wp2
      go_ret
      exact ⟨_, rfl, E.out, rfl⟩
    · obtain ⟨k, rfl⟩ : ∃ k, m = k + 1 := ⟨m - 1, by omega⟩
      have hcl := HC.out k (by omega)
      have hb := HB.out k
      have hpos : (0 : Int) < (k : Int) + 1 := by omega
      by_cases hz : L.getD k 0 = 0
      · have HV : Hid (lv (L.take k) = lv L) := by
          show _ = _
          rw [← HT.out k (by omega) hz]; exact hv.out
        rw [hz] at hcl
        clear hz hv
        go_wp2
        go_round
        case rel => exact ⟨k, by omega, rfl, HV⟩
        case measure => simp [slN]
      · have E : Hid (NIsF w b (.slice (some ⟨g, 0, none⟩) (k + 1) cap) (lv L)) := HD.out (k + 1) hm hv.out (.inr (by simpa using hz))
        generalize L.getD k 0 = x at *
        clear hv
        go_wp2
        go_ret
        exact ⟨_, rfl, E.out, rfl⟩
end Go.Proofs.YtdkpiofeidcffaaGreatDoor
namespace Go.Proofs.YtdkpiofeidcffaaGreatDoor
open Go.RowKit
set_option linter.unusedVariables false
set_option maxRecDepth 100000
theorem len_cmp (X Y : List Int) (hX : NCan X) (hY : NCan Y) (hl : X.length ≠ Y.length) : cmpI (X.length : Int) (Y.length : Int) = cmpI (lv X) (lv Y) := by
  rcases Nat.lt_or_ge X.length Y.length with c | c
  · rw [cmpI_lt _ _ (by omega), cmpI_lt _ _ (short_less X Y hX.1 hY c)]
  · rw [cmpI_gt _ _ (by omega), cmpI_gt _ _ (short_less Y X hY.1 hX (by omega))]
theorem dig_cmp (X Y : List Int) (p : Nat) (hX : NCan X) (hY : NCan Y) (pX : p < X.length) (pY : p < Y.length) (hd : X.drop (p + 1) = Y.drop (p + 1)) (hne : X.getD p 0 ≠ Y.getD p 0) : cmpI (X.getD p 0) (Y.getD p 0) = cmpI (lv X) (lv Y) := by
  rcases Int.lt_or_gt_of_ne hne with c | c
  · rw [cmpI_lt _ _ c, cmpI_lt _ _ (low_lt X Y p hX.1 hY.1 pX pY hd c)]
  · rw [cmpI_gt _ _ c, cmpI_gt _ _ (low_lt Y X p hY.1 hX.1 pY pX hd.symm c)]
end Go.Proofs.YtdkpiofeidcffaaGreatDoor
namespace Go.Proofs.YtdkpiofeidcffaaGreatDoor
open Go.RowKit
set_option linter.unusedVariables false
set_option maxRecDepth 100000
theorem ninfo8 : (Tryz.prog.info? 5).map (fun i => (i.zero, i.size, i.bytes)) = some (some (.int .u8 0), 1, 1) := by kernel_rfl
theorem nMake (w : World) (n : Nat) (hn : n ≤ 100000) : ∃ w1, (Instr.makeSlice 176 (.int .i64 (n : Int)) (.int .i64 (n : Int))).run Tryz.prog w = .ok (.slice (some ⟨w.heap.size, 0, none⟩) n n) w1 ∧ NRow w1 w.heap.size w.heap.size n (List.replicate n 0) ∧ Below w.heap.size w w1 := by
  obtain ⟨i0, hi, hz0, hz1, hz2⟩ := info_parts ninfo8
  obtain ⟨w1, hrun, hown, hgrow⟩ := run_make_full (P := Tryz.prog) w w.heap.size 176 5 i0 (.int .u8 0) 1 Tryz.underlying176 hi hz0 hz1 .i64 .i64 n (by rw [hz2]; omega) (by unfold maxLen; omega) (Nat.le_refl _)
  refine ⟨w1, hrun, ?_, Below.grown (Below.refl _ _) hgrow (Nat.le_refl _) (fun k hk => by cases hk)⟩
  rw [show (Value.int .u8 0).cells = #[Value.int .u8 0] from rfl, toList_madeCells_one, Nat.mul_one] at hown
  unfold NRow
  simpa using hown
theorem NRow.below1 {w w' : World} {base g n : Nat} {L : List Int} (h : NRow w base g n L) (hb : Below w.heap.size w w') : NRow w' base g n L := h.below hb (Nat.le_refl _)
theorem plus_end (X Y D : List Int) (n : Nat) (c : Int) (hX : Dec X) (hY : Dec Y) (hD : Dec D) (lD : D.length = n) (hn : n = max X.length Y.length + 1) (c0 : 0 ≤ c) (h : lv D + 10 ^ n * c = pv (fun i => X.getD i 0) n + pv (fun i => Y.getD i 0) n) : lv D = lv X + lv Y := by
  rw [pv_all X n (by omega), pv_all Y n (by omega)] at h
  have bX := (lv_bd X hX).2
  have bY := (lv_bd Y hY).2
  have mX := pow_mono X.length (n - 1) (by omega)
  have mY := pow_mono Y.length (n - 1) (by omega)
  have bD := (lv_bd D hD).1
  have e : (10 : Int) ^ n = 10 ^ (n - 1) * 10 := by rw [← Int.pow_succ]; congr 1; omega
  have p0 : (0 : Int) < 10 ^ (n - 1) := Int.pow_pos (by decide)
  have hc : c = 0 := by
    rcases Int.lt_or_le 0 c with q | q
    · exfalso
      have : 10 ^ n * 1 ≤ 10 ^ n * c := Int.mul_le_mul_of_nonneg_left (by omega) (Int.le_of_lt (Int.pow_pos (by decide)))
      omega
    · omega
  rw [hc] at h
  omega
set_option maxHeartbeats 2000000 in
theorem nPlus_any (x y : Value) (a b : Int) (w : World) (hx : NIs w x a) (hy : NIs w y b) (fa : NFit a 1000) (fb : NFit b 1000) :
    Calls Tryz.prog 135 #[x, y] w fun e w' => ∃ u, e = .returned u ∧ NIsF w' w.heap.size u (a + b) ∧ Below w.heap.size w w' := by
  obtain ⟨X, rX, cX, rfl⟩ := hx
  obtain ⟨Y, rY, cY, rfl⟩ := hy
  have lX := ncan_len X 1000 cX fa
  have lY := ncan_len Y 1000 cY fb
  obtain ⟨n, hn⟩ : ∃ n, max X.length Y.length + 1 = n := ⟨_, rfl⟩
  obtain ⟨w1, hrun, hown, hb1⟩ := nMake w n (by omega)
  have HO : Hid (NRow w1 w.heap.size w.heap.size n (List.replicate n 0)) := hown
  have HAX : Hid (∀ p, p ≤ n → ∀ W, Below w.heap.size w W → Calls Tryz.prog 146 #[x, .int .i64 (p : Int)] W fun e w' => e = .returned (.int .u8 (X.getD p 0)) ∧ w' = W) := fun p hp W hW => nAt_any x X p W (rX.below hW (Nat.le_refl _)) (by omega) (by omega)
  have HAY : Hid (∀ p, p ≤ n → ∀ W, Below w.heap.size w W → Calls Tryz.prog 146 #[y, .int .i64 (p : Int)] W fun e w' => e = .returned (.int .u8 (Y.getD p 0)) ∧ w' = W) := fun p hp W hW => nAt_any y Y p W (rY.below hW (Nat.le_refl _)) (by omega) (by omega)
  have HE : Hid (∀ D c, Dec D → D.length = n → 0 ≤ c → lv D + 10 ^ n * c = pv (fun i => X.getD i 0) n + pv (fun i => Y.getD i 0) n → lv D = lv X + lv Y) := fun D c hD lD c0 h => plus_end X Y D n c cX.1 cY.1 hD lD hn.symm c0 h
  have HBX : Hid (∀ p, 0 ≤ X.getD p 0 ∧ X.getD p 0 ≤ 9) := fun p => dec_at X cX.1 p
  have HBY : Hid (∀ p, 0 ≤ Y.getD p 0 ∧ Y.getD p 0 ≤ 9) := fun p => dec_at Y cY.1 p
  obtain ⟨g, cg, rfl, -, -, -⟩ := rX
  obtain ⟨k, ck, rfl, -, -, -⟩ := rY
  have hmx : max (X.length : Int) (Y.length : Int) + 1 = (n : Int) := by omega
  have hn2 : n ≤ 1001 := by omega
  clear cX cY fa fb hown hn
  generalize X.length = lx at *
  generalize Y.length = ly at *
  have hr1 : lx < ly → (Instr.makeSlice 176 (.int .i64 ((ly : Int) + 1)) (.int .i64 ((ly : Int) + 1))).run Tryz.prog w = .ok (.slice (some ⟨w.heap.size, 0, none⟩) n n) w1 := fun h => by
    rw [show (ly : Int) + 1 = n by omega]; exact hrun
  have hr2 : ¬ lx < ly → (Instr.makeSlice 176 (.int .i64 ((lx : Int) + 1)) (.int .i64 ((lx : Int) + 1))).run Tryz.prog w = .ok (.slice (some ⟨w.heap.size, 0, none⟩) n n) w1 := fun h => by
    rw [show (lx : Int) + 1 = n by omega]; exact hrun
  clear hrun hmx
  by_cases hlx : lx < ly
  all_goals first | have hrun := hr1 hlx | have hrun := hr2 hlx
  all_goals clear hr1 hr2
  all_goals
    go_enter Tryz.func135, Tryz.ntmps135
    go_wp2
    go_loopw [6, 19] (fun c i wr => ∃ (j : Nat) (D : List Int) (cv : Int), j ≤ n ∧ c = .int .u8 cv ∧ i = .int .i64 (j : Int) ∧ 0 ≤ cv ∧ cv ≤ 1 ∧ Hid (NRow wr w.heap.size w.heap.size n (D ++ List.replicate (n - j) 0) ∧ D.length = j ∧ Dec D ∧ lv D + 10 ^ j * cv = pv (fun i => X.getD i 0) j + pv (fun i => Y.getD i 0) j) ∧ Below w.heap.size w wr) (fun _ i _ => n - (intOf i).toNat)
    case atStart => exact ⟨0, [], 0, Nat.zero_le _, rfl, rfl, by omega, by omega, ⟨HO.out, rfl, (fun d hd => by cases hd), rfl⟩, hb1⟩
    case round =>
      obtain ⟨j, D, cv, hj, rfl, rfl, c0, c1, HI, hbel⟩ := hrel
      clear hrun HO hb1
      by_cases hlt : j < n
      · have hlt' : (j : Int) < (n : Int) := by omega
        have bx := HBX.out j
        have by' := HBY.out j
        have hAX := HAX.out j hj wr hbel
        have hAY := HAY.out j hj wr hbel
        have HAX' : Hid (Calls Tryz.prog 146 #[.slice (some ⟨g, 0, none⟩) lx cg, .int .i64 (j : Int)] wr fun e w' => e = .returned (.int .u8 (X.getD j 0)) ∧ w' = wr) := hAX
        have HAY' : Hid (Calls Tryz.prog 146 #[.slice (some ⟨k, 0, none⟩) ly ck, .int .i64 (j : Int)] wr fun e w' => e = .returned (.int .u8 (Y.getD j 0)) ∧ w' = wr) := hAY
        clear hAX hAY
        obtain ⟨hR, hl, hD, hv⟩ := HI.out
        have hcell := hR.cell j hlt
        have hf := hR.frozen j
        have HN : Hid (∀ s, s = X.getD j 0 + Y.getD j 0 + cv → NRow (wr.setCell ⟨w.heap.size, j, none⟩ (.int .u8 (s % 10))) w.heap.size w.heap.size n ((D ++ [s % 10]) ++ List.replicate (n - (j + 1)) 0) ∧ (D ++ [s % 10]).length = j + 1 ∧ Dec (D ++ [s % 10]) ∧ lv (D ++ [s % 10]) + 10 ^ (j + 1) * (s / 10) = pv (fun i => X.getD i 0) (j + 1) + pv (fun i => Y.getD i 0) (j + 1)) := fun s hs => by
          refine ⟨?_, by simp [hl], nd_snoc D _ hD (by omega) (by omega), ?_⟩
          · rw [← fill_set D n j (s % 10) hl hlt]
            exact hR.set j (s % 10)
          · rw [col_step D j _ cv s (X.getD j 0 + Y.getD j 0) hl hv hs]
            simp only [pv, Int.mul_comm (10 ^ j), Int.add_mul]
            omega
        clear hR hl hD hv HI
        generalize (D ++ List.replicate (n - j) 0).getD j 0 = o at *
        generalize X.getD j 0 = xj at *
        generalize Y.getD j 0 = yj at *
        have ht : Int.tmod (xj + yj + cv) 10 = (xj + yj + cv) % 10 := Int.tmod_eq_emod_of_nonneg (by omega)
        have hq : Int.tdiv (xj + yj + cv) 10 = (xj + yj + cv) / 10 := Int.tdiv_eq_ediv_of_nonneg (by omega)
        have hr0 : 0 ≤ (xj + yj + cv) % 10 := by omega
        have hr1 : (xj + yj + cv) % 10 < 10 := by omega
        have hq0 : 0 ≤ (xj + yj + cv) / 10 := by omega
        have hq1 : (xj + yj + cv) / 10 ≤ 1 := by omega
        go_wp2_with fail
        refine HAX'.out.mono ?_
        rintro e w2 ⟨rfl, rfl⟩
        go_wp2_with fail
        refine HAY'.out.mono ?_
        rintro e w3 ⟨rfl, hw3⟩
        obtain rfl := hw3
        go_wp2
        go_roundw
        case rel => exact ⟨j + 1, D ++ [(xj + yj + cv) % 10], (xj + yj + cv) / 10, by omega, rfl, by go_num, hq0, hq1, HN.out _ rfl, hbel.setCell (Nat.le_refl _) _⟩
        case measure => simp [intOf]; omega
      · have e : j = n := by omega
        subst e
        obtain ⟨hR, hl, hD, hv⟩ := HI.out
        rw [Nat.sub_self, List.replicate_zero, List.append_nil] at hR
        have HT : Hid (Calls Tryz.prog 147 #[.slice (some ⟨w.heap.size, 0, none⟩) j j] wr fun e w' => ∃ u, e = .returned u ∧ NIsF wr w.heap.size u (lv X + lv Y) ∧ w' = wr) := by
          have := nTrim_any _ D wr w.heap.size hR.rd ⟨_, _, _, rfl, Nat.le_refl _⟩ hD (by omega)
          rw [HE.out D cv hD hl c0 hv] at this
          exact this
        clear hR hl hD hv HI
        go_wp2_with fail
        refine HT.out.mono ?_
        rintro e w2 ⟨u, rfl, hu, rfl⟩
        have HU : Hid (NIsF w2 w.heap.size u (lv X + lv Y)) := hu
        clear hu
        go_wp2
        go_ret
        exact ⟨u, rfl, HU.out, hbel⟩
end Go.Proofs.YtdkpiofeidcffaaGreatDoor
namespace Go.Proofs.YtdkpiofeidcffaaGreatDoor
open Go.RowKit
set_option linter.unusedVariables false
set_option maxRecDepth 100000
theorem minus_end (X Y D : List Int) (n : Nat) (c : Int) (hX : NCan X) (hY : NCan Y) (hD : Dec D) (lD : D.length = n) (hn : n = X.length) (hle : lv Y ≤ lv X) (c0 : 0 ≤ c) (h : lv D + 10 ^ n * (-c) = pv (fun i => X.getD i 0) n - pv (fun i => Y.getD i 0) n) : lv D = lv X - lv Y := by
  have hl : Y.length ≤ X.length := by
    rcases Nat.lt_or_ge X.length Y.length with q | q
    · have := short_less X Y hX.1 hY q; omega
    · exact q
  rw [pv_all X n (by omega), pv_all Y n (by omega)] at h
  have bD := (lv_bd D hD).2
  rw [lD] at bD
  have hc : c = 0 := by
    rcases Int.lt_or_le 0 c with q | q
    · exfalso
      have : 10 ^ n * 1 ≤ 10 ^ n * c := Int.mul_le_mul_of_nonneg_left (by omega) (Int.le_of_lt (Int.pow_pos (by decide)))
      rw [Int.mul_neg] at h
      omega
    · omega
  rw [hc] at h
  omega
/-- A row of bytes of one's own, as long as it is, with the digits of a slice behind it. -/
theorem wpList_napp {w : World} {ops : Array Oper} {rest : List Oper} {o : Oper} {a : Act} {Q : Exit → Act → World → Prop} (hgd : o.guard = none) (s x : Operand)
    (ho : o.op = .call { callee := .builtin .append, args := #[s, x], argTypes := #[176, 176] }) (vd vs : Value) (hs : a.eval s = vd) (hx : a.eval x = vs)
    (base : Nat) (X Y : List Int) (hX : w.ownsRow base 5 1 vd X.length (X.map (Value.int .u8))) (hnil : vd ≠ .slice none 0 0) (hown0 : ∀ k, vd.ownBlock = some k → base ≤ k) (hY : NRd w vs Y) (hlen : X.length + Y.length ≤ 1000000) (hbase : base ≤ w.heap.size)
    (h : ∀ v' w', Hid (NRd w' v' (X ++ Y) ∧ NAt base v') → Hid (∀ B w0, Below B w0 w → B ≤ base → Below B w0 w') → wpList Tryz.prog ops Q rest (a.put o.dst v') w') : wpList Tryz.prog ops Q (o :: rest) a w := by
  obtain ⟨i0, hi, hz0, hz1, hz2⟩ := info_parts ninfo8
  obtain ⟨g, cap, rfl, hcp, hl, hc⟩ := hY
  refine wpList_append_own (P := Tryz.prog) w hgd s x 176 ho base 5 i0 (.int .u8 0) 1 1 Tryz.underlying176 hi hz0 hz1 hz2 rfl (by decide) vd X.length (X.map (Value.int .u8)) hs hX ⟨g, 0, none⟩ Y.length cap (Y.map (Value.int .u8)) hx (by simp) (fun j u hu => ?_) (fun u hu => ?_) (by unfold maxLen; omega) (by omega) hbase ?_
  · have hj : j < Y.length := by
      have := (List.getElem?_eq_some_iff.1 hu).1
      simpa using this
    rw [show (⟨g, 0, none⟩ : Addr).add j = ⟨g, j, none⟩ by unfold Addr.add; split <;> simp_all, hc j hj, ← hu]
    simp [List.getD, List.getElem?_eq_getElem hj]
  · obtain ⟨y, -, rfl⟩ := List.mem_map.1 hu
    rfl
  · intro v' w' hown hgrow hn
    refine h v' w' ?_ (fun B w0 hB hle => Below.grown hB hgrow (Nat.le_trans hle hbase) (fun k hk => Nat.le_trans hle (hown0 k hk)))
    have h0 := hown
    obtain ⟨hl', h'⟩ := hown
    rcases h' with ⟨e, _⟩ | ⟨g', cap', cur, rfl, hg', hc', hn', hm', hs', ht'⟩
    · exact absurd (hn.1 e).1 hnil
    · refine ⟨⟨g', cap', by rw [List.length_append], by rw [List.length_append]; exact hn', (Array.getElem?_eq_some_iff.1 hc').1, fun i hi => ?_⟩, g', _, _, rfl, hg'⟩
      rw [World.ownsRow.cellAt h0 i (by rw [List.length_append] at hi; omega), ← List.map_append, List.getElem?_map]
      simp only [List.getD, List.getElem?_eq_getElem hi]
      rfl
theorem one8 (w : World) (x : Int) : (w.alloc (.cells #[.int .u8 x] 5)).ownsRow w.heap.size 5 1 (.slice (some ⟨w.heap.size, 0, none⟩) 1 1) [x].length ([x].map (Value.int .u8)) :=
  World.ownsRow_lit (base := w.heap.size) (e := 5) (size := 1) w #[.int .u8 x] 1 (Nat.le_refl _) (by decide) (by simp)
end Go.Proofs.YtdkpiofeidcffaaGreatDoor
namespace Go.Proofs.YtdkpiofeidcffaaGreatDoor
open Go.RowKit
set_option linter.unusedVariables false
set_option maxRecDepth 100000
theorem rev_take (ds : List Int) (k : Nat) (hk : k < ds.length) : ds.reverse.take (k + 1) = ds.reverse.take k ++ [ds.getD (ds.length - 1 - k) 0] := by
  rw [List.take_succ_eq_append_getElem (by simpa using hk)]
  congr 2
  rw [List.getElem_reverse]
  simp [List.getD, show ds.length - 1 - k < ds.length by omega]
set_option maxHeartbeats 2000000 in
theorem nOf_any (ds : List Int) (w : World) (hd : Dec ds) (hl : ds.length ≤ 1000) :
    Calls Tryz.prog 145 #[.string (tx ds)] w fun e w' => ∃ u, e = .returned u ∧ NIsF w' w.heap.size u (vl ds) ∧ Below w.heap.size w w' := by
  obtain ⟨n, hn⟩ : ∃ n, ds.length = n := ⟨_, rfl⟩
  have hz : (tx ds).size = n := by rw [tx_size, hn]
  obtain ⟨w1, hrun, hown, hb1⟩ := nMake w n (by omega)
  have HO : Hid (NRow w1 w.heap.size w.heap.size n (List.replicate n 0)) := hown
  have HB : Hid (∀ k (hk : k < (tx ds).size), (((tx ds)[k]'hk).toNat : Int) = 48 + ds.getD k 0 ∧ 0 ≤ ds.getD k 0 ∧ ds.getD k 0 ≤ 9) := fun k hk => ⟨tx_at ds hd k hk, dec_at ds hd k⟩
  have HS : Hid (∀ k, k < n → ds.reverse.take (k + 1) = ds.reverse.take k ++ [ds.getD (n - 1 - k) 0]) := fun k hk => by
    rw [← hn] at hk ⊢; exact rev_take ds k hk
  have HL : Hid (∀ k, k ≤ n → (ds.reverse.take k).length = k) := fun k hk => by simp; omega
  have HT : Hid (∀ v W, NRd W v (ds.reverse.take n) → NAt w.heap.size v → Calls Tryz.prog 147 #[v] W fun e w' => ∃ u, e = .returned u ∧ NIsF W w.heap.size u (vl ds) ∧ w' = W) := fun v W hv ha => by
    rw [List.take_of_length_le (by simp; omega)] at hv
    exact nTrim_any v ds.reverse W w.heap.size hv ha (dec_rev ds hd) (by simp; omega)
  have hn1 : n ≤ 1000 := by omega
  generalize tx ds = S at *
  have hrun' : (Instr.makeSlice 176 (.int .i64 (S.size : Int)) (.int .i64 (S.size : Int))).run Tryz.prog w = .ok (.slice (some ⟨w.heap.size, 0, none⟩) n n) w1 := by rw [hz]; exact hrun
  have HZ : Hid (S.size = n) := hz
  have hz1 : S.size ≤ 1000 := by omega
  clear hown hd hrun hz hl hn
  go_enter Tryz.func145, Tryz.ntmps145
  go_wp2
  go_loopw [10] (fun i wr => ∃ k : Nat, k ≤ n ∧ i = .int .i64 (k : Int) ∧ Hid (NRow wr w.heap.size w.heap.size n (ds.reverse.take k ++ List.replicate (n - k) 0)) ∧ Below w.heap.size w wr) (fun i _ => n - (intOf i).toNat)
  case atStart => exact ⟨0, Nat.zero_le _, rfl, HO, hb1⟩
  case round =>
    obtain ⟨k, hk, rfl, HR, hbel⟩ := hrel
    clear hrun' HO hb1
    by_cases hlt : k < n
    · have hz := HZ.out
      have hlt' : (k : Int) < (S.size : Int) := by omega
      have hlt2 : (k : Int) < (n : Int) := by omega
      obtain ⟨p, hp⟩ : ∃ p, n - 1 - k = p := ⟨_, rfl⟩
      have ep : (S.size : Int) - 1 - (k : Int) = (p : Int) := by omega
      have hp1 : p < S.size := by omega
      have hp2 : (p : Int) < (S.size : Int) := by omega
      obtain ⟨hb, d0, d9⟩ := HB.out p hp1
      have hw : IntKind.u8.wrap (((S[p]'hp1).toNat : Int) - 48) = ds.getD p 0 := by
        rw [hb, show 48 + ds.getD p 0 - 48 = ds.getD p 0 by omega, IntKind.wrap_u8]; omega
      have hcell := HR.out.cell k hlt
      have hf := HR.out.frozen k
      have HN : Hid (NRow (wr.setCell ⟨w.heap.size, k, none⟩ (.int .u8 (ds.getD p 0))) w.heap.size w.heap.size n (ds.reverse.take (k + 1) ++ List.replicate (n - (k + 1)) 0)) := by
        have := HR.out.set k (ds.getD p 0)
        rw [fill_set _ n k _ (HL.out k hk) hlt, ← hp, ← HS.out k hlt] at this
        rw [hp] at this
        exact this
      clear hb hz hp
      generalize (ds.reverse.take k ++ List.replicate (n - k) 0).getD k 0 = o at *
      generalize ds.getD p 0 = d at *
      go_wp2
      go_roundw
      case rel => exact ⟨k + 1, by omega, by go_num, HN, hbel.setCell (Nat.le_refl _) _⟩
      case measure => simp [intOf]; omega
    · have e : k = n := by omega
      subst e
      have hz := HZ.out
      have hlt' : ¬ (k : Int) < (S.size : Int) := by omega
      have HT' : Hid (Calls Tryz.prog 147 #[.slice (some ⟨w.heap.size, 0, none⟩) k k] wr fun e w' => ∃ u, e = .returned u ∧ NIsF wr w.heap.size u (vl ds) ∧ w' = wr) := by
        have := HR.out
        rw [Nat.sub_self, List.replicate_zero, List.append_nil] at this
        exact HT.out _ _ this.rd ⟨_, _, _, rfl, Nat.le_refl _⟩
      clear hz
      go_wp2_with fail
      refine HT'.out.mono ?_
      rintro e w2 ⟨u, rfl, hu, rfl⟩
      have HU : Hid (NIsF w2 w.heap.size u (vl ds)) := hu
      clear hu
      go_wp2
      go_ret
      exact ⟨u, rfl, HU.out, hbel⟩
theorem ninfoB (w : World) (n : Nat) (hn : n ≤ 100000) : ∃ w1, (Instr.makeSlice 22 (.int .i64 (n : Int)) (.int .i64 (n : Int))).run Tryz.prog w = .ok (.slice (some ⟨w.heap.size, 0, none⟩) n n) w1 ∧ NRow w1 w.heap.size w.heap.size n (List.replicate n 0) ∧ Below w.heap.size w w1 := by
  obtain ⟨i0, hi, hz0, hz1, hz2⟩ := info_parts ninfo8
  obtain ⟨w1, hrun, hown, hgrow⟩ := run_make_full (P := Tryz.prog) w w.heap.size 22 5 i0 (.int .u8 0) 1 Tryz.underlying22 hi hz0 hz1 .i64 .i64 n (by rw [hz2]; omega) (by unfold maxLen; omega) (Nat.le_refl _)
  refine ⟨w1, hrun, ?_, Below.grown (Below.refl _ _) hgrow (Nat.le_refl _) (fun k hk => by cases hk)⟩
  rw [show (Value.int .u8 0).cells = #[Value.int .u8 0] from rfl, toList_madeCells_one, Nat.mul_one] at hown
  unfold NRow
  simpa using hown
theorem ntext_of (w : World) (base g n : Nat) (L : List Int) (h : NRow w base g n ((L.reverse).map (48 + ·))) (hl : L.length = n) :
    (convert 22 9 (.slice (some ⟨g, 0, none⟩) n n)).run Tryz.prog w = .ok (.string (tx L.reverse)) w := by
  have := run_convert_bytes_arg (P := Tryz.prog) w 22 5 Tryz.underlying22 Tryz.underlying5 g 0 n n (L.reverse.map (48 + ·)) (by simp [hl]) (fun i hi => by
      rw [Nat.zero_add]
      exact h.cell i hi)
  exact this 9 Tryz.underlying9
theorem text_take (L : List Int) (k : Nat) (hk : k < L.length) : ((L.take (k + 1)).reverse).map (48 + ·) = (48 + L.getD k 0) :: ((L.take k).reverse).map (48 + ·) := by
  rw [List.take_succ_eq_append_getElem hk, List.reverse_append, List.map_append]
  simp only [List.reverse_cons, List.reverse_nil, List.nil_append, List.map_cons, List.map_nil, List.getD, List.getElem?_eq_getElem hk, Option.getD_some, List.cons_append]
set_option maxHeartbeats 2000000 in
theorem nText_any (x : Value) (a : Int) (w : World) (hx : NIs w x a) (fa : NFit a 500) :
    Calls Tryz.prog 136 #[x] w fun e w' => e = .returned (.string (fitS (nt a))) ∧ Below w.heap.size w w' := by
  obtain ⟨X, ⟨g, cap, rfl, hcp, hgl, hcx⟩, cX, rfl⟩ := hx
  have lX := ncan_len X 500 cX fa
  by_cases h0 : X = []
  · subst h0
    have E : Hid (fitS (nt (lv [])) = { data := #[48] }) := by
      show fitS (nt 0) = _
      rw [nt_nought]; rfl
    rw [E.out]
    clear hcx cX fa
    go_enter Tryz.func136, Tryz.ntmps136
    go_wp2
    go_ret
    exact ⟨rfl, Below.refl _ _⟩
  · have hp : 0 < X.length := List.length_pos_iff.2 h0
    have hp' : ((X.length : Int) == 0) = false := beq_eq_false_iff_ne.2 (by omega)
    have en := ncan_nt X cX h0 lX
    have eln : (nt (lv X)).length = X.length := by rw [← en, List.length_reverse]
    by_cases hlong : X.length ≤ 200
    · have E : Hid (fitS (nt (lv X)) = tx X.reverse) := by show fitS (nt (lv X)) = _; unfold fitS; rw [eln, if_pos hlong, ← en]
      rw [E.out]
      obtain ⟨n, hn⟩ : ∃ n, X.length = n := ⟨_, rfl⟩
      obtain ⟨w1, hrun, hown, hb1⟩ := ninfoB w n (by omega)
      have HO : Hid (NRow w1 w.heap.size w.heap.size n (List.replicate n 0 ++ ((X.take 0).reverse).map (48 + ·))) := by
        show NRow _ _ _ _ _
        rw [List.take_zero]; simpa using hown
      have HC : Hid (∀ i, i < n → w.cell? ⟨g, i, none⟩ = some (.int .u8 (X.getD i 0))) := by rw [hn] at hcx; exact hcx
      have HB : Hid (∀ i, 0 ≤ X.getD i 0 ∧ X.getD i 0 ≤ 9) := fun i => dec_at X cX.1 i
      have HS : Hid (∀ k, k < n → (List.replicate (n - k) 0 ++ ((X.take k).reverse).map (48 + ·)).set (n - 1 - k) (48 + X.getD k 0) = List.replicate (n - (k + 1)) 0 ++ ((X.take (k + 1)).reverse).map (48 + ·)) := fun k hk => by
        rw [fill_set_back _ n k _ (by simp; omega) hk, text_take X k (by omega)]
      have HT : Hid (∀ W, NRow W w.heap.size w.heap.size n (List.replicate (n - n) 0 ++ ((X.take n).reverse).map (48 + ·)) → (convert 22 9 (.slice (some ⟨w.heap.size, 0, none⟩) n n)).run Tryz.prog W = .ok (.string (tx X.reverse)) W) := fun W hW => by
        rw [Nat.sub_self, List.replicate_zero, List.nil_append, List.take_of_length_le (by omega)] at hW
        exact ntext_of W w.heap.size w.heap.size n X hW hn
      rw [hn] at hp hp' hlong hcp ⊢
      have hlong' : ¬ (200 : Int) < (n : Int) := by omega
      generalize tx X.reverse = T at *
      clear hcx cX fa en eln E lX hown h0
      go_enter Tryz.func136, Tryz.ntmps136
      go_wp2
      go_loopw [18] (fun i wr => ∃ k : Nat, k ≤ n ∧ i = .int .i64 (k : Int) ∧ Hid (NRow wr w.heap.size w.heap.size n (List.replicate (n - k) 0 ++ ((X.take k).reverse).map (48 + ·))) ∧ Below w.heap.size w wr) (fun i _ => n - (intOf i).toNat)
      case atStart => exact ⟨0, Nat.zero_le _, rfl, HO, hb1⟩
      case round =>
        obtain ⟨k, hk, rfl, HR, hbel⟩ := hrel
        clear hrun HO hb1
        by_cases hlt : k < n
        · have hlt' : (k : Int) < (n : Int) := by omega
          obtain ⟨p, hp⟩ : ∃ p, n - 1 - k = p := ⟨_, rfl⟩
          have ep : (n : Int) - 1 - (k : Int) = (p : Int) := by omega
          have hpn : p < n := by omega
          have hpn' : (p : Int) < (n : Int) := by omega
          have hcx := (hbel.cell (p := ⟨g, k, none⟩) hgl).trans (HC.out k hlt)
          have hb := HB.out k
          have hcell := HR.out.cell p hpn
          have hf := HR.out.frozen p
          have HN : Hid (NRow (wr.setCell ⟨w.heap.size, p, none⟩ (.int .u8 (48 + X.getD k 0))) w.heap.size w.heap.size n (List.replicate (n - (k + 1)) 0 ++ ((X.take (k + 1)).reverse).map (48 + ·))) := by
            have := HR.out.set p (48 + X.getD k 0)
            rw [← hp, HS.out k hlt] at this
            rw [hp] at this
            exact this
          clear hp
          generalize (List.replicate (n - k) 0 ++ ((X.take k).reverse).map (48 + ·)).getD p 0 = o at *
          generalize X.getD k 0 = d at *
          go_wp2
          go_roundw
          case rel => exact ⟨k + 1, by omega, by go_num, HN, hbel.setCell (Nat.le_refl _) _⟩
          case measure => simp [intOf]; omega
        · have e : k = n := by omega
          subst e
          have hcv := HT.out wr HR.out
          clear HT
          go_wp2
          go_ret
          exact ⟨rfl, hbel⟩
    · have E : Hid (fitS (nt (lv X)) = { data := #[] }) := by show fitS (nt (lv X)) = _; unfold fitS; rw [eln, if_neg hlong]
      rw [E.out]
      have hlong' : (200 : Int) < (X.length : Int) := by omega
      clear hcx cX fa en eln E
      generalize X.length = n at *
      go_enter Tryz.func136, Tryz.ntmps136
      go_wp2
      go_ret
      exact ⟨rfl, Below.refl _ _⟩
end Go.Proofs.YtdkpiofeidcffaaGreatDoor
namespace Go.Proofs.YtdkpiofeidcffaaGreatDoor
open Go.RowKit
set_option linter.unusedVariables false
set_option maxRecDepth 100000
theorem times_in (P : List Int) (i j : Nat) (A xi yj c s V : Int) (hk : i + j < P.length) (h : lv P + 10 ^ (i + j) * c = A + 10 ^ i * xi * V) (hs : s = P.getD (i + j) 0 + xi * yj + c) :
    lv (P.set (i + j) (s % 10)) + 10 ^ (i + (j + 1)) * (s / 10) = A + 10 ^ i * xi * (V + yj * 10 ^ j) := by
  rw [nl_set P (i + j) _ hk, show i + (j + 1) = i + j + 1 by omega, Int.pow_succ]
  have hr : s = s % 10 + 10 * (s / 10) := by omega
  rw [Int.pow_add] at h ⊢
  generalize s % 10 = r at *
  generalize s / 10 = u at *
  generalize (10 : Int) ^ i = p at *
  generalize (10 : Int) ^ j = q at *
  generalize P.getD (i + j) 0 = K at *
  grind
theorem times_out (P X Y : List Int) (i : Nat) (c : Int) (hi : i < X.length) (hk : i + Y.length < P.length) (hz : P.getD (i + Y.length) 0 = 0) (h : lv P + 10 ^ (i + Y.length) * c = lv (X.take i) * lv Y + 10 ^ i * X.getD i 0 * pv (fun i => Y.getD i 0) Y.length) :
    lv (P.set (i + Y.length) c) = lv (X.take (i + 1)) * lv Y := by
  rw [nl_set P _ _ hk, hz, lv_take1 X i hi]
  rw [pv_all Y Y.length (Nat.le_refl _)] at h
  generalize (10 : Int) ^ (i + Y.length) = p at *
  grind
theorem getD_set_ne (P : List Int) (k q : Nat) (d : Int) (h : k ≠ q) : (P.set k d).getD q 0 = P.getD q 0 := by
  simp [List.getD, List.getElem?_set_ne h]
theorem replicate_at (n q : Nat) : (List.replicate n (0 : Int)).getD q 0 = 0 := by
  simp only [List.getD, List.getElem?_replicate]
  split <;> rfl
/-- What holds behind i rows and j columns of the next one. -/
def TI (w wr : World) (N : Nat) (X Y : List Int) (i j : Nat) (c : Int) : Prop :=
  ∃ P, NRow wr w.heap.size w.heap.size N P ∧ Dec P ∧ (∀ q, i + Y.length ≤ q → P.getD q 0 = 0) ∧ lv P + 10 ^ (i + j) * c = lv (X.take i) * lv Y + 10 ^ i * X.getD i 0 * pv (fun i => Y.getD i 0) j
theorem TI.first {w wr : World} {N : Nat} {X Y : List Int} {i : Nat} {P : List Int} (hR : NRow wr w.heap.size w.heap.size N P) (hD : Dec P) (hz : ∀ q, i + Y.length ≤ q → P.getD q 0 = 0) (hv : lv P = lv (X.take i) * lv Y) : TI w wr N X Y i 0 0 :=
  ⟨P, hR, hD, hz, by rw [hv]; simp [pv]⟩
theorem lv_sum_bd (xi yj k c : Int) (a0 : 0 ≤ xi) (a9 : xi ≤ 9) (b0 : 0 ≤ yj) (b9 : yj ≤ 9) : 0 ≤ xi * yj ∧ xi * yj ≤ 81 := by
  refine ⟨Int.mul_nonneg a0 b0, ?_⟩
  exact Int.le_trans (Int.mul_le_mul a9 b9 b0 (by decide)) (by decide)
end Go.Proofs.YtdkpiofeidcffaaGreatDoor
namespace Go.Proofs.YtdkpiofeidcffaaGreatDoor
open Go.RowKit
set_option linter.unusedVariables false
set_option maxRecDepth 100000
theorem NFit.le {a b : Int} {k : Nat} (h : NFit b k) (hl : a ≤ b) : NFit a k := by unfold NFit at *; omega
theorem NFit.mono {a : Int} {k m : Nat} (h : NFit a k) (hl : k ≤ m) : NFit a m := by unfold NFit at *; have := pow_mono k m hl; omega
theorem NFit.ten {a b : Int} {k : Nat} (h : NFit b k) (hl : a < 10 * b) : NFit a (k + 1) := by unfold NFit at *; rw [Int.pow_succ]; omega
theorem nis_none (w : World) : NIsF (w.alloc (.cells #[] 5)) w.heap.size (.slice (some ⟨w.heap.size, 0, none⟩) 0 0) 0 :=
  ⟨⟨[], ⟨w.heap.size, 0, rfl, Nat.le_refl _, by simp, fun i hi => by cases hi⟩, ⟨(fun d hd => by cases hd), .inl rfl⟩, rfl⟩, _, _, _, rfl, Nat.le_refl _⟩
theorem NIs.nn {w : World} {v : Value} {n : Int} (h : NIs w v n) : 0 ≤ n := by
  obtain ⟨L, -, hc, rfl⟩ := h
  exact (lv_bd L hc.1).1
/-- What holds ahead of a place: p digits are still to come, R is left. -/
def NvO (w wr : World) (N : Nat) (X : List Int) (b : Int) (p : Nat) (R : Int) : Prop :=
  ∃ Q, NRow wr w.heap.size w.heap.size N Q ∧ Dec Q ∧ (∀ t, t < p → Q.getD t 0 = 0) ∧ b * lv Q + 10 ^ p * R + lv (X.take p) = lv X
/-- What holds at a place. -/
def NvN (w wr : World) (N : Nat) (X : List Int) (b : Int) (p : Nat) (S R : Int) : Prop :=
  ∃ Q, NRow wr w.heap.size w.heap.size N Q ∧ Dec Q ∧ (∀ t, t < p → Q.getD t 0 = 0) ∧ b * lv Q + 10 ^ p * R + lv (X.take p) = lv X ∧ Q.getD p 0 * b + R = S
theorem NvO.below {w wr w' : World} {N : Nat} {X : List Int} {b : Int} {p : Nat} {R : Int} (h : NvO w wr N X b p R) (hb : Below wr.heap.size wr w') : NvO w w' N X b p R := by
  obtain ⟨Q, hR, r⟩ := h
  exact ⟨Q, hR.below hb (Nat.le_refl _), r⟩
theorem NvN.below {w wr w' : World} {N : Nat} {X : List Int} {b : Int} {p : Nat} {S R : Int} (h : NvN w wr N X b p S R) (hb : Below wr.heap.size wr w') : NvN w w' N X b p S R := by
  obtain ⟨Q, hR, r⟩ := h
  exact ⟨Q, hR.below hb (Nat.le_refl _), r⟩
theorem NvO.start {w wr : World} {N : Nat} {X : List Int} {b : Int} (h : NRow wr w.heap.size w.heap.size N (List.replicate N 0)) (hX : X.length = N) : NvO w wr N X b N 0 :=
  ⟨_, h, dec_noughts N, fun t _ => replicate_at N t, by rw [lv_noughts, List.take_of_length_le (by omega)]; simp⟩
theorem NvO.into {w wr : World} {N : Nat} {X : List Int} {b : Int} {p : Nat} {R : Int} (h : NvO w wr N X b (p + 1) R) (hp : p < X.length) : NvN w wr N X b p (10 * R + X.getD p 0) (10 * R + X.getD p 0) := by
  obtain ⟨Q, hR, hD, hz, hv⟩ := h
  refine ⟨Q, hR, hD, fun t ht => hz t (by omega), ?_, by rw [hz p (by omega)]; omega⟩
  rw [lv_take1 X p hp, Int.pow_succ] at hv
  rw [← hv]
  generalize (10 : Int) ^ p = e
  grind
theorem NvN.out {w wr : World} {N : Nat} {X : List Int} {b : Int} {p : Nat} {S R : Int} (h : NvN w wr N X b p S R) : NvO w wr N X b p R := by
  obtain ⟨Q, hR, hD, hz, hv, -⟩ := h
  exact ⟨Q, hR, hD, hz, hv⟩
theorem NvN.low {b S R q : Int} (hS : S < 10 * b) (hb : 0 < b) (hge : b ≤ R) (h : q * b + R = S) : q ≤ 8 := by
  rcases Int.lt_or_le 8 q with c | c
  · exfalso
    have : 9 * b ≤ q * b := Int.mul_le_mul_of_nonneg_right (by omega) (by omega)
    omega
  · exact c
theorem NvN.step {w wr : World} {N : Nat} {X : List Int} {b : Int} {p : Nat} {S R : Int} (h : NvN w wr N X b p S R) (hp : p < N) (hS : S < 10 * b) (hb : 0 < b) (hge : b ≤ R) :
    ∃ q, wr.cell? ⟨w.heap.size, p, none⟩ = some (.int .u8 q) ∧ 0 ≤ q ∧ q ≤ 8 ∧ wr.frozen? ⟨w.heap.size, p, none⟩ = false ∧ NvN w (wr.setCell ⟨w.heap.size, p, none⟩ (.int .u8 (q + 1))) N X b p S (R - b) := by
  obtain ⟨Q, hR, hD, hz, hv, hs⟩ := h
  have hlen := hR.len
  have h8 := NvN.low hS hb hge hs
  have hd := dec_at Q hD p
  refine ⟨Q.getD p 0, hR.cell p hp, hd.1, h8, hR.frozen p, Q.set p (Q.getD p 0 + 1), hR.set p _, nd_set Q p _ hD (by omega) (by omega), fun t ht => ?_, ?_, ?_⟩
  · rw [getD_set_ne _ _ _ _ (by omega)]; exact hz t ht
  · rw [nl_set Q p _ (by omega), ← hv]
    generalize (10 : Int) ^ p = e
    grind
  · have e : (Q.set p (Q.getD p 0 + 1)).getD p 0 = Q.getD p 0 + 1 := by
      simp [List.getD, show p < Q.length by omega]
    rw [e, ← hs]
    grind
theorem NvO.fin {w wr : World} {N : Nat} {X : List Int} {b : Int} {R : Int} (h : NvO w wr N X b 0 R) (hb : 0 < b) (r0 : 0 ≤ R) (r1 : R < b) : ∃ Q, NRow wr w.heap.size w.heap.size N Q ∧ Dec Q ∧ lv Q = lv X / b ∧ R = lv X % b := by
  obtain ⟨Q, hR, hD, -, hv⟩ := h
  rw [Int.pow_zero, List.take_zero, Int.one_mul, show lv [] = 0 from rfl, Int.add_zero] at hv
  refine ⟨Q, hR, hD, ?_, ?_⟩
  · rw [← hv, Int.mul_add_ediv_left _ _ (by omega), Int.ediv_eq_zero_of_lt r0 r1]; omega
  · rw [← hv, Int.mul_add_emod_self_left, Int.emod_eq_of_lt r0 r1]
end Go.Proofs.YtdkpiofeidcffaaGreatDoor
namespace Go.Proofs.YtdkpiofeidcffaaGreatDoor
open Go.RowKit
set_option linter.unusedVariables false
set_option maxRecDepth 100000
theorem lv_takeN (L : List Int) (p : Nat) : lv (L.take (p + 1)) = lv (L.take p) + 10 ^ p * L.getD p 0 := by
  rcases Nat.lt_or_ge p L.length with c | c
  · exact lv_take1 L p c
  · rw [List.take_of_length_le (by omega), List.take_of_length_le c]
    simp [List.getD, List.getElem?_eq_none c]
theorem NFit.big {R z : Int} {k : Nat} (h : NFit R k) (hz : z ≤ 1000 * (R + 1)) : NFit z (k + 4) := by
  unfold NFit at *
  have p0 : (0 : Int) < 10 ^ k := Int.pow_pos (by decide)
  rw [show (10 : Int) ^ (k + 4) = 10 ^ k * 10000 by rw [Int.pow_add]; rfl]
  omega
/-- What holds where t pairs are still to come. -/
def RI (X : List Int) (t : Nat) (S R : Int) : Prop := 0 ≤ S ∧ 0 ≤ R ∧ R ≤ 2 * S ∧ 10 ^ (2 * t) * (S * S + R) + lv (X.take (2 * t)) = lv X
theorem RI.start (X : List Int) (t : Nat) (h : X.length ≤ 2 * t) : RI X t 0 0 := ⟨by decide, by decide, by decide, by rw [List.take_of_length_le h]; simp⟩
theorem RI.small {X : List Int} {t : Nat} {S R : Int} (h : RI X t S R) (hX : Dec X) (k : Nat) (hf : NFit (lv X) k) : NFit S k ∧ NFit R k := by
  obtain ⟨h0, h1, h2, h3⟩ := h
  have p0 : (0 : Int) < 10 ^ (2 * t) := Int.pow_pos (by decide)
  have t0 := (lv_bd (X.take (2 * t)) (dec_take X _ hX)).1
  have q0 : 0 ≤ S * S := Int.mul_nonneg h0 h0
  have m : 1 * (S * S + R) ≤ 10 ^ (2 * t) * (S * S + R) := Int.mul_le_mul_of_nonneg_right (by omega) (by omega)
  have s : S ≤ S * S := by
    rcases Int.lt_or_le 0 S with c | c
    · have : S * 1 ≤ S * S := Int.mul_le_mul_of_nonneg_left (by omega) h0
      omega
    · omega
  unfold NFit at *
  exact ⟨by omega, by omega⟩
theorem RI.next {X : List Int} {t : Nat} {S R T d : Int} (h : RI X (t + 1) S R) (t0 : 0 ≤ T) (d0 : 0 ≤ d) (hT : T + (20 * S + d) * d = 100 * R + 10 * X.getD (2 * t + 1) 0 + X.getD (2 * t) 0) (hlt : T < 20 * S + 2 * d + 1) : RI X t (10 * S + d) T := by
  obtain ⟨h0, h1, h2, h3⟩ := h
  refine ⟨by omega, t0, by omega, ?_⟩
  rw [show 2 * (t + 1) = 2 * t + 1 + 1 by omega, lv_takeN, lv_takeN, Int.pow_succ, Int.pow_succ] at h3
  rw [← h3]
  generalize (10 : Int) ^ (2 * t) = e at *
  generalize X.getD (2 * t + 1) 0 = x1 at *
  generalize X.getD (2 * t) 0 = x0 at *
  grind
theorem RI.digit {S R T d x1 x0 : Int} (r2 : R ≤ 2 * S) (s0 : 0 ≤ S) (a : x1 ≤ 9) (b : x0 ≤ 9) (d0 : 0 ≤ d) (d9 : d ≤ 9) (hT : T + (20 * S + d) * d = 100 * R + 10 * x1 + x0) (hge : 20 * S + 2 * d + 1 ≤ T) : d ≤ 8 := by
  rcases Int.lt_or_le 8 d with c | c
  · exfalso
    have e : d = 9 := by omega
    subst e
    omega
  · exact c
theorem nis_one (w : World) (d : Int) (h : 1 ≤ d) (h9 : d ≤ 9) : NIs (w.alloc (.cells #[.int .u8 d] 5)) (.slice (some ⟨w.heap.size, 0, none⟩) 1 1) d := by
  refine ⟨[d], ⟨w.heap.size, 1, rfl, Nat.le_refl _, by simp, fun i hi => ?_⟩, ⟨(fun x hx => by simp at hx; omega), .inr (by simp; omega)⟩, by simp [lv]⟩
  have e : i = 0 := by simp at hi; exact hi
  subst e
  simp
end Go.Proofs.YtdkpiofeidcffaaGreatDoor
namespace Go.Proofs.YtdkpiofeidcffaaGreatDoor
open Go.RowKit
set_option linter.unusedVariables false
set_option maxRecDepth 100000
set_option maxHeartbeats 4000000 in
theorem iNat_any (s : ByteArray) (n : Int) (w : World) (hs : s.size ≤ 4611686018427387904) :
    Calls Tryz.prog 73 #[.string s, .int .i64 n] w fun e w' => e = .returned (.bool (natB n s)) ∧ w' = w := by
  by_cases hA : s.size < 1
  · have E : Hid (natB n s = false) := natB_empty n s hA
    have h1 : (s.size : Int) = 0 := by omega
    clear hA
    go_enter Tryz.func73, Tryz.ntmps73
    go_wp2
    go_ret
    exact ⟨Ln.ret_bool E.out.symm, rfl⟩
  have h1 : ((s.size : Int) == 0) = false := beq_eq_false_iff_ne.2 (by omega)
  have h0 : 0 < s.size := by omega
  by_cases hB : n < (s.size : Int)
  · have E : Hid (natB n s = false) := natB_long n s hB
    go_enter Tryz.func73, Tryz.ntmps73
    go_wp2
    go_ret
    exact ⟨Ln.ret_bool E.out.symm, rfl⟩
  have h2' : decide (n < (s.size : Int)) = false := by simpa using hB
  have HG : Hid ((∀ k (hk : k < s.size), 48 ≤ (s[k]'hk).toNat ∧ (s[k]'hk).toNat ≤ 57) → (s.size ≤ 1 ∨ (s[0]'h0).toNat ≠ 48) → natB n s = true) := fun h hc => natB_good n s h0 (by omega) hc h
  have HZ : Hid (1 < s.size → (s[0]'h0).toNat = 48 → natB n s = false) := fun h hz => natB_zero n s h hz
  have HB : Hid (∀ k (hk : k < s.size), ((s[k]'hk).toNat < 48 ∨ 57 < (s[k]'hk).toNat) → natB n s = false) := fun k hk h => natB_bad n s k hk h
  clear hA hB
  generalize natB n s = r at *
  go_enter Tryz.func73, Tryz.ntmps73
  go_wp2
  go_loop [17] (fun i => ∃ k : Nat, k ≤ s.size ∧ i = .int .i64 k ∧ Hid (∀ q (hq : q < s.size), q < k → 48 ≤ (s[q]'hq).toNat ∧ (s[q]'hq).toNat ≤ 57)) (fun i => s.size - (intOf i).toNat)
  case atStart => exact ⟨0, Nat.zero_le _, rfl, fun q hq h => absurd h (Nat.not_lt_zero q)⟩
  case round =>
    obtain ⟨k, hk, rfl, hz⟩ := hrel
    by_cases hlt : k < s.size
    · have hlt' : (k : Int) < (s.size : Int) := by omega
      by_cases hlo : (s[k]'hlt).toNat < 48
      · have hl' : ((s[k]'hlt).toNat : Int) < 48 := by omega
        go_wp2
        go_ret
        exact ⟨Ln.ret_bool (HB.out k hlt (.inl hlo)).symm, rfl⟩
      · have hl' : ¬ ((s[k]'hlt).toNat : Int) < 48 := by omega
        have hl'' : decide (((s[k]'hlt).toNat : Int) < 48) = false := decide_eq_false hl'
        by_cases hhi : 57 < (s[k]'hlt).toNat
        · have hh' : (57 : Int) < ((s[k]'hlt).toNat : Int) := by omega
          go_wp2
          go_ret
          exact ⟨Ln.ret_bool (HB.out k hlt (.inr hhi)).symm, rfl⟩
        · have hh' : ¬ (57 : Int) < ((s[k]'hlt).toNat : Int) := by omega
          go_wp2
          go_round
          case rel => exact ⟨k + 1, by omega, by go_num, fun q hq h => by rcases Nat.lt_or_ge q k with c | c; exact hz.out q hq c; obtain rfl : q = k := (by omega); omega⟩
          case measure => simp [intOf]; omega
    · have hkk : ¬ (k : Int) < (s.size : Int) := by omega
      have HA : Hid (∀ q (hq : q < s.size), 48 ≤ (s[q]'hq).toNat ∧ (s[q]'hq).toNat ≤ 57) := fun q hq => hz.out q hq (by omega)
      clear hz
      by_cases h3 : s.size ≤ 1
      · have h3' : (s.size : Int) = 1 := by omega
        have E : Hid (r = true) := HG.out HA.out (.inl h3)
        clear h3
        go_wp2
        go_ret
        exact ⟨Ln.ret_bool E.out.symm, rfl⟩
      · have h3' : ((s.size : Int) == 1) = false := beq_eq_false_iff_ne.2 (by omega)
        by_cases h4 : (s[0]'h0).toNat = 48
        · have h4' : ((s[0]'h0).toNat : Int) = 48 := by omega
          have E : Hid (r = false) := HZ.out (by omega) h4
          clear h4
          go_wp2
          go_ret
          exact ⟨Ln.ret_bool E.out.symm, rfl⟩
        · have h4' : (((s[0]'h0).toNat : Int) == 48) = false := beq_eq_false_iff_ne.2 (by omega)
          have E : Hid (r = true) := HG.out HA.out (.inr h4)
          have h4'' : Hid ((((s[0]'h0).toNat : Int) != 48) = true) := by show _ = _; rw [bne, h4']; rfl
          go_wp2
          go_ret
          exact ⟨Ln.ret_bool (by rw [h4''.out, E.out]), rfl⟩
theorem iNatOk_any (s : ByteArray) (w : World) (hs : s.size ≤ 4611686018427387904) :
    Calls Tryz.prog 62 #[.string s] w fun e w' => e = .returned (.bool (natB 200 s)) ∧ w' = w := by
  go_enter Tryz.func62, Tryz.ntmps62
  go_wp2_with fail
  refine (iNat_any s 200 _ hs).mono ?_
  rintro e w' ⟨rfl, rfl⟩
  go_wp2
  go_ret
  exact ⟨rfl, rfl⟩
theorem nv_fit (s : ByteArray) (h : natB 200 s = true) : NFit (nv s) 200 := (nv_bd 200 s h).2
theorem nt_len (n : Int) (k : Nat) (h0 : 0 ≤ n) (hf : NFit n k) (hk : 1 ≤ k) (hk5 : k ≤ 500) : (nt n).length ≤ k := by
  have hf5 : NFit n 500 := by unfold NFit at *; have := pow_mono k 500 hk5; omega
  obtain ⟨hc, hv⟩ := nt_spec n h0 hf5
  rcases Nat.lt_or_ge k (nt n).length with c | c
  · exfalso
    have l := canon_low (nt n) hc (by omega)
    have m := pow_mono k ((nt n).length - 1) (by omega)
    unfold NFit at hf
    omega
  · exact c
theorem fit_nt (n : Int) (h0 : 0 ≤ n) (hf : NFit n 200) : fitS (nt n) = tx (nt n) := by
  unfold fitS; rw [if_pos (nt_len n 200 h0 hf (by decide) (by decide))]
theorem nOf_text (s : ByteArray) (w : World) (h : natB 200 s = true) :
    Calls Tryz.prog 145 #[.string s] w fun e w' => ∃ u, e = .returned u ∧ NIsF w' w.heap.size u (nv s) ∧ Below w.heap.size w w' := by
  obtain ⟨hc, hl, e⟩ := natB_dl 200 s h
  have := nOf_any (dl s) w hc.1 (by omega)
  rw [← e] at this
  exact this
theorem nsOf_no (s t : ByteArray) (w : World) (hs : s.size ≤ 4611686018427387904) (ht : t.size ≤ 4611686018427387904) (h : ok2 s t = false) :
    Calls Tryz.prog 134 #[.string s, .string t] w fun e w' => e = .returned (.tuple #[.slice none 0 0, .slice none 0 0, .bool false]) ∧ Below w.heap.size w w' := by
  rcases ok2_no h with h1 | ⟨h1, h2⟩
  · have H1 : Hid (natB 200 s = false) := h1
    clear h h1
    go_enter Tryz.func134, Tryz.ntmps134
    go_wp2_with fail
    refine (iNatOk_any s _ hs).mono ?_
    rintro e w' ⟨rfl, rfl⟩
    rw [H1.out]
    go_wp2
    refine bodyPost_ret (results_tmp3 rfl _ _ _) rfl ?_
    exact ⟨rfl, Below.refl _ _⟩
  · have H1 : Hid (natB 200 s = true ∧ natB 200 t = false) := ⟨h1, h2⟩
    clear h h1 h2
    go_enter Tryz.func134, Tryz.ntmps134
    go_wp2_with fail
    refine (iNatOk_any s _ hs).mono ?_
    rintro e w' ⟨rfl, rfl⟩
    rw [H1.out.1]
    go_wp2_with fail
    refine (iNatOk_any t _ ht).mono ?_
    rintro e w' ⟨rfl, rfl⟩
    rw [H1.out.2]
    go_wp2
    refine bodyPost_ret (results_tmp3 rfl _ _ _) rfl ?_
    exact ⟨rfl, Below.refl _ _⟩
theorem nsOf_yes (s t : ByteArray) (w : World) (hs : s.size ≤ 4611686018427387904) (ht : t.size ≤ 4611686018427387904) (h : ok2 s t = true) :
    Calls Tryz.prog 134 #[.string s, .string t] w fun e w' => ∃ u v, e = .returned (.tuple #[u, v, .bool true]) ∧ NIs w' u (nv s) ∧ NIs w' v (nv t) ∧ Below w.heap.size w w' := by
  obtain ⟨h1, h2⟩ := ok2_yes h
  have H1 : Hid (natB 200 s = true ∧ natB 200 t = true) := ⟨h1, h2⟩
  clear h h1 h2
  go_enter Tryz.func134, Tryz.ntmps134
  go_wp2_with fail
  refine (iNatOk_any s _ hs).mono ?_
  rintro e w' ⟨rfl, rfl⟩
  rw [H1.out.1]
  go_wp2_with fail
  refine (iNatOk_any t _ ht).mono ?_
  rintro e w' ⟨rfl, rfl⟩
  rw [H1.out.2]
  go_wp2_with fail
  refine (nOf_text s _ H1.out.1).mono ?_
  rintro e w1 ⟨u, rfl, hu, hb1⟩
  have HU : Hid (NIs w1 u (nv s)) := hu.1
  clear hu
  go_wp2_with fail
  refine (nOf_text t _ H1.out.2).mono ?_
  rintro e w2 ⟨v, rfl, hv, hb2⟩
  have HV : Hid (NIs w2 v (nv t)) := hv.1
  have HU2 : Hid (NIs w2 u (nv s)) := HU.out.below hb2 (Nat.le_refl _)
  have HB : Hid (Below w'.heap.size w' w2) := hb1.trans (hb2.mono hb1.size)
  clear hv hb1 hb2 HU
  go_wp2
  refine bodyPost_ret (results_tmp3 rfl _ _ _) rfl ?_
  exact ⟨u, v, rfl, HU2.out, HV.out, HB.out⟩
theorem fit_add (a b : Int) (ha : NFit a 200) (hb : NFit b 200) : NFit (a + b) 500 := by
  unfold NFit at *
  have h1 := pow_mono 201 500 (by decide)
  have h2 : (10 : Int) ^ 201 = 10 ^ 200 * 10 := Int.pow_succ 10 200
  have p0 : (0 : Int) < 10 ^ 200 := Int.pow_pos (by decide)
  generalize (10 : Int) ^ 200 = e at *
  generalize (10 : Int) ^ 201 = f at *
  generalize (10 : Int) ^ 500 = g at *
  omega
theorem fit_mul (a b : Int) (ha : NFit a 200) (hb : NFit b 200) (a0 : 0 ≤ a) (b0 : 0 ≤ b) : NFit (a * b) 500 := by
  unfold NFit at *
  have h1 := pow_mono 400 500 (by decide)
  have h2 : (10 : Int) ^ 400 = 10 ^ 200 * 10 ^ 200 := Int.pow_add 10 200 200
  have p0 : (0 : Int) < 10 ^ 200 := Int.pow_pos (by decide)
  generalize (10 : Int) ^ 200 = e at *
  generalize (10 : Int) ^ 400 = f at *
  generalize (10 : Int) ^ 500 = g at *
  have h3 : a * b ≤ a * e := Int.mul_le_mul_of_nonneg_left (Int.le_of_lt hb) a0
  have h4 : a * e < e * e := Int.mul_lt_mul_of_pos_right ha p0
  omega
theorem iNatAdd_any (s t : ByteArray) (w : World) (hs : s.size ≤ 4611686018427387904) (ht : t.size ≤ 4611686018427387904) :
    Calls Tryz.prog 123 #[.string s, .string t] w fun e w' => e = .returned (.string (addS s t)) ∧ Below w.heap.size w w' := by
  cases h : ok2 s t with
  | false =>
    have HE : Hid (addS s t = { data := #[] }) := by unfold addS; rw [h]; rfl
    rw [HE.out]
    have HC : Hid (∀ W, Calls Tryz.prog 134 #[.string s, .string t] W fun e w' => e = .returned (.tuple #[.slice none 0 0, .slice none 0 0, .bool false]) ∧ Below W.heap.size W w') := fun W => nsOf_no s t W hs ht h
    clear h
    go_enter Tryz.func123, Tryz.ntmps123
    go_wp2_with fail
    refine (HC.out _).mono ?_
    rintro e w1 ⟨rfl, hb1⟩
    have HB : Hid (Below w.heap.size w w1) := hb1
    clear hb1
    go_wp2
    go_ret
    exact ⟨rfl, HB.out⟩
  | true =>
    obtain ⟨h1, h2⟩ := ok2_yes h
    have fs := nv_fit s h1
    have ft := nv_fit t h2
    have ns := (nv_bd 200 s h1).1
    have nt' := (nv_bd 200 t h2).1
    have HC : Hid (∀ W, Calls Tryz.prog 134 #[.string s, .string t] W fun e w' => ∃ u v, e = .returned (.tuple #[u, v, .bool true]) ∧ NIs w' u (nv s) ∧ NIs w' v (nv t) ∧ Below W.heap.size W w') := fun W => nsOf_yes s t W hs ht h
    have HE : Hid (addS s t = fitS (nt (nv s + nv t))) := by show addS s t = _; unfold addS; rw [h, if_pos rfl]
    rw [HE.out]
    have FS : Hid (NFit (nv s) 1000 ∧ NFit (nv t) 1000) := ⟨by unfold NFit at *; have := pow_mono 200 1000 (by decide); omega, by unfold NFit at *; have := pow_mono 200 1000 (by decide); omega⟩
    have FO : Hid (NFit (nv s + nv t) 500) := fit_add _ _ fs ft
    clear fs ft ns nt'
    clear h h1 h2
    go_enter Tryz.func123, Tryz.ntmps123
    go_wp2_with fail
    refine (HC.out _).mono ?_
    rintro e w1 ⟨u, v, rfl, hu, hv, hb1⟩
    have HU : Hid (NIs w1 u (nv s)) := hu
    have HV : Hid (NIs w1 v (nv t)) := hv
    clear hu hv
    go_wp2_with fail
    refine (nPlus_any _ _ _ _ _ HU.out HV.out FS.out.1 FS.out.2).mono ?_
    rintro e w2 ⟨x, rfl, hx, hb2⟩
    have HX : Hid (NIs w2 x (nv s + nv t)) := hx.1
    have hb12 : Below w.heap.size w w2 := hb1.trans (hb2.mono hb1.size)
    clear hb1 hb2 hx HU HV
    go_wp2_with fail
    refine (nText_any _ _ _ HX.out FO.out).mono ?_
    rintro e w3 ⟨rfl, hb3⟩
    have HB : Hid (Below w.heap.size w w3) := hb12.trans (hb3.mono hb12.size)
    clear hb12 hb3
    go_wp2
    go_ret
    exact ⟨rfl, HB.out⟩
/-- Each number has a root, and what is left. -/
theorem root_is (n : Nat) : ∃ S R : Int, S * S + R = (n : Int) ∧ 0 ≤ S ∧ 0 ≤ R ∧ R ≤ 2 * S := by
  induction n with
  | zero => exact ⟨0, 0, by decide, by decide, by decide, by decide⟩
  | succ n ih =>
    obtain ⟨S, R, h1, h2, h3, h4⟩ := ih
    by_cases h : R + 1 ≤ 2 * S
    · exact ⟨S, R + 1, by omega, h2, by omega, h⟩
    · refine ⟨S + 1, 0, ?_, by omega, by decide, by omega⟩
      have e : (S + 1) * (S + 1) = S * S + 2 * S + 1 := by rw [Int.add_mul, Int.mul_add]; omega
      omega
theorem fit_shift (a : Int) (n : Nat) (ha : NFit a 200) (hn : n ≤ 200) : NFit (a * 10 ^ n) 500 := by
  unfold NFit at *
  have h1 := pow_mono (200 + n) 500 (by omega)
  rw [Int.pow_add] at h1
  have p0 : (0 : Int) < 10 ^ n := Int.pow_pos (by decide)
  have h4 : a * 10 ^ n < 10 ^ 200 * 10 ^ n := Int.mul_lt_mul_of_pos_right ha p0
  exact Int.lt_of_lt_of_le h4 h1
end Go.Proofs.YtdkpiofeidcffaaGreatDoor
