/-
  Plain facts: digits low first, without a nought at the high end, as the program's naturals hold them.
-/
import Derived.Test.YtjgnhlldehgieaeDoorNtM
import Derived.Test.YtjgnhlldehgieaeDoorTxtN
namespace Go.Proofs.YtjgnhlldehgieaeDoor
set_option linter.unusedVariables false
set_option maxRecDepth 100000
/-- Digits low first, no nought at the high end. -/
def NCan (L : List Int) : Prop := Dec L ∧ (L = [] ∨ L.getD (L.length - 1) 0 ≠ 0)
/-- Below ten to the k. -/
def NFit (n : Int) (k : Nat) : Prop := n < 10 ^ k
theorem lv_split (L : List Int) (p : Nat) (hp : p < L.length) : lv L = lv (L.take p) + 10 ^ p * (L.getD p 0 + 10 * lv (L.drop (p + 1))) := by
  have e : L = L.take p ++ (L[p] :: L.drop (p + 1)) := by
    rw [← List.drop_eq_getElem_cons hp, List.take_append_drop]
  have hl : (L.take p).length = p := by rw [List.length_take]; omega
  have h1 := lv_append (L.take p) (L[p] :: L.drop (p + 1))
  rw [← e, hl] at h1
  rw [h1]
  simp [lv, List.getD, hp]
theorem lv_take1 (L : List Int) (p : Nat) (hp : p < L.length) : lv (L.take (p + 1)) = lv (L.take p) + 10 ^ p * L.getD p 0 := by
  have hl : (L.take p).length = p := by rw [List.length_take]; omega
  rw [List.take_succ_eq_append_getElem hp, lv_append, hl]
  simp [lv, List.getD, hp]
theorem nl_set (L : List Int) (p : Nat) (d : Int) (hp : p < L.length) : lv (L.set p d) = lv L + 10 ^ p * (d - L.getD p 0) := by
  have hs := lv_split L p hp
  have hs2 := lv_split (L.set p d) p (by simpa using hp)
  rw [List.take_set_of_le (by omega), List.drop_set_of_lt (by omega)] at hs2
  have e : (L.set p d).getD p 0 = d := by simp [List.getD, hp]
  rw [e] at hs2
  rw [hs2, hs]
  simp only [Int.mul_add, Int.mul_sub]
  omega
theorem nd_set (L : List Int) (p : Nat) (d : Int) (h : Dec L) (h0 : 0 ≤ d) (h9 : d ≤ 9) : Dec (L.set p d) := fun x hx => by
  rcases List.mem_or_eq_of_mem_set hx with c | c
  · exact h x c
  · omega
theorem dec_take (L : List Int) (p : Nat) (h : Dec L) : Dec (L.take p) := fun x hx => h x (List.mem_of_mem_take hx)
theorem dec_noughts (n : Nat) : Dec (List.replicate n 0) := fun x hx => by
  have := (List.mem_replicate.1 hx).2; omega
theorem nd_snoc (L : List Int) (d : Int) (h : Dec L) (h0 : 0 ≤ d) (h9 : d ≤ 9) : Dec (L ++ [d]) := fun x hx => by
  rcases List.mem_append.1 hx with c | c
  · exact h x c
  · simp at c; omega
theorem dec_app (L M : List Int) (h : Dec L) (hM : Dec M) : Dec (L ++ M) := fun x hx => by
  rcases List.mem_append.1 hx with c | c
  · exact h x c
  · exact hM x c
theorem lv_noughts (n : Nat) : lv (List.replicate n 0) = 0 := by
  induction n with
  | zero => rfl
  | succ n ih => rw [List.replicate_succ]; simp [lv, ih]
theorem lv_less (L : List Int) (p : Nat) (h : Dec L) (hp : p ≤ L.length) : 0 ≤ lv (L.take p) ∧ lv (L.take p) < 10 ^ p := by
  have b := lv_bd (L.take p) (dec_take L p h)
  rw [List.length_take, Nat.min_eq_left hp] at b
  exact b
theorem ncan_low (L : List Int) (h : NCan L) (hp : 0 < L.length) : 10 ^ (L.length - 1) ≤ lv L := by
  obtain ⟨hd, hz⟩ := h
  have hz : L.getD (L.length - 1) 0 ≠ 0 := by
    rcases hz with c | c
    · rw [c] at hp; simp at hp
    · exact c
  have s := lv_take1 L (L.length - 1) (by omega)
  rw [Nat.sub_add_cancel hp, List.take_length] at s
  have b := (lv_less L (L.length - 1) hd (by omega)).1
  have d := dec_at L hd (L.length - 1)
  have p : (0 : Int) < 10 ^ (L.length - 1) := Int.pow_pos (by decide)
  have : 10 ^ (L.length - 1) * 1 ≤ 10 ^ (L.length - 1) * L.getD (L.length - 1) 0 := Int.mul_le_mul_of_nonneg_left (by omega) (Int.le_of_lt p)
  omega
theorem ncan_len (L : List Int) (k : Nat) (h : NCan L) (hf : NFit (lv L) k) : L.length ≤ k := by
  rcases Nat.lt_or_ge k L.length with c | c
  · exfalso
    have l := ncan_low L h (by omega)
    have m := pow_mono k (L.length - 1) (by omega)
    unfold NFit at hf
    omega
  · exact c
theorem short_less (X Y : List Int) (hX : Dec X) (hY : NCan Y) (hl : X.length < Y.length) : lv X < lv Y := by
  have b := (lv_bd X hX).2
  have l := ncan_low Y hY (by omega)
  have m := pow_mono X.length (Y.length - 1) (by omega)
  omega
theorem low_lt (X Y : List Int) (p : Nat) (hX : Dec X) (hY : Dec Y) (pX : p < X.length) (pY : p < Y.length) (hd : X.drop (p + 1) = Y.drop (p + 1)) (hlt : X.getD p 0 < Y.getD p 0) : lv X < lv Y := by
  rw [lv_split X p pX, lv_split Y p pY, hd]
  have bX := lv_less X p hX (by omega)
  have bY := lv_less Y p hY (by omega)
  have p0 : (0 : Int) < 10 ^ p := Int.pow_pos (by decide)
  have : 10 ^ p * (X.getD p 0 + 1) ≤ 10 ^ p * Y.getD p 0 := Int.mul_le_mul_of_nonneg_left (by omega) (Int.le_of_lt p0)
  simp only [Int.mul_add] at this ⊢
  omega
theorem drop_same (X Y : List Int) (p : Nat) (pX : p < X.length) (pY : p < Y.length) (hd : X.drop (p + 1) = Y.drop (p + 1)) (he : X.getD p 0 = Y.getD p 0) : X.drop p = Y.drop p := by
  rw [List.drop_eq_getElem_cons pX, List.drop_eq_getElem_cons pY, hd]
  simp [List.getD, pX, pY] at he
  rw [he]
theorem ncan_nt (L : List Int) (h : NCan L) (hp : L ≠ []) (hl : L.length ≤ 500) : L.reverse = nt (lv L) := by
  refine nt_of L.reverse _ ⟨dec_rev L h.1, ?_, ?_⟩ (vl_rev L) (by simpa using hl)
  · rw [List.length_reverse]; exact List.length_pos_iff.2 hp
  · refine .inr ?_
    have hq : 0 < L.length := List.length_pos_iff.2 hp
    rcases h.2 with c | c
    · exact absurd c hp
    · intro e
      apply c
      rw [List.headD_eq_head?_getD, List.head?_reverse, List.getLast?_eq_getElem?] at e
      exact e
theorem nt_nought : nt 0 = [0] := (nt_of [0] 0 canon_zero rfl (by decide)).symm
theorem ncan_nought (L : List Int) (h : NCan L) (hv : lv L = 0) : L = [] := by
  rcases Nat.eq_zero_or_pos L.length with c | c
  · exact List.length_eq_zero_iff.1 c
  · have := ncan_low L h c
    have p0 : (0 : Int) < 10 ^ (L.length - 1) := Int.pow_pos (by decide)
    omega
/-- One column more: a digit, and what goes on. -/
theorem col_step (D : List Int) (j : Nat) (V c s x : Int) (hl : D.length = j) (h : lv D + 10 ^ j * c = V) (hs : s = x + c) : lv (D ++ [s % 10]) + 10 ^ (j + 1) * (s / 10) = V + 10 ^ j * x := by
  rw [lv_append, hl]
  simp only [lv, Int.pow_succ]
  have k : ∀ p r q : Int, r + 10 * q = x + c → p * (r + 10 * 0) + p * 10 * q = p * x + p * c := fun p r q hr => by
    rw [Int.mul_zero, Int.add_zero, Int.mul_assoc, ← Int.mul_add, hr, Int.mul_add]
  have k1 := k (10 ^ j) (s % 10) (s / 10) (by omega)
  omega
theorem pv_all (L : List Int) (j : Nat) (hj : L.length ≤ j) : pv (fun i => L.getD i 0) j = lv L := by
  rw [pv_past _ L.length j hj (fun i hi => by simp [List.getD, List.getElem?_eq_none hi]), pv_take L L.length (Nat.le_refl _), List.take_length]
theorem fill_set (D : List Int) (n j : Nat) (d : Int) (hl : D.length = j) (hj : j < n) : (D ++ List.replicate (n - j) 0).set j d = (D ++ [d]) ++ List.replicate (n - (j + 1)) 0 := by
  rw [List.set_append_right _ _ (by omega), hl, Nat.sub_self]
  obtain ⟨m, hm⟩ : ∃ m, n - j = m + 1 := ⟨n - j - 1, by omega⟩
  rw [hm, List.replicate_succ, List.set_cons_zero, show n - (j + 1) = m by omega, List.append_assoc]
  rfl
theorem fill_set_back (D : List Int) (n k : Nat) (d : Int) (hl : D.length = k) (hk : k < n) : (List.replicate (n - k) 0 ++ D).set (n - 1 - k) d = List.replicate (n - (k + 1)) 0 ++ (d :: D) := by
  rw [List.set_append_left _ _ (by simp; omega)]
  have : (List.replicate (n - k) (0 : Int)).set (n - 1 - k) d = List.replicate (n - (k + 1)) 0 ++ [d] := by
    obtain ⟨m, hm⟩ : ∃ m, n - k = m + 1 := ⟨n - k - 1, by omega⟩
    rw [hm, show n - 1 - k = m by omega, show n - (k + 1) = m by omega, List.replicate_succ', List.set_append_right _ _ (by simp), List.length_replicate, Nat.sub_self]
    rfl
  rw [this, List.append_assoc]
  rfl
end Go.Proofs.YtjgnhlldehgieaeDoor
