/-
  Plain facts on decimal texts: digits high first as a text, their value, and that a value has one text without noughts ahead.
-/
import Derived.WalkKit
import Derived.Laws.BytesArg
namespace Go.Proofs.YteofommckgeemaaGreatDoor
set_option linter.unusedVariables false
set_option maxRecDepth 100000
/-- The text of a list of digits. -/
def tx (ds : List Int) : ByteArray := strOfNums (ds.map (48 + ·))
/-- Digits alone. -/
def Dec (ds : List Int) : Prop := ∀ d ∈ ds, 0 ≤ d ∧ d ≤ 9
theorem tx_data (ds : List Int) : (tx ds).data = (ds.map fun d => UInt8.ofNat (48 + d).toNat).toArray := by
  unfold tx strOfNums; simp
theorem tx_size (ds : List Int) : (tx ds).size = ds.length := by
  show (tx ds).data.size = _
  rw [tx_data]; simp
theorem dec_at (ds : List Int) (h : Dec ds) (k : Nat) : 0 ≤ ds.getD k 0 ∧ ds.getD k 0 ≤ 9 := by
  rcases Nat.lt_or_ge k ds.length with hk | hk
  · simp only [List.getD, List.getElem?_eq_getElem hk, Option.getD_some]
    exact h _ (List.getElem_mem hk)
  · simp [List.getD, List.getElem?_eq_none hk]
theorem tx_at (ds : List Int) (h : Dec ds) (k : Nat) (hk : k < (tx ds).size) : (((tx ds)[k]'hk).toNat : Int) = 48 + ds.getD k 0 := by
  have hk' : k < ds.length := by rw [tx_size] at hk; exact hk
  have e : (tx ds)[k]'hk = UInt8.ofNat (48 + ds[k]).toNat := by
    show (tx ds).data[k]'_ = _
    simp [tx_data]
  have b := dec_at ds h k
  rw [e]
  simp only [List.getD, List.getElem?_eq_getElem hk', Option.getD_some] at b ⊢
  rw [UInt8.toNat_ofNat']
  omega
theorem tx_tail (d : Int) (r : List Int) : (tx (d :: r)).extract 1 (tx (d :: r)).size = tx r := by
  apply ByteArray.ext
  rw [ByteArray.data_extract]
  rw [tx_size, tx_data, tx_data]
  simp
  exact List.take_of_length_le (by simp)
theorem tx_append (a b : List Int) : tx a ++ tx b = tx (a ++ b) := by
  apply ByteArray.ext
  rw [ByteArray.data_append, tx_data, tx_data, tx_data]
  simp
/-- Noughts ahead are struck, but for a last one. -/
def strip : List Int → List Int
  | [] => []
  | [d] => [d]
  | d :: e :: r => if d = 0 then strip (e :: r) else d :: e :: r
/-- The value of digits, the low one first. -/
def lv : List Int → Int
  | [] => 0
  | d :: r => d + 10 * lv r
/-- The value of digits, the high one first. -/
def vl (ds : List Int) : Int := lv ds.reverse
theorem lv_append (a b : List Int) : lv (a ++ b) = lv a + 10 ^ a.length * lv b := by
  induction a with
  | nil => simp [lv]
  | cons d r ih =>
    simp only [List.cons_append, lv, ih, List.length_cons, Int.pow_succ]
    rw [Int.mul_add, Int.add_assoc, Int.mul_comm (10 ^ r.length) 10, Int.mul_assoc]
theorem lv_bd (a : List Int) (h : Dec a) : 0 ≤ lv a ∧ lv a < 10 ^ a.length := by
  induction a with
  | nil => exact ⟨Int.le_refl _, by decide⟩
  | cons d r ih =>
    have i := ih (fun x hx => h x (List.mem_cons_of_mem _ hx))
    have b := h d List.mem_cons_self
    simp only [lv, List.length_cons, Int.pow_succ]
    omega
theorem lv_unique (a b : List Int) (ha : Dec a) (hb : Dec b) (hl : a.length = b.length) (h : lv a = lv b) : a = b := by
  induction a generalizing b with
  | nil => cases b with
    | nil => rfl
    | cons => cases hl
  | cons d r ih => cases b with
    | nil => cases hl
    | cons e s =>
      have bd := ha d List.mem_cons_self
      have be := hb e List.mem_cons_self
      simp only [lv] at h
      have e1 : d = e := by omega
      have e2 : lv r = lv s := by omega
      rw [e1, ih s (fun x hx => ha x (List.mem_cons_of_mem _ hx)) (fun x hx => hb x (List.mem_cons_of_mem _ hx)) (by simpa using hl) e2]
/-- A text without noughts ahead. -/
def Canon (ds : List Int) : Prop := Dec ds ∧ 0 < ds.length ∧ (ds.length = 1 ∨ ds.headD 0 ≠ 0)
theorem dec_rev (ds : List Int) (h : Dec ds) : Dec ds.reverse := fun d hd => h d (by simpa using hd)
theorem vl_bd (ds : List Int) (h : Dec ds) : 0 ≤ vl ds ∧ vl ds < 10 ^ ds.length := by
  have := lv_bd ds.reverse (dec_rev ds h); rw [List.length_reverse] at this; exact this
theorem vl_cons (d : Int) (r : List Int) : vl (d :: r) = vl r + 10 ^ r.length * d := by
  unfold vl; rw [List.reverse_cons, lv_append, List.length_reverse]; simp [lv]
theorem canon_low (ds : List Int) (h : Canon ds) (hl : 1 < ds.length) : 10 ^ (ds.length - 1) ≤ vl ds := by
  obtain ⟨hd, _, hh⟩ := h
  match ds, hl with
  | d :: e :: r, _ =>
    have b := hd d List.mem_cons_self
    have v := vl_bd (e :: r) (fun x hx => hd x (List.mem_cons_of_mem _ hx))
    rcases hh with hh | hh
    · simp at hh
    · simp only [List.headD_cons] at hh
      rw [vl_cons]
      simp only [List.length_cons, Nat.add_sub_cancel] at v ⊢
      have p : (0 : Int) < 10 ^ (r.length + 1) := Int.pow_pos (by decide)
      have : 10 ^ (r.length + 1) * 1 ≤ 10 ^ (r.length + 1) * d := Int.mul_le_mul_of_nonneg_left (by omega) (Int.le_of_lt p)
      omega
theorem pow_mono (a b : Nat) (h : a ≤ b) : (10 : Int) ^ a ≤ 10 ^ b := by
  rcases Nat.lt_or_ge a b with c | c
  · exact Int.le_of_lt (Int.pow_lt_pow_of_lt (by decide) c)
  · rw [show a = b by omega]; exact Int.le_refl _
theorem canon_len (a b : List Int) (ha : Canon a) (hb : Canon b) (h : vl a = vl b) : a.length ≤ b.length := by
  rcases Nat.lt_or_ge b.length a.length with c | c
  · exfalso
    have l := canon_low a ha (by have := hb.2.1; omega)
    have u := (vl_bd b hb.1).2
    have m := pow_mono b.length (a.length - 1) (by omega)
    omega
  · exact c
/-- A value has one text. -/
theorem canon_unique (a b : List Int) (ha : Canon a) (hb : Canon b) (h : vl a = vl b) : a = b := by
  have l1 := canon_len a b ha hb h
  have l2 := canon_len b a hb ha h.symm
  have := lv_unique a.reverse b.reverse (dec_rev a ha.1) (dec_rev b hb.1) (by simp; omega) h
  simpa using congrArg List.reverse this
theorem strip_len (ds : List Int) : (strip ds).length ≤ ds.length := by
  induction ds with
  | nil => simp [strip]
  | cons d r ih => cases r with
    | nil => simp [strip]
    | cons e s =>
      simp only [strip]
      split
      · exact Nat.le_trans ih (by simp)
      · simp
theorem strip_canon (ds : List Int) (h : Dec ds) (hp : 0 < ds.length) : Canon (strip ds) := by
  induction ds with
  | nil => cases hp
  | cons d r ih => cases r with
    | nil => exact ⟨h, by simp [strip], .inl (by simp [strip])⟩
    | cons e s =>
      simp only [strip]
      split
      · exact ih (fun x hx => h x (List.mem_cons_of_mem _ hx)) (by simp)
      · rename_i hd
        exact ⟨h, by simp, .inr (by simpa using hd)⟩
theorem strip_vl (ds : List Int) : vl (strip ds) = vl ds := by
  induction ds with
  | nil => rfl
  | cons d r ih => cases r with
    | nil => rfl
    | cons e s =>
      simp only [strip]
      split
      · rename_i hd
        rw [ih, vl_cons d, hd]; omega
      · rfl
/-- The digit at a place from the end; 0 ahead of them. -/
def lo (ds : List Int) (i : Nat) : Int := ds.reverse.getD i 0
/-- What the j low places make. -/
def pv (f : Nat → Int) : Nat → Int
  | 0 => 0
  | j + 1 => pv f j + f j * 10 ^ j
theorem pv_take (L : List Int) (j : Nat) (hj : j ≤ L.length) : pv (fun i => L.getD i 0) j = lv (L.take j) := by
  induction j with
  | zero => rfl
  | succ j ih =>
    rw [List.take_succ_eq_append_getElem (by omega), lv_append]
    simp only [pv]
    rw [ih (by omega)]
    have : (L.take j).length = j := by rw [List.length_take]; omega
    rw [this]
    simp only [lv, List.getD, List.getElem?_eq_getElem (show j < L.length by omega), Option.getD_some]
    rw [Int.mul_comm, Int.mul_zero, Int.add_zero]
theorem pv_past (f : Nat → Int) (n j : Nat) (hn : n ≤ j) (h : ∀ i, n ≤ i → f i = 0) : pv f j = pv f n := by
  induction j with
  | zero => rw [show n = 0 by omega]
  | succ j ih =>
    rcases Nat.lt_or_ge j n with c | c
    · rw [show n = j + 1 by omega]
    · simp only [pv]; rw [h j c, ih c]; omega
theorem vl_snoc (ds : List Int) (d : Int) : vl (ds ++ [d]) = vl ds * 10 + d := by
  unfold vl; rw [List.reverse_append]; simp [lv]; omega
theorem vl_noughts (ds : List Int) (n : Nat) : vl (ds ++ List.replicate n 0) = vl ds * 10 ^ n := by
  induction n with
  | zero => simp
  | succ n ih =>
    rw [List.replicate_succ', ← List.append_assoc, vl_snoc, ih, Int.pow_succ, Int.mul_assoc]; omega
theorem canon_noughts (ds : List Int) (n : Nat) (h : Canon ds) (hz : ds ≠ [0]) : Canon (ds ++ List.replicate n 0) := by
  obtain ⟨hd, hp, hh⟩ := h
  match ds, hp with
  | d :: r, _ =>
    refine ⟨fun x hx => ?_, by simp, ?_⟩
    · rcases List.mem_append.1 hx with hx | hx
      · exact hd x hx
      · have := (List.mem_replicate.1 hx).2; omega
    · rcases hh with hh | hh
      · cases r with
        | nil => exact .inr (by simp; intro e; exact hz (by rw [e]))
        | cons => simp at hh
      · exact .inr (by simpa using hh)
theorem vl_rev (D : List Int) : vl D.reverse = lv D := by unfold vl; rw [List.reverse_reverse]
theorem tx_list (ds : List Int) : (tx ds).toList = ds.map fun d => UInt8.ofNat (48 + d).toNat := by
  rw [ByteArray.toList_eq, tx_data]
theorem byte_inj (a b : Int) (ha : 0 ≤ a ∧ a ≤ 9) (hb : 0 ≤ b ∧ b ≤ 9) (h : UInt8.ofNat (48 + a).toNat = UInt8.ofNat (48 + b).toNat) : a = b := by
  have := congrArg UInt8.toNat h
  rw [UInt8.toNat_ofNat', UInt8.toNat_ofNat'] at this
  omega
theorem tx_inj (a b : List Int) (ha : Dec a) (hb : Dec b) (h : (tx a).toList = (tx b).toList) : a = b := by
  rw [tx_list, tx_list] at h
  induction a generalizing b with
  | nil => cases b with
    | nil => rfl
    | cons => simp at h
  | cons d r ih => cases b with
    | nil => simp at h
    | cons e s =>
      simp only [List.map_cons, List.cons.injEq] at h
      rw [byte_inj d e (ha d List.mem_cons_self) (hb e List.mem_cons_self) h.1, ih s (fun x hx => ha x (List.mem_cons_of_mem _ hx)) (fun x hx => hb x (List.mem_cons_of_mem _ hx)) h.2]
theorem tx_zero : (tx [0]).toList = [48] := by rw [tx_list]; rfl
theorem tx_is0 (a : List Int) (ha : Dec a) (h : a ≠ [0]) : ((tx a).toList == [48]) = false := by
  rw [← tx_zero]
  exact beq_eq_false_iff_ne.2 (fun e => h (tx_inj a [0] ha (fun d hd => by simp at hd; omega) e))
theorem canon_zero : Canon [0] := ⟨fun d hd => by simp at hd; omega, by decide, .inl rfl⟩
theorem canon_one (d : Int) (h0 : 0 ≤ d) (h9 : d ≤ 9) : Canon [d] := ⟨fun x hx => by simp at hx; omega, by simp, .inl rfl⟩
end Go.Proofs.YteofommckgeemaaGreatDoor
