/-
  The model's way through a text: plain facts.
-/
import Derived.Test.YtdkpiofeidcffaaGreatDoorRnl
namespace Go.Proofs.YtdkpiofeidcffaaGreatDoor
open Go.RowKit
set_option linter.unusedVariables false
set_option maxRecDepth 100000
set_option linter.unusedSimpArgs false
/-- The exponent's digits, all that is left. -/
theorem pExp_all (L D : List Int) (n : Nat) (neg : Bool) (P : List Int) : pExp L D n neg P = if (∀ y ∈ L, dgB y = true) ∧ 1 ≤ P.length + L.length ∧ P.length + L.length ≤ 5 then some (D, n, neg, P ++ L) else none := by
  induction L generalizing P with
  | nil =>
    show pFin [] D n neg P = _
    unfold pFin pEnd
    cases P with
    | nil => rw [if_pos (.inl rfl), if_neg (by simp)]
    | cons x t =>
      by_cases h : 5 < (x :: t).length
      · rw [if_pos (.inr h), if_neg (fun q => by have := q.2.2; simp at this h; omega)]
      · rw [if_neg (fun q => q.elim (fun e => by cases e) h), if_pos rfl, if_pos ⟨(fun y hy => by cases hy), by simp, by simp at h ⊢; omega⟩, List.append_nil]
  | cons y r ih =>
    simp only [pExp]
    cases hd : dgB y with
    | true =>
      rw [if_pos rfl, ih (P ++ [y])]
      have e1 : (P ++ [y]).length + r.length = P.length + (y :: r).length := by simp; omega
      rw [e1]
      by_cases hc : (∀ z ∈ r, dgB z = true) ∧ 1 ≤ P.length + (y :: r).length ∧ P.length + (y :: r).length ≤ 5
      · rw [if_pos hc, if_pos ⟨fun z hz => (List.mem_cons.1 hz).elim (fun e => e ▸ hd) (hc.1 z), hc.2⟩, List.append_assoc, List.singleton_append]
      · rw [if_neg hc, if_neg (fun q => hc ⟨fun z hz => q.1 z (List.mem_cons_of_mem _ hz), q.2⟩)]
    | false =>
      rw [if_neg (by decide), if_neg (fun q => by have := q.1 y List.mem_cons_self; rw [hd] at this; cases this)]
      unfold pFin
      rw [pEnd_cons]
      split <;> rfl
theorem bz_len (l : List UInt8) : (bz l).length = l.length := by unfold bz; rw [List.length_map]
theorem bz_drop (s : ByteArray) (q : Nat) (h : q < s.size) : (bz s.data.toList).drop q = (s[q].toNat : Int) :: (bz s.data.toList).drop (q + 1) := by
  have hl : (bz s.data.toList).length = s.size := by rw [bz_len]; exact Array.length_toList
  rw [List.drop_eq_getElem_cons (by omega)]
  congr 1
  unfold bz
  rw [List.getElem_map]
  rfl
theorem bz_past (s : ByteArray) (q : Nat) (h : ¬ q < s.size) : (bz s.data.toList).drop q = [] := by
  have hl : (bz s.data.toList).length = s.size := by rw [bz_len]; exact Array.length_toList
  exact List.drop_eq_nil_iff.2 (by omega)
theorem bz_more (D : List UInt8) (b : UInt8) : bz (D ++ [b]) = bz D ++ [(b.toNat : Int)] := by unfold bz; rw [List.map_append]; rfl
/-- Where reading stands: ahead of a point, or behind it. -/
def pAt (pt : Bool) (L D : List Int) (n : Nat) : Prt := if pt then pFrc L D n else pWhl L D
theorem pAt_dig (pt : Bool) (y : Int) (r D : List Int) (n : Nat) (h : dgB y = true) : pAt pt (y :: r) D n = pAt pt r (D ++ [y]) (if pt then n + 1 else n) := by
  unfold pAt
  cases pt
  · simp only [pWhl, h, if_true, Bool.false_eq_true, if_false]
  · simp only [pFrc, h, if_true]
theorem pAt_dot (r D : List Int) : pAt false (46 :: r) D 0 = pAt true r D 0 := by
  unfold pAt
  simp only [pWhl, dgB_no (show ¬ ((48 : Int) ≤ 46 ∧ (46 : Int) ≤ 57) by decide), Bool.false_eq_true, if_false, if_true]
theorem pAt_on (pt : Bool) (y : Int) (r D : List Int) (n : Nat) (hn : pt = false → n = 0) (h : dgB y = false) (h2 : ¬ (y = 46 ∧ pt = false)) : pAt pt (y :: r) D n = pMark (y :: r) D n := by
  unfold pAt
  cases pt
  · rw [hn rfl]
    have hy : ¬ y = 46 := fun q => h2 ⟨q, rfl⟩
    simp only [pWhl, h, Bool.false_eq_true, if_false, hy]
  · simp only [pFrc, h, Bool.false_eq_true, if_false, if_true]
theorem pAt_nil (pt : Bool) (D : List Int) (n : Nat) (hn : pt = false → n = 0) : pAt pt [] D n = pMark [] D n := by
  unfold pAt
  cases pt
  · rw [hn rfl]; rfl
  · rfl
theorem pMark_e2 (y : Int) (r D : List Int) (n : Nat) (hD : D ≠ []) (h : y = 69 ∨ y = 101) : pMark (y :: r) D n = pSgn r D n := by
  simp only [pMark, hD, h, if_false, if_true]
theorem pMark_no (y : Int) (r D : List Int) (n : Nat) (h : ¬ (y = 69 ∨ y = 101)) : pMark (y :: r) D n = none := by
  simp only [pMark, h, if_false]
  split
  · rfl
  · exact pEnd_cons _ _ _ _ _ _
theorem pMark_end (D : List Int) (n : Nat) (hD : D ≠ []) : pMark [] D n = some (D, n, false, []) := by
  simp only [pMark, hD, if_false]
  rfl
theorem pSgn_no (y : Int) (r D : List Int) (n : Nat) (h1 : y ≠ 43) (h2 : y ≠ 45) : pSgn (y :: r) D n = pExp (y :: r) D n false [] := by
  simp only [pSgn, h1, h2, if_false]
theorem pSgn_pl (r D : List Int) (n : Nat) : pSgn (43 :: r) D n = pExp r D n false [] := by
  simp only [pSgn, if_true]
theorem pSgn_mi (r D : List Int) (n : Nat) : pSgn (45 :: r) D n = pExp r D n true [] := by
  simp only [pSgn, if_true, show ¬ ((45 : Int) = 43) by decide, if_false]
theorem txz_bytes (D : List UInt8) (h : ∀ y ∈ bz D, 48 ≤ y ∧ y ≤ 57) : (⟨D.toArray⟩ : ByteArray) = tx ((bz D).map (· - 48)) := by
  apply ByteArray.ext
  rw [tx_data]
  apply Array.ext'
  simp only [List.map_map]
  unfold bz
  rw [List.map_map]
  conv => lhs; rw [← List.map_id D]
  apply List.map_congr_left
  intro b hb
  have := h (b.toNat : Int) (List.mem_map.2 ⟨b, hb, rfl⟩)
  show b = UInt8.ofNat (48 + ((b.toNat : Int) - 48)).toNat
  rw [show (48 + ((b.toNat : Int) - 48)).toNat = b.toNat by omega]
  simp
theorem dec_bytes (D : List UInt8) (h : ∀ y ∈ bz D, 48 ≤ y ∧ y ≤ 57) : Dec ((bz D).map (· - 48)) := fun x hx => by
  obtain ⟨y, hy, rfl⟩ := List.mem_map.1 hx
  have := h y hy
  omega
/-- One digit more of a power. -/
theorem pe_take (L : List Int) (j : Nat) (h : j < L.length) : pe (L.take (j + 1)) = 10 * pe (L.take j) + (L.getD j 0 - 48) := by
  rw [List.take_succ_eq_append_getElem h, pe_more]
  simp [List.getD, List.getElem?_eq_getElem h]
theorem unS_bytes (s : ByteArray) : (s.size = 0 ∧ unS s.data.toList = s.data.toList ∧ sgn s.data.toList = false) ∨
    (∃ h : 0 < s.size, ((s[0] = 43 ∨ s[0] = 45) ∧ unS s.data.toList = (s.extract 1 s.size).data.toList ∧ sgn s.data.toList = decide (s[0] = 45)) ∨ (¬ (s[0] = 43 ∨ s[0] = 45) ∧ unS s.data.toList = s.data.toList ∧ sgn s.data.toList = false)) := by
  have hl : s.data.toList.length = s.size := Array.length_toList
  cases hc : s.data.toList with
  | nil => rw [hc] at hl; exact .inl ⟨hl.symm, rfl, rfl⟩
  | cons b t =>
    rw [hc, List.length_cons] at hl
    have h0 : 0 < s.size := by omega
    have hb : s[0] = b := by
      have : s.data.toList[0]'(by rw [hc]; simp) = b := by simp [hc]
      rw [← this]; rfl
    refine .inr ⟨h0, ?_⟩
    rw [hb, unS_cons, sgn_cons]
    by_cases h : b = 43 ∨ b = 45
    · rw [if_pos h]
      refine .inl ⟨h, ?_, rfl⟩
      rw [ByteArray.data_extract, Array.toList_extract, hc]
      simp [List.extract]
      exact (List.take_of_length_le (by omega)).symm
    · rw [if_neg h]
      exact .inr ⟨h, rfl, decide_eq_false (fun q => h (.inr q))⟩
end Go.Proofs.YtdkpiofeidcffaaGreatDoor
