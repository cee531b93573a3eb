/-
  Plain facts on order: texts without the noughts behind them, held against each other.
-/
import Derived.Test.YtmndemegiimagasDoorOra
import Derived.Test.YtmndemegiimagasDoorTxtN
namespace Go.Proofs.YtmndemegiimagasDoor
open Go.RowKit
set_option linter.unusedVariables false
theorem dw_snoc (c x : UInt8) (l : List UInt8) : (l ++ [x]).dropWhile (· == c) = if l.dropWhile (· == c) = [] then (if x = c then [] else [x]) else l.dropWhile (· == c) ++ [x] := by
  induction l with
  | nil =>
    by_cases h : x = c
    · subst h; simp
    · simp [h]
  | cons y r ih =>
    by_cases h : y = c
    · subst h
      rw [List.cons_append, List.dropWhile_cons_of_pos (by simp), List.dropWhile_cons_of_pos (by simp)]
      exact ih
    · rw [List.cons_append, List.dropWhile_cons_of_neg (by simpa using h), List.dropWhile_cons_of_neg (by simpa using h), if_neg (by simp)]
      rfl
theorem tr_cons (c x : UInt8) (l : List UInt8) : Lib.trimRightB (x :: l) c = if Lib.trimRightB l c = [] ∧ x = c then [] else x :: Lib.trimRightB l c := by
  unfold Lib.trimRightB
  rw [List.reverse_cons, dw_snoc]
  by_cases h : l.reverse.dropWhile (· == c) = []
  · rw [if_pos h, h]
    by_cases hx : x = c
    · rw [if_pos hx, if_pos ⟨rfl, hx⟩]; rfl
    · rw [if_neg hx, if_neg (fun q => hx q.2)]; rfl
  · rw [if_neg h, if_neg (fun q => h (List.reverse_eq_nil_iff.1 q.1))]
    simp
theorem tr_nil (c : UInt8) : Lib.trimRightB [] c = [] := rfl
/-- Of one length, no byte below c: without those at the end that are c, the order is the same. -/
theorem cmp_trim (c : UInt8) (a b : List UInt8) (hl : a.length = b.length) (ha : ∀ x ∈ a, ¬ x < c) (hb : ∀ x ∈ b, ¬ x < c) : Lib.compareBytes (Lib.trimRightB a c) (Lib.trimRightB b c) = Lib.compareBytes a b := by
  induction a generalizing b with
  | nil =>
    cases b with
    | nil => rfl
    | cons y s => cases hl
  | cons x r ih =>
    cases b with
    | nil => cases hl
    | cons y s =>
      have ih' := ih s (by simpa using hl) (fun z hz => ha z (List.mem_cons_of_mem _ hz)) (fun z hz => hb z (List.mem_cons_of_mem _ hz))
      have hx := ha x List.mem_cons_self
      have hy := hb y List.mem_cons_self
      rw [tr_cons, tr_cons]
      show _ = if x < y then (-1 : Int) else if y < x then 1 else Lib.compareBytes r s
      rw [← ih']
      have irr : ¬ c < c := UInt8.lt_irrefl c
      by_cases h1 : Lib.trimRightB r c = [] ∧ x = c
      · rw [if_pos h1]
        obtain ⟨e1, rfl⟩ := h1
        by_cases h2 : Lib.trimRightB s x = [] ∧ y = x
        · rw [if_pos h2]
          obtain ⟨e2, rfl⟩ := h2
          rw [if_neg irr, if_neg irr, e1, e2]
        · rw [if_neg h2]
          by_cases h3 : y = x
          · subst h3
            rw [if_neg irr, if_neg irr, e1]
            cases hs : Lib.trimRightB s y with
            | nil => exact absurd ⟨hs, rfl⟩ h2
            | cons z t => rfl
          · have : x < y := by
              rw [UInt8.lt_iff_toNat_lt] at hy ⊢
              have : y.toNat ≠ x.toNat := fun q => h3 (UInt8.toNat_inj.1 q)
              omega
            rw [if_pos this]; rfl
      · rw [if_neg h1]
        by_cases h2 : Lib.trimRightB s c = [] ∧ y = c
        · rw [if_pos h2]
          obtain ⟨e2, rfl⟩ := h2
          by_cases h3 : x = y
          · subst h3
            rw [if_neg irr, if_neg irr, e2]
            cases hs : Lib.trimRightB r x with
            | nil => exact absurd ⟨hs, rfl⟩ h1
            | cons z t => rfl
          · have : y < x := by
              rw [UInt8.lt_iff_toNat_lt] at hx ⊢
              have : x.toNat ≠ y.toNat := fun q => h3 (UInt8.toNat_inj.1 q)
              omega
            rw [if_neg (fun q => hx q), if_pos this]; rfl
        · rw [if_neg h2]; rfl
theorem tr_more (c : UInt8) (a : List UInt8) (k : Nat) : Lib.trimRightB (a ++ List.replicate k c) c = Lib.trimRightB a c := by
  unfold Lib.trimRightB
  rw [List.reverse_append, List.reverse_replicate]
  congr 1
  induction k with
  | zero => rfl
  | succ k ih => rw [List.replicate_succ, List.cons_append, List.dropWhile_cons_of_pos (by simp)]; exact ih
/-- The bytes of a text of digits. -/
theorem txBytes (ds : List Int) : (tx ds).data.toList = ds.map fun d => UInt8.ofNat (48 + d).toNat := by rw [tx_data]
theorem digByte (d : Int) (h : 0 ≤ d ∧ d ≤ 9) : (UInt8.ofNat (48 + d).toNat).toNat = (48 + d).toNat := by
  rw [UInt8.toNat_ofNat']; omega
/-- As many digits each: the order of the texts is that of the numbers. -/
theorem cmpTx (a b : List Int) (ha : Dec a) (hb : Dec b) (hl : a.length = b.length) : Lib.compareBytes (tx a).data.toList (tx b).data.toList = if vl a < vl b then -1 else if vl a = vl b then 0 else 1 := by
  rw [txBytes, txBytes]
  induction a generalizing b with
  | nil =>
    cases b with
    | nil => rfl
    | cons y s => cases hl
  | cons x r ih =>
    cases b with
    | nil => cases hl
    | cons y s =>
      have hl' : r.length = s.length := by simpa using hl
      have hr : Dec r := fun d hd => ha d (List.mem_cons_of_mem _ hd)
      have hs : Dec s := fun d hd => hb d (List.mem_cons_of_mem _ hd)
      have hx := ha x List.mem_cons_self
      have hy := hb y List.mem_cons_self
      have b1 := vl_bd r hr
      have b2 := vl_bd s hs
      rw [List.map_cons, List.map_cons]
      show (if UInt8.ofNat (48 + x).toNat < UInt8.ofNat (48 + y).toNat then (-1 : Int) else if UInt8.ofNat (48 + y).toNat < UInt8.ofNat (48 + x).toNat then 1 else Lib.compareBytes _ _) = _
      rw [ih s hr hs hl', vl_cons, vl_cons]
      rw [← hl'] at b2 ⊢
      have hp : (0 : Int) < 10 ^ r.length := Int.pow_pos (by decide)
      generalize (10 : Int) ^ r.length = m at *
      generalize vl r = u at *
      generalize vl s = v at *
      have l1 : (UInt8.ofNat (48 + x).toNat < UInt8.ofNat (48 + y).toNat) ↔ x < y := by
        rw [UInt8.lt_iff_toNat_lt, digByte x hx, digByte y hy]; omega
      have l2 : (UInt8.ofNat (48 + y).toNat < UInt8.ofNat (48 + x).toNat) ↔ y < x := by
        rw [UInt8.lt_iff_toNat_lt, digByte x hx, digByte y hy]; omega
      by_cases c1 : x < y
      · rw [if_pos (l1.2 c1)]
        have : m * (x + 1) ≤ m * y := Int.mul_le_mul_of_nonneg_left (by omega) (by omega)
        rw [Int.mul_add] at this
        rw [if_pos (by omega)]
      · rw [if_neg fun h => c1 (l1.1 h)]
        by_cases c2 : y < x
        · rw [if_pos (l2.2 c2)]
          have : m * (y + 1) ≤ m * x := Int.mul_le_mul_of_nonneg_left (by omega) (by omega)
          rw [Int.mul_add] at this
          rw [if_neg (by omega), if_neg (by omega)]
        · rw [if_neg fun h => c2 (l2.1 h)]
          obtain rfl : x = y := by omega
          simp only [show (u + m * x < v + m * x) = (u < v) from propext ⟨fun h => by omega, fun h => by omega⟩, show (u + m * x = v + m * x) = (u = v) from propext ⟨fun h => by omega, fun h => by omega⟩]

theorem digs_ge (ds : List Int) (h : Dec ds) : ∀ x ∈ (tx ds).data.toList, ¬ x < 48 := by
  rw [txBytes]
  intro x hx
  obtain ⟨d, hd, rfl⟩ := List.mem_map.1 hx
  rw [UInt8.lt_iff_toNat_lt, digByte d (h d hd)]
  have := h d hd
  show ¬ _ < 48
  omega
theorem dec_zeros (ds : List Int) (h : Dec ds) (k : Nat) : Dec (ds ++ List.replicate k 0) := fun d hd => by
  rcases List.mem_append.1 hd with q | q
  · exact h d q
  · have := (List.mem_replicate.1 q).2; omega
/-- As many digits each with noughts behind: the order of the texts without noughts is that of the numbers. -/
theorem cmp_trS (da db : List Int) (ha : Dec da) (hb : Dec db) (i j : Nat) (hl : da.length + i = db.length + j) : Lib.compareBytes (trS (tx da)).data.toList (trS (tx db)).data.toList = cI (vl da * 10 ^ i) (vl db * 10 ^ j) := by
  have e : ∀ (d : List Int) (k : Nat), (trS (tx d)).data.toList = Lib.trimRightB (tx (d ++ List.replicate k 0)).data.toList 48 := fun d k => by
    have q : (tx (d ++ List.replicate k 0)).data.toList = (tx d).data.toList ++ List.replicate k 48 := by
      rw [txBytes, txBytes, List.map_append, List.map_replicate]; rfl
    rw [q, tr_more]
    unfold trS
    simp
  rw [e da i, e db j, cmp_trim 48 _ _ (by rw [txBytes, txBytes]; simpa using hl) (digs_ge _ (dec_zeros da ha i)) (digs_ge _ (dec_zeros db hb j)), cmpTx _ _ (dec_zeros da ha i) (dec_zeros db hb j) (by simpa using hl), vl_noughts, vl_noughts]
  unfold cI
  generalize vl da * 10 ^ i = u
  generalize vl db * 10 ^ j = v
  by_cases h1 : u < v
  · rw [if_pos h1, if_pos h1]
  · rw [if_neg h1, if_neg h1]
    by_cases h2 : v < u
    · rw [if_pos h2, if_neg (by omega)]
    · rw [if_neg h2, if_pos (by omega)]
end Go.Proofs.YtmndemegiimagasDoor
