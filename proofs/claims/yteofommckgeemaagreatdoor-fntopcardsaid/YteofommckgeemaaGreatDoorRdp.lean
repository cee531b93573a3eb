/-
  Plain facts on the program's rounding: texts trimmed, texts compared, what is cut off held against a half, one more.
-/
import Derived.Lib.TrimByte
import Derived.Lib.Bytealg
import Derived.Lib.Repeat
import Derived.Test.YteofommckgeemaaGreatDoorFmt
import Derived.Test.YteofommckgeemaaGreatDoorNatS
namespace Go.Proofs.YteofommckgeemaaGreatDoor
open Go.RowKit
set_option linter.unusedVariables false
set_option maxRecDepth 100000
theorem dw_all (c : UInt8) (l : List UInt8) (h : ∀ b ∈ l, b = c) : l.dropWhile (· == c) = [] := by
  induction l with
  | nil => rfl
  | cons x r ih =>
    have hx := h x List.mem_cons_self
    subst hx
    rw [List.dropWhile_cons_of_pos (by simp)]
    exact ih fun b hb => h b (List.mem_cons_of_mem _ hb)
theorem dw_some (c : UInt8) (l : List UInt8) (h : ∃ b ∈ l, b ≠ c) : ∃ x r, l.dropWhile (· == c) = x :: r ∧ x ≠ c := by
  induction l with
  | nil => obtain ⟨b, hb, _⟩ := h; cases hb
  | cons x r ih =>
    by_cases hx : x = c
    · subst hx
      rw [List.dropWhile_cons_of_pos (by simp)]
      obtain ⟨b, hb, hn⟩ := h
      rcases List.mem_cons.1 hb with e | e
      · exact absurd e hn
      · exact ih ⟨b, e, hn⟩
    · exact ⟨x, r, List.dropWhile_cons_of_neg (by simpa using hx), hx⟩
theorem trim_all (l : List UInt8) (c : UInt8) (h : ∀ b ∈ l, b = c) : Lib.trimB l c = [] := by
  unfold Lib.trimB Lib.trimLeftB Lib.trimRightB
  rw [dw_all c l.reverse fun b hb => h b (List.mem_reverse.1 hb)]
  rfl
theorem trim_some (l : List UInt8) (c : UInt8) (h : ∃ b ∈ l, b ≠ c) : Lib.trimB l c ≠ [] := by
  unfold Lib.trimB Lib.trimLeftB Lib.trimRightB
  obtain ⟨b, hb, hn⟩ := h
  obtain ⟨x, r, e, hx⟩ := dw_some c l.reverse ⟨b, List.mem_reverse.2 hb, hn⟩
  rw [e]
  obtain ⟨y, q, e2, _⟩ := dw_some c (x :: r).reverse ⟨x, List.mem_reverse.2 List.mem_cons_self, hx⟩
  rw [e2]
  exact List.cons_ne_nil _ _
/-- The bytes of a text of digits. -/
theorem tx_bytes (ds : List Int) : (tx ds).data.toList = ds.map fun d => UInt8.ofNat (48 + d).toNat := by rw [tx_data]
theorem dig_byte (d : Int) (h : 0 ≤ d ∧ d ≤ 9) : (UInt8.ofNat (48 + d).toNat).toNat = (48 + d).toNat := by
  rw [UInt8.toNat_ofNat']; omega
theorem dig_byte_eq (d e : Int) (h : 0 ≤ d ∧ d ≤ 9) (h' : 0 ≤ e ∧ e ≤ 9) : (UInt8.ofNat (48 + d).toNat = UInt8.ofNat (48 + e).toNat) ↔ d = e := by
  refine ⟨fun q => ?_, fun q => by rw [q]⟩
  have := congrArg UInt8.toNat q
  rw [dig_byte d h, dig_byte e h'] at this
  omega
/-- All digits are c. -/
theorem trimTx_all (ds : List Int) (c : Int) (h : ∀ d ∈ ds, d = c) : (⟨(Lib.trimB (tx ds).data.toList (UInt8.ofNat (48 + c).toNat)).toArray⟩ : ByteArray) = { data := #[] } := by
  rw [trim_all _ _ fun b hb => by
    rw [tx_bytes] at hb
    obtain ⟨d, hd, rfl⟩ := List.mem_map.1 hb
    rw [h d hd]]
theorem trimTx_some (ds : List Int) (c : Int) (hD : Dec ds) (hc : 0 ≤ c ∧ c ≤ 9) (h : ¬ ∀ d ∈ ds, d = c) : (⟨(Lib.trimB (tx ds).data.toList (UInt8.ofNat (48 + c).toNat)).toArray⟩ : ByteArray).toList.isEmpty = false := by
  rw [ByteArray.toList_eq]
  show (Lib.trimB (tx ds).data.toList (UInt8.ofNat (48 + c).toNat)).isEmpty = false
  rw [List.isEmpty_eq_false_iff]
  intro q2
  refine trim_some _ _ ?_ q2
  rw [tx_bytes]
  apply Classical.byContradiction
  intro hn
  refine h fun d hd => ?_
  apply Classical.byContradiction
  intro hne
  exact hn ⟨_, List.mem_map.2 ⟨d, hd, rfl⟩, fun e => hne ((dig_byte_eq d c (hD d hd) hc).1 e)⟩
/-- As many digits each: the order of the texts is that of the numbers. -/
theorem cmp_tx (a b : List Int) (ha : Dec a) (hb : Dec b) (hl : a.length = b.length) : Lib.compareBytes (tx a).data.toList (tx b).data.toList = if vl a < vl b then -1 else if vl a = vl b then 0 else 1 := by
  rw [tx_bytes, tx_bytes]
  induction a generalizing b with
  | nil =>
    cases b with
    | nil => rfl
    | cons y s => cases hl
  | cons x r ih =>
    cases b with
    | nil => cases hl
    | cons y s =>
      have hl' : r.length = s.length := by simpa using hl
      have hr : Dec r := fun d hd => ha d (List.mem_cons_of_mem _ hd)
      have hs : Dec s := fun d hd => hb d (List.mem_cons_of_mem _ hd)
      have hx := ha x List.mem_cons_self
      have hy := hb y List.mem_cons_self
      have b1 := vl_bd r hr
      have b2 := vl_bd s hs
      rw [List.map_cons, List.map_cons]
      show (if UInt8.ofNat (48 + x).toNat < UInt8.ofNat (48 + y).toNat then (-1 : Int) else if UInt8.ofNat (48 + y).toNat < UInt8.ofNat (48 + x).toNat then 1 else Lib.compareBytes _ _) = _
      rw [ih s hr hs hl', vl_cons, vl_cons]
      rw [← hl'] at b2 ⊢
      have hp : (0 : Int) < 10 ^ r.length := Int.pow_pos (by decide)
      generalize (10 : Int) ^ r.length = m at *
      generalize vl r = u at *
      generalize vl s = v at *
      have l1 : (UInt8.ofNat (48 + x).toNat < UInt8.ofNat (48 + y).toNat) ↔ x < y := by
        rw [UInt8.lt_iff_toNat_lt, dig_byte x hx, dig_byte y hy]; omega
      have l2 : (UInt8.ofNat (48 + y).toNat < UInt8.ofNat (48 + x).toNat) ↔ y < x := by
        rw [UInt8.lt_iff_toNat_lt, dig_byte x hx, dig_byte y hy]; omega
      by_cases c1 : x < y
      · rw [if_pos (l1.2 c1)]
        have : m * (x + 1) ≤ m * y := Int.mul_le_mul_of_nonneg_left (by omega) (by omega)
        rw [Int.mul_add] at this
        rw [if_pos (by omega)]
      · rw [if_neg fun h => c1 (l1.1 h)]
        by_cases c2 : y < x
        · rw [if_pos (l2.2 c2)]
          have : m * (y + 1) ≤ m * x := Int.mul_le_mul_of_nonneg_left (by omega) (by omega)
          rw [Int.mul_add] at this
          rw [if_neg (by omega), if_neg (by omega)]
        · rw [if_neg fun h => c2 (l2.1 h)]
          obtain rfl : x = y := by omega
          simp only [show (u + m * x < v + m * x) = (u < v) from propext ⟨fun h => by omega, fun h => by omega⟩, show (u + m * x = v + m * x) = (u = v) from propext ⟨fun h => by omega, fun h => by omega⟩]
/-- What was cut off, held against a half: nothing, less, a half, more. -/
def prt (r m : Int) (rest : Bool) : Int := if r = 0 then (if rest then 1 else 0) else if 2 * r < m then 1 else if 2 * r = m ∧ rest = false then 2 else 3
/-- A mode's word. -/
def grw (mode : Int) (neg od : Bool) (p : Int) : Bool :=
  if mode = 1 then decide (p = 3) || (decide (p = 2) && od) else if mode = 3 then neg && decide (p ≠ 0) else if mode = 4 then !neg && decide (p ≠ 0) else if mode = 5 then decide (2 ≤ p) else false
theorem prt_lost (v : Int) (k : Nat) (rest : Bool) : decide (prt (v % 10 ^ k) (10 ^ k) rest ≠ 0) = rndL v k rest := by
  unfold prt rndL
  by_cases h : v % 10 ^ k = 0
  · rw [if_pos h, h]; cases rest <;> rfl
  · rw [if_neg h, decide_eq_true h, Bool.or_true]
    refine decide_eq_true ?_
    split
    · decide
    · split <;> decide
theorem prt_half (v : Int) (k : Nat) (rest : Bool) :
    decide (prt (v % 10 ^ k) (10 ^ k) rest = 3) = decide (0 < halfI (v % 10 ^ k) (10 ^ k) rest k) ∧ decide (prt (v % 10 ^ k) (10 ^ k) rest = 2) = decide (halfI (v % 10 ^ k) (10 ^ k) rest k = 0)
      ∧ decide (2 ≤ prt (v % 10 ^ k) (10 ^ k) rest) = decide (0 ≤ halfI (v % 10 ^ k) (10 ^ k) rest k) := by
  have hp : (0 : Int) < 10 ^ k := Int.pow_pos (by decide)
  by_cases hk : k = 0
  · subst hk
    have : v % 10 ^ 0 = 0 := by rw [Int.pow_zero]; omega
    unfold prt halfI
    rw [if_pos this, if_pos rfl]
    cases rest <;> decide
  · unfold prt halfI
    rw [if_neg hk]
    generalize (10 : Int) ^ k = m at *
    generalize v % m = r at *
    by_cases h0 : r = 0
    · subst h0
      rw [if_pos rfl, if_pos (show 2 * (0 : Int) < m by omega)]
      cases rest <;> decide
    · rw [if_neg h0]
      by_cases h1 : 2 * r < m
      · rw [if_pos h1, if_pos h1]; decide
      · rw [if_neg h1, if_neg h1]
        by_cases h2 : 2 * r = m ∧ rest = false
        · rw [if_pos h2, if_pos h2]; decide
        · rw [if_neg h2, if_neg h2]; decide
theorem grw_up (mode : Int) (neg : Bool) (v : Int) (k : Nat) (rest : Bool) :
    grw mode neg (decide ((v / 10 ^ k) % 2 = 1)) (prt (v % 10 ^ k) (10 ^ k) rest) = rndU mode neg v k rest := by
  unfold rndU upB upO grw
  obtain ⟨a, b, c⟩ := prt_half v k rest
  rw [prt_lost, a, b, c, Bool.and_comm neg, Bool.and_comm (!neg)]
/-- What is kept of a canonical list is canonical. -/
theorem kept_canon (ds : List Int) (h : Canon ds) (k n : Nat) (hn : (zpad (k + 1) ds).length = n + k) : Canon ((zpad (k + 1) ds).take n) := by
  have hlen := zpad_len (k + 1) ds
  have hd := zpad_dec (k + 1) ds h.1
  by_cases hk : ds.length ≤ k
  · obtain rfl : n = 1 := by omega
    unfold zpad
    rw [show k + 1 - ds.length = (k - ds.length) + 1 by omega, List.replicate_succ, List.cons_append, List.take_succ_cons, List.take_zero]
    exact canon_one 0 (by decide) (by decide)
  · have e : zpad (k + 1) ds = ds := by unfold zpad; rw [show k + 1 - ds.length = 0 by omega]; rfl
    rw [e] at hn hd ⊢
    refine ⟨fun d hq => hd d (List.mem_of_mem_take hq), by rw [List.length_take]; omega, ?_⟩
    by_cases h1 : n = 1
    · left; rw [List.length_take]; omega
    · right
      rcases h.2.2 with c | c
      · omega
      · cases ds with
        | nil => exact absurd h.2.1 (by decide)
        | cons x r =>
          obtain ⟨m, rfl⟩ : ∃ m, n = m + 1 := ⟨n - 1, by omega⟩
          exact c
/-- Nines and one more. -/
theorem nines_vl (L : List Int) (h : ∀ d ∈ L, d = 9) : vl L + 1 = 10 ^ L.length := by
  induction L with
  | nil => rfl
  | cons x r ih =>
    have := ih fun d hd => h d (List.mem_cons_of_mem _ hd)
    rw [vl_cons, h x List.mem_cons_self, List.length_cons, Int.pow_succ]
    omega
theorem not_nines_vl (L : List Int) (hD : Dec L) (h : ¬ ∀ d ∈ L, d = 9) : vl L + 1 < 10 ^ L.length := by
  induction L with
  | nil => exact absurd (fun d hd => by cases hd) h
  | cons x r ih =>
    have hr : Dec r := fun d hd => hD d (List.mem_cons_of_mem _ hd)
    have hx := hD x List.mem_cons_self
    have b := vl_bd r hr
    have hp : (0 : Int) < 10 ^ r.length := Int.pow_pos (by decide)
    rw [vl_cons, List.length_cons, Int.pow_succ]
    by_cases h9 : x = 9
    · subst h9
      have := ih hr fun q => h fun d hd => by
        rcases List.mem_cons.1 hd with e | e
        · exact e
        · exact q d e
      omega
    · have : 10 ^ r.length * (x + 1) ≤ 10 ^ r.length * 9 := Int.mul_le_mul_of_nonneg_left (by omega) (by omega)
      rw [Int.mul_add] at this
      generalize (10 : Int) ^ r.length * x = q at *
      omega
theorem vl_ten (n : Nat) : vl (1 :: List.replicate n 0) = 10 ^ n := by
  have := vl_noughts_ahead n []
  rw [List.append_nil] at this
  rw [vl_cons, List.length_replicate, this]
  show (0 : Int) + _ = _
  omega
theorem ten_canon (n : Nat) : Canon (1 :: List.replicate n 0) := by
  refine ⟨fun d hd => ?_, by simp, .inr (by show (1 : Int) ≠ 0; decide)⟩
  rcases List.mem_cons.1 hd with e | e
  · omega
  · have := (List.mem_replicate.1 e).2; omega
/-- Copies of the text of a nought. -/
theorem rep_tx (n : Nat) : (⟨(Lib.repeatL [48] n).toArray⟩ : ByteArray) = tx (List.replicate n 0) := by
  have e : ∀ n, Lib.repeatL [48] n = List.replicate n 48 := fun n => by
    have := Lib.repeatL_replicate 48 1 n
    rw [Nat.mul_one] at this
    exact this
  apply ByteArray.ext
  rw [tx_data, e]
  simp
/-- One more, by texts. -/
theorem addS_one (L : List Int) (h : Canon L) (hl : L.length ≤ 200) (hn : ¬ ∀ d ∈ L, d = 9) : addS (tx L) { data := #[49] } = tx (nt (vl L + 1)) := by
  have b := not_nines_vl L h.1 hn
  have v0 := vl_bd L h.1
  have e1 : ({ data := #[49] } : ByteArray) = tx [1] := tx_1.symm
  have n1 := natB_tx 200 L h (by omega)
  have n2 := natB_tx 200 [1] (canon_one 1 (by decide) (by decide)) (by decide)
  have d1 : nv (tx L) = vl L := by
    obtain ⟨hc, hl2, he⟩ := natB_dl 200 (tx L) n1
    have : dl (tx L) = L := by
      unfold dl
      rw [tx_bytes, List.map_map]
      refine (List.map_congr_left fun d hd => ?_).trans (List.map_id' L)
      have := h.1 d hd
      show (((UInt8.ofNat (48 + d).toNat).toNat : Int)) - 48 = d
      rw [dig_byte d this]; omega
    unfold nv; rw [this]
  have d2 : nv (tx [1]) = 1 := by decide +kernel
  unfold addS
  rw [e1, d1, d2]
  have ho : ok2 (tx L) (tx [1]) = true := by unfold ok2; rw [n1, n2]; rfl
  rw [ho, if_pos rfl]
  unfold fitS
  have hp : (10 : Int) ^ L.length ≤ 10 ^ 200 := by exact_mod_cast (Nat.pow_le_pow_right (by decide) hl : 10 ^ L.length ≤ 10 ^ 200)
  have hp2 : (10 : Int) ^ 200 ≤ 10 ^ 500 := by decide +kernel
  have s := nt_spec (vl L + 1) (by omega) (by omega)
  rw [if_pos (canon_le _ s.1 200 (by decide) (by rw [s.2]; omega))]
end Go.Proofs.YteofommckgeemaaGreatDoor
