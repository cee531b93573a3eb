/-
  Plain facts: the texts of numbers, and what the functions on texts answer at them.
-/
import Derived.Test.YtdkpiofeidcffaaGreatDoorNatS
import Derived.Test.YtdkpiofeidcffaaGreatDoorTxtM
import Derived.Test.YtdkpiofeidcffaaGreatDoorTxt3
namespace Go.Proofs.YtdkpiofeidcffaaGreatDoor
open Go.RowKit
set_option linter.unusedVariables false
set_option maxRecDepth 100000
theorem tx_one (a : List Int) (j : Nat) (hj : j < a.length) : (tx a).extract j (j + 1) = tx [a.getD j 0] := by
  apply ByteArray.ext
  rw [ByteArray.data_extract, tx_data, tx_data]
  simp only [List.getD, List.getElem?_eq_getElem hj, Option.getD_some]
  apply Array.ext
  · simp; omega
  · intro i h1 h2
    simp at h2
    subst h2
    simp
theorem vl_take_next (a : List Int) (j : Nat) (hj : j < a.length) : vl (a.take (j + 1)) = vl (a.take j) * 10 + a.getD j 0 := by
  rw [List.take_succ_eq_append_getElem hj, vl_snoc]
  simp [List.getD, hj]
theorem div_told (A B Q R : Int) (h : Q * B + R = A) (r0 : 0 ≤ R) (r1 : R < B) : Q = A / B ∧ R = A % B := by
  have e : A = R + B * Q := by rw [Int.mul_comm]; omega
  have hB : B ≠ 0 := by omega
  constructor
  · rw [e, Int.add_mul_ediv_left _ _ hB, Int.ediv_eq_zero_of_lt r0 r1]; omega
  · rw [e, Int.add_mul_emod_self_left, Int.emod_eq_of_lt r0 r1]
theorem len_le (a b : List Int) (ha : Canon a) (hb : Canon b) (h : vl a ≤ vl b) : a.length ≤ b.length := by
  rcases Nat.lt_or_ge b.length a.length with c | c
  · have := vl_short b a hb ha c; omega
  · exact c
theorem cmp_yes (x y : Int) (h : y ≤ x) : 0 ≤ cmpI x y := by
  unfold cmpI; rw [if_neg (by omega)]; split <;> decide
end Go.Proofs.YtdkpiofeidcffaaGreatDoor
namespace Go.Proofs.YtdkpiofeidcffaaGreatDoor
set_option linter.unusedVariables false
set_option maxRecDepth 100000
/-- One turn of the root: the next digit k of it. -/
theorem root_turn (S R P dd k : Int) (h : S * S + R = P) (hR : R ≤ 2 * S) (r0 : 0 ≤ R) (s0 : 0 ≤ S) (d0 : 0 ≤ dd) (d1 : dd ≤ 99) (k0 : 0 ≤ k) (k9 : k ≤ 9) (hk : (S * 20 + k) * k ≤ R * 100 + dd) (hend : k = 9 ∨ R * 100 + dd < (S * 20 + (k + 1)) * (k + 1)) :
    (S * 10 + k) * (S * 10 + k) + (R * 100 + dd - (S * 20 + k) * k) = P * 100 + dd ∧ R * 100 + dd - (S * 20 + k) * k ≤ 2 * (S * 10 + k) := by
  have e1 : (S * 10 + k) * (S * 10 + k) = S * S * 100 + (S * 20 + k) * k := by
    rw [Int.add_mul, Int.add_mul, Int.mul_add, Int.mul_add]
    have : S * 10 * (S * 10) = S * S * 100 := by
      rw [Int.mul_assoc, Int.mul_left_comm 10 S 10, ← Int.mul_assoc]; rfl
    have h2 : S * 10 * k = S * k * 10 := by rw [Int.mul_assoc, Int.mul_comm 10, ← Int.mul_assoc]
    have h3 : k * (S * 10) = S * k * 10 := by rw [Int.mul_comm k, h2]
    have h4 : S * 20 * k = S * k * 20 := by rw [Int.mul_assoc, Int.mul_comm 20, ← Int.mul_assoc]
    omega
  have e2 : (S * 20 + (k + 1)) * (k + 1) = (S * 20 + k) * k + (S * 20 + 2 * k + 1) := by
    rw [Int.mul_add, Int.mul_one, Int.add_mul, Int.add_mul, Int.add_mul]
    omega
  refine ⟨by omega, ?_⟩
  rcases hend with hk9 | hlt
  · subst hk9
    have : (S * 20 + 9) * 9 = S * 180 + 81 := by rw [Int.add_mul, Int.mul_assoc]; rfl
    omega
  · omega
/-- A root rounded down is told by the number. -/
theorem root_same (x s t : Int) (s0 : 0 ≤ s) (t0 : 0 ≤ t) (h1 : s * s ≤ x) (h2 : x < (s + 1) * (s + 1)) (k1 : t * t ≤ x) (k2 : x < (t + 1) * (t + 1)) : s = t := by
  rcases Int.lt_trichotomy s t with c | c | c
  · have := Int.mul_le_mul (show s + 1 ≤ t by omega) (show s + 1 ≤ t by omega) (by omega) t0
    omega
  · exact c
  · have := Int.mul_le_mul (show t + 1 ≤ s by omega) (show t + 1 ≤ s by omega) (by omega) s0
    omega
/-- What is left at most twice the root: it is the root rounded down. -/
theorem root_left (x s r : Int) (h : s * s + r = x) (r0 : 0 ≤ r) (r1 : r ≤ 2 * s) : s * s ≤ x ∧ x < (s + 1) * (s + 1) := by
  have e : (s + 1) * (s + 1) = s * s + 2 * s + 1 := by rw [Int.add_mul, Int.mul_add, Int.one_mul]; omega
  omega
end Go.Proofs.YtdkpiofeidcffaaGreatDoor
namespace Go.Proofs.YtdkpiofeidcffaaGreatDoor
open Go.RowKit
set_option linter.unusedVariables false
set_option maxRecDepth 100000
theorem tx_two (a : List Int) (j : Nat) (hj : j + 1 < a.length) : (tx a).extract j (j + 2) = tx [a.getD j 0, a.getD (j + 1) 0] := by
  apply ByteArray.ext
  rw [ByteArray.data_extract, tx_data, tx_data]
  simp only [List.getD, List.getElem?_eq_getElem hj, List.getElem?_eq_getElem (show j < a.length by omega), Option.getD_some]
  apply Array.ext
  · simp; omega
  · intro i h1 h2
    simp at h2
    rcases (show i = 0 ∨ i = 1 by omega) with rfl | rfl
    · simp
    · simp
/-- A byte of a digit, as a text. -/
theorem conv_dig (d : Int) (W : World) : ∀ dst, Tryz.prog.underlying dst = some .string → (convert 22 dst (.slice (some ⟨W.heap.size, 0, none⟩) 1 1)).run Tryz.prog (W.alloc (.cells #[.int .u8 (48 + d)] 5)) = .ok (.string (tx [d])) (W.alloc (.cells #[.int .u8 (48 + d)] 5)) :=
  run_convert_bytes_arg (P := Tryz.prog) _ 22 5 Tryz.underlying22 Tryz.underlying5 W.heap.size 0 1 1 [48 + d] rfl (fun i hi => by
    match i, hi with
    | 0, _ => simp)
theorem dec_snoc' (a : List Int) (d : Int) (h : Dec a) (h0 : 0 ≤ d) (h9 : d ≤ 9) : Dec (a ++ [d]) := fun x hx => by
  rcases List.mem_append.1 hx with hx | hx
  · exact h x hx
  · rw [List.mem_singleton] at hx; rw [hx]; exact ⟨h0, h9⟩
/-- What is told between the turns: i digits of A done. -/
def RT (A : List Int) (i : Nat) (S R : List Int) : Prop := Canon S ∧ Canon R ∧ vl S * vl S + vl R = vl (A.take i) ∧ vl R ≤ 2 * vl S ∧ S.length ≤ i + 1 ∧ R.length ≤ i + 1
theorem RT_start (A : List Int) : RT A 0 [0] [0] := ⟨canon_zero, canon_zero, rfl, by decide, by decide, by decide⟩
theorem vl_take_two (A : List Int) (j : Nat) (hj : j + 1 < A.length) : vl (A.take (j + 2)) = vl (A.take j) * 100 + (A.getD j 0 * 10 + A.getD (j + 1) 0) := by
  rw [vl_take_next A (j + 1) hj, vl_take_next A j (by omega)]; omega
end Go.Proofs.YtdkpiofeidcffaaGreatDoor
namespace Go.Proofs.YtdkpiofeidcffaaGreatDoor
open Go.RowKit
set_option linter.unusedVariables false
set_option maxRecDepth 100000
def divQ (s t : ByteArray) : ByteArray := if ok2 s t then (if nv t = 0 then { data := #[] } else tx (nt (nv s / nv t))) else { data := #[] }
def divR (s t : ByteArray) : ByteArray := if ok2 s t then (if nv t = 0 then { data := #[] } else tx (nt (nv s % nv t))) else { data := #[] }
theorem canon_nought (a : List Int) (h : Canon a) (hv : vl a = 0) : a = [0] := canon_unique a [0] h canon_zero (by rw [hv]; rfl)
theorem is0 (t : ByteArray) (h : natB 200 t = true) : (t.toList == [48]) = decide (nv t = 0) := by
  obtain ⟨hc, -, e⟩ := natB_dl 200 t h
  by_cases hz : nv t = 0
  · rw [decide_eq_true hz, e, canon_nought (dl t) hc hz, tx_zero]; rfl
  · rw [decide_eq_false hz, e]
    exact tx_is0 (dl t) hc.1 (fun c => hz (by unfold nv; rw [c]; rfl))
def shiftS (s : ByteArray) (n : Int) : ByteArray := if natB 200 s && (decide (0 ≤ n) && decide (n ≤ 200)) then fitS (nt (nv s * 10 ^ n.toNat)) else { data := #[] }
end Go.Proofs.YtdkpiofeidcffaaGreatDoor
namespace Go.Proofs.YtdkpiofeidcffaaGreatDoor
set_option linter.unusedVariables false
set_option maxRecDepth 100000
/-- A number below ten to the 200. -/
def Nok (n : Int) : Prop := 0 ≤ n ∧ n < 10 ^ 200
/-- The text of a number. -/
def tn (n : Int) : ByteArray := tx (nt n)
theorem pow25 : (10 : Int) ^ 200 ≤ 10 ^ 500 := pow_mono 200 500 (by decide)
theorem ten_pos (k : Nat) : (0 : Int) < 10 ^ k := Int.pow_pos (by decide)
theorem nok_spec {n : Int} (h : Nok n) : Canon (nt n) ∧ vl (nt n) = n := nt_spec n h.1 (Int.lt_of_lt_of_le h.2 pow25)
theorem nok_len {n : Int} (h : Nok n) : (nt n).length ≤ 200 := by
  obtain ⟨hc, hv⟩ := nok_spec h
  rcases Nat.lt_or_ge 200 (nt n).length with c | c
  · exfalso
    have l := canon_low (nt n) hc (by omega)
    have m := pow_mono 200 ((nt n).length - 1) (by omega)
    rw [hv] at l
    exact absurd (Int.lt_of_lt_of_le h.2 (Int.le_trans m l)) (Int.lt_irrefl _)
  · exact c
theorem tn_ok {n : Int} (h : Nok n) : natB 200 (tn n) = true := natB_tx 200 (nt n) (nok_spec h).1 (by have := nok_len h; omega)
theorem nv_tn {n : Int} (h : Nok n) : nv (tn n) = n := by
  obtain ⟨hc, hv⟩ := nok_spec h
  unfold nv tn
  rw [dl_tx _ hc.1, hv]
theorem nok_nv {s : ByteArray} (h : natB 200 s = true) : Nok (nv s) := nv_bd 200 s h
theorem tn_nv {s : ByteArray} (h : natB 200 s = true) : s = tn (nv s) := by
  obtain ⟨hc, hl, e⟩ := natB_dl 200 s h
  have : dl s = nt (nv s) := nt_of (dl s) _ hc rfl (by omega)
  unfold tn
  rw [← this]
  exact e
theorem tn_size (n : Int) : (tn n).size ≤ 500 := by
  unfold tn nt
  rw [tx_size]
  exact Nat.le_trans (strip_len _) (by rw [lastD_len]; exact Nat.le_refl _)
theorem fit_tn {n : Int} (h : Nok n) : fitS (nt n) = tn n := by
  unfold fitS; rw [if_pos (nok_len h)]; rfl
/-- A number's text fits, and is its text, or it doesn't, and is nothing. -/
theorem fit_two (n : Int) (h0 : 0 ≤ n) (h1 : n < 10 ^ 500) : (Nok n ∧ fitS (nt n) = tn n) ∨ (¬ Nok n ∧ fitS (nt n) = { data := #[] }) := by
  by_cases h : Nok n
  · exact .inl ⟨h, fit_tn h⟩
  · refine .inr ⟨h, ?_⟩
    obtain ⟨hc, hv⟩ := nt_spec n h0 h1
    unfold fitS
    rw [if_neg]
    intro hl
    apply h
    refine ⟨h0, ?_⟩
    have b := (vl_bd (nt n) hc.1).2
    rw [hv] at b
    exact Int.lt_of_lt_of_le b (pow_mono _ _ hl)
theorem ok2_tn {x y : Int} (hx : Nok x) (hy : Nok y) : ok2 (tn x) (tn y) = true := by unfold ok2; rw [tn_ok hx, tn_ok hy]; rfl
theorem cmp_tn {x y : Int} (hx : Nok x) (hy : Nok y) : cmpS (tn x) (tn y) = cmpI x y := by
  unfold cmpS; rw [ok2_tn hx hy, if_pos rfl, nv_tn hx, nv_tn hy]
theorem add_tn {x y : Int} (hx : Nok x) (hy : Nok y) : addS (tn x) (tn y) = fitS (nt (x + y)) := by
  unfold addS; rw [ok2_tn hx hy, if_pos rfl, nv_tn hx, nv_tn hy]
theorem mul_tn {x y : Int} (hx : Nok x) (hy : Nok y) : mulS (tn x) (tn y) = fitS (nt (x * y)) := by
  unfold mulS; rw [ok2_tn hx hy, if_pos rfl, nv_tn hx, nv_tn hy]
theorem sub_tn {x y : Int} (hx : Nok x) (hy : Nok y) (h : y ≤ x) : subS (tn x) (tn y) = tn (x - y) := by
  unfold subS; rw [ok2_tn hx hy, if_pos rfl, nv_tn hx, nv_tn hy, if_neg (by omega)]; rfl
theorem sub_tn_no {x y : Int} (hx : Nok x) (hy : Nok y) (h : x < y) : subS (tn x) (tn y) = { data := #[] } := by
  unfold subS; rw [ok2_tn hx hy, if_pos rfl, nv_tn hx, nv_tn hy, if_pos h]
theorem tn_some {n : Int} (h : Nok n) : (tn n).toList.isEmpty = false := tx_some (nt n) (fun e => by have := (nok_spec h).1.2.1; rw [e] at this; cases this)
theorem tn_inj {x y : Int} (hx : Nok x) (hy : Nok y) (h : (tn x).toList = (tn y).toList) : x = y := by
  have := tx_inj (nt x) (nt y) (nok_spec hx).1.1 (nok_spec hy).1.1 h
  rw [← (nok_spec hx).2, ← (nok_spec hy).2, this]
theorem tn_ne {x y : Int} (hx : Nok x) (hy : Nok y) (h : x ≠ y) : ((tn x).toList == (tn y).toList) = false := beq_eq_false_iff_ne.2 fun e => h (tn_inj hx hy e)
theorem nok_zero : Nok 0 := ⟨Int.le_refl _, ten_pos _⟩
theorem tn_0 : (tn 0).toList = [48] := by
  have : nt 0 = [0] := (nt_of [0] 0 canon_zero rfl (by decide)).symm
  unfold tn; rw [this]; exact tx_zero
theorem tn_is0 {x : Int} (hx : Nok x) (h : x ≠ 0) : ((tn x).toList == [48]) = false := by rw [← tn_0]; exact tn_ne hx nok_zero h
theorem Nok.le {x y : Int} (h : Nok y) (h0 : 0 ≤ x) (hl : x ≤ y) : Nok x := ⟨h0, Int.lt_of_le_of_lt hl h.2⟩
theorem nok_mul {x y : Int} (hx : Nok x) (hy : Nok y) : 0 ≤ x * y ∧ x * y < 10 ^ 500 := by
  refine ⟨Int.mul_nonneg hx.1 hy.1, ?_⟩
  have h1 := pow_mono 400 500 (by decide)
  have h2 : (10 : Int) ^ 400 = 10 ^ 200 * 10 ^ 200 := Int.pow_add 10 200 200
  have h3 : x * y ≤ x * 10 ^ 200 := Int.mul_le_mul_of_nonneg_left (Int.le_of_lt hy.2) hx.1
  have h4 : x * 10 ^ 200 < 10 ^ 200 * 10 ^ 200 := Int.mul_lt_mul_of_pos_right hx.2 (ten_pos 200)
  rw [← h2] at h4
  exact Int.lt_of_le_of_lt h3 (Int.lt_of_lt_of_le h4 h1)
theorem nok_add {x y : Int} (hx : Nok x) (hy : Nok y) : 0 ≤ x + y ∧ x + y < 10 ^ 500 := by
  refine ⟨Int.add_nonneg hx.1 hy.1, ?_⟩
  have h1 := pow_mono 201 500 (by decide)
  have h2 : (10 : Int) ^ 201 = 10 ^ 200 * 10 := Int.pow_succ 10 200
  obtain ⟨a, b⟩ := hx
  obtain ⟨c, d⟩ := hy
  generalize (10 : Int) ^ 200 = e at *
  generalize (10 : Int) ^ 201 = f at *
  generalize (10 : Int) ^ 500 = g at *
  omega
theorem mulS_comm (s t : ByteArray) : mulS t s = mulS s t := by
  unfold mulS ok2; rw [Bool.and_comm, Int.mul_comm]
theorem addS_comm (s t : ByteArray) : addS t s = addS s t := by
  unfold addS ok2; rw [Bool.and_comm, Int.add_comm]
theorem div_tn {x y : Int} (hx : Nok x) (hy : Nok y) (h : y ≠ 0) : divQ (tn x) (tn y) = tn (x / y) ∧ divR (tn x) (tn y) = tn (x % y) := by
  unfold divQ divR
  rw [ok2_tn hx hy, if_pos rfl, if_pos rfl, nv_tn hx, nv_tn hy, if_neg h, if_neg h]
  exact ⟨rfl, rfl⟩
end Go.Proofs.YtdkpiofeidcffaaGreatDoor
