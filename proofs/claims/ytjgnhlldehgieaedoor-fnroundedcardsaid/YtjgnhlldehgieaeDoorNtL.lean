/-
  Plain facts: the texts of numbers, and what the functions on texts answer at them.
-/
import Derived.Test.YtjgnhlldehgieaeDoorNtM
import Derived.Test.YtjgnhlldehgieaeDoorNatS
import Derived.Test.YtjgnhlldehgieaeDoorNatS2
namespace Go.Proofs.YtjgnhlldehgieaeDoor
set_option linter.unusedVariables false
set_option maxRecDepth 100000
/-- A number below ten to the 200. -/
def Nok (n : Int) : Prop := 0 ≤ n ∧ n < 10 ^ 200
/-- The text of a number. -/
def tn (n : Int) : ByteArray := tx (nt n)
theorem pow25 : (10 : Int) ^ 200 ≤ 10 ^ 500 := pow_mono 200 500 (by decide)
theorem ten_pos (k : Nat) : (0 : Int) < 10 ^ k := Int.pow_pos (by decide)
theorem nok_spec {n : Int} (h : Nok n) : Canon (nt n) ∧ vl (nt n) = n := nt_spec n h.1 (Int.lt_of_lt_of_le h.2 pow25)
theorem nok_len {n : Int} (h : Nok n) : (nt n).length ≤ 200 := by
  obtain ⟨hc, hv⟩ := nok_spec h
  rcases Nat.lt_or_ge 200 (nt n).length with c | c
  · exfalso
    have l := canon_low (nt n) hc (by omega)
    have m := pow_mono 200 ((nt n).length - 1) (by omega)
    rw [hv] at l
    exact absurd (Int.lt_of_lt_of_le h.2 (Int.le_trans m l)) (Int.lt_irrefl _)
  · exact c
theorem tn_ok {n : Int} (h : Nok n) : natB 200 (tn n) = true := natB_tx 200 (nt n) (nok_spec h).1 (by have := nok_len h; omega)
theorem nv_tn {n : Int} (h : Nok n) : nv (tn n) = n := by
  obtain ⟨hc, hv⟩ := nok_spec h
  unfold nv tn
  rw [dl_tx _ hc.1, hv]
theorem nok_nv {s : ByteArray} (h : natB 200 s = true) : Nok (nv s) := nv_bd 200 s h
theorem tn_nv {s : ByteArray} (h : natB 200 s = true) : s = tn (nv s) := by
  obtain ⟨hc, hl, e⟩ := natB_dl 200 s h
  have : dl s = nt (nv s) := nt_of (dl s) _ hc rfl (by omega)
  unfold tn
  rw [← this]
  exact e
theorem tn_size (n : Int) : (tn n).size ≤ 500 := by
  unfold tn nt
  rw [tx_size]
  exact Nat.le_trans (strip_len _) (by rw [lastD_len]; exact Nat.le_refl _)
theorem fit_tn {n : Int} (h : Nok n) : fitS (nt n) = tn n := by
  unfold fitS; rw [if_pos (nok_len h)]; rfl
/-- A number's text fits, and is its text, or it doesn't, and is nothing. -/
theorem fit_two (n : Int) (h0 : 0 ≤ n) (h1 : n < 10 ^ 500) : (Nok n ∧ fitS (nt n) = tn n) ∨ (¬ Nok n ∧ fitS (nt n) = { data := #[] }) := by
  by_cases h : Nok n
  · exact .inl ⟨h, fit_tn h⟩
  · refine .inr ⟨h, ?_⟩
    obtain ⟨hc, hv⟩ := nt_spec n h0 h1
    unfold fitS
    rw [if_neg]
    intro hl
    apply h
    refine ⟨h0, ?_⟩
    have b := (vl_bd (nt n) hc.1).2
    rw [hv] at b
    exact Int.lt_of_lt_of_le b (pow_mono _ _ hl)
theorem ok2_tn {x y : Int} (hx : Nok x) (hy : Nok y) : ok2 (tn x) (tn y) = true := by unfold ok2; rw [tn_ok hx, tn_ok hy]; rfl
theorem cmp_tn {x y : Int} (hx : Nok x) (hy : Nok y) : cmpS (tn x) (tn y) = cmpI x y := by
  unfold cmpS; rw [ok2_tn hx hy, if_pos rfl, nv_tn hx, nv_tn hy]
theorem add_tn {x y : Int} (hx : Nok x) (hy : Nok y) : addS (tn x) (tn y) = fitS (nt (x + y)) := by
  unfold addS; rw [ok2_tn hx hy, if_pos rfl, nv_tn hx, nv_tn hy]
theorem mul_tn {x y : Int} (hx : Nok x) (hy : Nok y) : mulS (tn x) (tn y) = fitS (nt (x * y)) := by
  unfold mulS; rw [ok2_tn hx hy, if_pos rfl, nv_tn hx, nv_tn hy]
theorem sub_tn {x y : Int} (hx : Nok x) (hy : Nok y) (h : y ≤ x) : subS (tn x) (tn y) = tn (x - y) := by
  unfold subS; rw [ok2_tn hx hy, if_pos rfl, nv_tn hx, nv_tn hy, if_neg (by omega)]; rfl
theorem sub_tn_no {x y : Int} (hx : Nok x) (hy : Nok y) (h : x < y) : subS (tn x) (tn y) = { data := #[] } := by
  unfold subS; rw [ok2_tn hx hy, if_pos rfl, nv_tn hx, nv_tn hy, if_pos h]
theorem tn_some {n : Int} (h : Nok n) : (tn n).toList.isEmpty = false := tx_some (nt n) (fun e => by have := (nok_spec h).1.2.1; rw [e] at this; cases this)
theorem tn_inj {x y : Int} (hx : Nok x) (hy : Nok y) (h : (tn x).toList = (tn y).toList) : x = y := by
  have := tx_inj (nt x) (nt y) (nok_spec hx).1.1 (nok_spec hy).1.1 h
  rw [← (nok_spec hx).2, ← (nok_spec hy).2, this]
theorem tn_ne {x y : Int} (hx : Nok x) (hy : Nok y) (h : x ≠ y) : ((tn x).toList == (tn y).toList) = false := beq_eq_false_iff_ne.2 fun e => h (tn_inj hx hy e)
theorem nok_zero : Nok 0 := ⟨Int.le_refl _, ten_pos _⟩
theorem tn_0 : (tn 0).toList = [48] := by
  have : nt 0 = [0] := (nt_of [0] 0 canon_zero rfl (by decide)).symm
  unfold tn; rw [this]; exact tx_zero
theorem tn_is0 {x : Int} (hx : Nok x) (h : x ≠ 0) : ((tn x).toList == [48]) = false := by rw [← tn_0]; exact tn_ne hx nok_zero h
theorem Nok.le {x y : Int} (h : Nok y) (h0 : 0 ≤ x) (hl : x ≤ y) : Nok x := ⟨h0, Int.lt_of_le_of_lt hl h.2⟩
theorem nok_mul {x y : Int} (hx : Nok x) (hy : Nok y) : 0 ≤ x * y ∧ x * y < 10 ^ 500 := by
  refine ⟨Int.mul_nonneg hx.1 hy.1, ?_⟩
  have h1 := pow_mono 400 500 (by decide)
  have h2 : (10 : Int) ^ 400 = 10 ^ 200 * 10 ^ 200 := Int.pow_add 10 200 200
  have h3 : x * y ≤ x * 10 ^ 200 := Int.mul_le_mul_of_nonneg_left (Int.le_of_lt hy.2) hx.1
  have h4 : x * 10 ^ 200 < 10 ^ 200 * 10 ^ 200 := Int.mul_lt_mul_of_pos_right hx.2 (ten_pos 200)
  rw [← h2] at h4
  exact Int.lt_of_le_of_lt h3 (Int.lt_of_lt_of_le h4 h1)
theorem nok_add {x y : Int} (hx : Nok x) (hy : Nok y) : 0 ≤ x + y ∧ x + y < 10 ^ 500 := by
  refine ⟨Int.add_nonneg hx.1 hy.1, ?_⟩
  have h1 := pow_mono 201 500 (by decide)
  have h2 : (10 : Int) ^ 201 = 10 ^ 200 * 10 := Int.pow_succ 10 200
  obtain ⟨a, b⟩ := hx
  obtain ⟨c, d⟩ := hy
  generalize (10 : Int) ^ 200 = e at *
  generalize (10 : Int) ^ 201 = f at *
  generalize (10 : Int) ^ 500 = g at *
  omega
theorem mulS_comm (s t : ByteArray) : mulS t s = mulS s t := by
  unfold mulS ok2; rw [Bool.and_comm, Int.mul_comm]
theorem addS_comm (s t : ByteArray) : addS t s = addS s t := by
  unfold addS ok2; rw [Bool.and_comm, Int.add_comm]
theorem div_tn {x y : Int} (hx : Nok x) (hy : Nok y) (h : y ≠ 0) : divQ (tn x) (tn y) = tn (x / y) ∧ divR (tn x) (tn y) = tn (x % y) := by
  unfold divQ divR
  rw [ok2_tn hx hy, if_pos rfl, if_pos rfl, nv_tn hx, nv_tn hy, if_neg h, if_neg h]
  exact ⟨rfl, rfl⟩
end Go.Proofs.YtjgnhlldehgieaeDoor
