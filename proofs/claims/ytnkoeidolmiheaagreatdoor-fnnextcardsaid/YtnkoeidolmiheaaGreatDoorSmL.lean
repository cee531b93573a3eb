/-
  What is right in a format, by its digits; Add of the model in one word.
-/
import Derived.Test.YtnkoeidolmiheaaGreatDoorSmC
import Derived.Deep.RegionWith
import Derived.Test.YtnkoeidolmiheaaGreatDoorNatS
namespace Go.Proofs.YtnkoeidolmiheaaGreatDoor
open Go.RowKit
set_option linter.unusedVariables false
set_option maxRecDepth 100000
/-- The exact sum of two numbers, the first one reaching higher, finished: the sign and the rest. -/
def sumY (f mode : Int) (n1 : Bool) (e1 : Int) (d1 : List Int) (n2 : Bool) (e2 : Int) (d2 : List Int) (M : Int) : Bool × (Int × Int × ByteArray × Int) :=
  if 180 < (d1.length : Int) + e1 - M then (n1, finD f mode n1 (nt (vl d1 * 10 ^ 40 - if n1 = n2 then 0 else 1)) (e1 - 40) true M)
  else if n1 = n2 then (n1, finD f mode n1 (nt (vl d1 * 10 ^ (e1 - M).toNat + vl d2 * 10 ^ (e2 - M).toNat)) M false M)
  else if vl d1 * 10 ^ (e1 - M).toNat = vl d2 * 10 ^ (e2 - M).toNat then (decide (mode = 3), finD f mode (decide (mode = 3)) [0] M false M)
  else if vl d2 * 10 ^ (e2 - M).toNat < vl d1 * 10 ^ (e1 - M).toNat then (n1, finD f mode n1 (nt (vl d1 * 10 ^ (e1 - M).toNat - vl d2 * 10 ^ (e2 - M).toNat)) M false M)
  else (n2, finD f mode n2 (nt (vl d2 * 10 ^ (e2 - M).toNat - vl d1 * 10 ^ (e1 - M).toNat)) M false M)
theorem noughts40 (d : List Int) (h : Canon d) (hz : d ≠ [0]) : tx d ++ tx (List.replicate 40 0) = tx (d ++ List.replicate 40 0) ∧ Canon (d ++ List.replicate 40 0) ∧ vl (d ++ List.replicate 40 0) = vl d * 10 ^ 40 ∧ (d ++ List.replicate 40 0).length = d.length + 40 :=
  ⟨tx_append _ _, canon_noughts d 40 h hz, vl_noughts d 40, by simp⟩
end Go.Proofs.YtnkoeidolmiheaaGreatDoor
namespace Go.Proofs.YtnkoeidolmiheaaGreatDoor
open Go.RowKit
set_option linter.unusedVariables false
set_option maxRecDepth 100000
/-- Two numbers brought to one exponent. -/
theorem near_bd (d : List Int) (e M : Int) (c : Canon d) (h0 : M ≤ e) (h : (d.length : Int) + e - M ≤ 180) : 0 ≤ vl d * 10 ^ (e - M).toNat ∧ vl d * 10 ^ (e - M).toNat < 10 ^ 180 ∧ (e - M).toNat ≤ 200 ∧ e - M = ((e - M).toNat : Int) := by
  have b := vl_bd d c.1
  have hp : (0 : Int) < 10 ^ (e - M).toNat := Int.pow_pos (by decide)
  refine ⟨Int.mul_nonneg b.1 (Int.le_of_lt hp), ?_, by have := c.2.1; omega, by omega⟩
  have h1 : vl d * 10 ^ (e - M).toNat < 10 ^ d.length * 10 ^ (e - M).toNat := Int.mul_lt_mul_of_pos_right b.2 hp
  rw [← Int.pow_add] at h1
  exact Int.lt_of_lt_of_le h1 (pow_mono _ _ (by omega))
theorem nt_near (v : Int) (h0 : 0 ≤ v) (h1 : v < 10 ^ 181) : Canon (nt v) ∧ vl (nt v) = v ∧ (nt v).length ≤ 181 := by
  have h5 : (10 : Int) ^ 181 < 10 ^ 500 := by decide +kernel
  have sp := nt_spec v h0 (Int.lt_trans h1 h5)
  exact ⟨sp.1, sp.2, canon_le _ sp.1 181 (by decide) (by rw [sp.2]; exact h1)⟩
end Go.Proofs.YtnkoeidolmiheaaGreatDoor
namespace Go.Proofs.YtnkoeidolmiheaaGreatDoor
open Go.RowKit
set_option linter.unusedVariables false
set_option maxRecDepth 100000
end Go.Proofs.YtnkoeidolmiheaaGreatDoor
namespace Go.Proofs.YtnkoeidolmiheaaGreatDoor
open Go.RowKit
set_option linter.unusedVariables false
set_option maxRecDepth 100000
end Go.Proofs.YtnkoeidolmiheaaGreatDoor
namespace Go.Proofs.YtnkoeidolmiheaaGreatDoor
open Go.RowKit
set_option linter.unusedVariables false
set_option maxRecDepth 100000
end Go.Proofs.YtnkoeidolmiheaaGreatDoor
namespace Go.Proofs.YtnkoeidolmiheaaGreatDoor
open Go.RowKit
set_option linter.unusedVariables false
set_option maxRecDepth 100000
/-- The exact sum of two finite numbers, finished: the sign and the rest. -/
def sumX (f mode : Int) (na : Bool) (ea : Int) (da : List Int) (nb : Bool) (eb : Int) (db : List Int) : Bool × (Int × Int × ByteArray × Int) :=
  if da = [0] ∧ db = [0] then ((if na = nb then na else decide (mode = 3)), finD f mode (if na = nb then na else decide (mode = 3)) [0] (min ea eb) false (min ea eb))
  else if da = [0] then (nb, finD f mode nb db eb false (min ea eb))
  else if db = [0] then (na, finD f mode na da ea false (min ea eb))
  else if (da.length : Int) + ea < (db.length : Int) + eb then sumY f mode nb eb db na ea da (min ea eb)
  else sumY f mode na ea da nb eb db (min ea eb)
end Go.Proofs.YtnkoeidolmiheaaGreatDoor
namespace Go.Proofs.YtnkoeidolmiheaaGreatDoor
open Go.RowKit
set_option linter.unusedVariables false
set_option maxRecDepth 100000
/-- The Result of a sum, as its five cells (sign told apart). -/
abbrev R5 := Bool × (Int × Int × ByteArray × Int)
def addX (f mode : Int) (ka : Int) (na : Bool) (ea : Int) (da : List Int) (kb : Int) (nb : Bool) (eb : Int) (db : List Int) : R5 :=
  if ka = 2 ∧ kb = 2 ∧ na ≠ nb then (false, (3, 0, { data := #[] }, 1))
  else if ka = 2 then (na, (2, 0, { data := #[] }, 0))
  else if kb = 2 then (nb, (2, 0, { data := #[] }, 0))
  else sumX f mode na ea da nb eb db
end Go.Proofs.YtnkoeidolmiheaaGreatDoor
namespace Go.Proofs.YtnkoeidolmiheaaGreatDoor
open Go.RowKit
set_option linter.unusedVariables false
set_option maxRecDepth 100000
/-- One of two. -/
def tw2 {α : Type} (a b : α) (i : Nat) : α := if i = 0 then a else b
theorem nrw2 {W : World} {g : Nat} {T : TypeId} {ka : Int} {na : Bool} {ea : Int} {sa : ByteArray} {kb : Int} {nb : Bool} {eb : Int} {sb : ByteArray} (h : W.heap[g]? = some (.cells #[.int .i64 ka, .bool na, .int .i64 ea, .string sa, .int .i64 kb, .bool nb, .int .i64 eb, .string sb] T (0, 0))) :
    NRw W g 2 (tw2 ka kb) (tw2 na nb) (tw2 ea eb) (tw2 sa sb) := fun i hi => by
  match i, hi with
  | 0, _ => exact ⟨(cell_lit h 0).trans rfl, (cell_lit h 1).trans rfl, (cell_lit h 2).trans rfl, (cell_lit h 3).trans rfl⟩
  | 1, _ => exact ⟨(cell_lit h 4).trans rfl, (cell_lit h 5).trans rfl, (cell_lit h 6).trans rfl, (cell_lit h 7).trans rfl⟩
theorem SU.kinds {w W : World} {ka : Int} {na : Bool} {ea : Int} {sa : ByteArray} {kb : Int} {nb : Bool} {eb : Int} {sb : ByteArray} (h : SU w W ka na ea sa kb nb eb sb) : W.cell? ⟨w.heap.size, 0, none⟩ = some (.int .i64 ka) ∧ W.cell? ⟨w.heap.size + 1, 0, none⟩ = some (.int .i64 kb) :=
  ⟨(cell_lit h.1 0).trans rfl, (cell_lit h.2.1 0).trans rfl⟩
theorem SU.alloc {w W : World} {ka : Int} {na : Bool} {ea : Int} {sa : ByteArray} {kb : Int} {nb : Bool} {eb : Int} {sb : ByteArray} (h : SU w W ka na ea sa kb nb eb sb) (o : Obj) : SU w (W.alloc o) ka na ea sa kb nb eb sb := h.next ((Below.refl _ _).alloc (Nat.le_refl _) o)
theorem build_res00 (w : World) : (Instr.build 29 #[]).run Tryz.prog w = .ok (rsV 0 false 0 { data := #[] } 0) w := run_build w _ _ _ (by kernel_rfl)
theorem okB2 (g : Nat → Bool) [Decidable (∀ i, i < 2 → g i = true)] : decide (∀ i, i < 2 → g i = true) = (g 0 && g 1) := by
  by_cases h : ∀ i, i < 2 → g i = true
  · rw [decide_eq_true h, h 0 (by decide), h 1 (by decide)]; rfl
  · rw [decide_eq_false h]
    cases h0 : g 0 with
    | false => rfl
    | true =>
      cases h1 : g 1 with
      | false => rfl
      | true => exact absurd (fun i hi => by
          match i, hi with
          | 0, _ => exact h0
          | 1, _ => exact h1) h
def addO (f mode : Int) (ka : Int) (na : Bool) (ea : Int) (sa : ByteArray) (kb : Int) (nb : Bool) (eb : Int) (sb : ByteArray) : Bool := decide (1 ≤ mode ∧ mode ≤ 5) && (numB f ka na ea sa && numB f kb nb eb sb)
/-- What Add tells: the sign, and kind, exponent, digits, flags. -/
def addR (f mode : Int) (ka : Int) (na : Bool) (ea : Int) (sa : ByteArray) (kb : Int) (nb : Bool) (eb : Int) (sb : ByteArray) : R5 :=
  if addO f mode ka na ea sa kb nb eb sb then (if spB 2 (tw2 ka kb) then (false, (3, 0, { data := #[] }, spF 2 (tw2 ka kb))) else addX f mode ka na ea (dl sa) kb nb eb (dl sb))
  else (false, (0, 0, { data := #[] }, 0))
end Go.Proofs.YtnkoeidolmiheaaGreatDoor
namespace Go.Proofs.YtnkoeidolmiheaaGreatDoor
open Go.RowKit
set_option linter.unusedVariables false
set_option maxRecDepth 100000
theorem dl_empty (s : ByteArray) (h : s.size = 0) : s = tx (dl s) ∧ dl s = [] := by
  have e : s = { data := #[] } := by
    apply ByteArray.ext
    exact Array.eq_empty_of_size_eq_zero h
  subst e
  exact ⟨by apply ByteArray.ext; rw [tx_data]; rfl, rfl⟩
/-- A right number that is no NaN. -/
theorem right_two (f k : Int) (b : Bool) (e : Int) (s : ByteArray) (h : numB f k b e s = true) (h3 : k ≠ 3) (h4 : k ≠ 4) :
    (f = 64 ∨ f = 128) ∧ s = tx (dl s) ∧ (k = 1 ∨ k = 2) ∧ (k = 1 → Canon (dl s) ∧ ((dl s).length : Int) ≤ limP f ∧ limL f ≤ e ∧ e ≤ limH f) := by
  unfold numB at h
  by_cases h0 : limP f = 0
  · rw [if_pos h0] at h; cases h
  rw [if_neg h0] at h
  have hf : f = 64 ∨ f = 128 := by
    unfold limP at h0
    by_cases c : f = 64
    · exact .inl c
    · rw [if_neg c] at h0
      by_cases c2 : f = 128
      · exact .inr c2
      · rw [if_neg c2] at h0; exact absurd rfl h0
  by_cases h1 : k = 1
  · subst h1
    rw [if_pos rfl] at h
    simp only [Bool.and_eq_true, decide_eq_true_eq] at h
    obtain ⟨hn, hl, hh⟩ := h
    obtain ⟨hc, hlen, he⟩ := natB_dl (limP f) s hn
    exact ⟨hf, he, .inl rfl, fun _ => ⟨hc, hlen, hl, hh⟩⟩
  · rw [if_neg h1] at h
    by_cases h2 : k = 2
    · subst h2
      rw [if_pos rfl] at h
      simp only [Bool.and_eq_true] at h
      have hs : s.size = 0 := by
        have := h.2
        rw [ByteArray.toList_eq, List.isEmpty_iff] at this
        show s.data.size = 0
        rw [← Array.length_toList, this]; rfl
      exact ⟨hf, (dl_empty s hs).1, .inr rfl, fun c => by cases c⟩
    · rw [if_neg h2, if_neg (fun c => c.elim h3 h4)] at h
      cases h
theorem lims (f : Int) (hf : f = 64 ∨ f = 128) : limP f ≤ 34 ∧ -6176 ≤ limL f ∧ limH f ≤ 6111 := by
  rcases hf with rfl | rfl <;> decide
end Go.Proofs.YtnkoeidolmiheaaGreatDoor
