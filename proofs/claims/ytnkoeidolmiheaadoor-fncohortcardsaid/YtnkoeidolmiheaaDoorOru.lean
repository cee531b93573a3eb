/-
  Order of the model: Total; walked.
-/
import Derived.Test.YtnkoeidolmiheaaDoorOrt
namespace Go.Proofs.YtnkoeidolmiheaaDoor
open Go.RowKit
set_option linter.unusedVariables false
set_option maxRecDepth 100000
theorem At4q.lay {w : World} {b : Nat} {x y z u : Value} (h : At4q w b x y z u) : ∀ o, (w.alloc o).cell? ⟨b, 0, none⟩ = some x ∧ (w.alloc o).cell? ⟨b, 1, none⟩ = some y ∧ (w.alloc o).cell? ⟨b, 2, none⟩ = some z ∧ (w.alloc o).cell? ⟨b, 3, none⟩ = some u := fun o => by
  obtain ⟨a, b, c, d, -⟩ := (h.next ((Below.refl _ _).alloc (Nat.le_refl _) o)).cells
  exact ⟨a, b, c, d⟩
theorem kpl_bd (k : Int) : 0 ≤ kpl k ∧ kpl k ≤ 3 := by unfold kpl; split <;> (try split) <;> (try split) <;> omega
theorem cI_bd (x y : Int) : cI x y = 0 ∨ cI x y = 1 ∨ cI x y = -1 := by unfold cI; split <;> (try split) <;> omega
theorem cB_bd (a b : List UInt8) : Lib.compareBytes a b = 0 ∨ Lib.compareBytes a b = 1 ∨ Lib.compareBytes a b = -1 := by
  induction a generalizing b with
  | nil => cases b <;> simp [Lib.compareBytes]
  | cons x r ih =>
    cases b with
    | nil => simp [Lib.compareBytes]
    | cons y t =>
      show (if x < y then (-1 : Int) else if y < x then 1 else Lib.compareBytes r t) = 0 ∨ (if x < y then (-1 : Int) else if y < x then 1 else Lib.compareBytes r t) = 1 ∨ (if x < y then (-1 : Int) else if y < x then 1 else Lib.compareBytes r t) = -1
      by_cases h1 : x < y
      · rw [if_pos h1]; omega
      · rw [if_neg h1]
        by_cases h2 : y < x
        · rw [if_pos h2]; omega
        · rw [if_neg h2]; exact ih t
theorem orI_bd (x y : Int) (hx : x = 0 ∨ x = 1 ∨ x = -1) (hy : y = 0 ∨ y = 1 ∨ y = -1) : orI x y = 0 ∨ orI x y = 1 ∨ orI x y = -1 := by
  unfold orI
  by_cases h : x = 0
  · rw [if_pos h]; exact hy
  · rw [if_neg h]; exact hx
theorem csz_bd (ka ea : Int) (sa : ByteArray) (kb eb : Int) (sb : ByteArray) : cszI ka ea sa kb eb sb = 0 ∨ cszI ka ea sa kb eb sb = 1 ∨ cszI ka ea sa kb eb sb = -1 := by
  exact orI_bd _ _ (cI_bd _ _) (cB_bd _ _)
theorem kpl_same (ka kb : Int) (h1 : 1 ≤ ka ∧ ka ≤ 4) (h2 : 1 ≤ kb ∧ kb ≤ 4) (h : cI (kpl ka) (kpl kb) = 0) : ka = kb := by
  have : kpl ka = kpl kb := by
    unfold cI at h
    by_cases c1 : kpl ka < kpl kb
    · rw [if_pos c1] at h; cases h
    · rw [if_neg c1] at h
      by_cases c2 : kpl kb < kpl ka
      · rw [if_pos c2] at h; cases h
      · omega
  unfold kpl at this
  split at this <;> split at this <;> (try split at this) <;> (try split at this) <;> (try split at this) <;> (try split at this) <;> omega
/-- The comparison by value of finite ones without signs is that of sizes. -/
theorem mc_fin (ea : Int) (sa : ByteArray) (eb : Int) (sb : ByteArray) : mcV 1 false ea sa 1 false eb sb = cszI 1 ea sa 1 eb sb := by
  unfold mcV
  cases h : (nouB 1 sa && nouB 1 sb)
  · show cmpU false 1 ea sa 1 eb sb = _
    unfold cmpU
    rw [if_neg (by decide), show cI (kpl 1) (kpl 1) = 0 from rfl]; rfl
  · have hh := Bool.and_eq_true_iff.1 h
    rw [nou_two 1 ea sa 1 eb sb hh.1 hh.2]; rfl
end Go.Proofs.YtnkoeidolmiheaaDoor
