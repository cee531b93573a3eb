/-
  Order of two numbers: plain facts (turned around, alike, one order by the other).
-/
import Derived.Test.YtnkoeidolmiheaaDoorOru
namespace Go.Proofs.YtnkoeidolmiheaaDoor
open Go.RowKit
set_option linter.unusedVariables false
set_option maxRecDepth 100000
theorem orI_zero (x y : Int) (h : orI x y = 0) : x = 0 ∧ y = 0 := by
  unfold orI at h
  by_cases hx : x = 0
  · rw [if_pos hx] at h; exact ⟨hx, h⟩
  · rw [if_neg hx] at h; exact absurd h hx
theorem cI_zero (x y : Int) (h : cI x y = 0) : x = y := by
  unfold cI at h
  by_cases c1 : x < y
  · rw [if_pos c1] at h; cases h
  · rw [if_neg c1] at h
    by_cases c2 : y < x
    · rw [if_pos c2] at h; cases h
    · omega
theorem cmpR_turn (x : Bool) (ka : Int) (na : Bool) (ea : Int) (sa : ByteArray) (kb : Int) (nb : Bool) (eb : Int) (sb : ByteArray) : cmpR x kb nb eb sb ka na ea sa = -cmpR x ka na ea sa kb nb eb sb := by
  unfold cmpR
  cases na <;> cases nb
  · exact cmpU_turn x ka ea sa kb eb sb
  · rfl
  · rfl
  · exact cmpU_turn x kb eb sb ka ea sa
/-- Sizes that are alike, with one exponent: one text. -/
theorem csz_same (f : Int) (na : Bool) (e : Int) (sa : ByteArray) (nb : Bool) (sb : ByteArray) (hA : numB f 1 na e sa = true) (hB : numB f 1 nb e sb = true) (h : cszI 1 e sa 1 e sb = 0) : sa = sb := by
  unfold cszI at h
  obtain ⟨h1, h2⟩ := orI_zero _ _ h
  have h1 := cI_zero _ _ h1
  obtain ⟨-, -, lA, eA, -, -⟩ := numB_bd f 1 na e sa hA
  obtain ⟨-, -, lB, eB, -, -⟩ := numB_bd f 1 nb e sb hB
  cases za : nouB 1 sa
  · cases zb : nouB 1 sb
    · rw [fpl_no _ _ _ za, fpl_no _ _ _ zb] at h1
      obtain ⟨da, ca, rfl⟩ := right_nat f na e sa hA
      obtain ⟨db, cb, rfl⟩ := right_nat f nb e sb hB
      rw [tx_size, tx_size] at h1
      rw [cmp_trS da db ca.1 cb.1 0 0 (by omega)] at h2
      have := cI_zero _ _ h2
      simp only [Int.pow_zero, Int.mul_one] at this
      rw [canon_unique da db ca cb this]
    · rw [fpl_no _ _ _ za, fpl_yes _ _ _ zb] at h1; omega
  · cases zb : nouB 1 sb
    · rw [fpl_yes _ _ _ za, fpl_no _ _ _ zb] at h1; omega
    · rw [(nou_spec _ _ za).2, (nou_spec _ _ zb).2]
theorem cmpU_same (f : Int) (ka : Int) (na : Bool) (ea : Int) (sa : ByteArray) (kb : Int) (nb : Bool) (eb : Int) (sb : ByteArray) (hA : numB f ka na ea sa = true) (hB : numB f kb nb eb sb = true) (h : cmpU true ka ea sa kb eb sb = 0) : ka = kb ∧ ea = eb ∧ sa = sb := by
  obtain ⟨-, kA, lA, eA, oA, -⟩ := numB_bd f ka na ea sa hA
  obtain ⟨-, kB, lB, eB, oB, -⟩ := numB_bd f kb nb eb sb hB
  unfold cmpU at h
  rw [if_pos rfl] at h
  obtain ⟨h1, h2⟩ := orI_zero _ _ h
  obtain ⟨h1, h3⟩ := orI_zero _ _ h1
  have hk := kpl_same ka kb kA kB h1
  have he := cI_zero _ _ h2
  subst hk he
  refine ⟨rfl, rfl, ?_⟩
  by_cases hk : ka = 1
  · subst hk
    exact csz_same f na ea sa nb sb hA hB h3
  · rw [size_0 sa (oA hk).2, size_0 sb (oB hk).2]
theorem cmpR_same (f : Int) (ka : Int) (na : Bool) (ea : Int) (sa : ByteArray) (kb : Int) (nb : Bool) (eb : Int) (sb : ByteArray) (hA : numB f ka na ea sa = true) (hB : numB f kb nb eb sb = true) (h : cmpR true ka na ea sa kb nb eb sb = 0) : ka = kb ∧ na = nb ∧ ea = eb ∧ sa = sb := by
  unfold cmpR at h
  cases na <;> cases nb
  · obtain ⟨a, b, c⟩ := cmpU_same f ka false ea sa kb false eb sb hA hB h
    exact ⟨a, rfl, b, c⟩
  · cases h
  · cases h
  · obtain ⟨a, b, c⟩ := cmpU_same f kb true eb sb ka true ea sa hB hA h
    exact ⟨a.symm, rfl, b.symm, c.symm⟩
/-- What is less by value is so in the order of all. -/
theorem mc_total (ka : Int) (na : Bool) (ea : Int) (sa : ByteArray) (kb : Int) (nb : Bool) (eb : Int) (sb : ByteArray) (h : mcV ka na ea sa kb nb eb sb ≠ 0) : cmpR true ka na ea sa kb nb eb sb = mcV ka na ea sa kb nb eb sb := by
  unfold mcV at *
  cases hz : (nouB ka sa && nouB kb sb)
  · rw [hz] at h
    rw [if_neg (by decide)] at h ⊢
    have key : ∀ (k1 e1 : Int) (s1 : ByteArray) (k2 e2 : Int) (s2 : ByteArray), cmpU false k1 e1 s1 k2 e2 s2 ≠ 0 → cmpU true k1 e1 s1 k2 e2 s2 = cmpU false k1 e1 s1 k2 e2 s2 := fun k1 e1 s1 k2 e2 s2 hn => by
      have q1 : cmpU false k1 e1 s1 k2 e2 s2 = orI (cI (kpl k1) (kpl k2)) (cszI k1 e1 s1 k2 e2 s2) := rfl
      have q2 : cmpU true k1 e1 s1 k2 e2 s2 = orI (orI (cI (kpl k1) (kpl k2)) (cszI k1 e1 s1 k2 e2 s2)) (cI e1 e2) := rfl
      rw [q1] at hn
      rw [q2, q1]
      generalize orI (cI (kpl k1) (kpl k2)) (cszI k1 e1 s1 k2 e2 s2) = u at *
      exact if_neg hn
    unfold cmpR at *
    cases na <;> cases nb
    · exact key _ _ _ _ _ _ h
    · rfl
    · rfl
    · exact key _ _ _ _ _ _ h
  · rw [hz] at h; exact absurd rfl h
section
variable (f : Int) (ka : Int) (na : Bool) (ea : Int) (sa : ByteArray) (kb : Int) (nb : Bool) (eb : Int) (sb : ByteArray)
theorem cmpU_bd (x : Bool) (ka ea : Int) (sa : ByteArray) (kb eb : Int) (sb : ByteArray) : cmpU x ka ea sa kb eb sb = 0 ∨ cmpU x ka ea sa kb eb sb = 1 ∨ cmpU x ka ea sa kb eb sb = -1 := by
  unfold cmpU
  cases x
  · rw [if_neg (by decide)]; exact orI_bd _ _ (cI_bd _ _) (csz_bd _ _ _ _ _ _)
  · rw [if_pos rfl]; exact orI_bd _ _ (orI_bd _ _ (cI_bd _ _) (csz_bd _ _ _ _ _ _)) (cI_bd _ _)
theorem cmpR_bd (x : Bool) : cmpR x ka na ea sa kb nb eb sb = 0 ∨ cmpR x ka na ea sa kb nb eb sb = 1 ∨ cmpR x ka na ea sa kb nb eb sb = -1 := by
  unfold cmpR
  cases na <;> cases nb <;> first | exact cmpU_bd _ _ _ _ _ _ _ | simp
theorem mcV_bd : mcV ka na ea sa kb nb eb sb = 0 ∨ mcV ka na ea sa kb nb eb sb = 1 ∨ mcV ka na ea sa kb nb eb sb = -1 := by
  unfold mcV
  cases (nouB ka sa && nouB kb sb)
  · exact cmpR_bd _ _ _ _ _ _ _ _ _
  · exact .inl rfl
theorem mcV_turn : mcV kb nb eb sb ka na ea sa = -mcV ka na ea sa kb nb eb sb := by
  unfold mcV
  rw [Bool.and_comm (nouB kb sb)]
  cases (nouB ka sa && nouB kb sb)
  · exact cmpR_turn false ka na ea sa kb nb eb sb
  · rfl
theorem mcV_self : mcV ka na ea sa ka na ea sa = 0 := by
  have := mcV_turn ka na ea sa ka na ea sa
  omega
theorem cpR_mc (hA : numB f ka na ea sa = true) (hB : numB f kb nb eb sb = true) (h : (((ka == 3) || (ka == 4)) || ((kb == 3) || (kb == 4))) = false) : cpR f ka na ea sa kb nb eb sb = mcV ka na ea sa kb nb eb sb := by
  unfold cpR mcV
  rw [hA, hB, Bool.and_self, if_pos rfl, h, if_neg (by decide)]
theorem cpR_nan (hA : numB f ka na ea sa = true) (hB : numB f kb nb eb sb = true) (h : (((ka == 3) || (ka == 4)) || ((kb == 3) || (kb == 4))) = true) : cpR f ka na ea sa kb nb eb sb = 2 := by
  unfold cpR
  rw [hA, hB, Bool.and_self, if_pos rfl, h, if_pos rfl]
theorem nan_one (hA : numB f 3 na ea sa = true) : na = false ∧ ea = 0 ∧ sa = { data := #[] } := by
  obtain ⟨-, -, -, -, h1, h2⟩ := numB_bd f 3 na ea sa hA
  obtain ⟨h3, h4⟩ := h1 (by decide)
  exact ⟨h2 (.inl rfl), h3, size_0 sa h4⟩
theorem cmpR_self (x : Bool) : cmpR x ka na ea sa ka na ea sa = 0 := by
  have := cmpR_turn x ka na ea sa ka na ea sa
  omega
theorem tt_iff (hA : numB f ka na ea sa = true) (hB : numB f kb nb eb sb = true) : ttR f ka na ea sa kb nb eb sb = 0 ↔ (ka = kb ∧ na = nb ∧ ea = eb ∧ sa = sb) := by
  have t1 : ttR f ka na ea sa kb nb eb sb = cmpR true ka na ea sa kb nb eb sb := by unfold ttR; rw [hA, hB]; rfl
  rw [t1]
  constructor
  · exact fun h => cmpR_same f ka na ea sa kb nb eb sb hA hB h
  · rintro ⟨rfl, rfl, rfl, rfl⟩
    exact cmpR_self _ _ _ _ _
end
end Go.Proofs.YtnkoeidolmiheaaDoor
