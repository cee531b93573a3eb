/-
  The greater one: plain facts; Greater of the model, walked.
-/
import Derived.Test.YtmndemegiimagasGreatDoorGru
import Derived.Test.YtmndemegiimagasGreatDoorOru
namespace Go.Proofs.YtmndemegiimagasGreatDoor
open Go.RowKit
set_option linter.unusedVariables false
set_option maxRecDepth 100000
theorem orI_zero (x y : Int) (h : orI x y = 0) : x = 0 ∧ y = 0 := by
  unfold orI at h
  by_cases hx : x = 0
  · rw [if_pos hx] at h; exact ⟨hx, h⟩
  · rw [if_neg hx] at h; exact absurd h hx
theorem cI_zero (x y : Int) (h : cI x y = 0) : x = y := by
  unfold cI at h
  by_cases c1 : x < y
  · rw [if_pos c1] at h; cases h
  · rw [if_neg c1] at h
    by_cases c2 : y < x
    · rw [if_pos c2] at h; cases h
    · omega
theorem cmpR_turn (x : Bool) (ka : Int) (na : Bool) (ea : Int) (sa : ByteArray) (kb : Int) (nb : Bool) (eb : Int) (sb : ByteArray) : cmpR x kb nb eb sb ka na ea sa = -cmpR x ka na ea sa kb nb eb sb := by
  unfold cmpR
  cases na <;> cases nb
  · exact cmpU_turn x ka ea sa kb eb sb
  · rfl
  · rfl
  · exact cmpU_turn x kb eb sb ka ea sa
/-- Sizes that are alike, with one exponent: one text. -/
theorem csz_same (f : Int) (na : Bool) (e : Int) (sa : ByteArray) (nb : Bool) (sb : ByteArray) (hA : numB f 1 na e sa = true) (hB : numB f 1 nb e sb = true) (h : cszI 1 e sa 1 e sb = 0) : sa = sb := by
  unfold cszI at h
  obtain ⟨h1, h2⟩ := orI_zero _ _ h
  have h1 := cI_zero _ _ h1
  obtain ⟨-, -, lA, eA, -, -⟩ := numB_bd f 1 na e sa hA
  obtain ⟨-, -, lB, eB, -, -⟩ := numB_bd f 1 nb e sb hB
  cases za : nouB 1 sa
  · cases zb : nouB 1 sb
    · rw [fpl_no _ _ _ za, fpl_no _ _ _ zb] at h1
      obtain ⟨da, ca, rfl⟩ := right_nat f na e sa hA
      obtain ⟨db, cb, rfl⟩ := right_nat f nb e sb hB
      rw [tx_size, tx_size] at h1
      rw [cmp_trS da db ca.1 cb.1 0 0 (by omega)] at h2
      have := cI_zero _ _ h2
      simp only [Int.pow_zero, Int.mul_one] at this
      rw [canon_unique da db ca cb this]
    · rw [fpl_no _ _ _ za, fpl_yes _ _ _ zb] at h1; omega
  · cases zb : nouB 1 sb
    · rw [fpl_yes _ _ _ za, fpl_no _ _ _ zb] at h1; omega
    · rw [(nou_spec _ _ za).2, (nou_spec _ _ zb).2]
theorem cmpU_same (f : Int) (ka : Int) (na : Bool) (ea : Int) (sa : ByteArray) (kb : Int) (nb : Bool) (eb : Int) (sb : ByteArray) (hA : numB f ka na ea sa = true) (hB : numB f kb nb eb sb = true) (h : cmpU true ka ea sa kb eb sb = 0) : ka = kb ∧ ea = eb ∧ sa = sb := by
  obtain ⟨-, kA, lA, eA, oA, -⟩ := numB_bd f ka na ea sa hA
  obtain ⟨-, kB, lB, eB, oB, -⟩ := numB_bd f kb nb eb sb hB
  unfold cmpU at h
  rw [if_pos rfl] at h
  obtain ⟨h1, h2⟩ := orI_zero _ _ h
  obtain ⟨h1, h3⟩ := orI_zero _ _ h1
  have hk := kpl_same ka kb kA kB h1
  have he := cI_zero _ _ h2
  subst hk he
  refine ⟨rfl, rfl, ?_⟩
  by_cases hk : ka = 1
  · subst hk
    exact csz_same f na ea sa nb sb hA hB h3
  · rw [size_0 sa (oA hk).2, size_0 sb (oB hk).2]
theorem cmpR_same (f : Int) (ka : Int) (na : Bool) (ea : Int) (sa : ByteArray) (kb : Int) (nb : Bool) (eb : Int) (sb : ByteArray) (hA : numB f ka na ea sa = true) (hB : numB f kb nb eb sb = true) (h : cmpR true ka na ea sa kb nb eb sb = 0) : ka = kb ∧ na = nb ∧ ea = eb ∧ sa = sb := by
  unfold cmpR at h
  cases na <;> cases nb
  · obtain ⟨a, b, c⟩ := cmpU_same f ka false ea sa kb false eb sb hA hB h
    exact ⟨a, rfl, b, c⟩
  · cases h
  · cases h
  · obtain ⟨a, b, c⟩ := cmpU_same f kb true eb sb ka true ea sa hB hA h
    exact ⟨a.symm, rfl, b.symm, c.symm⟩
/-- What is less by value is so in the order of all. -/
theorem mc_total (ka : Int) (na : Bool) (ea : Int) (sa : ByteArray) (kb : Int) (nb : Bool) (eb : Int) (sb : ByteArray) (h : mcV ka na ea sa kb nb eb sb ≠ 0) : cmpR true ka na ea sa kb nb eb sb = mcV ka na ea sa kb nb eb sb := by
  unfold mcV at *
  cases hz : (nouB ka sa && nouB kb sb)
  · rw [hz] at h
    rw [if_neg (by decide)] at h ⊢
    have key : ∀ (k1 e1 : Int) (s1 : ByteArray) (k2 e2 : Int) (s2 : ByteArray), cmpU false k1 e1 s1 k2 e2 s2 ≠ 0 → cmpU true k1 e1 s1 k2 e2 s2 = cmpU false k1 e1 s1 k2 e2 s2 := fun k1 e1 s1 k2 e2 s2 hn => by
      have q1 : cmpU false k1 e1 s1 k2 e2 s2 = orI (cI (kpl k1) (kpl k2)) (cszI k1 e1 s1 k2 e2 s2) := rfl
      have q2 : cmpU true k1 e1 s1 k2 e2 s2 = orI (orI (cI (kpl k1) (kpl k2)) (cszI k1 e1 s1 k2 e2 s2)) (cI e1 e2) := rfl
      rw [q1] at hn
      rw [q2, q1]
      generalize orI (cI (kpl k1) (kpl k2)) (cszI k1 e1 s1 k2 e2 s2) = u at *
      exact if_neg hn
    unfold cmpR at *
    cases na <;> cases nb
    · exact key _ _ _ _ _ _ h
    · rfl
    · rfl
    · exact key _ _ _ _ _ _ h
  · rw [hz] at h; exact absurd rfl h
/-- What Greater tells. -/
def gtR (f : Int) (ka : Int) (na : Bool) (ea : Int) (sa : ByteArray) (kb : Int) (nb : Bool) (eb : Int) (sb : ByteArray) : R5o :=
  if numB f ka na ea sa && numB f kb nb eb sb then (if (ka == 4) || (kb == 4) then (false, (3, 0, { data := #[] }, 1)) else if ka == 3 then (nb, (kb, eb, sb, 0)) else if kb == 3 then (na, (ka, ea, sa, 0)) else if cmpR true ka na ea sa kb nb eb sb < 0 then (nb, (kb, eb, sb, 0)) else (na, (ka, ea, sa, 0))) else (false, (0, 0, { data := #[] }, 0))
theorem lst_same (ka : Int) (na : Bool) (ea : Int) (sa : ByteArray)  : lstR ka na ea sa ka na ea sa = (na, (ka, ea, sa, 0)) := by unfold lstR; split <;> rfl
theorem gtP_right (f : Int) (ka : Int) (na : Bool) (ea : Int) (sa : ByteArray) (kb : Int) (nb : Bool) (eb : Int) (sb : ByteArray) (hA : numB f ka na ea sa = true) (hB : numB f kb nb eb sb = true) : gtP f ka na ea sa kb nb eb sb = if spB 2 (pr2 ka kb) then (false, (3, 0, { data := #[] }, spF 2 (pr2 ka kb))) else lstR ka na ea sa kb nb eb sb := by
  unfold gtP ofR
  have : rightB f 1 2 (pr2 ka kb) (pr2 na nb) (pr2 ea eb) (pr2 sa sb) = true := by
    unfold rightB
    simp only [Bool.and_eq_true, decide_eq_true_eq]
    refine ⟨by omega, fun i hi => ?_⟩
    match i, hi with
    | 0, _ => exact hA
    | 1, _ => exact hB
  rw [this]; rfl
theorem sp2_no (ka kb : Int) (h1 : ka ≠ 3) (h2 : ka ≠ 4) (h3 : kb ≠ 3) (h4 : kb ≠ 4) : spB 2 (pr2 ka kb) = false := by
  unfold spB
  refine decide_eq_false ?_
  rintro ⟨i, hi, hk⟩
  match i, hi with
  | 0, _ => exact hk.elim h1 h2
  | 1, _ => exact hk.elim h3 h4
theorem sp2_4 (ka kb : Int) (h : ka = 4 ∨ kb = 4) : spB 2 (pr2 ka kb) = true ∧ spF 2 (pr2 ka kb) = 1 := by
  have : ∃ i, i < 2 ∧ pr2 ka kb i = 4 := by
    rcases h with h | h
    · exact ⟨0, by decide, h⟩
    · exact ⟨1, by decide, h⟩
  refine ⟨?_, ?_⟩
  · unfold spB
    obtain ⟨i, hi, hk⟩ := this
    exact decide_eq_true ⟨i, hi, .inr hk⟩
  · unfold spF; rw [if_pos this]
theorem sp2_3 : spB 2 (pr2 3 3) = true ∧ spF 2 (pr2 3 3) = 0 := by
  refine ⟨decide_eq_true ⟨0, by decide, .inl rfl⟩, ?_⟩
  unfold spF
  rw [if_neg]
  rintro ⟨i, hi, hk⟩
  match i, hi with
  | 0, _ => revert hk; decide
  | 1, _ => revert hk; decide
theorem gt_same (f : Int) (ka : Int) (na : Bool) (ea : Int) (sa : ByteArray) (kb : Int) (nb : Bool) (eb : Int) (sb : ByteArray) : gtI f ka na ea sa kb nb eb sb = gtR f ka na ea sa kb nb eb sb := by
  unfold gtI gtR
  cases hr : (numB f ka na ea sa && numB f kb nb eb sb) with
  | false => rfl
  | true =>
    rw [if_pos rfl, if_pos rfl]
    obtain ⟨hA, hB⟩ := Bool.and_eq_true_iff.1 hr
    obtain ⟨-, kA, lA, eA, oA, sA⟩ := numB_bd f ka na ea sa hA
    obtain ⟨-, kB, lB, eB, oB, sB⟩ := numB_bd f kb nb eb sb hB
    by_cases h3 : ka = 3
    · subst h3
      rw [show ((3 : Int) == 3) = true from rfl, if_pos rfl, gtP_right f _ _ _ _ _ _ _ _ hB hB, show ((3 : Int) == 4) = false from rfl, Bool.false_or, if_pos rfl]
      by_cases h4 : kb = 4
      · subst h4
        rw [(sp2_4 4 4 (.inl rfl)).1, (sp2_4 4 4 (.inl rfl)).2]; rfl
      · have h4' : (kb == 4) = false := beq_eq_false_iff_ne.2 h4
        rw [h4']
        by_cases h33 : kb = 3
        · subst h33
          obtain ⟨rfl, sz⟩ := oB (by decide)
          obtain rfl := size_0 sb sz
          rw [sB (.inl rfl), sp2_3.1, sp2_3.2]; rfl
        · rw [sp2_no kb kb h33 h4 h33 h4, lst_same]; rfl
    · have h3' : (ka == 3) = false := beq_eq_false_iff_ne.2 h3
      rw [h3', if_neg (by decide)]
      by_cases h33 : kb = 3
      · subst h33
        rw [show ((3 : Int) == 3) = true from rfl, if_pos rfl, gtP_right f _ _ _ _ _ _ _ _ hA hA, show ((3 : Int) == 4) = false from rfl, Bool.or_false]
        by_cases h4 : ka = 4
        · subst h4
          rw [(sp2_4 4 4 (.inl rfl)).1, (sp2_4 4 4 (.inl rfl)).2]; rfl
        · have h4' : (ka == 4) = false := beq_eq_false_iff_ne.2 h4
          rw [h4', sp2_no ka ka h3 h4 h3 h4, lst_same]; rfl
      · have h33' : (kb == 3) = false := beq_eq_false_iff_ne.2 h33
        rw [h33', if_neg (by decide), gtP_right f _ _ _ _ _ _ _ _ hA hB]
        by_cases h4 : ka = 4 ∨ kb = 4
        · rw [(sp2_4 ka kb h4).1, (sp2_4 ka kb h4).2]
          have : ((ka == 4) || (kb == 4)) = true := by simpa using h4
          rw [this]; rfl
        · have e : ((ka == 4) || (kb == 4)) = false := by
            rw [Bool.or_eq_false_iff, beq_eq_false_iff_ne, beq_eq_false_iff_ne]
            exact ⟨fun h => h4 (.inl h), fun h => h4 (.inr h)⟩
          rw [e, sp2_no ka kb h3 (fun h => h4 (.inl h)) h33 (fun h => h4 (.inr h))]
          rw [if_neg (by decide), if_neg (by decide), if_neg (by decide), if_neg (by decide)]
          unfold lstR
          rw [cmpR_turn true ka na ea sa kb nb eb sb]
          by_cases c : cmpR true ka na ea sa kb nb eb sb = 0
          · obtain ⟨rfl, rfl, rfl, rfl⟩ := cmpR_same f ka na ea sa kb nb eb sb hA hB c
            split <;> split <;> rfl
          · by_cases c2 : cmpR true ka na ea sa kb nb eb sb < 0
            · rw [if_neg (by omega), if_pos c2]
            · rw [if_pos (by omega), if_neg c2]
end Go.Proofs.YtmndemegiimagasGreatDoor
