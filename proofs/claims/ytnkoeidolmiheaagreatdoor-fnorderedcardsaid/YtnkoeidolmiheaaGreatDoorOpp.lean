/-
  Plain facts for FnOrdered: both orders turned around, and the greater one.
-/
import Derived.Test.YtnkoeidolmiheaaGreatDoorOru
import Derived.Test.YtnkoeidolmiheaaGreatDoorGrp
namespace Go.Proofs.YtnkoeidolmiheaaGreatDoor
set_option linter.unusedVariables false
set_option maxRecDepth 100000
section
variable (f : Int) (ka : Int) (na : Bool) (ea : Int) (sa : ByteArray) (kb : Int) (nb : Bool) (eb : Int) (sb : ByteArray)
theorem ord_none (h : (numB f ka na ea sa && numB f kb nb eb sb) = false) : cpR f ka na ea sa kb nb eb sb = 3 ∧ ttR f ka na ea sa kb nb eb sb = 3 ∧ gtR f ka na ea sa kb nb eb sb = (false, (0, 0, { data := #[] }, 0)) ∧ cpR f kb nb eb sb ka na ea sa = 3 ∧ sameR f ka na ea sa kb nb eb sb = false := by
  have h' : (numB f kb nb eb sb && numB f ka na ea sa) = false := by rw [Bool.and_comm]; exact h
  unfold cpR ttR gtR sameR
  rw [h, h']
  exact ⟨rfl, rfl, rfl, rfl, rfl⟩
theorem cmpU_bd (x : Bool) (ka ea : Int) (sa : ByteArray) (kb eb : Int) (sb : ByteArray) : cmpU x ka ea sa kb eb sb = 0 ∨ cmpU x ka ea sa kb eb sb = 1 ∨ cmpU x ka ea sa kb eb sb = -1 := by
  unfold cmpU
  cases x
  · rw [if_neg (by decide)]; exact orI_bd _ _ (cI_bd _ _) (csz_bd _ _ _ _ _ _)
  · rw [if_pos rfl]; exact orI_bd _ _ (orI_bd _ _ (cI_bd _ _) (csz_bd _ _ _ _ _ _)) (cI_bd _ _)
theorem cmpR_bd (x : Bool) : cmpR x ka na ea sa kb nb eb sb = 0 ∨ cmpR x ka na ea sa kb nb eb sb = 1 ∨ cmpR x ka na ea sa kb nb eb sb = -1 := by
  unfold cmpR
  cases na <;> cases nb <;> first | exact cmpU_bd _ _ _ _ _ _ _ | simp
theorem mcV_bd : mcV ka na ea sa kb nb eb sb = 0 ∨ mcV ka na ea sa kb nb eb sb = 1 ∨ mcV ka na ea sa kb nb eb sb = -1 := by
  unfold mcV
  cases (nouB ka sa && nouB kb sb)
  · exact cmpR_bd _ _ _ _ _ _ _ _ _
  · exact .inl rfl
theorem mcV_turn : mcV kb nb eb sb ka na ea sa = -mcV ka na ea sa kb nb eb sb := by
  unfold mcV
  rw [Bool.and_comm (nouB kb sb)]
  cases (nouB ka sa && nouB kb sb)
  · exact cmpR_turn false ka na ea sa kb nb eb sb
  · rfl
theorem mcV_self : mcV ka na ea sa ka na ea sa = 0 := by
  have := mcV_turn ka na ea sa ka na ea sa
  omega
theorem cpR_mc (hA : numB f ka na ea sa = true) (hB : numB f kb nb eb sb = true) (h : (((ka == 3) || (ka == 4)) || ((kb == 3) || (kb == 4))) = false) : cpR f ka na ea sa kb nb eb sb = mcV ka na ea sa kb nb eb sb := by
  unfold cpR mcV
  rw [hA, hB, Bool.and_self, if_pos rfl, h, if_neg (by decide)]
theorem cpR_nan (hA : numB f ka na ea sa = true) (hB : numB f kb nb eb sb = true) (h : (((ka == 3) || (ka == 4)) || ((kb == 3) || (kb == 4))) = true) : cpR f ka na ea sa kb nb eb sb = 2 := by
  unfold cpR
  rw [hA, hB, Bool.and_self, if_pos rfl, h, if_pos rfl]
theorem nan_one (hA : numB f 3 na ea sa = true) : na = false ∧ ea = 0 ∧ sa = { data := #[] } := by
  obtain ⟨-, -, -, -, h1, h2⟩ := numB_bd f 3 na ea sa hA
  obtain ⟨h3, h4⟩ := h1 (by decide)
  exact ⟨h2 (.inl rfl), h3, size_0 sa h4⟩
theorem cmpR_self (x : Bool) : cmpR x ka na ea sa ka na ea sa = 0 := by
  have := cmpR_turn x ka na ea sa ka na ea sa
  omega
theorem gt_turn (hA : numB f ka na ea sa = true) (hB : numB f kb nb eb sb = true) : gtR f kb nb eb sb ka na ea sa = gtR f ka na ea sa kb nb eb sb := by
  unfold gtR
  rw [hA, hB, Bool.and_self, if_pos rfl, if_pos rfl]
  by_cases h4 : ka = 4
  · subst h4; simp
  by_cases h4b : kb = 4
  · subst h4b; simp
  have q1 : (ka == 4) = false := beq_eq_false_iff_ne.2 h4
  have q2 : (kb == 4) = false := beq_eq_false_iff_ne.2 h4b
  simp only [q1, q2, Bool.or_self, Bool.false_eq_true, if_false]
  by_cases h3 : ka = 3
  · by_cases h3b : kb = 3
    · subst h3 h3b
      obtain ⟨rfl, rfl, rfl⟩ := nan_one f na ea sa hA
      obtain ⟨rfl, rfl, rfl⟩ := nan_one f nb eb sb hB
      rfl
    · have q4 : (kb == 3) = false := beq_eq_false_iff_ne.2 h3b
      subst h3
      simp only [q4, Bool.false_eq_true, if_false, beq_self_eq_true, if_true]
  · have q3 : (ka == 3) = false := beq_eq_false_iff_ne.2 h3
    by_cases h3b : kb = 3
    · subst h3b
      simp only [q3, Bool.false_eq_true, if_false, beq_self_eq_true, if_true]
    · have q4 : (kb == 3) = false := beq_eq_false_iff_ne.2 h3b
      simp only [q3, q4, Bool.false_eq_true, if_false]
      rw [cmpR_turn true ka na ea sa kb nb eb sb]
      by_cases hz : cmpR true ka na ea sa kb nb eb sb = 0
      · obtain ⟨rfl, rfl, rfl, rfl⟩ := cmpR_same f ka na ea sa kb nb eb sb hA hB hz
        split <;> split <;> rfl
      · by_cases hn : cmpR true ka na ea sa kb nb eb sb < 0
        · rw [if_pos hn, if_neg (by omega)]
        · rw [if_neg hn, if_pos (by omega)]
/-- ALL THAT FnOrdered WANTS of two right numbers. -/
theorem ord_some (hA : numB f ka na ea sa = true) (hB : numB f kb nb eb sb = true) :
    ttR f kb nb eb sb ka na ea sa = -ttR f ka na ea sa kb nb eb sb
    ∧ (ttR f ka na ea sa kb nb eb sb = 0 ∨ ttR f ka na ea sa kb nb eb sb = 1 ∨ ttR f ka na ea sa kb nb eb sb = -1)
    ∧ (ttR f ka na ea sa kb nb eb sb = 0 ↔ (ka = kb ∧ na = nb ∧ ea = eb ∧ sa = sb))
    ∧ gtR f kb nb eb sb ka na ea sa = gtR f ka na ea sa kb nb eb sb
    ∧ ((cpR f ka na ea sa kb nb eb sb = 2 ∧ cpR f kb nb eb sb ka na ea sa = 2)
      ∨ ((cpR f ka na ea sa kb nb eb sb = 0 ∨ cpR f ka na ea sa kb nb eb sb = 1 ∨ cpR f ka na ea sa kb nb eb sb = -1)
        ∧ cpR f kb nb eb sb ka na ea sa = -cpR f ka na ea sa kb nb eb sb
        ∧ (cpR f ka na ea sa kb nb eb sb = 0 ∨ cpR f ka na ea sa kb nb eb sb = ttR f ka na ea sa kb nb eb sb)
        ∧ ((gtR f ka na ea sa kb nb eb sb = (na, (ka, ea, sa, 0)) ∧ cpR f ka na ea sa ka na ea sa = 0 ∧ (cpR f ka na ea sa kb nb eb sb = 0 ∨ cpR f ka na ea sa kb nb eb sb = 1))
          ∨ (gtR f ka na ea sa kb nb eb sb = (nb, (kb, eb, sb, 0)) ∧ cpR f kb nb eb sb kb nb eb sb = 0 ∧ (cpR f kb nb eb sb ka na ea sa = 0 ∨ cpR f kb nb eb sb ka na ea sa = 1))))) := by
  have t1 : ttR f ka na ea sa kb nb eb sb = cmpR true ka na ea sa kb nb eb sb := by unfold ttR; rw [hA, hB]; rfl
  have t2 : ttR f kb nb eb sb ka na ea sa = cmpR true kb nb eb sb ka na ea sa := by unfold ttR; rw [hA, hB]; rfl
  have hg := gt_turn f ka na ea sa kb nb eb sb hA hB
  have hbd := cmpR_bd ka na ea sa kb nb eb sb true
  have ht := cmpR_turn true ka na ea sa kb nb eb sb
  refine ⟨by rw [t1, t2, ht], by rw [t1]; exact hbd, ?_, hg, ?_⟩
  · rw [t1]
    constructor
    · exact fun h => cmpR_same f ka na ea sa kb nb eb sb hA hB h
    · rintro ⟨rfl, rfl, rfl, rfl⟩
      exact cmpR_self _ _ _ _ _
  · cases hn : (((ka == 3) || (ka == 4)) || ((kb == 3) || (kb == 4))) with
    | true =>
      left
      exact ⟨cpR_nan f ka na ea sa kb nb eb sb hA hB hn, cpR_nan f kb nb eb sb ka na ea sa hB hA (by rw [Bool.or_comm]; exact hn)⟩
    | false =>
      right
      have hn' : (((kb == 3) || (kb == 4)) || ((ka == 3) || (ka == 4))) = false := by rw [Bool.or_comm]; exact hn
      have h2 := Bool.or_eq_false_iff.1 hn
      have hna : (((ka == 3) || (ka == 4)) || ((ka == 3) || (ka == 4))) = false := by rw [h2.1]; rfl
      have hnb : (((kb == 3) || (kb == 4)) || ((kb == 3) || (kb == 4))) = false := by rw [h2.2]; rfl
      have e1 := cpR_mc f ka na ea sa kb nb eb sb hA hB hn
      have e2 := cpR_mc f kb nb eb sb ka na ea sa hB hA hn'
      have e3 := cpR_mc f ka na ea sa ka na ea sa hA hA hna
      have e4 := cpR_mc f kb nb eb sb kb nb eb sb hB hB hnb
      have m1 := mcV_bd ka na ea sa kb nb eb sb
      have m2 := mcV_turn ka na ea sa kb nb eb sb
      have m3 := mc_total ka na ea sa kb nb eb sb
      have hG : gtR f ka na ea sa kb nb eb sb = if cmpR true ka na ea sa kb nb eb sb < 0 then (nb, (kb, eb, sb, 0)) else (na, (ka, ea, sa, 0)) := by
        have g1 := Bool.or_eq_false_iff.1 h2.1
        have g2 := Bool.or_eq_false_iff.1 h2.2
        unfold gtR
        rw [hA, hB, Bool.and_self, if_pos rfl, g1.1, g1.2, g2.1, g2.2, Bool.or_self, if_neg (by decide), if_neg (by decide), if_neg (by decide)]
      rw [e1, e2, e3, e4, t1, mcV_self, mcV_self, hG, m2]
      generalize mcV ka na ea sa kb nb eb sb = X at *
      generalize cmpR true ka na ea sa kb nb eb sb = Y at *
      refine ⟨m1, rfl, ?_, ?_⟩
      · by_cases hx : X = 0
        · exact .inl hx
        · exact .inr (m3 hx).symm
      · by_cases hy : Y < 0
        · rw [if_pos hy]
          refine .inr ⟨rfl, rfl, ?_⟩
          by_cases hx : X = 0
          · exact .inl (by omega)
          · have := m3 hx; exact .inr (by omega)
        · rw [if_neg hy]
          refine .inl ⟨rfl, rfl, ?_⟩
          by_cases hx : X = 0
          · exact .inl hx
          · have := m3 hx; exact .inr (by omega)
end
end Go.Proofs.YtnkoeidolmiheaaGreatDoor
