/-
  NextUp of both, told alike.
-/
import Derived.Test.YtmndemegiimagatGreatDoorNxs
namespace Go.Proofs.YtmndemegiimagatGreatDoor
open Go.RowKit
set_option linter.unusedVariables false
set_option maxRecDepth 100000
/-- What NextUp tells. -/
def nuR (f : Int) (k : Int) (n : Bool) (e : Int) (s : ByteArray) : R5o := ofR f 4 1 (fun _ => k) (fun _ => n) (fun _ => e) (fun _ => s) (nuX f k n e s)
theorem nu_right (f : Int) (k : Int) (n : Bool) (e : Int) (s : ByteArray) : rightB f 4 1 (fun _ => k) (fun _ => n) (fun _ => e) (fun _ => s) = numB f k n e s := by
  unfold rightB
  rw [show (decide (1 ≤ (4 : Int) ∧ (4 : Int) ≤ 5)) = true from rfl, Bool.true_and]
  exact ok1_is (numB f k n e s)
theorem sNextUp_any (f : Int) (k : Int) (n : Bool) (e : Int) (s : ByteArray) (w : World) (hsa : s.size ≤ 4611686018427387904) :
    Calls Tryz.prog 6 #[.int .i64 f, numV k n e s] w fun x w' => x = .returned (rsD (nuR f k n e s).1 (nuR f k n e s).2) ∧ Below w.heap.size w w' := by
  unfold nuR ofR
  rw [nu_right]
  cases hr : numB f k n e s with
  | false => exact sNx_no f k n e s w hsa hr
  | true =>
    rw [if_pos rfl]
    cases hs : spB 1 (fun _ => k) with
    | true =>
      rw [if_pos rfl]
      exact sNx_nan f k n e s w hsa hr hs
    | false =>
      rw [if_neg (by decide)]
      have hn := of_decide_eq_false hs
      obtain ⟨hf, hss, hk12, h1⟩ := right_two f k n e s hr (fun c => hn ⟨0, by decide, .inl c⟩) (fun c => hn ⟨0, by decide, .inr c⟩)
      unfold nuX
      rcases hk12 with rfl | rfl
      · rw [if_neg (by decide)]
        obtain ⟨hc, hl, he, hh⟩ := h1 rfl
        obtain ⟨p2, p34, pP, lh, l1, l2⟩ := lims3 f hf
        have hln : (dl s).length ≤ (limP f).toNat := by omega
        obtain ⟨d, hd⟩ : ∃ d, dl s = d := ⟨_, rfl⟩
        rw [hd] at hss hc hln ⊢
        subst hss
        clear hd h1 hl
        unfold nxX
        by_cases hz : d = [0]
        · subst hz
          rw [if_pos rfl]
          exact sNx_0 f 1 n e (tx [0]) w hsa hr hs hf rfl (by rw [ByteArray.toList_eq, tx_data]; rfl)
        · rw [if_neg hz]
          cases n with
          | false =>
            rw [if_neg (by decide)]
            unfold nxPos
            simp only
            by_cases hfit : (nt (vl d * 10 ^ nxJ (limP f).toNat d.length e (limL f) + 1)).length ≤ (limP f).toNat
            · have e1 : finTE (limP f).toNat (nt (vl d * 10 ^ nxJ (limP f).toNat d.length e (limL f) + 1)) (e - nxJ (limP f).toNat d.length e (limL f)) = e - nxJ (limP f).toNat d.length e (limL f) := by unfold finTE; rw [if_neg (by omega)]
              have e2 : finT (limP f).toNat (nt (vl d * 10 ^ nxJ (limP f).toNat d.length e (limL f) + 1)) = nt (vl d * 10 ^ nxJ (limP f).toNat d.length e (limL f) + 1) := by unfold finT; rw [if_neg (by omega)]
              rw [e1, e2, if_pos (by omega)]
              exact sNx_pos1 f false e d w hr hf hc hz hln he hh rfl hfit
            · have e1 : finTE (limP f).toNat (nt (vl d * 10 ^ nxJ (limP f).toNat d.length e (limL f) + 1)) (e - nxJ (limP f).toNat d.length e (limL f)) = e - nxJ (limP f).toNat d.length e (limL f) + 1 := by unfold finTE; rw [if_pos (by omega)]
              have e2 : finT (limP f).toNat (nt (vl d * 10 ^ nxJ (limP f).toNat d.length e (limL f) + 1)) = (nt (vl d * 10 ^ nxJ (limP f).toNat d.length e (limL f) + 1)).take (limP f).toNat := by unfold finT; rw [if_pos (by omega)]
              rw [e1, e2]
              by_cases hin : e - nxJ (limP f).toNat d.length e (limL f) + 1 ≤ limH f
              · rw [if_pos hin]
                exact sNx_pos2 f false e d w hr hf hc hz hln he hh rfl ⟨by omega, hin⟩
              · rw [if_neg hin]
                exact sNx_pos3 f false e d w hr hf hc hz hln he hh rfl ⟨by omega, hin⟩
          | true =>
            rw [if_pos rfl]
            unfold nxNeg
            simp only
            by_cases hfit : (nt (vl d * 10 ^ nxJ (limP f).toNat d.length e (limL f) - 1)).length < (limP f).toNat ∧ limL f < e - nxJ (limP f).toNat d.length e (limL f)
            · rw [if_pos hfit]
              exact sNx_neg1 f true e d w hr hf hc hz hln he hh rfl hfit
            · rw [if_neg hfit]
              exact sNx_neg2 f true e d w hr hf hc hz hln he hh rfl hfit
      · rw [if_pos rfl]
        obtain ⟨rfl, rfl⟩ := inf_is f n e s hr
        cases n with
        | true => exact sNx_inft f 2 true 0 { data := #[] } w hsa hr hs hf rfl rfl
        | false => exact sNx_inff f 2 false 0 { data := #[] } w hsa hr hs hf rfl rfl
theorem iNextUp_ok (f : Int) (k : Int) (n : Bool) (e : Int) (s : ByteArray) (w : World) (hsa : s.size ≤ 4611686018427387904) :
    Calls Tryz.prog 8 #[.int .i64 f, numV k n e s] w fun x w' => x = .returned (rsD (nuR f k n e s).1 (nuR f k n e s).2) ∧ Below w.heap.size w w' := iNextUp_any f k n e s w hsa
end Go.Proofs.YtmndemegiimagatGreatDoor
