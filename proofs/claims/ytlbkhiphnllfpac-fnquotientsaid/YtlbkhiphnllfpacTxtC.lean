/-
  The text of a number, by the number: what the arithmetic on texts answers is told by the numbers alone.
-/
import Derived.Test.YtlbkhiphnllfpacRot
import Derived.Test.YtlbkhiphnllfpacTxt8
import Derived.Test.YtlbkhiphnllfpacTxtZ
import Derived.Test.YtlbkhiphnllfpacTxt3
namespace Go.Proofs.Ytlbkhiphnllfpac
open Go.RowKit
set_option linter.unusedVariables false
set_option maxRecDepth 100000
/-- The digits of a number, without noughts ahead. -/
def cn (n : Int) : List Int := strip (cut 10 n 60)
theorem ten60 : (10 : Int) ^ 60 = 1000000000000000000000000000000000000000000000000000000000000 := by decide
theorem cn_spec (n : Int) (h0 : 0 ≤ n) (h1 : n < 1000000000000000000000000000000000000000000000000000000000000) : Canon (cn n) ∧ vl (cn n) = n := by
  unfold cn
  refine ⟨strip_canon _ (cut_dec n 60) (by rw [cut_length]; decide), ?_⟩
  rw [strip_vl]
  exact cut_vl n 60 h0 (by rw [ten60]; exact h1)
theorem cn_of (R : List Int) (n : Int) (h : Canon R) (hv : vl R = n) (h1 : n < 1000000000000000000000000000000000000000000000000000000000000) : R = cn n := by
  have h0 : 0 ≤ n := by rw [← hv]; exact (vl_bd R h.1).1
  obtain ⟨a, b⟩ := cn_spec n h0 h1
  exact canon_unique R (cn n) h a (by rw [hv, b])
theorem cn_len (n : Int) (h0 : 0 ≤ n) (h1 : n < 1000000000000000000000000000000000000000000000000000000000000) : (cn n).length ≤ 60 := by
  unfold cn
  refine Nat.le_trans (strip_len _) ?_
  rw [cut_length]
  exact Nat.le_refl _
theorem digits_cn (n : Int) (w : World) (h0 : 0 ≤ n) (h1 : n < 1000000000000000000) :
    Calls Try.prog 26 #[.int .i64 n] w fun e w' => e = .returned (.string (tx (cn n))) ∧ Below w.heap.size w w' := by
  refine (digits_any n w h0 h1).mono ?_
  rintro e w' ⟨R, rfl, hc, hv, -, hb⟩
  exact ⟨by rw [cn_of R n hc hv (by omega)], hb⟩
theorem NatMul_cn (a b : Int) (w : World) (a0 : 0 ≤ a) (a1 : a < 1000000000000000000000000000000) (b0 : 0 ≤ b) (b1 : b < 1000000000000000000000000000000) :
    Calls Try.prog 25 #[.string (tx (cn a)), .string (tx (cn b))] w fun e w' => e = .returned (.string (tx (cn (a * b)))) ∧ Below w.heap.size w w' := by
  obtain ⟨ca, va⟩ := cn_spec a a0 (by omega)
  obtain ⟨cb, vb⟩ := cn_spec b b0 (by omega)
  have la := cn_len a a0 (by omega)
  have lb := cn_len b b0 (by omega)
  refine (NatMul_any (cn a) (cn b) w ca cb (by omega)).mono ?_
  rintro e w' ⟨R, rfl, hc, hv, -, hb⟩
  rw [va, vb] at hv
  have hm : a * b < 1000000000000000000000000000000000000000000000000000000000000 := by
    rcases Int.lt_or_le 0 b with h | h
    · have h1 := Int.mul_lt_mul_of_pos_right a1 h
      have h2 := Int.mul_lt_mul_of_pos_left b1 (show (0 : Int) < 1000000000000000000000000000000 by decide)
      have h3 : (1000000000000000000000000000000 : Int) * 1000000000000000000000000000000 = 1000000000000000000000000000000000000000000000000000000000000 := by decide
      omega
    · have : b = 0 := by omega
      rw [this, Int.mul_zero]; decide
  exact ⟨by rw [cn_of R (a * b) hc hv hm], hb⟩
theorem NatAdd_cn (a b : Int) (w : World) (a0 : 0 ≤ a) (a1 : a < 100000000000000000000000000000000000000000000000000000000000) (b0 : 0 ≤ b) (b1 : b < 100000000000000000000000000000000000000000000000000000000000) :
    Calls Try.prog 24 #[.string (tx (cn a)), .string (tx (cn b))] w fun e w' => e = .returned (.string (tx (cn (a + b)))) ∧ Below w.heap.size w w' := by
  obtain ⟨ca, va⟩ := cn_spec a a0 (by omega)
  obtain ⟨cb, vb⟩ := cn_spec b b0 (by omega)
  have la := cn_len a a0 (by omega)
  have lb := cn_len b b0 (by omega)
  refine (NatAdd_any (cn a) (cn b) w ca cb (by omega) (by omega)).mono ?_
  rintro e w' ⟨R, rfl, hc, hv, -, hb⟩
  rw [va, vb] at hv
  exact ⟨by rw [cn_of R (a + b) hc hv (by omega)], hb⟩
theorem NatShift_cn (a : Int) (n : Nat) (w : World) (a0 : 0 ≤ a) (a1 : a < 1000000000000000000000000000000000000000000000000000000000000) (hn : n ≤ 100) (hp : a * 10 ^ n < 1000000000000000000000000000000000000000000000000000000000000) :
    Calls Try.prog 27 #[.string (tx (cn a)), .int .i64 (n : Int)] w fun e w' => e = .returned (.string (tx (cn (a * 10 ^ n)))) ∧ Below w.heap.size w w' := by
  obtain ⟨ca, va⟩ := cn_spec a a0 a1
  have la := cn_len a a0 a1
  refine (NatShift_all (cn a) n w ca (by omega)).mono ?_
  rintro e w' ⟨R, rfl, hc, hv, -, hb⟩
  rw [va] at hv
  exact ⟨by rw [cn_of R _ hc hv hp], hb⟩
theorem cn_zero : ({ data := #[48] } : ByteArray) = tx (cn 0) := by decide +kernel
theorem cn_ten : ({ data := #[49, 48] } : ByteArray) = tx (cn 10) := by decide +kernel
end Go.Proofs.Ytlbkhiphnllfpac
