/-
  The tables of all ten bits, by the program's way.
-/
import Derived.Test.YtmeicjbeibmmganDoorDcY
namespace Go.Proofs.YtmeicjbeibmmganDoor
open Go.RowKit
set_option linter.unusedVariables false
/-- The lanes of the digits so far. -/
def rd0 (r : Nat) : Int := bits .or .u64 (bits .or .u64 (nmd 97 ((r : Int) / 4)) (nmd 101 ((r : Int) / 2))) (nmd 105 r)
def racc (r : Nat) (b : Int) : Nat → Int
  | 0 => rd0 r
  | k + 1 => if rwC r k = 48 ∨ rwC r k = 49 then racc r b k else bits .or .u64 (racc r b k) (nmd (rwC r k) (bp b k))
theorem rd_tab : (List.range 1024).all (fun b : Nat => decide (racc (rob b) b 10 = wdD (unK b))) = true := by kernel_rfl
theorem dg_tab : (List.range 1000).all (fun n : Nat => decide (wgt (digits 0 (wdD n)) = n)) = true := by kernel_rfl
theorem rd_facts (b : Int) (h0 : 0 ≤ b) (h1 : b ≤ 1023) : wgt (digits 0 (racc (rob b) b 10)) = unK b ∧ 0 ≤ racc (rob b) b 10 ∧ racc (rob b) b 10 ≤ 4095 := by
  have u := und_back b h0 h1
  obtain ⟨N, rfl⟩ := Int.eq_ofNat_of_zero_le h0
  have e := of_decide_eq_true (List.all_eq_true.1 rd_tab N (List.mem_range.2 (by omega)))
  rw [e]
  generalize unK (N : Int) = U at *
  obtain ⟨M, rfl⟩ := Int.eq_ofNat_of_zero_le u.2.1
  have g := of_decide_eq_true (List.all_eq_true.1 dg_tab M (List.mem_range.2 (by omega)))
  refine ⟨g, ?_, ?_⟩ <;> unfold wdD <;> omega
end Go.Proofs.YtmeicjbeibmmganDoor
