/-
  What the draws of two words, and of a word and a power, give, walked.
-/
import Derived.Test.YtlbkhiphnllfpabDoorDraw4
namespace Go.Proofs.YtlbkhiphnllfpabDoor
open Go.RowKit
set_option linter.unusedVariables false
set_option maxRecDepth 100000
theorem DrawProduct_any (a : Option Addr) (len cap : Nat) (w : World) (hl : len ≤ 4096) (hb : Bytes w.heap.size w a len) :
    Calls Tryd.prog 29 #[.slice a len cap] w fun e w' => ∃ x y, e = .returned (.tuple #[.int .u64 x, .int .u64 y]) ∧ (0 ≤ x ∧ x ≤ 18446744073709551615) ∧ (0 ≤ y ∧ y ≤ 18446744073709551615) ∧ Below w.heap.size w w' := by
  have hB : Hid (Bytes w.heap.size w a len) := hb
  clear hb
  go_enter Tryd.func29, Tryd.ntmps29
  go_wp2_with fail
  refine (l1New_any a len cap _ hl hB.out).mono ?_
  rintro e w1 ⟨rfl, hc1, hb1⟩
  have hs1 := hb1.size
  go_wp2_with fail
  refine (l1DrawWord_any _ _ _ hc1).mono ?_
  rintro e w2 ⟨x, rfl, x0, x1, hc2, hg2⟩
  go_wp2_with fail
  refine (l1DrawWord_any _ _ _ hc2).mono ?_
  rintro e w3 ⟨y, rfl, y0, y1, hc3, hg3⟩
  have hbf : Below w.heap.size w w3 := Below.grown hb1 (grown_trans hg2 hg3) hs1 (fun k hk => by cases hk; exact Nat.le_refl _)
  clear hg2 hg3 hc1 hc2 hc3
  go_wp2
  go_ret2
  exact ⟨_, _, rfl, ⟨x0, x1⟩, ⟨y0, y1⟩, hbf⟩
def pow3 : Array Value := #[.int .i64 (-1), .int .i64 60, .int .i64 61]
theorem pow3_at (x : Int) (h0 : 0 ≤ x) (h1 : x < 3) : ∃ v : Int, pow3[x.toNat]? = some (.int .i64 v) ∧ -1 ≤ v ∧ v ≤ 61 := by
  obtain ⟨n, rfl⟩ := Int.eq_ofNat_of_zero_le h0
  match n, h1 with
  | 0, _ => exact ⟨_, rfl, by decide, by decide⟩
  | 1, _ => exact ⟨_, rfl, by decide, by decide⟩
  | 2, _ => exact ⟨_, rfl, by decide, by decide⟩
end Go.Proofs.YtlbkhiphnllfpabDoor
