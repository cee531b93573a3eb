/-
  What Nines answers, for the program and for its model alike, walked.
-/
import Derived.Test.YtlbkhiphnllfpaiDoorPlain
namespace Go.Proofs.YtlbkhiphnllfpaiDoor
open Go.RowKit
set_option linter.unusedVariables false

/-- What is left of sixteen nines. -/
def nine (x : Int) : Int := IntKind.u64.wrap (11068046444225730969 - x)
theorem snines_yes (x : Int) (w : World) (h0 : 0 ≤ x) (h1 : x ≤ 18446744073709551615) (hk : Ln.okB 0 x = true) :
    Calls Tryd.prog 6 #[.int .u64 x] w fun e w' => e = .returned (.tuple #[.int .u64 (nine x), .bool true]) ∧ Below w.heap.size w w' := by
  go_enter Tryd.func6, Tryd.ntmps6
  go_wp2_with fail
  refine (l1PlainOk_any _ _ h0 h1).mono ?_
  rintro e w1 ⟨rfl, hb⟩
  rw [hk]
  go_wp2
  go_ret2
  exact ⟨rfl, hb⟩
theorem snines_no (x : Int) (w : World) (h0 : 0 ≤ x) (h1 : x ≤ 18446744073709551615) (hk : Ln.okB 0 x = false) :
    Calls Tryd.prog 6 #[.int .u64 x] w fun e w' => e = .returned (.tuple #[.int .u64 0, .bool false]) ∧ Below w.heap.size w w' := by
  go_enter Tryd.func6, Tryd.ntmps6
  go_wp2_with fail
  refine (l1PlainOk_any _ _ h0 h1).mono ?_
  rintro e w1 ⟨rfl, hb⟩
  rw [hk]
  go_wp2
  go_ret2
  exact ⟨rfl, hb⟩
theorem inines_yes (x : Int) (w : World) (ht : Tab w) (h0 : 0 ≤ x) (h1 : x ≤ 18446744073709551615) (hk : Ln.okB 0 x = true) :
    Calls Tryd.prog 7 #[.int .u64 x] w fun e w' => e = .returned (.tuple #[.int .u64 (nine x), .bool true]) ∧ w' = w := by
  go_enter Tryd.func7, Tryd.ntmps7
  go_wp2_with fail
  refine (iok_plain _ _ ht h0 h1).mono ?_
  rintro e w1 ⟨rfl, rfl⟩
  rw [hk]
  go_wp2
  go_ret2
  exact ⟨rfl, rfl⟩
theorem inines_no (x : Int) (w : World) (ht : Tab w) (h0 : 0 ≤ x) (h1 : x ≤ 18446744073709551615) (hk : Ln.okB 0 x = false) :
    Calls Tryd.prog 7 #[.int .u64 x] w fun e w' => e = .returned (.tuple #[.int .u64 0, .bool false]) ∧ w' = w := by
  go_enter Tryd.func7, Tryd.ntmps7
  go_wp2_with fail
  refine (iok_plain _ _ ht h0 h1).mono ?_
  rintro e w1 ⟨rfl, rfl⟩
  rw [hk]
  go_wp2
  go_ret2
  exact ⟨rfl, rfl⟩
end Go.Proofs.YtlbkhiphnllfpaiDoor
