/-
  Limits of the program, walked.
-/
import Derived.Test.YtnkoeidolmiheaaGreatDoorIsR2
namespace Go.Proofs.YtnkoeidolmiheaaGreatDoor
open Go.RowKit
set_option linter.unusedVariables false
set_option maxRecDepth 100000
theorem iLimits_any (f : Int) (w : World) : Calls Tryz.prog 112 #[.int .i64 f] w fun e w' => e = .returned (.tuple #[.int .i64 (limP f), .int .i64 (limL f), .int .i64 (limH f)]) ∧ Below w.heap.size w w' := by
  by_cases h1 : f = 64
  · subst h1
    show Calls Tryz.prog 112 #[.int .i64 64] w fun e w' => e = .returned (.tuple #[.int .i64 16, .int .i64 (-398), .int .i64 369]) ∧ Below w.heap.size w w'
    go_enter Tryz.func112, Tryz.ntmps112
    go_wp2_with fail
    refine (fmtOf_64 _).mono ?_
    rintro e w1 ⟨rfl, rfl⟩
    go_wp2_with fail
    refine (digitCount_64 _).mono ?_
    rintro e w2 ⟨rfl, hb2⟩
    go_wp2_with fail
    refine (leastExp_64 _).mono ?_
    rintro e w3 ⟨rfl, hb3⟩
    go_wp2_with fail
    refine (greatestExp_64 _).mono ?_
    rintro e w4 ⟨rfl, hb4⟩
    go_wp2
    go_ret3
    exact ⟨rfl, (hb2.trans (hb3.mono hb2.size)).trans (hb4.mono (Nat.le_trans hb2.size hb3.size))⟩
  · by_cases h2 : f = 128
    · subst h2
      show Calls Tryz.prog 112 #[.int .i64 128] w fun e w' => e = .returned (.tuple #[.int .i64 34, .int .i64 (-6176), .int .i64 6111]) ∧ Below w.heap.size w w'
      go_enter Tryz.func112, Tryz.ntmps112
      go_wp2_with fail
      refine (fmtOf_128 _).mono ?_
      rintro e w1 ⟨rfl, rfl⟩
      go_wp2_with fail
      refine (digitCount_128 _).mono ?_
      rintro e w2 ⟨rfl, hb2⟩
      go_wp2_with fail
      refine (leastExp_128 _).mono ?_
      rintro e w3 ⟨rfl, hb3⟩
      go_wp2_with fail
      refine (greatestExp_128 _).mono ?_
      rintro e w4 ⟨rfl, hb4⟩
      go_wp2
      go_ret3
      exact ⟨rfl, (hb2.trans (hb3.mono hb2.size)).trans (hb4.mono (Nat.le_trans hb2.size hb3.size))⟩
    · have e : limP f = 0 ∧ limL f = 0 ∧ limH f = 0 := by unfold limP limL limH; rw [if_neg h1, if_neg h2, if_neg h1, if_neg h2, if_neg h1, if_neg h2]; exact ⟨rfl, rfl, rfl⟩
      rw [e.1, e.2.1, e.2.2]
      clear e
      go_enter Tryz.func112, Tryz.ntmps112
      go_wp2_with fail
      refine (fmtOf_no f _ h1 h2).mono ?_
      rintro e w1 ⟨rfl, rfl⟩
      clear h1 h2
      go_wp2
      go_ret3
      exact ⟨rfl, Below.refl _ _⟩
end Go.Proofs.YtnkoeidolmiheaaGreatDoor
