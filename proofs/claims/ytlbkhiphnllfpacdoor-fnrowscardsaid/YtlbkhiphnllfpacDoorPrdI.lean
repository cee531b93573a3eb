/-
  What bothPlain, pushDown and Column of the program answer, walked.
-/
import Derived.Test.YtlbkhiphnllfpacDoorPrdV
import Derived.Test.YtlbkhiphnllfpacDoorMulJ
import Derived.Test.YtlbkhiphnllfpacDoorShift
import Derived.Test.YtlbkhiphnllfpacDoorAdd2
namespace Go.Proofs.YtlbkhiphnllfpacDoor
open Go.RowKit
set_option linter.unusedVariables false
theorem bothPlain_any (a b : Int) (w : World) (hT : Tab w) (a0 : 0 ≤ a) (a1 : a ≤ 18446744073709551615) (b0 : 0 ≤ b) (b1 : b ≤ 18446744073709551615) :
    Calls Tryd.prog 19 #[.int .u64 a, .int .u64 b] w fun e w' => e = .returned (.bool (Ln.okB 0 a && Ln.okB 0 b)) ∧ w' = w := by
  have HT : Hid (Tab w) := hT
  clear hT
  cases ka : Ln.okB 0 a with
  | false =>
    have Ka : Hid (Ln.okB 0 a = false) := ka
    clear ka
    go_enter Tryd.func19, Tryd.ntmps19
    go_wp2_with fail
    refine (iok_plain a _ HT.out a0 a1).mono ?_
    rintro e w1 ⟨rfl, rfl⟩
    rw [Ka.out]
    go_wp2
    go_ret
    exact ⟨rfl, rfl⟩
  | true =>
    have Ka : Hid (Ln.okB 0 a = true) := ka
    clear ka
    go_enter Tryd.func19, Tryd.ntmps19
    go_wp2_with fail
    refine (iok_plain a _ HT.out a0 a1).mono ?_
    rintro e w1 ⟨rfl, hw⟩
    obtain rfl := hw.symm
    rw [Ka.out]
    go_wp2_with fail
    refine (iok_plain b _ HT.out b0 b1).mono ?_
    rintro e w1 ⟨rfl, rfl⟩
    go_wp2
    go_ret
    exact ⟨by simp, rfl⟩
theorem pushDown_any (x d : Int) (w : World) (x0 : 0 ≤ x) (x1 : x ≤ 18446744073709551615) (d0 : 0 ≤ d) (d9 : d ≤ 9) :
    Calls Tryd.prog 34 #[.int .u64 x, .int .u64 d] w fun e w' => e = .returned (.int .u64 (psh x d)) ∧ w' = w := by
  have h1 : ∀ W, Calls Tryd.prog 53 #[.int .u64 x, .int .i64 (-1)] W fun e w' => e = .returned (.int .u64 (Ln.down x 1)) ∧ w' = W := fun W => ishift_down x 1 W x0 x1 (by decide) (by decide)
  have h2 : ∀ W, Calls Tryd.prog 53 #[.int .u64 d, .int .i64 15] W fun e w' => e = .returned (.int .u64 (Ln.up d 15)) ∧ w' = W := fun W => ishift_up d 15 W d0 (by omega) (by decide)
  have hor := psh_or x d x0 x1 d0 d9
  have hd := Ln.down_hi x 1 x0 x1
  have hd0 := Ln.down_lo x 1 x0
  have hu := Ln.up_hi d 15
  have hu0 := Ln.up_lo d 15
  generalize Ln.down x 1 = D at *
  generalize Ln.up d 15 = U at *
  generalize psh x d = R at *
  have H1 : Hid (∀ W, Calls Tryd.prog 53 #[.int .u64 x, .int .i64 (-1)] W fun e w' => e = .returned (.int .u64 D) ∧ w' = W) := h1
  have H2 : Hid (∀ W, Calls Tryd.prog 53 #[.int .u64 d, .int .i64 15] W fun e w' => e = .returned (.int .u64 U) ∧ w' = W) := h2
  have Hor : Hid (bits .or .u64 D U = R) := hor
  clear h1 h2 hor
  go_enter Tryd.func34, Tryd.ntmps34
  go_wp2_with fail
  refine (H1.out _).mono ?_
  rintro e w1 ⟨rfl, hw⟩
  obtain rfl := hw.symm
  go_wp2_with fail
  refine (H2.out _).mono ?_
  rintro e w1 ⟨rfl, hw⟩
  obtain rfl := hw.symm
  go_wp2
  go_ret
  exact ⟨Ln.ret_int Hor.out, rfl⟩
end Go.Proofs.YtlbkhiphnllfpacDoor
