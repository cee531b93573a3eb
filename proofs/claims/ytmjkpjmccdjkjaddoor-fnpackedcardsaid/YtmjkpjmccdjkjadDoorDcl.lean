/-
  What the model's Declet, Undeclet and Canonical answer, walked.
-/
import Derived.Test.YtmjkpjmccdjkjadDoorRows
import Derived.WalkKit
import Derived.Deep.DeepCutAuto
import Derived.Test.YtmjkpjmccdjkjadDoorDig
import Derived.Test.YtmjkpjmccdjkjadDoorIn
import Derived.Test.YtmjkpjmccdjkjadDoorDclM
namespace Go.Proofs.YtmjkpjmccdjkjadDoor
open Go.RowKit
set_option linter.unusedVariables false
set_option maxRecDepth 100000
set_option linter.unusedSimpArgs false
theorem lowbits (x : Int) (h0 : 0 ≤ x) (h1 : x ≤ 9) : Int.tmod x 2 = x % 2 ∧ (0 ≤ x % 2 ∧ x % 2 ≤ 1) ∧ Int.tmod x 8 = x % 8 ∧ (0 ≤ x % 8 ∧ x % 8 ≤ 7) ∧ Int.tdiv (x % 8) 2 = x % 8 / 2 ∧ (0 ≤ x % 8 / 2 ∧ x % 8 / 2 ≤ 3) ∧ Int.tdiv x 8 = x / 8 ∧ (x / 8 = 0 ∨ x / 8 = 1) :=
  ⟨Int.tmod_eq_emod_of_nonneg h0, by omega, Int.tmod_eq_emod_of_nonneg h0, by omega, Int.tdiv_eq_ediv_of_nonneg (by omega), by omega, Int.tdiv_eq_ediv_of_nonneg h0, by omega⟩
set_option maxRecDepth 100000 in
set_option maxHeartbeats 4000000 in
theorem sDeclet_yes (n : Int) (w : World) (h0 : 0 ≤ n) (h1 : n ≤ 999) :
    Calls Tryd.prog 32 #[.int .i64 n] w fun e w' => e = .returned (.int .i64 (dcl n)) ∧ w' = w := by
  have HD : Hid (dcl n = dcD (n / 100) (n / 10 % 10) (n % 10)) := by show _ = _; unfold dcl; rw [if_pos ⟨h0, h1⟩]
  have a1 : Int.tdiv n 100 = n / 100 := Int.tdiv_eq_ediv_of_nonneg h0
  have a2 : Int.tdiv n 10 = n / 10 := Int.tdiv_eq_ediv_of_nonneg h0
  have a3 : Int.tmod (n / 10) 10 = n / 10 % 10 := Int.tmod_eq_emod_of_nonneg (by omega)
  have a4 : Int.tmod n 10 = n % 10 := Int.tmod_eq_emod_of_nonneg h0
  have b1 : 0 ≤ n / 100 ∧ n / 100 ≤ 9 := by omega
  have b2 : 0 ≤ n / 10 ∧ n / 10 ≤ 99 := by omega
  have b3 : 0 ≤ n / 10 % 10 ∧ n / 10 % 10 ≤ 9 := by omega
  have b4 : 0 ≤ n % 10 ∧ n % 10 ≤ 9 := by omega
  generalize n / 100 = x at *
  generalize n / 10 % 10 = y at *
  generalize n % 10 = z at *
  generalize n / 10 = t at *
  obtain ⟨p1, p2, p3, p4, p5, p6, p7, p8⟩ := lowbits x b1.1 b1.2
  obtain ⟨q1, q2, q3, q4, q5, q6, q7, q8⟩ := lowbits y b3.1 b3.2
  obtain ⟨r1, r2, r3, r4, r5, r6, r7, r8⟩ := lowbits z b4.1 b4.2
  replace HD : Hid (dcl n = dcK (x / 8 * 4 + y / 8 * 2 + z / 8) (x % 8 / 2) (x % 2) (y % 8 / 2) (y % 2) (z % 8 / 2) (z % 2)) := HD
  generalize x % 8 / 2 = xb at *
  generalize y % 8 / 2 = yb at *
  generalize z % 8 / 2 = zb at *
  generalize x % 8 = x8 at *
  generalize y % 8 = y8 at *
  generalize z % 8 = z8 at *
  generalize x % 2 = d at *
  generalize y % 2 = h at *
  generalize z % 2 = m at *
  go_enter Tryd.func32, Tryd.ntmps32
  go_wp2_with fail
  refine (l1In_yes n 0 999 _ h0 h1).mono ?_
  rintro e w1 ⟨rfl, rfl⟩
  rcases p8 with p8 | p8 <;> rcases q8 with q8 | q8 <;> rcases r8 with r8 | r8 <;> rw [p8] at p7 HD <;> rw [q8] at q7 HD <;> rw [r8] at r7 HD <;> clear p8 q8 r8 <;> (go_wp2; go_ret; refine ⟨Ln.ret_int ?_, rfl⟩; rw [HD.out]; rfl)
set_option maxRecDepth 100000 in
set_option maxHeartbeats 4000000 in
theorem sDeclet_any (n : Int) (w : World) :
    Calls Tryd.prog 32 #[.int .i64 n] w fun e w' => e = .returned (.int .i64 (dcl n)) ∧ w' = w := by
  by_cases h : 0 ≤ n ∧ n ≤ 999
  · exact sDeclet_yes n w h.1 h.2
  rw [dcl_none n h]
  go_enter Tryd.func32, Tryd.ntmps32
  go_wp2_with fail
  refine (l1In_no n 0 999 _ (by omega)).mono ?_
  rintro e w1 ⟨rfl, rfl⟩
  go_wp2
  go_ret
  exact ⟨rfl, rfl⟩
end Go.Proofs.YtmjkpjmccdjkjadDoor
