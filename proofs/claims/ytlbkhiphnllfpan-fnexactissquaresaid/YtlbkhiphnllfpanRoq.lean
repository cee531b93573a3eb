/-
  RootStep, Isqrt, IsSquare and Root of the program, walked.
-/
import Derived.Test.YtlbkhiphnllfpanRop
import Derived.Test.YtlbkhiphnllfpanCep
namespace Go.Proofs.Ytlbkhiphnllfpan
open Go.RowKit
set_option linter.unusedVariables false
/-- What a step of two digits lets in, and what it answers. -/
def rsk (p r d : Int) : Bool := decide ((0 ≤ p ∧ p ≤ 100000000) ∧ (0 ≤ r ∧ r ≤ 2 * p) ∧ 0 ≤ d ∧ d ≤ 99)
def rsA (p r d : Int) : Int := if rsk p r d then 10 * p + qd p (100 * r + d) else 0
def rsB (p r d : Int) : Int := if rsk p r d then 100 * r + d - tk p (qd p (100 * r + d)) else 0
theorem sq_le (p m : Int) (h0 : 0 ≤ p) (h1 : p ≤ m) : p * p ≤ m * m := Int.mul_le_mul h1 h1 h0 (Int.le_trans h0 h1)
theorem gr_one (p r d : Int) : gr p r [d] = ([qd p (100 * r + d)], 10 * p + qd p (100 * r + d), 100 * r + d - tk p (qd p (100 * r + d))) := rfl
theorem results_pair {fn : Func} {p : Tmp} {b : Nat} {x y : Value} (h : fn.results = #[.cell p 25]) (tmps : Array Value) (w : World) (hp : tmps[p]?.getD undef = .pointer (some ⟨b, 0, none⟩))
    (q0 : w.cell? ⟨b, 0, none⟩ = some x) (q1 : w.cell? ⟨b, 1, none⟩ = some y) : (results fn tmps).run Try.prog w = .ok (.agg #[x, y]) w := by
  simp [results, h, hp, go_sem, q0, q1]
set_option maxHeartbeats 2000000 in
theorem rootOf_any (x : Int) (w : World) (h0 : 0 ≤ x) (h1 : x ≤ 9223372036854775807) :
    Calls Try.prog 9 #[.int .i64 x] w fun e w' => e = .returned (.agg #[.int .i64 (isq x), .int .i64 (x - isq x * isq x)]) ∧ Below w.heap.size w w' := by
  have HP : Hid (∀ W, Calls Try.prog 11 #[.int .i64 x, .int .i64 10] W fun e w' => ∃ u, e = .returned u ∧ HasN w' W.heap.size u (cut 100 x 10) ∧ Below W.heap.size W w') := fun W => pairsOf_any x 10 W h0 h1 (by decide)
  have HG : Hid (∀ W v base, HasN W base v (cut 100 x 10) → Calls Try.prog 10 #[.agg #[.int .i64 0, .int .i64 0], v] W fun e w' => ∃ u, e = .returned (.tuple #[u, .agg #[.int .i64 (isq x), .int .i64 (x - isq x * isq x)]]) ∧ Below W.heap.size W w') := fun W v base h => by
    rw [← isq_rest x h0 h1]
    refine (grown_any 0 0 v (cut 100 x 10) base W h (by rw [cut_length]; omega) (cut_prs x 10) (by decide) (by decide) (by decide) (by rw [show ((0 : Int) * 0 + 0) = 0 from rfl, hv_all x h0 h1]; exact h1)).mono ?_
    rintro e w' ⟨u, rfl, -, hb⟩
    exact ⟨u, rfl, hb⟩
  have HZ : Hid (Bx (w.alloc (.cells #[.int .i64 0, .int .i64 0] 25)) w.heap.size 0 0) := bx_new w 0 0
  have HB0 : Hid (Below w.heap.size w (w.alloc (.cells #[.int .i64 0, .int .i64 0] 25))) := (Below.refl _ _).alloc (Nat.le_refl _) _
  obtain ⟨A, hA⟩ : ∃ A, isq x = A := ⟨_, rfl⟩
  obtain ⟨B, hB⟩ : ∃ B, x - isq x * isq x = B := ⟨_, rfl⟩
  rw [hB] at HG ⊢
  rw [hA] at HG ⊢
  clear hA hB
  go_enter Try.func9, Try.ntmps9
  go_wp2_with fail
  refine (HP.out _).mono ?_
  rintro e w1 ⟨u, rfl, hu, hb1⟩
  go_wp2_with fail
  refine (HG.out _ _ _ hu).mono ?_
  rintro e w2 ⟨u2, rfl, hb2⟩
  have hs1 : w.heap.size + 1 ≤ w1.heap.size := by have := hb1.size; simpa using this
  have hs2 := hb2.size
  have hZ2 : Bx w2 w.heap.size 0 0 := (HZ.out.below hb1 (by simp)).below hb2 (by omega)
  have hB2 : Below w.heap.size w w2 := (HB0.out.trans (hb1.mono (by simp))).trans (hb2.mono (by omega))
  have hZ3 := hZ2.alloc (.cells #[.int .i64 A, .int .i64 B] 25)
  have HZ3 : Hid (Bx (w2.alloc (.cells #[.int .i64 A, .int .i64 B] 25)) w.heap.size 0 0) := hZ3
  obtain ⟨z0, z1, z2, z3⟩ := hZ3.cells
  obtain ⟨y0, y1, -, -⟩ := (bx_new w2 A B).cells
  have HB2 : Hid (Below w.heap.size w (w2.alloc (.cells #[.int .i64 A, .int .i64 B] 25))) := hB2.alloc (by omega) _
  clear HP HG hu hb1 hb2 hZ2 hZ3 HZ HB0 hB2
  go_wp2
  have hQ := HZ3.out.put A B
  obtain ⟨q0, q1, -, -⟩ := hQ.cells
  refine bodyPost_ret (results_pair rfl _ _ rfl q0 q1) rfl ?_
  exact ⟨rfl, (HB2.out.setCell (Nat.le_refl _) _).setCell (Nat.le_refl _) _⟩
theorem fld0 (A B : Int) (w : World) : (Instr.field 25 (.agg #[.int .i64 A, .int .i64 B]) 0).run Try.prog w = .ok (.int .i64 A) w := by kernel_rfl
theorem fld1 (A B : Int) (w : World) : (Instr.field 25 (.agg #[.int .i64 A, .int .i64 B]) 1).run Try.prog w = .ok (.int .i64 B) w := by kernel_rfl
/-- What IsSquare answers. -/
def isB (x : Int) : Bool := decide (0 ≤ x) && decide (x - isq x * isq x = 0)
theorem iIsSquare_any (x : Int) (w : World) (h1 : x ≤ 9223372036854775807) :
    Calls Try.prog 6 #[.int .i64 x] w fun e w' => e = .returned (.bool (isB x)) ∧ Below w.heap.size w w' := by
  by_cases h0 : 0 ≤ x
  · have E : Hid (isB x = decide (x - isq x * isq x = 0)) := by show _ = _; unfold isB; rw [decide_eq_true h0]; rfl
    have HR : Hid (∀ W, Calls Try.prog 9 #[.int .i64 x] W fun e w' => e = .returned (.agg #[.int .i64 (isq x), .int .i64 (x - isq x * isq x)]) ∧ Below W.heap.size W w') := fun W => rootOf_any x W h0 h1
    generalize x - isq x * isq x = B at *
    generalize isq x = A at *
    generalize isB x = K at *
    go_enter Try.func6, Try.ntmps6
    go_wp2_with fail
    refine (HR.out _).mono ?_
    rintro e w1 ⟨rfl, hb⟩
    have hfd := fld1 A B w1
    go_wp2
    go_ret
    exact ⟨Ln.ret_bool E.out.symm, hb⟩
  · have E : Hid (isB x = false) := by show _ = _; unfold isB; rw [decide_eq_false h0]; rfl
    generalize isB x = K at *
    go_enter Try.func6, Try.ntmps6
    go_wp2
    go_ret
    exact ⟨Ln.ret_bool E.out.symm, Below.refl _ _⟩
/-- What Isqrt answers. -/
def isA (x : Int) : Int := if x < 0 then -1 else isq x
theorem iIsqrt_any (x : Int) (w : World) (h1 : x ≤ 9223372036854775807) :
    Calls Try.prog 8 #[.int .i64 x] w fun e w' => e = .returned (.int .i64 (isA x)) ∧ Below w.heap.size w w' := by
  by_cases h0 : x < 0
  · have E : Hid (isA x = -1) := by show _ = _; unfold isA; rw [if_pos h0]
    generalize isA x = K at *
    go_enter Try.func8, Try.ntmps8
    go_wp2
    go_ret
    exact ⟨Ln.ret_int E.out.symm, Below.refl _ _⟩
  · have E : Hid (isA x = isq x) := by show _ = _; unfold isA; rw [if_neg h0]
    have HR : Hid (∀ W, Calls Try.prog 9 #[.int .i64 x] W fun e w' => e = .returned (.agg #[.int .i64 (isq x), .int .i64 (x - isq x * isq x)]) ∧ Below W.heap.size W w') := fun W => rootOf_any x W (by omega) h1
    generalize x - isq x * isq x = B at *
    generalize isq x = A at *
    generalize isA x = K at *
    go_enter Try.func8, Try.ntmps8
    go_wp2_with fail
    refine (HR.out _).mono ?_
    rintro e w1 ⟨rfl, hb⟩
    have hfd := fld0 A B w1
    go_wp2
    go_ret
    exact ⟨Ln.ret_int E.out.symm, hb⟩
/-- What Root lets in, and what it answers. -/
def rok (x n : Int) : Bool := decide ((0 ≤ x ∧ x ≤ 99999999) ∧ 0 ≤ n ∧ n ≤ 4)
def rtX (x n : Int) : Int := x * 10 ^ (2 * n.toNat)
def rtL (x n : Int) : List Int := if rok x n then cut 10 (isq (rtX x n)) (4 + n.toNat) else []
def rtR (x n : Int) : Int := if rok x n then rtX x n - isq (rtX x n) * isq (rtX x n) else 0
theorem rtL_len (x n : Int) : (rtL x n).length ≤ 8 := by
  unfold rtL
  split
  · rename_i h
    have := of_decide_eq_true h
    rw [cut_length]; omega
  · simp
theorem ten_two (N : Nat) : (10 : Int) ^ (2 * N) = 100 ^ N := by rw [Int.pow_mul]; rfl
theorem rtX_bd (x : Int) (N : Nat) (h0 : 0 ≤ x) (h1 : x ≤ 99999999) (hN : N ≤ 4) : 0 ≤ x * 10 ^ (2 * N) ∧ x * 10 ^ (2 * N) < 100 ^ (4 + N) ∧ x * 10 ^ (2 * N) ≤ 9999999900000000 ∧ (0 : Int) < 10 ^ (2 * N) ∧ (10 : Int) ^ (2 * N) ≤ 100000000 := by
  rw [ten_two]
  match N, hN with
  | 0, _ => simp; omega
  | 1, _ => simp; omega
  | 2, _ => simp; omega
  | 3, _ => simp; omega
  | 4, _ => simp; omega
theorem root_told (X : Int) (m : Nat) (h0 : 0 ≤ X) (h1 : X < 100 ^ m) (h2 : X ≤ 9223372036854775807) : gr 0 0 (cut 100 X m) = (cut 10 (isq X) m, isq X, X - isq X * isq X) := by
  obtain ⟨a, b, c, d, e, f⟩ := gr_inv 0 0 (cut 100 X m) (cut_prs X m) (by decide) (by decide) (by decide)
  have g := gr_vl (cut 100 X m) (cut_prs X m)
  rw [show ((0 : Int) * 0 + 0) = 0 from rfl, cut_hv X m h0 h1] at f
  rw [cut_length] at b
  have k := cut_back _ a
  rw [g, b] at k
  generalize gr 0 0 (cut 100 X m) = t at *
  obtain ⟨D, S, R⟩ := t
  have l := root_left X S R f d e
  have hs := isq_unique X S h0 h2 c l.1 l.2
  subst hs
  simp only at k f
  rw [k]
  congr 2
  omega
end Go.Proofs.Ytlbkhiphnllfpan
