/-
  RootStep, Isqrt, IsSquare and Root of the program, walked.
-/
import Derived.Test.YtlbkhiphnllfpadRop
import Derived.Test.YtlbkhiphnllfpadCep
namespace Go.Proofs.Ytlbkhiphnllfpad
open Go.RowKit
set_option linter.unusedVariables false
/-- What a step of two digits lets in, and what it answers. -/
def rsk (p r d : Int) : Bool := decide ((0 ≤ p ∧ p ≤ 100000000) ∧ (0 ≤ r ∧ r ≤ 2 * p) ∧ 0 ≤ d ∧ d ≤ 99)
def rsA (p r d : Int) : Int := if rsk p r d then 10 * p + qd p (100 * r + d) else 0
def rsB (p r d : Int) : Int := if rsk p r d then 100 * r + d - tk p (qd p (100 * r + d)) else 0
theorem sq_le (p m : Int) (h0 : 0 ≤ p) (h1 : p ≤ m) : p * p ≤ m * m := Int.mul_le_mul h1 h1 h0 (Int.le_trans h0 h1)
theorem gr_one (p r d : Int) : gr p r [d] = ([qd p (100 * r + d)], 10 * p + qd p (100 * r + d), 100 * r + d - tk p (qd p (100 * r + d))) := rfl
set_option maxHeartbeats 2000000 in
theorem iRootStep_any (p r d : Int) (w : World) (i1 : -9223372036854775808 ≤ p ∧ p ≤ 9223372036854775807) (i2 : -9223372036854775808 ≤ r ∧ r ≤ 9223372036854775807) (i3 : -9223372036854775808 ≤ d ∧ d ≤ 9223372036854775807) :
    Calls Try.prog 9 #[.int .i64 p, .int .i64 r, .int .i64 d] w fun e w' => e = .returned (.tuple #[.int .i64 (rsA p r d), .int .i64 (rsB p r d), .bool (rsk p r d)]) ∧ Below w.heap.size w w' := by
  have hno : rsk p r d = false → (rsA p r d = 0 ∧ rsB p r d = 0) := fun h => by unfold rsA rsB; rw [h]; exact ⟨rfl, rfl⟩
  by_cases a1 : p < 0
  · have e : rsk p r d = false := decide_eq_false (by omega)
    rw [(hno e).1, (hno e).2, e]
    clear hno e
    go_enter Try.func9, Try.ntmps9
    go_wp2
    go_ret3
    exact ⟨rfl, Below.refl _ _⟩
  by_cases a2 : 100000000 < p
  · have e : rsk p r d = false := decide_eq_false (by omega)
    rw [(hno e).1, (hno e).2, e]
    clear hno e
    go_enter Try.func9, Try.ntmps9
    go_wp2
    go_ret3
    exact ⟨rfl, Below.refl _ _⟩
  by_cases a3 : r < 0
  · have e : rsk p r d = false := decide_eq_false (by omega)
    rw [(hno e).1, (hno e).2, e]
    clear hno e
    go_enter Try.func9, Try.ntmps9
    go_wp2
    go_ret3
    exact ⟨rfl, Below.refl _ _⟩
  by_cases a4 : 2 * p < r
  · have e : rsk p r d = false := decide_eq_false (by omega)
    rw [(hno e).1, (hno e).2, e]
    clear hno e
    go_enter Try.func9, Try.ntmps9
    go_wp2
    go_ret3
    exact ⟨rfl, Below.refl _ _⟩
  by_cases a5 : d < 0
  · have e : rsk p r d = false := decide_eq_false (by omega)
    rw [(hno e).1, (hno e).2, e]
    clear hno e
    go_enter Try.func9, Try.ntmps9
    go_wp2
    go_ret3
    exact ⟨rfl, Below.refl _ _⟩
  by_cases a6 : 100 ≤ d
  · have e : rsk p r d = false := decide_eq_false (by omega)
    rw [(hno e).1, (hno e).2, e]
    clear hno e
    go_enter Try.func9, Try.ntmps9
    go_wp2
    go_ret3
    exact ⟨rfl, Below.refl _ _⟩
  have e : rsk p r d = true := decide_eq_true (by omega)
  have e1 : rsA p r d = (gr p r [d]).2.1 := by unfold rsA; rw [e]; rfl
  have e2 : rsB p r d = (gr p r [d]).2.2 := by unfold rsB; rw [e]; rfl
  have hpp := sq_le p 100000000 (by omega) (by omega)
  have HG : Hid (Calls Try.prog 22 #[.agg #[.int .i64 p, .int .i64 r], .slice (some ⟨w.heap.size, 0, none⟩) 1 1] (w.alloc (.cells #[.int .i64 d] 2)) fun e w' => ∃ u, e = .returned (.tuple #[u, .agg #[.int .i64 (gr p r [d]).2.1, .int .i64 (gr p r [d]).2.2]]) ∧ Has w' (w.alloc (.cells #[.int .i64 d] 2)).heap.size u (gr p r [d]).1 ∧ Below (w.alloc (.cells #[.int .i64 d] 2)).heap.size (w.alloc (.cells #[.int .i64 d] 2)) w') :=
    grown_any p r _ [d] w.heap.size _ (one_ownN w d) (by simp) (fun x hx => by rw [List.mem_singleton.1 hx]; omega) (by omega) (by omega) (by omega) (by show (p * p + r) * 100 + d ≤ _; omega)
  rw [e, e1, e2]
  clear hno e e1 e2 hpp
  generalize (gr p r [d]).2.1 = A at *
  generalize (gr p r [d]).2.2 = B at *
  go_enter Try.func9, Try.ntmps9
  go_wp2_with fail
  refine HG.out.mono ?_
  rintro e w1 ⟨u, rfl, -, hb⟩
  have hs := hb.size
  have hB : Below w.heap.size w w1 := ((Below.refl w.heap.size w).alloc (Nat.le_refl _) _).trans (hb.mono (by simp))
  obtain ⟨q0, q1, -, -⟩ := (bx_new w1 A B).cells
  clear HG hb
  go_wp2
  go_quiet (fail)
  go_wp2
  go_ret3
  exact ⟨rfl, below_drewN (hB.alloc hB.size _) _⟩
theorem results_pair {fn : Func} {p : Tmp} {b : Nat} {x y : Value} (h : fn.results = #[.cell p 44]) (tmps : Array Value) (w : World) (hp : tmps[p]?.getD undef = .pointer (some ⟨b, 0, none⟩))
    (q0 : w.cell? ⟨b, 0, none⟩ = some x) (q1 : w.cell? ⟨b, 1, none⟩ = some y) : (results fn tmps).run Try.prog w = .ok (.agg #[x, y]) w := by
  simp [results, h, hp, go_sem, q0, q1]
set_option maxHeartbeats 2000000 in
theorem rootOf_any (x : Int) (w : World) (h0 : 0 ≤ x) (h1 : x ≤ 9223372036854775807) :
    Calls Try.prog 33 #[.int .i64 x] w fun e w' => e = .returned (.agg #[.int .i64 (isq x), .int .i64 (x - isq x * isq x)]) ∧ Below w.heap.size w w' := by
  have HP : Hid (∀ W, Calls Try.prog 23 #[.int .i64 x, .int .i64 10] W fun e w' => ∃ u, e = .returned u ∧ HasN w' W.heap.size u (cut 100 x 10) ∧ Below W.heap.size W w') := fun W => pairsOf_any x 10 W h0 h1 (by decide)
  have HG : Hid (∀ W v base, HasN W base v (cut 100 x 10) → Calls Try.prog 22 #[.agg #[.int .i64 0, .int .i64 0], v] W fun e w' => ∃ u, e = .returned (.tuple #[u, .agg #[.int .i64 (isq x), .int .i64 (x - isq x * isq x)]]) ∧ Below W.heap.size W w') := fun W v base h => by
    rw [← isq_rest x h0 h1]
    refine (grown_any 0 0 v (cut 100 x 10) base W h (by rw [cut_length]; omega) (cut_prs x 10) (by decide) (by decide) (by decide) (by rw [show ((0 : Int) * 0 + 0) = 0 from rfl, hv_all x h0 h1]; exact h1)).mono ?_
    rintro e w' ⟨u, rfl, -, hb⟩
    exact ⟨u, rfl, hb⟩
  have HZ : Hid (Bx (w.alloc (.cells #[.int .i64 0, .int .i64 0] 44)) w.heap.size 0 0) := bx_new w 0 0
  have HB0 : Hid (Below w.heap.size w (w.alloc (.cells #[.int .i64 0, .int .i64 0] 44))) := (Below.refl _ _).alloc (Nat.le_refl _) _
  obtain ⟨A, hA⟩ : ∃ A, isq x = A := ⟨_, rfl⟩
  obtain ⟨B, hB⟩ : ∃ B, x - isq x * isq x = B := ⟨_, rfl⟩
  rw [hB] at HG ⊢
  rw [hA] at HG ⊢
  clear hA hB
  go_enter Try.func33, Try.ntmps33
  go_wp2_with fail
  refine (HP.out _).mono ?_
  rintro e w1 ⟨u, rfl, hu, hb1⟩
  go_wp2_with fail
  refine (HG.out _ _ _ hu).mono ?_
  rintro e w2 ⟨u2, rfl, hb2⟩
  have hs1 : w.heap.size + 1 ≤ w1.heap.size := by have := hb1.size; simpa using this
  have hs2 := hb2.size
  have hZ2 : Bx w2 w.heap.size 0 0 := (HZ.out.below hb1 (by simp)).below hb2 (by omega)
  have hB2 : Below w.heap.size w w2 := (HB0.out.trans (hb1.mono (by simp))).trans (hb2.mono (by omega))
  have hZ3 := hZ2.alloc (.cells #[.int .i64 A, .int .i64 B] 44)
  have HZ3 : Hid (Bx (w2.alloc (.cells #[.int .i64 A, .int .i64 B] 44)) w.heap.size 0 0) := hZ3
  obtain ⟨z0, z1, z2, z3⟩ := hZ3.cells
  obtain ⟨y0, y1, -, -⟩ := (bx_new w2 A B).cells
  have HB2 : Hid (Below w.heap.size w (w2.alloc (.cells #[.int .i64 A, .int .i64 B] 44))) := hB2.alloc (by omega) _
  clear HP HG hu hb1 hb2 hZ2 hZ3 HZ HB0 hB2
  go_wp2
  have hQ := HZ3.out.put A B
  obtain ⟨q0, q1, -, -⟩ := hQ.cells
  refine bodyPost_ret (results_pair rfl _ _ rfl q0 q1) rfl ?_
  exact ⟨rfl, (HB2.out.setCell (Nat.le_refl _) _).setCell (Nat.le_refl _) _⟩
theorem fld0 (A B : Int) (w : World) : (Instr.field 44 (.agg #[.int .i64 A, .int .i64 B]) 0).run Try.prog w = .ok (.int .i64 A) w := by kernel_rfl
theorem fld1 (A B : Int) (w : World) : (Instr.field 44 (.agg #[.int .i64 A, .int .i64 B]) 1).run Try.prog w = .ok (.int .i64 B) w := by kernel_rfl
/-- What IsSquare answers. -/
def isB (x : Int) : Bool := decide (0 ≤ x) && decide (x - isq x * isq x = 0)
theorem iIsSquare_any (x : Int) (w : World) (h1 : x ≤ 9223372036854775807) :
    Calls Try.prog 15 #[.int .i64 x] w fun e w' => e = .returned (.bool (isB x)) ∧ Below w.heap.size w w' := by
  by_cases h0 : 0 ≤ x
  · have E : Hid (isB x = decide (x - isq x * isq x = 0)) := by show _ = _; unfold isB; rw [decide_eq_true h0]; rfl
    have HR : Hid (∀ W, Calls Try.prog 33 #[.int .i64 x] W fun e w' => e = .returned (.agg #[.int .i64 (isq x), .int .i64 (x - isq x * isq x)]) ∧ Below W.heap.size W w') := fun W => rootOf_any x W h0 h1
    generalize x - isq x * isq x = B at *
    generalize isq x = A at *
    generalize isB x = K at *
    go_enter Try.func15, Try.ntmps15
    go_wp2_with fail
    refine (HR.out _).mono ?_
    rintro e w1 ⟨rfl, hb⟩
    have hfd := fld1 A B w1
    go_wp2
    go_ret
    exact ⟨Ln.ret_bool E.out.symm, hb⟩
  · have E : Hid (isB x = false) := by show _ = _; unfold isB; rw [decide_eq_false h0]; rfl
    generalize isB x = K at *
    go_enter Try.func15, Try.ntmps15
    go_wp2
    go_ret
    exact ⟨Ln.ret_bool E.out.symm, Below.refl _ _⟩
/-- What Isqrt answers. -/
def isA (x : Int) : Int := if x < 0 then -1 else isq x
theorem iIsqrt_any (x : Int) (w : World) (h1 : x ≤ 9223372036854775807) :
    Calls Try.prog 14 #[.int .i64 x] w fun e w' => e = .returned (.int .i64 (isA x)) ∧ Below w.heap.size w w' := by
  by_cases h0 : x < 0
  · have E : Hid (isA x = -1) := by show _ = _; unfold isA; rw [if_pos h0]
    generalize isA x = K at *
    go_enter Try.func14, Try.ntmps14
    go_wp2
    go_ret
    exact ⟨Ln.ret_int E.out.symm, Below.refl _ _⟩
  · have E : Hid (isA x = isq x) := by show _ = _; unfold isA; rw [if_neg h0]
    have HR : Hid (∀ W, Calls Try.prog 33 #[.int .i64 x] W fun e w' => e = .returned (.agg #[.int .i64 (isq x), .int .i64 (x - isq x * isq x)]) ∧ Below W.heap.size W w') := fun W => rootOf_any x W (by omega) h1
    generalize x - isq x * isq x = B at *
    generalize isq x = A at *
    generalize isA x = K at *
    go_enter Try.func14, Try.ntmps14
    go_wp2_with fail
    refine (HR.out _).mono ?_
    rintro e w1 ⟨rfl, hb⟩
    have hfd := fld0 A B w1
    go_wp2
    go_ret
    exact ⟨Ln.ret_int E.out.symm, hb⟩
/-- What Root lets in, and what it answers. -/
def rok (x n : Int) : Bool := decide ((0 ≤ x ∧ x ≤ 99999999) ∧ 0 ≤ n ∧ n ≤ 4)
def rtX (x n : Int) : Int := x * 10 ^ (2 * n.toNat)
def rtL (x n : Int) : List Int := if rok x n then cut 10 (isq (rtX x n)) (4 + n.toNat) else []
def rtR (x n : Int) : Int := if rok x n then rtX x n - isq (rtX x n) * isq (rtX x n) else 0
theorem rtL_len (x n : Int) : (rtL x n).length ≤ 8 := by
  unfold rtL
  split
  · rename_i h
    have := of_decide_eq_true h
    rw [cut_length]; omega
  · simp
theorem ten_two (N : Nat) : (10 : Int) ^ (2 * N) = 100 ^ N := by rw [Int.pow_mul]; rfl
theorem rtX_bd (x : Int) (N : Nat) (h0 : 0 ≤ x) (h1 : x ≤ 99999999) (hN : N ≤ 4) : 0 ≤ x * 10 ^ (2 * N) ∧ x * 10 ^ (2 * N) < 100 ^ (4 + N) ∧ x * 10 ^ (2 * N) ≤ 9999999900000000 ∧ (0 : Int) < 10 ^ (2 * N) ∧ (10 : Int) ^ (2 * N) ≤ 100000000 := by
  rw [ten_two]
  match N, hN with
  | 0, _ => simp; omega
  | 1, _ => simp; omega
  | 2, _ => simp; omega
  | 3, _ => simp; omega
  | 4, _ => simp; omega
theorem root_told (X : Int) (m : Nat) (h0 : 0 ≤ X) (h1 : X < 100 ^ m) (h2 : X ≤ 9223372036854775807) : gr 0 0 (cut 100 X m) = (cut 10 (isq X) m, isq X, X - isq X * isq X) := by
  obtain ⟨a, b, c, d, e, f⟩ := gr_inv 0 0 (cut 100 X m) (cut_prs X m) (by decide) (by decide) (by decide)
  have g := gr_vl (cut 100 X m) (cut_prs X m)
  rw [show ((0 : Int) * 0 + 0) = 0 from rfl, cut_hv X m h0 h1] at f
  rw [cut_length] at b
  have k := cut_back _ a
  rw [g, b] at k
  generalize gr 0 0 (cut 100 X m) = t at *
  obtain ⟨D, S, R⟩ := t
  have l := root_left X S R f d e
  have hs := isq_unique X S h0 h2 c l.1 l.2
  subst hs
  simp only at k f
  rw [k]
  congr 2
  omega
set_option maxHeartbeats 2000000 in
theorem iRoot_any (x n : Int) (w : World) (i1 : -9223372036854775808 ≤ x ∧ x ≤ 9223372036854775807) (i2 : -9223372036854775808 ≤ n ∧ n ≤ 9223372036854775807) :
    Calls Try.prog 6 #[.int .i64 x, .int .i64 n] w fun e w' => ∃ u, e = .returned (.tuple #[u, .int .i64 (rtR x n), .bool (rok x n)]) ∧ Has w' w.heap.size u (rtL x n) ∧ Below w.heap.size w w' := by
  have hno : rok x n = false → (rtR x n = 0 ∧ rtL x n = []) := fun h => by unfold rtR rtL; rw [h]; exact ⟨rfl, rfl⟩
  have HN0 : Hid (Has (w.alloc (.cells #[] 2)) w.heap.size (.slice (some ⟨w.heap.size, 0, none⟩) 0 0) [] ∧ Below w.heap.size w (w.alloc (.cells #[] 2))) := ⟨none_own w, (Below.refl _ _).alloc (Nat.le_refl _) _⟩
  by_cases a1 : x < 0
  · have e : rok x n = false := decide_eq_false (by omega)
    rw [(hno e).1, (hno e).2, e]
    clear hno e
    go_enter Try.func6, Try.ntmps6
    go_wp2
    go_ret3
    exact ⟨_, rfl, HN0.out.1, HN0.out.2⟩
  by_cases a2 : 99999999 < x
  · have e : rok x n = false := decide_eq_false (by omega)
    rw [(hno e).1, (hno e).2, e]
    clear hno e
    go_enter Try.func6, Try.ntmps6
    go_wp2
    go_ret3
    exact ⟨_, rfl, HN0.out.1, HN0.out.2⟩
  by_cases a3 : n < 0
  · have e : rok x n = false := decide_eq_false (by omega)
    rw [(hno e).1, (hno e).2, e]
    clear hno e
    go_enter Try.func6, Try.ntmps6
    go_wp2
    go_ret3
    exact ⟨_, rfl, HN0.out.1, HN0.out.2⟩
  by_cases a4 : 4 < n
  · have e : rok x n = false := decide_eq_false (by omega)
    rw [(hno e).1, (hno e).2, e]
    clear hno e
    go_enter Try.func6, Try.ntmps6
    go_wp2
    go_ret3
    exact ⟨_, rfl, HN0.out.1, HN0.out.2⟩
  have e : rok x n = true := decide_eq_true (by omega)
  obtain ⟨N, hN⟩ := Int.eq_ofNat_of_zero_le (show 0 ≤ n by omega)
  subst hN
  obtain ⟨b0, b1, b2, b3, b4⟩ := rtX_bd x N (by omega) (by omega) (by omega)
  have hX : rtX x (N : Int) = x * 10 ^ (2 * N) := by unfold rtX; rw [Int.toNat_natCast]
  have hT := root_told (x * 10 ^ (2 * N)) (4 + N) b0 b1 (by omega)
  have e1 : rtL x (N : Int) = (gr 0 0 (cut 100 (x * 10 ^ (2 * N)) (4 + N))).1 := by unfold rtL; rw [e, hX, hT, Int.toNat_natCast]; rfl
  have e2 : rtR x (N : Int) = (gr 0 0 (cut 100 (x * 10 ^ (2 * N)) (4 + N))).2.2 := by unfold rtR; rw [e, hX, hT]; rfl
  have HP : Hid (∀ W, Calls Try.prog 23 #[.int .i64 (x * 10 ^ (2 * N)), .int .i64 (4 + (N : Int))] W fun e w' => ∃ u, e = .returned u ∧ HasN w' W.heap.size u (cut 100 (x * 10 ^ (2 * N)) (4 + N)) ∧ Below W.heap.size W w') := fun W => by
    have := pairsOf_any (x * 10 ^ (2 * N)) (4 + N) W b0 (by omega) (by omega)
    simpa using this
  have HG : Hid (∀ W v base, HasN W base v (cut 100 (x * 10 ^ (2 * N)) (4 + N)) → Calls Try.prog 22 #[.agg #[.int .i64 0, .int .i64 0], v] W fun e w' => ∃ u, e = .returned (.tuple #[u, .agg #[.int .i64 (gr 0 0 (cut 100 (x * 10 ^ (2 * N)) (4 + N))).2.1, .int .i64 (gr 0 0 (cut 100 (x * 10 ^ (2 * N)) (4 + N))).2.2]]) ∧ Has w' W.heap.size u (gr 0 0 (cut 100 (x * 10 ^ (2 * N)) (4 + N))).1 ∧ Below W.heap.size W w') := fun W v base h =>
    grown_any 0 0 v _ base W h (by rw [cut_length]; omega) (cut_prs _ _) (by decide) (by decide) (by decide) (by rw [show ((0 : Int) * 0 + 0) = 0 from rfl, cut_hv _ _ b0 b1]; omega)
  have HQ : Hid (∀ W, Calls Try.prog 24 #[.int .i64 (2 * (N : Int))] W fun e w' => e = .returned (.int .i64 (10 ^ (2 * N))) ∧ w' = W) := fun W => by
    have := tenPower_any (2 * N) W (by omega)
    simpa using this
  rw [e, e1, e2]
  clear hno e e1 e2 hT hX b1 HN0
  generalize gr 0 0 (cut 100 (x * 10 ^ (2 * N)) (4 + N)) = t at *
  obtain ⟨D, s, r⟩ := t
  simp only at HG ⊢
  generalize cut 100 (x * 10 ^ (2 * N)) (4 + N) = C at *
  generalize (10 : Int) ^ (2 * N) = P at *
  go_enter Try.func6, Try.ntmps6
  go_wp2_with fail
  refine (HQ.out _).mono ?_
  rintro e w' ⟨rfl, hw⟩
  obtain rfl := hw.symm
  go_wp2_with fail
  refine (HP.out _).mono ?_
  rintro e w1 ⟨u, rfl, hu, hb1⟩
  go_wp2_with fail
  refine (HG.out _ _ _ hu).mono ?_
  rintro e w2 ⟨u2, rfl, hD, hb2⟩
  have hs1 := hb1.size
  have hs2 := hb2.size
  have HB : Hid (Below w.heap.size w w2) := hb1.trans (hb2.mono hs1)
  have HD : Hid (Has w2 w.heap.size u2 D) := hD.mono hs1
  obtain ⟨q0, q1, -, -⟩ := (bx_new w2 s r).cells
  clear HQ HP HG hu hb1 hb2 hD
  go_wp2
  go_quiet (fail)
  go_wp2
  go_ret3
  have hBa := HB.out.alloc (Nat.le_trans hs1 hs2) (.cells #[.int .i64 s, .int .i64 r] 44)
  exact ⟨_, rfl, (HD.out.below ((Below.refl _ _).alloc (Nat.le_refl _) _) (Nat.le_refl _)).below (below_drewN (Below.refl _ _) _) (Nat.le_refl _), below_drewN hBa _⟩
end Go.Proofs.Ytlbkhiphnllfpad
