/-
  What the draws of lane words and shifts give, walked.
-/
import Derived.Test.YtmjkpjmccdjkjadDraw
namespace Go.Proofs.Ytmjkpjmccdjkjad
open Go.RowKit
set_option linter.unusedVariables false

theorem u64_wrap_bd (x : Int) : 0 ≤ IntKind.u64.wrap x ∧ IntKind.u64.wrap x ≤ 18446744073709551615 := by
  rw [IntKind.wrap_u64]; omega
/-- A cell of a row that was laid just ahead of a draw. -/
theorem lit_at {w w2 : World} {arr : Array Value} {T : TypeId} {cb : Nat} (hg : (w.alloc (.cells arr T)).grownBy w2 (some cb)) (hcb : cb < w.heap.size) (i : Nat) (v : Value) (hv : arr[i]? = some v) : w2.cell? ⟨w.heap.size, i, none⟩ = some v := by
  refine hg.cell ?_ (fun e => by have e' : w.heap.size = cb := Option.some.inj e; omega)
  simpa using hv
theorem cur_alloc {B cb : Nat} {w : World} (h : Cur B w cb) (o : Obj) : Cur B (w.alloc o) cb := by
  obtain ⟨a, len, cap, i, h, hB, hcb, hlen, hi, hby, c0, c1, c2, f1, f2⟩ := h
  have bel : Below w.heap.size w (w.alloc o) := (Below.refl _ _).alloc (Nat.le_refl _) _
  refine ⟨a, len, cap, i, h, hB, Nat.lt_of_lt_of_le hcb bel.size, hlen, hi, hby.grown (World.grownBy_alloc w o (some cb)) hB, ?_, ?_, ?_, ?_, ?_⟩
  · exact (bel.cell (p := ⟨cb, 0, none⟩) hcb).trans c0
  · exact (bel.cell (p := ⟨cb, 1, none⟩) hcb).trans c1
  · exact (bel.cell (p := ⟨cb, 2, none⟩) hcb).trans c2
  · exact (bel.frozen (p := ⟨cb, 1, none⟩) hcb).trans f1
  · exact (bel.frozen (p := ⟨cb, 2, none⟩) hcb).trans f2
theorem Cur.lt {B cb : Nat} {w : World} (h : Cur B w cb) : B ≤ cb ∧ cb < w.heap.size := by
  obtain ⟨_, _, _, _, _, hB, hcb, _⟩ := h; exact ⟨hB, hcb⟩
theorem l1From_any (B cb : Nat) (lo hi : Int) (w : World) (hc : Cur B w cb) (h0 : -1000000000000000 ≤ lo) (h1 : lo ≤ hi) (h2 : hi ≤ 1000000000000000) :
    Calls Try.prog 32 #[.pointer (some ⟨cb, 0, none⟩), .int .i64 lo, .int .i64 hi] w fun e w' => ∃ x, e = .returned (.int .i64 x) ∧ lo ≤ x ∧ x ≤ hi ∧ Cur B w' cb ∧ w.grownBy w' (some cb) := by
  go_enter Try.func32, Try.ntmps32
  go_wp2_with fail
  refine (l1Below_any B cb (hi - lo + 1) _ hc (by omega) (by omega)).mono ?_
  rintro e w1 ⟨x, rfl, x0, x1, hc1, hg1⟩
  go_wp2
  go_ret
  exact ⟨_, rfl, by omega, by omega, hc1, hg1⟩
end Go.Proofs.Ytmjkpjmccdjkjad
