/-
  What the model's test of a range answers, walked.
-/
import Derived.WalkKit
import Derived.Test.YtdkpiofeidcffaaGreatDoorRows
import Derived.Deep.QuietTactic
import Derived.BigQuiet
import Derived.WalkSmall
namespace Go.Proofs.YtdkpiofeidcffaaGreatDoor.Ln
/-- Lane i of a word. -/
def ln (w : Int) (i : Nat) : Int := w / 16 ^ i % 16
theorem pow4 (i : Nat) : (2 : Int) ^ (4 * i) = 16 ^ i := by rw [Int.pow_mul]; rfl
theorem pow_pos16 (i : Nat) : (0 : Int) < 16 ^ i := Int.pow_pos (by decide)
theorem ln_lo (w : Int) (i : Nat) : 0 ≤ ln w i := Int.emod_nonneg _ (by decide)
theorem ln_hi (w : Int) (i : Nat) : ln w i < 16 := Int.emod_lt_of_pos _ (by decide)
/-- n lanes up, in 64 bits. -/
def up (w : Int) (n : Nat) : Int := w * 16 ^ n % 18446744073709551616
theorem up_zero (w : Int) (h0 : 0 ≤ w) (h1 : w ≤ 18446744073709551615) : up w 0 = w := by
  unfold up; rw [Int.pow_zero, Int.mul_one]; omega
theorem up_succ (w : Int) (n : Nat) : up w n * 16 % 18446744073709551616 = up w (n + 1) := by
  unfold up; rw [Int.pow_succ, ← Int.mul_assoc, Int.mul_emod, Int.emod_emod_of_dvd _ (Int.dvd_refl _), ← Int.mul_emod]
theorem up_lo (w : Int) (n : Nat) : 0 ≤ up w n := by unfold up; omega
theorem up_hi (w : Int) (n : Nat) : up w n ≤ 18446744073709551615 := by unfold up; omega
/-- n lanes down. -/
def down (w : Int) (n : Nat) : Int := w / 16 ^ n
theorem down_zero (w : Int) : down w 0 = w := by unfold down; rw [Int.pow_zero, Int.ediv_one]
theorem down_succ (w : Int) (n : Nat) : down w n / 16 = down w (n + 1) := by
  unfold down; rw [Int.pow_succ, Int.ediv_ediv_of_nonneg (Int.le_of_lt (pow_pos16 n))]
theorem down_lo (w : Int) (n : Nat) (h0 : 0 ≤ w) : 0 ≤ down w n := Int.ediv_nonneg h0 (Int.le_of_lt (pow_pos16 n))
theorem down_hi (w : Int) (n : Nat) (h0 : 0 ≤ w) (h1 : w ≤ 18446744073709551615) : down w n ≤ 18446744073709551615 := by
  have := Int.ediv_le_self (16 ^ n) h0; unfold down; omega
/-- k lanes at the high end are 0, and no more. -/
def IsLead (w : Int) (k : Nat) : Prop := k ≤ 16 ∧ (∀ j, j < k → ln w (15 - j) = 0) ∧ (k < 16 → ln w (15 - k) ≠ 0)
theorem lead_unique (w : Int) (a b : Nat) (ha : IsLead w a) (hb : IsLead w b) : a = b := by
  obtain ⟨a1, a2, a3⟩ := ha
  obtain ⟨b1, b2, b3⟩ := hb
  rcases Nat.lt_trichotomy a b with h | h | h
  · exact absurd (b2 a h) (a3 (by omega))
  · exact h
  · exact absurd (a2 b h) (b3 (by omega))
theorem up_pow (x : Int) (n : Nat) : IntKind.u64.wrap (x * 2 ^ (4 * n)) = up x n := by
  unfold up; rw [IntKind.wrap_u64, pow4]
theorem up_step (x : Int) (n : Nat) : IntKind.u64.wrap (up x n * 16) = up x (n + 1) := by
  rw [IntKind.wrap_u64]; exact up_succ x n
theorem down_pow (x : Int) (n : Nat) : x / 2 ^ (4 * n) = down x n := by unfold down; rw [pow4]
theorem ret_int {k : IntKind} {a b : Int} (h : a = b) : Ending.returned (.int k a) = .returned (.int k b) := by rw [h]
theorem ret_bool {a b : Bool} (h : a = b) : Ending.returned (.bool a) = .returned (.bool b) := by rw [h]
theorem val_int {k : IntKind} {a b : Int} (h : a = b) : Value.int k a = .int k b := by rw [h]
theorem down_nat (x : Int) (n : Nat) (h0 : 0 ≤ x) (h1 : x ≤ 18446744073709551615) : ∃ a : Nat, down x n = a ∧ a < 18446744073709551616 := by
  have l := down_lo x n h0
  have h := down_hi x n h0 h1
  exact ⟨(down x n).toNat, by omega, by omega⟩
theorem ln_and (x : Int) (i : Nat) (h0 : 0 ≤ x) (h1 : x ≤ 18446744073709551615) : bits .and .u64 (x / 2 ^ (4 * i)) 15 = ln x i := by
  rw [down_pow]
  obtain ⟨a, ha, hb⟩ := down_nat x i h0 h1
  have e : ln x i = down x i % 16 := rfl
  rw [e, ha]
  have := bits_and_u64_nat a 15 hb (by decide)
  rw [show ((15 : Nat) : Int) = 15 from rfl] at this
  rw [this, show (15 : Nat) = 2 ^ 4 - 1 from rfl, Nat.and_two_pow_sub_one_eq_mod]
  rfl
theorem ln_mod (x : Int) (i : Nat) (h0 : 0 ≤ x) : Go.RowKit.wrap64 ((x / 2 ^ (4 * i)).tmod 16) = ln x i := by
  rw [down_pow, Int.tmod_eq_emod_of_nonneg (down_lo x i h0)]
  have e : ln x i = down x i % 16 := rfl
  rw [← e]
  have a := ln_lo x i
  have b := ln_hi x i
  unfold Go.RowKit.wrap64; omega
end Go.Proofs.YtdkpiofeidcffaaGreatDoor.Ln
namespace Go.Proofs.YtdkpiofeidcffaaGreatDoor
open Go.RowKit
set_option linter.unusedVariables false
set_option maxRecDepth 100000

/-- The slice value v holds the numbers zs in a row of its own, in a block from base on. -/
def Has (w : World) (base : Nat) (v : Value) (zs : List Int) : Prop := w.ownsRow base 2 1 v zs.length (zs.map (Value.int .i64))
theorem own_below {w w' : World} {base B : Nat} {e : TypeId} {s : Nat} {v : Value} {n : Nat} {xs : List Value} (h : w.ownsRow base e s v n xs) (hb : Below B w w') (hB : w.heap.size ≤ B) : w'.ownsRow base e s v n xs := by
  obtain ⟨hl, h⟩ := h
  refine ⟨hl, ?_⟩
  rcases h with h | ⟨g, cap, cur, e, hg, hc, r⟩
  · exact .inl h
  · have := (Array.getElem?_eq_some_iff.1 hc).1
    exact .inr ⟨g, cap, cur, e, hg, by rw [hb.block g (by omega)]; exact hc, r⟩
theorem Has.kept {w w' : World} {base : Nat} {v : Value} {zs : List Int} (h : Has w base v zs) (hb : ∀ k, k < w.heap.size → w'.heap[k]? = w.heap[k]?) : Has w' base v zs := by
  obtain ⟨hl, h⟩ := h
  refine ⟨hl, ?_⟩
  rcases h with h | ⟨g, cap, cur, e, hg, hc, r⟩
  · exact .inl h
  · exact .inr ⟨g, cap, cur, e, hg, by rw [hb g (Array.getElem?_eq_some_iff.1 hc).1]; exact hc, r⟩
theorem Has.below {w w' : World} {base B : Nat} {v : Value} {zs : List Int} (h : Has w base v zs) (hb : Below B w w') (hB : w.heap.size ≤ B) : Has w' base v zs :=
  h.kept fun k hk => hb.block k (by omega)
theorem Has.form {w : World} {base : Nat} {v : Value} {zs : List Int} (h : Has w base v zs) :
    (v = .slice none 0 0 ∧ zs = []) ∨ ∃ g cap, v = .slice (some ⟨g, 0, none⟩) zs.length cap ∧ base ≤ g ∧ g < w.heap.size ∧ zs.length ≤ 9223372036854775807 ∧ (∀ i, i < zs.length → w.cell? ⟨g, i, none⟩ = some (.int .i64 (zs.getD i 0))) ∧ (∀ i, w.frozen? ⟨g, i, none⟩ = false) := by
  have h0 := h
  obtain ⟨hl, h⟩ := h
  rcases h with ⟨rfl, h⟩ | ⟨g, cap, cur, rfl, hg, hc, hn, hm, hs, ht⟩
  · exact .inl ⟨rfl, List.length_eq_zero_iff.1 h⟩
  · refine .inr ⟨g, cap, rfl, hg, (Array.getElem?_eq_some_iff.1 hc).1, by unfold maxLen at hm; omega, fun i hi => ?_, fun i => World.ownsRow.frozenAt h0 i⟩
    rw [World.ownsRow.cellAt h0 i (by omega)]
    simp [hi]
theorem Has.len {w : World} {base : Nat} {v : Value} {zs : List Int} (h : Has w base v zs) : ∃ a cap, v = .slice a zs.length cap ∧ zs.length ≤ 9223372036854775807 := by
  rcases h.form with ⟨rfl, rfl⟩ | ⟨g, cap, rfl, _, _, hm, _⟩
  · exact ⟨_, _, rfl, by simp⟩
  · exact ⟨_, _, rfl, hm⟩
theorem info64 : (Tryz.prog.info? 2).map (fun i => (i.zero, i.size, i.bytes)) = some (some (.int .i64 0), 1, 8) := by kernel_rfl
theorem none_own (w : World) : Has (w.alloc (.cells #[] 2)) w.heap.size (.slice (some ⟨w.heap.size, 0, none⟩) 0 0) [] :=
  World.ownsRow_made (e := 2) (size := 1) (base := w.heap.size) w #[] 0 (Nat.le_refl _) (Nat.zero_le _) rfl
/-- The numbers from k on in the first j places. -/
def marked (k : Int) (zs : List Int) : Nat → List Int
  | 0 => zs
  | j + 1 => (marked k zs j).set j (k + j)
theorem marked_length (k : Int) (zs : List Int) (j : Nat) : (marked k zs j).length = zs.length := by
  induction j with
  | zero => rfl
  | succ j ih => simp [marked, ih]
theorem marked_at (k : Int) (zs : List Int) (j i : Nat) (hi : i < j) (hz : i < zs.length) : (marked k zs j).getD i 0 = k + i := by
  induction j with
  | zero => omega
  | succ j ih =>
    unfold marked
    by_cases h : i = j
    · subst h
      simp [List.getD, marked_length, hz]
    · have := ih (by omega)
      simp only [List.getD, List.getElem?_set] at this ⊢
      rw [if_neg (by omega)]
      exact this
end Go.Proofs.YtdkpiofeidcffaaGreatDoor
namespace Go.Proofs.YtdkpiofeidcffaaGreatDoor
open Go.RowKit
set_option linter.unusedVariables false
set_option maxRecDepth 100000

theorem l1In_yes (x lo hi : Int) (w : World) (h0 : lo ≤ x) (h1 : x ≤ hi) :
    Calls Tryz.prog 24 #[.int .i64 x, .int .i64 lo, .int .i64 hi] w fun e w' => e = .returned (.bool true) ∧ w' = w := by
  go_enter Tryz.func24, Tryz.ntmps24
  go_wp2
  go_ret
  exact ⟨Ln.ret_bool (by simp), rfl⟩
theorem l1In_no (x lo hi : Int) (w : World) (h : x < lo ∨ hi < x) :
    Calls Tryz.prog 24 #[.int .i64 x, .int .i64 lo, .int .i64 hi] w fun e w' => e = .returned (.bool false) ∧ w' = w := by
  by_cases h0 : lo ≤ x
  · have h2 : decide (x ≤ hi) = false := by simp; omega
    go_enter Tryz.func24, Tryz.ntmps24
    go_wp2
    go_ret
    exact ⟨rfl, rfl⟩
  · have h2 : decide (lo ≤ x) = false := by simpa using h0
    go_enter Tryz.func24, Tryz.ntmps24
    go_wp2
    go_ret
    exact ⟨rfl, rfl⟩
end Go.Proofs.YtdkpiofeidcffaaGreatDoor
