/-
  Slices of int64 in memory of the call's own: what a slice holds, what keeps it, and what the laws' helpers on such slices answer (equal, marked, held), walked.
-/
import Derived.Test.YtmjkpjmccdjkjadRows
import Derived.WalkKit
import Derived.Deep.QuietTactic
import Derived.BigQuiet
import Derived.WalkSmall
import Derived.Test.YtmjkpjmccdjkjadLn
namespace Go.Proofs.Ytmjkpjmccdjkjad
open Go.RowKit
set_option linter.unusedVariables false

/-- The slice value v holds the numbers zs in a row of its own, in a block from base on. -/
def Has (w : World) (base : Nat) (v : Value) (zs : List Int) : Prop := w.ownsRow base 2 1 v zs.length (zs.map (Value.int .i64))
theorem own_below {w w' : World} {base B : Nat} {e : TypeId} {s : Nat} {v : Value} {n : Nat} {xs : List Value} (h : w.ownsRow base e s v n xs) (hb : Below B w w') (hB : w.heap.size ≤ B) : w'.ownsRow base e s v n xs := by
  obtain ⟨hl, h⟩ := h
  refine ⟨hl, ?_⟩
  rcases h with h | ⟨g, cap, cur, e, hg, hc, r⟩
  · exact .inl h
  · have := (Array.getElem?_eq_some_iff.1 hc).1
    exact .inr ⟨g, cap, cur, e, hg, by rw [hb.block g (by omega)]; exact hc, r⟩
theorem Has.kept {w w' : World} {base : Nat} {v : Value} {zs : List Int} (h : Has w base v zs) (hb : ∀ k, k < w.heap.size → w'.heap[k]? = w.heap[k]?) : Has w' base v zs := by
  obtain ⟨hl, h⟩ := h
  refine ⟨hl, ?_⟩
  rcases h with h | ⟨g, cap, cur, e, hg, hc, r⟩
  · exact .inl h
  · exact .inr ⟨g, cap, cur, e, hg, by rw [hb g (Array.getElem?_eq_some_iff.1 hc).1]; exact hc, r⟩
theorem Has.below {w w' : World} {base B : Nat} {v : Value} {zs : List Int} (h : Has w base v zs) (hb : Below B w w') (hB : w.heap.size ≤ B) : Has w' base v zs :=
  h.kept fun k hk => hb.block k (by omega)
theorem Has.form {w : World} {base : Nat} {v : Value} {zs : List Int} (h : Has w base v zs) :
    (v = .slice none 0 0 ∧ zs = []) ∨ ∃ g cap, v = .slice (some ⟨g, 0, none⟩) zs.length cap ∧ base ≤ g ∧ g < w.heap.size ∧ zs.length ≤ 9223372036854775807 ∧ (∀ i, i < zs.length → w.cell? ⟨g, i, none⟩ = some (.int .i64 (zs.getD i 0))) ∧ (∀ i, w.frozen? ⟨g, i, none⟩ = false) := by
  have h0 := h
  obtain ⟨hl, h⟩ := h
  rcases h with ⟨rfl, h⟩ | ⟨g, cap, cur, rfl, hg, hc, hn, hm, hs, ht⟩
  · exact .inl ⟨rfl, List.length_eq_zero_iff.1 h⟩
  · refine .inr ⟨g, cap, rfl, hg, (Array.getElem?_eq_some_iff.1 hc).1, by unfold maxLen at hm; omega, fun i hi => ?_, fun i => World.ownsRow.frozenAt h0 i⟩
    rw [World.ownsRow.cellAt h0 i (by omega)]
    simp [hi]
theorem Has.len {w : World} {base : Nat} {v : Value} {zs : List Int} (h : Has w base v zs) : ∃ a cap, v = .slice a zs.length cap ∧ zs.length ≤ 9223372036854775807 := by
  rcases h.form with ⟨rfl, rfl⟩ | ⟨g, cap, rfl, _, _, hm, _⟩
  · exact ⟨_, _, rfl, by simp⟩
  · exact ⟨_, _, rfl, hm⟩
theorem info64 : (Try.prog.info? 2).map (fun i => (i.zero, i.size, i.bytes)) = some (some (.int .i64 0), 1, 8) := by kernel_rfl
theorem none_own (w : World) : Has (w.alloc (.cells #[] 2)) w.heap.size (.slice (some ⟨w.heap.size, 0, none⟩) 0 0) [] :=
  World.ownsRow_made (e := 2) (size := 1) (base := w.heap.size) w #[] 0 (Nat.le_refl _) (Nat.zero_le _) rfl
/-- Two slices that hold the same are equal. -/
theorem like_same (va vb : Value) (zs : List Int) (ba bb : Nat) (w : World) (ha : Has w ba va zs) (hb : Has w bb vb zs) :
    Calls Try.prog 10 #[va, vb] w fun e w' => e = .returned (.bool true) ∧ Below w.heap.size w w' := by
  rcases Nat.eq_zero_or_pos zs.length with hz | hz
  · obtain ⟨a, ca, rfl, hm⟩ := ha.len
    obtain ⟨b, cb, rfl, _⟩ := hb.len
    rw [hz]
    clear ha hb
    go_enter Try.func10, Try.ntmps10
    go_wp2
    go_loop [5] (fun i => i = .int .i64 0) (fun _ => 0)
    case atStart => rfl
    case round =>
      subst hrel
      go_wp2
      go_ret
      exact ⟨rfl, Below.refl _ _⟩
  · rcases ha.form with ⟨_, rfl⟩ | ⟨g, ca, rfl, _, hgl, hm, hca, _⟩
    · simp at hz
    rcases hb.form with ⟨_, rfl⟩ | ⟨g', cb, rfl, _, hgl', _, hcb, _⟩
    · simp at hz
    generalize hn : zs.length = n at *
    clear ha hb
    go_enter Try.func10, Try.ntmps10
    go_wp2
    go_loopw [5] (fun i w1 => ∃ k : Nat, k ≤ n ∧ i = .int .i64 k ∧ Below w.heap.size w w1) (fun i _ => n - (intOf i).toNat)
    case atStart => exact ⟨0, Nat.zero_le _, rfl, Below.refl _ _⟩
    case round =>
      obtain ⟨k, hk, rfl, hbel⟩ := hrel
      by_cases hlt : k < n
      · have h1 := (hbel.cell (p := ⟨g, k, none⟩) hgl).trans (hca k hlt)
        have h2 := (hbel.cell (p := ⟨g', k, none⟩) hgl').trans (hcb k hlt)
        have hk1 : (k : Int) < (n : Int) := by omega
        clear hca hcb
        go_wp2
        go_quiet (fail)
        go_wp2
        go_roundw
        case rel => exact ⟨k + 1, by omega, by go_num, below_drewN hbel _⟩
        case measure => simp [intOf]; omega
      · go_wp2
        go_ret
        exact ⟨rfl, hbel⟩
/-- The numbers from k on in the first j places. -/
def marked (k : Int) (zs : List Int) : Nat → List Int
  | 0 => zs
  | j + 1 => (marked k zs j).set j (k + j)
theorem marked_length (k : Int) (zs : List Int) (j : Nat) : (marked k zs j).length = zs.length := by
  induction j with
  | zero => rfl
  | succ j ih => simp [marked, ih]
theorem marked_at (k : Int) (zs : List Int) (j i : Nat) (hi : i < j) (hz : i < zs.length) : (marked k zs j).getD i 0 = k + i := by
  induction j with
  | zero => omega
  | succ j ih =>
    unfold marked
    by_cases h : i = j
    · subst h
      simp [List.getD, marked_length, hz]
    · have := ih (by omega)
      simp only [List.getD, List.getElem?_set] at this ⊢
      rw [if_neg (by omega)]
      exact this
end Go.Proofs.Ytmjkpjmccdjkjad
