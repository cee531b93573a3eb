/-
  What is right in a format, by the program, walked.
-/
import Derived.Test.YtcflomcankcggatDoorFmt
import Derived.Test.YtcflomcankcggatDoorNum
import Derived.Test.YtcflomcankcggatDoorCls
import Derived.BigQuiet
import Derived.Deep.QuietTactic
namespace Go.Proofs.YtcflomcankcggatDoor
open Go.RowKit
set_option linter.unusedVariables false
set_option maxRecDepth 100000
set_option linter.unusedSimpArgs false
set_option maxHeartbeats 4000000 in
theorem isNatural_any (s : ByteArray) (n : Int) (w : World) (hs : s.size ≤ 4611686018427387904) :
    Calls Tryd.prog 40 #[.string s, .int .i64 n] w fun e w' => e = .returned (.bool (natB n s)) ∧ w' = w := by
  by_cases hA : s.size < 1
  · have E : Hid (natB n s = false) := natB_empty n s hA
    have h1 : (s.size : Int) = 0 := by omega
    clear hA
    go_enter Tryd.func40, Tryd.ntmps40
    go_wp2
    go_ret
    exact ⟨Ln.ret_bool E.out.symm, rfl⟩
  have h1 : ((s.size : Int) == 0) = false := beq_eq_false_iff_ne.2 (by omega)
  have h0 : 0 < s.size := by omega
  by_cases hB : n < (s.size : Int)
  · have E : Hid (natB n s = false) := natB_long n s hB
    go_enter Tryd.func40, Tryd.ntmps40
    go_wp2
    go_ret
    exact ⟨Ln.ret_bool E.out.symm, rfl⟩
  have h2' : decide (n < (s.size : Int)) = false := by simpa using hB
  have HG : Hid ((∀ k (hk : k < s.size), 48 ≤ (s[k]'hk).toNat ∧ (s[k]'hk).toNat ≤ 57) → (s.size ≤ 1 ∨ (s[0]'h0).toNat ≠ 48) → natB n s = true) := fun h hc => natB_good n s h0 (by omega) hc h
  have HZ : Hid (1 < s.size → (s[0]'h0).toNat = 48 → natB n s = false) := fun h hz => natB_zero n s h hz
  have HB : Hid (∀ k (hk : k < s.size), ((s[k]'hk).toNat < 48 ∨ 57 < (s[k]'hk).toNat) → natB n s = false) := fun k hk h => natB_bad n s k hk h
  clear hA hB
  generalize natB n s = r at *
  go_enter Tryd.func40, Tryd.ntmps40
  go_wp2
  go_loop [17] (fun i => ∃ k : Nat, k ≤ s.size ∧ i = .int .i64 k ∧ Hid (∀ q (hq : q < s.size), q < k → 48 ≤ (s[q]'hq).toNat ∧ (s[q]'hq).toNat ≤ 57)) (fun i => s.size - (intOf i).toNat)
  case atStart => exact ⟨0, Nat.zero_le _, rfl, fun q hq h => absurd h (Nat.not_lt_zero q)⟩
  case round =>
    obtain ⟨k, hk, rfl, hz⟩ := hrel
    by_cases hlt : k < s.size
    · have hlt' : (k : Int) < (s.size : Int) := by omega
      by_cases hlo : (s[k]'hlt).toNat < 48
      · have hl' : ((s[k]'hlt).toNat : Int) < 48 := by omega
        go_wp2
        go_ret
        exact ⟨Ln.ret_bool (HB.out k hlt (.inl hlo)).symm, rfl⟩
      · have hl' : ¬ ((s[k]'hlt).toNat : Int) < 48 := by omega
        have hl'' : decide (((s[k]'hlt).toNat : Int) < 48) = false := decide_eq_false hl'
        by_cases hhi : 57 < (s[k]'hlt).toNat
        · have hh' : (57 : Int) < ((s[k]'hlt).toNat : Int) := by omega
          go_wp2
          go_ret
          exact ⟨Ln.ret_bool (HB.out k hlt (.inr hhi)).symm, rfl⟩
        · have hh' : ¬ (57 : Int) < ((s[k]'hlt).toNat : Int) := by omega
          go_wp2
          go_round
          case rel => exact ⟨k + 1, by omega, by go_num, fun q hq h => by rcases Nat.lt_or_ge q k with c | c; exact hz.out q hq c; obtain rfl : q = k := (by omega); omega⟩
          case measure => simp [intOf]; omega
    · have hkk : ¬ (k : Int) < (s.size : Int) := by omega
      have HA : Hid (∀ q (hq : q < s.size), 48 ≤ (s[q]'hq).toNat ∧ (s[q]'hq).toNat ≤ 57) := fun q hq => hz.out q hq (by omega)
      clear hz
      by_cases h3 : s.size ≤ 1
      · have h3' : (s.size : Int) = 1 := by omega
        have E : Hid (r = true) := HG.out HA.out (.inl h3)
        clear h3
        go_wp2
        go_ret
        exact ⟨Ln.ret_bool E.out.symm, rfl⟩
      · have h3' : ((s.size : Int) == 1) = false := beq_eq_false_iff_ne.2 (by omega)
        by_cases h4 : (s[0]'h0).toNat = 48
        · have h4' : ((s[0]'h0).toNat : Int) = 48 := by omega
          have E : Hid (r = false) := HZ.out (by omega) h4
          clear h4
          go_wp2
          go_ret
          exact ⟨Ln.ret_bool E.out.symm, rfl⟩
        · have h4' : (((s[0]'h0).toNat : Int) == 48) = false := beq_eq_false_iff_ne.2 (by omega)
          have E : Hid (r = true) := HG.out HA.out (.inr h4)
          have h4'' : Hid ((((s[0]'h0).toNat : Int) != 48) = true) := by show _ = _; rw [bne, h4']; rfl
          go_wp2
          go_ret
          exact ⟨Ln.ret_bool (by rw [h4''.out, E.out]), rfl⟩
/-- A number's box. -/
abbrev nbq (w : World) (k : Int) (b : Bool) (e : Int) (s : ByteArray) : World := w.alloc (.cells #[.int .i64 k, .bool b, .int .i64 e, .string s] 26)
theorem nbq_cells {w W : World} {k : Int} {b : Bool} {e : Int} {s : ByteArray} (h : Below (w.heap.size + 1) (nbq w k b e s) W) : W.cell? ⟨w.heap.size, 0, none⟩ = some (.int .i64 k) ∧ W.cell? ⟨w.heap.size, 1, none⟩ = some (.bool b) ∧ W.cell? ⟨w.heap.size, 2, none⟩ = some (.int .i64 e) ∧ W.cell? ⟨w.heap.size, 3, none⟩ = some (.string s) := by
  refine ⟨?_, ?_, ?_, ?_⟩
  · rw [h.cell (p := ⟨w.heap.size, 0, none⟩) (by simp)]; simp
  · rw [h.cell (p := ⟨w.heap.size, 1, none⟩) (by simp)]; simp
  · rw [h.cell (p := ⟨w.heap.size, 2, none⟩) (by simp)]; simp
  · rw [h.cell (p := ⟨w.heap.size, 3, none⟩) (by simp)]; simp
theorem nbq_out {w W : World} {k : Int} {b : Bool} {e : Int} {s : ByteArray} (h : Below (w.heap.size + 1) (nbq w k b e s) W) : Below w.heap.size w W := ((Below.refl _ _).alloc (Nat.le_refl _) _).trans (h.mono (by omega))
theorem nbq_next {w W w1 : World} {k : Int} {b : Bool} {e : Int} {s : ByteArray} (h : Below (w.heap.size + 1) (nbq w k b e s) W) (hb : Below W.heap.size W w1) : Below (w.heap.size + 1) (nbq w k b e s) w1 := h.trans (hb.mono (by have := h.size; simp at this; omega))
end Go.Proofs.YtcflomcankcggatDoor
