/-
  What the draws take from a cursor (below a bound, once in n, from lo to hi) and how a cursor is made, walked.
-/
import Derived.Test.YtjgnhlldehgieaeDoorCur
import Derived.OpenShut
namespace Go.Proofs.YtjgnhlldehgieaeDoor
open Go.RowKit
set_option linter.unusedVariables false
set_option maxRecDepth 100000

theorem mod_bd (x n : Int) (h0 : 0 ≤ x) (hn : 0 < n) : 0 ≤ x.tmod n ∧ x.tmod n < n := by
  rw [Int.tmod_eq_emod_of_nonneg h0]
  exact ⟨Int.emod_nonneg _ (by omega), Int.emod_lt_of_pos _ hn⟩
theorem emod_bd (x n : Int) (hn : 0 < n) : 0 ≤ x % n ∧ x % n < n := ⟨Int.emod_nonneg _ (by omega), Int.emod_lt_of_pos _ hn⟩
theorem l1Below_any (B cb : Nat) (n : Int) (w : World) (hc : Cur B w cb) (hn0 : 0 < n) (hn1 : n ≤ 9223372036854775807) :
    Calls Tryd.prog 13 #[.pointer (some ⟨cb, 0, none⟩), .int .i64 n] w fun e w' => ∃ x, e = .returned (.int .i64 x) ∧ 0 ≤ x ∧ x < n ∧ Cur B w' cb ∧ w.grownBy w' (some cb) := by
  have hle : ¬ n ≤ 0 := by omega
  have hne : (n == 0) = false := by simp; omega
  by_cases h256 : n ≤ 256
  · go_enter Tryd.func13, Tryd.ntmps13
    go_wp2_with fail
    refine (l1Byte_any B cb _ hc).mono ?_
    rintro e w1 ⟨x, rfl, x0, x1, hc1, hg1⟩
    have hb := emod_bd x n hn0
    go_wp2
    go_ret
    exact ⟨_, rfl, hb.1, hb.2, hc1, hg1⟩
  · go_enter Tryd.func13, Tryd.ntmps13
    go_wp2_with fail
    refine (l1Byte_any B cb _ hc).mono ?_
    rintro e w1 ⟨x, rfl, x0, x1, hc1, hg1⟩
    go_wp2_with fail
    refine (l1Byte_any B cb _ hc1).mono ?_
    rintro e w2 ⟨y, rfl, y0, y1, hc2, hg2⟩
    go_wp2_with fail
    refine (l1Byte_any B cb _ hc2).mono ?_
    rintro e w3 ⟨z, rfl, z0, z1, hc3, hg3⟩
    go_wp2_with fail
    refine (l1Byte_any B cb _ hc3).mono ?_
    rintro e w4 ⟨u, rfl, u0, u1, hc4, hg4⟩
    have hb := emod_bd (x * 16777216 + y * 65536 + z * 256 + u) n hn0
    have hg := grown_trans (grown_trans (grown_trans hg1 hg2) hg3) hg4
    clear hg1 hg2 hg3 hg4 hc1 hc2 hc3
    go_wp2
    go_ret
    exact ⟨_, rfl, hb.1, hb.2, hc4, hg⟩
theorem l1Once_any (B cb : Nat) (n : Int) (w : World) (hc : Cur B w cb) (hn0 : 0 < n) (hn1 : n ≤ 9223372036854775807) :
    Calls Tryd.prog 11 #[.pointer (some ⟨cb, 0, none⟩), .int .i64 n] w fun e w' => ∃ b : Bool, e = .returned (.bool b) ∧ Cur B w' cb ∧ w.grownBy w' (some cb) := by
  go_enter Tryd.func11, Tryd.ntmps11
  go_wp2_with fail
  refine (l1Below_any B cb n _ hc hn0 hn1).mono ?_
  rintro e w1 ⟨x, rfl, x0, x1, hc1, hg1⟩
  go_wp2
  go_ret
  exact ⟨_, rfl, hc1, hg1⟩
/-- What is told of a slice of integers that came in: it is nil; or it leads to a row of 'cap' cells, the numbers 'zs' (the first 'len' are its elements, the rest its spare room), each fitting its kind. -/
theorem bytes_of_row {w : World} {a : Option Addr} {len cap : Nat} {zs : List Int}
    (h : (a = none ∧ len = 0 ∧ cap = 0 ∧ zs = []) ∨ ∃ x, a = some x ∧ len ≤ cap ∧ cap ≤ maxLen ∧ zs.length = cap ∧ (∀ i, i < zs.length → w.cell? (x.add i) = some (.int .u8 (zs.getD i 0))) ∧ ∀ n ∈ zs, (Lit.int .u8 n).wf = true) : Bytes w.heap.size w a len := by
  rcases h with ⟨_, h, _⟩ | ⟨x, rfl, hl, _, hz, hc, hw⟩
  · exact .inl h
  · rcases Nat.eq_zero_or_pos len with h0 | hp
    · exact .inl h0
    · obtain ⟨b, off, rfl, hca⟩ := ints_at hc (by omega)
      refine .inr ⟨b, off, rfl, World.block_lt_of_cell? _ _ (hca 0 (by omega)), fun j hj => ⟨_, hca j (by omega), ?_⟩⟩
      have := range_u8 hw j
      simpa [List.getD] using this
theorem l1New_any (a : Option Addr) (len cap : Nat) (w : World) (hl : len ≤ 4096) (hb : Bytes w.heap.size w a len) :
    Calls Tryd.prog 9 #[.slice a len cap] w fun e w' => e = .returned (.pointer (some ⟨w.heap.size, 0, none⟩)) ∧ Cur w.heap.size w' w.heap.size ∧ Below w.heap.size w w' := by
  have HB : Hid (Bytes w.heap.size w a len) := hb
  have fin : Hid (∀ (h : Int) (T : TypeId), Cur w.heap.size (w.alloc (.cells #[.slice a len cap, .int .i64 0, .int .i64 h] T)) w.heap.size ∧ Below w.heap.size w (w.alloc (.cells #[.slice a len cap, .int .i64 0, .int .i64 h] T))) := fun h T => by
    have bel : Below w.heap.size w (w.alloc (.cells #[.slice a len cap, .int .i64 0, .int .i64 h] T)) := (Below.refl _ _).alloc (Nat.le_refl _) _
    refine ⟨⟨a, len, cap, 0, h, Nat.le_refl _, by simp, hl, Nat.zero_le _, ?_, by simp, by simp, by simp, by simp, by simp⟩, bel⟩
    rcases HB.out with h0 | ⟨b, off, rfl, hbb, hz⟩
    · exact .inl h0
    · refine .inr ⟨b, off, rfl, hbb, fun j hj => ?_⟩
      obtain ⟨z, hc, r⟩ := hz j hj
      exact ⟨z, (bel.cell (p := ⟨b, off + j, none⟩) hbb).trans hc, r⟩
  clear hb
  rcases Nat.eq_zero_or_pos len with h0 | hp
  · subst h0
    go_enter Tryd.func9, Tryd.ntmps9
    go_wp2
    go_loop [3, 4] (fun h i => i = .int .i64 0 ∧ ∃ hv : Int, h = .int .i64 hv) (fun _ _ => 0)
    case atStart => exact ⟨rfl, _, rfl⟩
    case round =>
      obtain ⟨rfl, hv, rfl⟩ := hrel
      go_wp2
      go_ret
      exact ⟨rfl, fin.out hv _⟩
  · rcases HB.out with h0 | ⟨b, off, rfl, hbb, hz⟩
    · omega
    have Hz : Hid (∀ j, j < len → ∃ z : Int, w.cell? ⟨b, off + j, none⟩ = some (.int .u8 z) ∧ 0 ≤ z ∧ z ≤ 255) := hz
    clear hz
    go_enter Tryd.func9, Tryd.ntmps9
    go_wp2
    go_loop [3, 4] (fun h i => ∃ k : Nat, k ≤ len ∧ i = .int .i64 k ∧ ∃ hv : Int, h = .int .i64 hv) (fun _ i => len - (intOf i).toNat)
    case atStart => exact ⟨0, Nat.zero_le _, rfl, _, rfl⟩
    case round =>
      obtain ⟨k, hk, rfl, hv, rfl⟩ := hrel
      by_cases hlt : k < len
      · obtain ⟨z, hc, z0, z1⟩ := Hz.out k hlt
        have hlt' : (k : Int) < (len : Int) := by omega
        go_wp2
        go_round
        case rel => exact ⟨k + 1, by omega, by go_num, _, rfl⟩
        case measure => simp [intOf]; omega
      · go_wp2
        go_ret
        exact ⟨rfl, fin.out hv _⟩
theorem big_yes (a : Option Addr) (len cap : Nat) (w : World) (h : 4096 < len) :
    Calls Tryd.prog 4 #[.slice a len cap] w fun e w' => e = .returned (.bool true) ∧ w' = w := by
  have h' : (4096 : Int) < (len : Int) := by omega
  go_enter Tryd.func4, Tryd.ntmps4
  go_wp2
  go_ret
  exact ⟨Ln.ret_bool (by simp), rfl⟩
theorem big_no (a : Option Addr) (len cap : Nat) (w : World) (h : ¬ 4096 < len) :
    Calls Tryd.prog 4 #[.slice a len cap] w fun e w' => e = .returned (.bool false) ∧ w' = w := by
  have h' : decide ((4096 : Int) < (len : Int)) = false := by simp; omega
  go_enter Tryd.func4, Tryd.ntmps4
  go_wp2
  go_ret
  exact ⟨rfl, rfl⟩
end Go.Proofs.YtjgnhlldehgieaeDoor
