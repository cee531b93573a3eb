/-
  The draws of numbers' digits, walked.
-/
import Derived.Test.YtdkpiofeidcffaaGreatDoorIn
import Derived.Test.YtdkpiofeidcffaaGreatDoorRows
import Derived.Deep.QuietTactic
import Derived.BigQuiet
import Derived.WalkSmall
import Derived.OpenShut
import Derived.Test.YtdkpiofeidcffaaGreatDoorTxt
import Derived.Test.YtdkpiofeidcffaaGreatDoorFinP
import Derived.Deep.DeepCutAuto
namespace Go.Proofs.YtdkpiofeidcffaaGreatDoor
open Go.RowKit
set_option linter.unusedVariables false
set_option maxRecDepth 100000

theorem and255 (x : Int) : 0 ≤ bits .and .i64 x 255 ∧ bits .and .i64 x 255 ≤ 255 := by
  have h : (BitVec.ofInt 64 x &&& BitVec.ofInt 64 255).toNat ≤ 255 := by
    rw [BitVec.toNat_and]
    exact Nat.le_trans Nat.and_le_right (by decide)
  have e : bits .and .i64 x 255 = IntKind.i64.wrap ((BitVec.ofInt 64 x &&& BitVec.ofInt 64 255).toNat : Int) := rfl
  rw [e, IntKind.wrap_i64]
  omega
/-- The bytes that the cursor reads lie below B. -/
def Bytes (B : Nat) (w : World) (a : Option Addr) (len : Nat) : Prop :=
  len = 0 ∨ ∃ b off, a = some ⟨b, off, none⟩ ∧ b < B ∧ ∀ j, j < len → ∃ z : Int, w.cell? ⟨b, off + j, none⟩ = some (.int .u8 z) ∧ 0 ≤ z ∧ z ≤ 255
/-- A cursor lies in the block cb. -/
def Cur (B : Nat) (w : World) (cb : Nat) : Prop := ∃ (a : Option Addr) (len cap i : Nat) (h : Int), B ≤ cb ∧ cb < w.heap.size ∧ len ≤ 4096 ∧ i ≤ len ∧ Bytes B w a len ∧
  w.cell? ⟨cb, 0, none⟩ = some (.slice a len cap) ∧ w.cell? ⟨cb, 1, none⟩ = some (.int .i64 i) ∧ w.cell? ⟨cb, 2, none⟩ = some (.int .i64 h) ∧ w.frozen? ⟨cb, 1, none⟩ = false ∧ w.frozen? ⟨cb, 2, none⟩ = false
theorem grown_set (w : World) (cb j : Nat) (v : Value) : w.grownBy (w.setCell ⟨cb, j, none⟩ v) (some cb) :=
  ⟨rfl, rfl, rfl, by simp, fun k _ hk => Below.heap_setCell _ _ _ _ (fun e => hk (by rw [e]))⟩
theorem grown_trans {w w1 w2 : World} {r : Option Nat} (h : w.grownBy w1 r) (k : w1.grownBy w2 r) : w.grownBy w2 r :=
  ⟨k.os.trans h.os, k.tape.trans h.tape, k.output.trans h.output, Nat.le_trans h.size k.size, fun i hi hn => (k.block i (Nat.lt_of_lt_of_le hi h.size) hn).trans (h.block i hi hn)⟩
theorem grown_drewN {w w1 : World} {r : Option Nat} (h : w.grownBy w1 r) (n : Nat) : w.grownBy (w1.drewN n) r :=
  ⟨h.os, h.tape, h.output, h.size, h.block⟩
theorem Bytes.grown {B : Nat} {w w' : World} {a : Option Addr} {len cb : Nat} (h : Bytes B w a len) (hg : w.grownBy w' (some cb)) (hB : B ≤ cb) : Bytes B w' a len := by
  rcases h with h | ⟨b, off, rfl, hb, hz⟩
  · exact .inl h
  · refine .inr ⟨b, off, rfl, hb, fun j hj => ?_⟩
    obtain ⟨z, hc, r⟩ := hz j hj
    exact ⟨z, hg.cell hc (fun e => by have e' : b = cb := Option.some.inj e; omega), r⟩
/-- The cursor's two numbers written anew. -/
theorem cur_set {B cb : Nat} {w : World} {a : Option Addr} {len cap i : Nat} {h : Int} (hB : B ≤ cb) (hcb : cb < w.heap.size) (hlen : len ≤ 4096) (hby : Bytes B w a len)
    (c0 : w.cell? ⟨cb, 0, none⟩ = some (.slice a len cap)) (c1 : w.cell? ⟨cb, 1, none⟩ = some (.int .i64 i)) (c2 : w.cell? ⟨cb, 2, none⟩ = some (.int .i64 h)) (f1 : w.frozen? ⟨cb, 1, none⟩ = false) (f2 : w.frozen? ⟨cb, 2, none⟩ = false)
    (h' : Int) (i' : Nat) (hi' : i' ≤ len) (n : Nat) :
    Cur B (((w.setCell ⟨cb, 2, none⟩ (.int .i64 h')).drewN n).setCell ⟨cb, 1, none⟩ (.int .i64 i')) cb ∧ w.grownBy (((w.setCell ⟨cb, 2, none⟩ (.int .i64 h')).drewN n).setCell ⟨cb, 1, none⟩ (.int .i64 i')) (some cb) := by
  have hg : w.grownBy (((w.setCell ⟨cb, 2, none⟩ (.int .i64 h')).drewN n).setCell ⟨cb, 1, none⟩ (.int .i64 i')) (some cb) :=
    grown_trans (grown_drewN (grown_set w cb 2 _) n) (grown_set _ cb 1 _)
  have d : ∀ j, ((w.setCell ⟨cb, 2, none⟩ (.int .i64 h')).drewN n).cell? ⟨cb, j, none⟩ = (w.setCell ⟨cb, 2, none⟩ (.int .i64 h')).cell? ⟨cb, j, none⟩ := fun j => rfl
  have e : ∀ j, ((w.setCell ⟨cb, 2, none⟩ (.int .i64 h')).drewN n).frozen? ⟨cb, j, none⟩ = (w.setCell ⟨cb, 2, none⟩ (.int .i64 h')).frozen? ⟨cb, j, none⟩ := fun j => rfl
  refine ⟨⟨a, len, cap, i', h', hB, Nat.lt_of_lt_of_le hcb hg.size, hlen, hi', hby.grown hg hB, ?_, ?_, ?_, ?_, ?_⟩, hg⟩
  · rw [World.cell?_setCell_other _ _ _ _ (by simp), d, World.cell?_setCell_other _ _ _ _ (by simp)]; exact c0
  · exact World.cell?_setCell_same _ _ _ (u := .int .i64 i) (by rw [d, World.cell?_setCell_other _ _ _ _ (by simp)]; exact c1)
  · rw [World.cell?_setCell_other _ _ _ _ (by simp), d]; exact World.cell?_setCell_same _ _ _ c2
  · rw [World.frozen?_setCell, e, World.frozen?_setCell]; exact f1
  · rw [World.frozen?_setCell, e, World.frozen?_setCell]; exact f2
/-- The cursor's mix alone written anew. -/
theorem cur_mix {B cb : Nat} {w : World} {a : Option Addr} {len cap i : Nat} {h : Int} (hB : B ≤ cb) (hcb : cb < w.heap.size) (hlen : len ≤ 4096) (hi : i ≤ len) (hby : Bytes B w a len)
    (c0 : w.cell? ⟨cb, 0, none⟩ = some (.slice a len cap)) (c1 : w.cell? ⟨cb, 1, none⟩ = some (.int .i64 i)) (c2 : w.cell? ⟨cb, 2, none⟩ = some (.int .i64 h)) (f1 : w.frozen? ⟨cb, 1, none⟩ = false) (f2 : w.frozen? ⟨cb, 2, none⟩ = false)
    (h' : Int) (n : Nat) : Cur B ((w.setCell ⟨cb, 2, none⟩ (.int .i64 h')).drewN n) cb ∧ w.grownBy ((w.setCell ⟨cb, 2, none⟩ (.int .i64 h')).drewN n) (some cb) := by
  have hg : w.grownBy ((w.setCell ⟨cb, 2, none⟩ (.int .i64 h')).drewN n) (some cb) := grown_drewN (grown_set w cb 2 _) n
  have d : ∀ j, ((w.setCell ⟨cb, 2, none⟩ (.int .i64 h')).drewN n).cell? ⟨cb, j, none⟩ = (w.setCell ⟨cb, 2, none⟩ (.int .i64 h')).cell? ⟨cb, j, none⟩ := fun j => rfl
  have e : ∀ j, ((w.setCell ⟨cb, 2, none⟩ (.int .i64 h')).drewN n).frozen? ⟨cb, j, none⟩ = (w.setCell ⟨cb, 2, none⟩ (.int .i64 h')).frozen? ⟨cb, j, none⟩ := fun j => rfl
  refine ⟨⟨a, len, cap, i, h', hB, Nat.lt_of_lt_of_le hcb hg.size, hlen, hi, hby.grown hg hB, ?_, ?_, ?_, ?_, ?_⟩, hg⟩
  · rw [d, World.cell?_setCell_other _ _ _ _ (by simp)]; exact c0
  · rw [d, World.cell?_setCell_other _ _ _ _ (by simp)]; exact c1
  · rw [d]; exact World.cell?_setCell_same _ _ _ c2
  · rw [e, World.frozen?_setCell]; exact f1
  · rw [e, World.frozen?_setCell]; exact f2
set_option maxHeartbeats 400000 in
theorem l1Byte_any (B cb : Nat) (w : World) (hc : Cur B w cb) :
    Calls Tryz.prog 46 #[.pointer (some ⟨cb, 0, none⟩)] w fun e w' => ∃ x, e = .returned (.int .i64 x) ∧ 0 ≤ x ∧ x ≤ 255 ∧ Cur B w' cb ∧ w.grownBy w' (some cb) := by
  obtain ⟨a, len, cap, i, h, hB, hcb, hlen, hi, hby, c0, c1, c2, f1, f2⟩ := hc
  by_cases hlt : i < len
  · have hne : ¬ len = 0 := by omega
    have HY : Hid (∀ (h' : Int) (i' : Nat) (hi' : i' ≤ len) (n : Nat), Cur B (((w.setCell ⟨cb, 2, none⟩ (.int .i64 h')).drewN n).setCell ⟨cb, 1, none⟩ (.int .i64 i')) cb ∧ w.grownBy (((w.setCell ⟨cb, 2, none⟩ (.int .i64 h')).drewN n).setCell ⟨cb, 1, none⟩ (.int .i64 i')) (some cb)) :=
      fun h' i' hi' n => cur_set hB hcb hlen hby c0 c1 c2 f1 f2 h' i' hi' n
    rcases hby with h0 | ⟨b, off, rfl, hb, hz⟩
    · exact absurd h0 hne
    obtain ⟨z, hzc, hz0, hz1⟩ := hz i hlt
    clear hz hne
    have hlt' : (i : Int) < (len : Int) := by omega
    go_enter Tryz.func46, Tryz.ntmps46
    go_wp2
    go_quiet (fail)
    go_wp2
    go_quiet (fail)
    go_wp2
    go_quiet (fail)
    go_wp2
    go_ret
    refine ⟨_, rfl, (and255 _).1, (and255 _).2, ?_⟩
    exact HY.out _ (i + 1) (by omega) _
  · have HY : Hid (∀ (h' : Int) (n m : Nat), Cur B (((w.setCell ⟨cb, 2, none⟩ (.int .i64 h')).drewN n).drewN m) cb ∧ w.grownBy (((w.setCell ⟨cb, 2, none⟩ (.int .i64 h')).drewN n).drewN m) (some cb)) :=
      fun h' n m => ⟨(cur_mix hB hcb hlen hi hby c0 c1 c2 f1 f2 h' n).1, grown_drewN (cur_mix hB hcb hlen hi hby c0 c1 c2 f1 f2 h' n).2 m⟩
    clear hby
    have hlt' : ¬ (i : Int) < (len : Int) := by omega
    go_enter Tryz.func46, Tryz.ntmps46
    go_wp2
    go_quiet (fail)
    go_wp2
    go_quiet (fail)
    go_wp2
    go_ret
    refine ⟨_, rfl, (and255 _).1, (and255 _).2, ?_⟩
    exact HY.out _ _ _
end Go.Proofs.YtdkpiofeidcffaaGreatDoor
namespace Go.Proofs.YtdkpiofeidcffaaGreatDoor
open Go.RowKit
set_option linter.unusedVariables false
set_option maxRecDepth 100000

theorem mod_bd (x n : Int) (h0 : 0 ≤ x) (hn : 0 < n) : 0 ≤ x.tmod n ∧ x.tmod n < n := by
  rw [Int.tmod_eq_emod_of_nonneg h0]
  exact ⟨Int.emod_nonneg _ (by omega), Int.emod_lt_of_pos _ hn⟩
theorem emod_bd (x n : Int) (hn : 0 < n) : 0 ≤ x % n ∧ x % n < n := ⟨Int.emod_nonneg _ (by omega), Int.emod_lt_of_pos _ hn⟩
theorem l1Below_any (B cb : Nat) (n : Int) (w : World) (hc : Cur B w cb) (hn0 : 0 < n) (hn1 : n ≤ 9223372036854775807) :
    Calls Tryz.prog 18 #[.pointer (some ⟨cb, 0, none⟩), .int .i64 n] w fun e w' => ∃ x, e = .returned (.int .i64 x) ∧ 0 ≤ x ∧ x < n ∧ Cur B w' cb ∧ w.grownBy w' (some cb) := by
  have hle : ¬ n ≤ 0 := by omega
  have hne : (n == 0) = false := by simp; omega
  by_cases h256 : n ≤ 256
  · go_enter Tryz.func18, Tryz.ntmps18
    go_wp2_with fail
    refine (l1Byte_any B cb _ hc).mono ?_
    rintro e w1 ⟨x, rfl, x0, x1, hc1, hg1⟩
    have hb := emod_bd x n hn0
    go_wp2
    go_ret
    exact ⟨_, rfl, hb.1, hb.2, hc1, hg1⟩
  · go_enter Tryz.func18, Tryz.ntmps18
    go_wp2_with fail
    refine (l1Byte_any B cb _ hc).mono ?_
    rintro e w1 ⟨x, rfl, x0, x1, hc1, hg1⟩
    go_wp2_with fail
    refine (l1Byte_any B cb _ hc1).mono ?_
    rintro e w2 ⟨y, rfl, y0, y1, hc2, hg2⟩
    go_wp2_with fail
    refine (l1Byte_any B cb _ hc2).mono ?_
    rintro e w3 ⟨z, rfl, z0, z1, hc3, hg3⟩
    go_wp2_with fail
    refine (l1Byte_any B cb _ hc3).mono ?_
    rintro e w4 ⟨u, rfl, u0, u1, hc4, hg4⟩
    have hb := emod_bd (x * 16777216 + y * 65536 + z * 256 + u) n hn0
    have hg := grown_trans (grown_trans (grown_trans hg1 hg2) hg3) hg4
    clear hg1 hg2 hg3 hg4 hc1 hc2 hc3
    go_wp2
    go_ret
    exact ⟨_, rfl, hb.1, hb.2, hc4, hg⟩
theorem l1Once_any (B cb : Nat) (n : Int) (w : World) (hc : Cur B w cb) (hn0 : 0 < n) (hn1 : n ≤ 9223372036854775807) :
    Calls Tryz.prog 43 #[.pointer (some ⟨cb, 0, none⟩), .int .i64 n] w fun e w' => ∃ b : Bool, e = .returned (.bool b) ∧ Cur B w' cb ∧ w.grownBy w' (some cb) := by
  go_enter Tryz.func43, Tryz.ntmps43
  go_wp2_with fail
  refine (l1Below_any B cb n _ hc hn0 hn1).mono ?_
  rintro e w1 ⟨x, rfl, x0, x1, hc1, hg1⟩
  go_wp2
  go_ret
  exact ⟨_, rfl, hc1, hg1⟩
/-- What is told of a slice of integers that came in: it is nil; or it leads to a row of 'cap' cells, the numbers 'zs' (the first 'len' are its elements, the rest its spare room), each fitting its kind. -/
theorem bytes_of_row {w : World} {a : Option Addr} {len cap : Nat} {zs : List Int}
    (h : (a = none ∧ len = 0 ∧ cap = 0 ∧ zs = []) ∨ ∃ x, a = some x ∧ len ≤ cap ∧ cap ≤ maxLen ∧ zs.length = cap ∧ (∀ i, i < zs.length → w.cell? (x.add i) = some (.int .u8 (zs.getD i 0))) ∧ ∀ n ∈ zs, (Lit.int .u8 n).wf = true) : Bytes w.heap.size w a len := by
  rcases h with ⟨_, h, _⟩ | ⟨x, rfl, hl, _, hz, hc, hw⟩
  · exact .inl h
  · rcases Nat.eq_zero_or_pos len with h0 | hp
    · exact .inl h0
    · obtain ⟨b, off, rfl, hca⟩ := ints_at hc (by omega)
      refine .inr ⟨b, off, rfl, World.block_lt_of_cell? _ _ (hca 0 (by omega)), fun j hj => ⟨_, hca j (by omega), ?_⟩⟩
      have := range_u8 hw j
      simpa [List.getD] using this
theorem l1New_any (a : Option Addr) (len cap : Nat) (w : World) (hl : len ≤ 4096) (hb : Bytes w.heap.size w a len) :
    Calls Tryz.prog 16 #[.slice a len cap] w fun e w' => e = .returned (.pointer (some ⟨w.heap.size, 0, none⟩)) ∧ Cur w.heap.size w' w.heap.size ∧ Below w.heap.size w w' := by
  have HB : Hid (Bytes w.heap.size w a len) := hb
  have fin : Hid (∀ (h : Int) (T : TypeId), Cur w.heap.size (w.alloc (.cells #[.slice a len cap, .int .i64 0, .int .i64 h] T)) w.heap.size ∧ Below w.heap.size w (w.alloc (.cells #[.slice a len cap, .int .i64 0, .int .i64 h] T))) := fun h T => by
    have bel : Below w.heap.size w (w.alloc (.cells #[.slice a len cap, .int .i64 0, .int .i64 h] T)) := (Below.refl _ _).alloc (Nat.le_refl _) _
    refine ⟨⟨a, len, cap, 0, h, Nat.le_refl _, by simp, hl, Nat.zero_le _, ?_, by simp, by simp, by simp, by simp, by simp⟩, bel⟩
    rcases HB.out with h0 | ⟨b, off, rfl, hbb, hz⟩
    · exact .inl h0
    · refine .inr ⟨b, off, rfl, hbb, fun j hj => ?_⟩
      obtain ⟨z, hc, r⟩ := hz j hj
      exact ⟨z, (bel.cell (p := ⟨b, off + j, none⟩) hbb).trans hc, r⟩
  clear hb
  rcases Nat.eq_zero_or_pos len with h0 | hp
  · subst h0
    go_enter Tryz.func16, Tryz.ntmps16
    go_wp2
    go_loop [3, 4] (fun h i => i = .int .i64 0 ∧ ∃ hv : Int, h = .int .i64 hv) (fun _ _ => 0)
    case atStart => exact ⟨rfl, _, rfl⟩
    case round =>
      obtain ⟨rfl, hv, rfl⟩ := hrel
      go_wp2
      go_ret
      exact ⟨rfl, fin.out hv _⟩
  · rcases HB.out with h0 | ⟨b, off, rfl, hbb, hz⟩
    · omega
    have Hz : Hid (∀ j, j < len → ∃ z : Int, w.cell? ⟨b, off + j, none⟩ = some (.int .u8 z) ∧ 0 ≤ z ∧ z ≤ 255) := hz
    clear hz
    go_enter Tryz.func16, Tryz.ntmps16
    go_wp2
    go_loop [3, 4] (fun h i => ∃ k : Nat, k ≤ len ∧ i = .int .i64 k ∧ ∃ hv : Int, h = .int .i64 hv) (fun _ i => len - (intOf i).toNat)
    case atStart => exact ⟨0, Nat.zero_le _, rfl, _, rfl⟩
    case round =>
      obtain ⟨k, hk, rfl, hv, rfl⟩ := hrel
      by_cases hlt : k < len
      · obtain ⟨z, hc, z0, z1⟩ := Hz.out k hlt
        have hlt' : (k : Int) < (len : Int) := by omega
        go_wp2
        go_round
        case rel => exact ⟨k + 1, by omega, by go_num, _, rfl⟩
        case measure => simp [intOf]; omega
      · go_wp2
        go_ret
        exact ⟨rfl, fin.out hv _⟩
theorem big_yes (a : Option Addr) (len cap : Nat) (w : World) (h : 4096 < len) :
    Calls Tryz.prog 5 #[.slice a len cap] w fun e w' => e = .returned (.bool true) ∧ w' = w := by
  have h' : (4096 : Int) < (len : Int) := by omega
  go_enter Tryz.func5, Tryz.ntmps5
  go_wp2
  go_ret
  exact ⟨Ln.ret_bool (by simp), rfl⟩
theorem big_no (a : Option Addr) (len cap : Nat) (w : World) (h : ¬ 4096 < len) :
    Calls Tryz.prog 5 #[.slice a len cap] w fun e w' => e = .returned (.bool false) ∧ w' = w := by
  have h' : decide ((4096 : Int) < (len : Int)) = false := by simp; omega
  go_enter Tryz.func5, Tryz.ntmps5
  go_wp2
  go_ret
  exact ⟨rfl, rfl⟩
end Go.Proofs.YtdkpiofeidcffaaGreatDoor
namespace Go.Proofs.YtdkpiofeidcffaaGreatDoor
open Go.RowKit
set_option linter.unusedVariables false
set_option maxRecDepth 100000

theorem u64_wrap_bd (x : Int) : 0 ≤ IntKind.u64.wrap x ∧ IntKind.u64.wrap x ≤ 18446744073709551615 := by
  rw [IntKind.wrap_u64]; omega
/-- A cell of a row that was laid just ahead of a draw. -/
theorem lit_at {w w2 : World} {arr : Array Value} {T : TypeId} {cb : Nat} (hg : (w.alloc (.cells arr T)).grownBy w2 (some cb)) (hcb : cb < w.heap.size) (i : Nat) (v : Value) (hv : arr[i]? = some v) : w2.cell? ⟨w.heap.size, i, none⟩ = some v := by
  refine hg.cell ?_ (fun e => by have e' : w.heap.size = cb := Option.some.inj e; omega)
  simpa using hv
theorem cur_alloc {B cb : Nat} {w : World} (h : Cur B w cb) (o : Obj) : Cur B (w.alloc o) cb := by
  obtain ⟨a, len, cap, i, h, hB, hcb, hlen, hi, hby, c0, c1, c2, f1, f2⟩ := h
  have bel : Below w.heap.size w (w.alloc o) := (Below.refl _ _).alloc (Nat.le_refl _) _
  refine ⟨a, len, cap, i, h, hB, Nat.lt_of_lt_of_le hcb bel.size, hlen, hi, hby.grown (World.grownBy_alloc w o (some cb)) hB, ?_, ?_, ?_, ?_, ?_⟩
  · exact (bel.cell (p := ⟨cb, 0, none⟩) hcb).trans c0
  · exact (bel.cell (p := ⟨cb, 1, none⟩) hcb).trans c1
  · exact (bel.cell (p := ⟨cb, 2, none⟩) hcb).trans c2
  · exact (bel.frozen (p := ⟨cb, 1, none⟩) hcb).trans f1
  · exact (bel.frozen (p := ⟨cb, 2, none⟩) hcb).trans f2
theorem Cur.lt {B cb : Nat} {w : World} (h : Cur B w cb) : B ≤ cb ∧ cb < w.heap.size := by
  obtain ⟨_, _, _, _, _, hB, hcb, _⟩ := h; exact ⟨hB, hcb⟩
theorem l1From_any (B cb : Nat) (lo hi : Int) (w : World) (hc : Cur B w cb) (h0 : -1000000000000000 ≤ lo) (h1 : lo ≤ hi) (h2 : hi ≤ 1000000000000000) :
    Calls Tryz.prog 45 #[.pointer (some ⟨cb, 0, none⟩), .int .i64 lo, .int .i64 hi] w fun e w' => ∃ x, e = .returned (.int .i64 x) ∧ lo ≤ x ∧ x ≤ hi ∧ Cur B w' cb ∧ w.grownBy w' (some cb) := by
  go_enter Tryz.func45, Tryz.ntmps45
  go_wp2_with fail
  refine (l1Below_any B cb (hi - lo + 1) _ hc (by omega) (by omega)).mono ?_
  rintro e w1 ⟨x, rfl, x0, x1, hc1, hg1⟩
  go_wp2
  go_ret
  exact ⟨_, rfl, by omega, by omega, hc1, hg1⟩
end Go.Proofs.YtdkpiofeidcffaaGreatDoor
namespace Go.Proofs.YtdkpiofeidcffaaGreatDoor
open Go.RowKit
set_option linter.unusedVariables false
set_option maxRecDepth 100000
theorem results_tmp4 {fn : Func} {t u v x : Tmp} (h : fn.results = #[.tmp t, .tmp u, .tmp v, .tmp x]) (tmps : Array Value) (P : Program) (w : World) :
    (results fn tmps).run P w = .ok (.tuple #[tmps.getD t undef, tmps.getD u undef, tmps.getD v undef, tmps.getD x undef]) w := by
  simp [results, h]
theorem results_tmp5 {fn : Func} {t u v x y : Tmp} (h : fn.results = #[.tmp t, .tmp u, .tmp v, .tmp x, .tmp y]) (tmps : Array Value) (P : Program) (w : World) :
    (results fn tmps).run P w = .ok (.tuple #[tmps.getD t undef, tmps.getD u undef, tmps.getD v undef, tmps.getD x undef, tmps.getD y undef]) w := by
  simp [results, h]
/-- A number that an int64 holds. -/
def I64 (x : Int) : Prop := -9223372036854775808 ≤ x ∧ x ≤ 9223372036854775807
end Go.Proofs.YtdkpiofeidcffaaGreatDoor
namespace Go.Proofs.YtdkpiofeidcffaaGreatDoor
open Go.RowKit
set_option linter.unusedVariables false
set_option maxRecDepth 100000
theorem l1Min_any (a b : Int) (w : World) : Calls Tryz.prog 70 #[.int .i64 a, .int .i64 b] w fun e w' => e = .returned (.int .i64 (if a < b then a else b)) ∧ w' = w := by
  by_cases h : a < b
  · rw [if_pos h]
    go_enter Tryz.func70, Tryz.ntmps70
    go_wp2
    go_ret
    exact ⟨rfl, rfl⟩
  · rw [if_neg h]
    go_enter Tryz.func70, Tryz.ntmps70
    go_wp2
    go_ret
    exact ⟨rfl, rfl⟩
theorem nconv1 (d : Int) (W : World) : (convert 22 9 (.slice (some ⟨W.heap.size, 0, none⟩) 1 1)).run Tryz.prog (W.alloc (.cells #[.int .u8 (48 + d)] 5)) = .ok (.string (tx [d])) (W.alloc (.cells #[.int .u8 (48 + d)] 5)) :=
  run_convert_bytes_arg (P := Tryz.prog) _ 22 5 Tryz.underlying22 Tryz.underlying5 W.heap.size 0 1 1 [48 + d] rfl (fun i hi => by
    match i, hi with
    | 0, _ => simp) 9 Tryz.underlying9
theorem dec_snoc (L : List Int) (x : Int) (h : Dec L) (h0 : 0 ≤ x) (h9 : x ≤ 9) : Dec (L ++ [x]) := fun d hd => by
  rcases List.mem_append.1 hd with c | c
  · exact h d c
  · simp at c; omega
set_option maxRecDepth 100000 in
set_option maxHeartbeats 4000000 in
theorem l10DrawDigits_any (B cb : Nat) (most : Int) (w : World) (hc : Cur B w cb) (hm : 1 ≤ most) (hm2 : most ≤ 200) :
    Calls Tryz.prog 44 #[.pointer (some ⟨cb, 0, none⟩), .int .i64 most] w fun e w' => ∃ ds, e = .returned (.string (tx ds)) ∧ Canon ds ∧ (ds.length : Int) ≤ most ∧ Cur B w' cb ∧ w.grownBy w' (some cb) := by
  go_enter Tryz.func44, Tryz.ntmps44
  go_wp2_with fail
  refine (l1Below_any B cb most _ hc (by omega) (by omega)).mono ?_
  rintro e w1 ⟨x1, rfl, x10, x11, hc1, hg1⟩
  go_wp2_with fail
  refine (l1Once_any B cb 3 _ hc1 (by decide) (by decide)).mono ?_
  rintro e w2 ⟨b2, rfl, hc2, hg2⟩
  have hg : Hid (w.grownBy w2 (some cb)) := grown_trans hg1 hg2
  clear hc hc1 hg1 hg2
  go_upto_if 14 with fail
  go_cut [5] (fun s wx => ∃ N : Int, s = .int .i64 N ∧ (1 ≤ N ∧ N ≤ most) ∧ Hid (Cur B wx cb) ∧ Hid (w.grownBy wx (some cb)))
  case first =>
    cases b2
    · go_wp2
      go_meet
      case rel => exact ⟨_, rfl, by omega, hc2, hg⟩
    · have hmin : 1 ≤ (if most < 4 then most else 4) ∧ (if most < 4 then most else 4) ≤ most ∧ (if most < 4 then most else 4) ≤ 4 := by split <;> omega
      go_wp2_with fail
      refine (l1Min_any most 4 _).mono ?_
      rintro e wy ⟨rfl, rfl⟩
      generalize (if most < 4 then most else (4 : Int)) = M at *
      go_wp2_with fail
      refine (l1Below_any B cb M _ hc2 (by omega) (by omega)).mono ?_
      rintro e w3 ⟨x3, rfl, x30, x31, hc3, hg3⟩
      have hg' : Hid (w.grownBy w3 (some cb)) := grown_trans hg.out hg3
      clear hg hg3 hc2
      go_wp2
      go_meet
      case rel => exact ⟨_, rfl, by omega, hc3, hg'⟩
  case rest =>
    obtain ⟨N, rfl, hN, hc3, hg3⟩ := hcut
    clear hg hc2 x10 x11
    go_wp2_with fail
    refine (l1Once_any B cb 6 _ hc3.out (by decide) (by decide)).mono ?_
    rintro e w4 ⟨b4, rfl, hc4, hg4⟩
    have hg : Hid (w.grownBy w4 (some cb)) := grown_trans hg3.out hg4
    have hC4 : Hid (Cur B w4 cb) := hc4
    clear hg3 hg4 hc3 hc4
    go_upto_if 21 with fail
    go_cut [5] (fun s wx => ∃ N : Int, s = .int .i64 N ∧ (1 ≤ N ∧ N ≤ most) ∧ wx = w4)
    case first =>
      cases b4
      · go_wp2
        go_meet
        case rel => exact ⟨_, rfl, hN, rfl⟩
      · go_wp2
        go_meet
        case rel => exact ⟨_, rfl, by omega, rfl⟩
    case rest =>
      obtain ⟨N, rfl, hN, rfl⟩ := hcut
      go_wp2_with fail
      refine (l1Below_any B cb 4 _ hC4.out (by decide) (by decide)).mono ?_
      rintro e w5 ⟨fl, rfl, f0, f1, hc5, hg5⟩
      have HG5 : Hid (w.grownBy w5 (some cb)) := grown_trans hg.out hg5
      have HC5 : Hid (Cur B w5 cb) := hc5
      clear hg hg5 hc5 hC4
      have ht0 : tx [] = { data := #[] } := by apply ByteArray.ext; rw [tx_data]; rfl
      have HT0 : Hid (tx [] = { data := #[] }) := ht0
      clear ht0
      go_wp2
      go_loopw [6] (fun s wr => ∃ L : List Int, s = .string (tx L) ∧ (L.length : Int) ≤ N ∧ Hid (Dec L) ∧ Hid (Cur B wr cb) ∧ Hid (w.grownBy wr (some cb))) (fun s _ => 200 - strSz s)
      case atStart => exact ⟨[], by rw [HT0.out], by simp; omega, (fun d hd => by cases hd), HC5, HG5⟩
      case round =>
        clear HC5 HG5
        obtain ⟨L, rfl, hL, hD, hC, hG⟩ := hrel
        have hz := tx_size L
        by_cases hlt : (L.length : Int) < N
        · have h1 : ((tx L).size : Int) < N := by omega
          go_wp2_with fail
          refine (l1Below_any B cb 10 _ hC.out (by decide) (by decide)).mono ?_
          rintro e w6 ⟨d, rfl, d0, d1, hc6, hg6⟩
          have HG6 : Hid (w.grownBy w6 (some cb)) := grown_trans hG.out hg6
          have HC6 : Hid (Cur B w6 cb) := hc6
          clear hG hg6 hc6 hC
          have hcase : (fl = 0 ∧ ¬ (0 : Int) < ((tx L).size : Int) ∧ decide ((0 : Int) < ((tx L).size : Int)) = false) ∨ (fl = 0 ∧ (0 : Int) < ((tx L).size : Int)) ∨ fl = 1 ∨ ((fl == 0) = false ∧ (fl == 1) = false) := by
            by_cases h0 : fl = 0
            · by_cases hl0 : L.length = 0
              · exact .inl ⟨h0, by omega, decide_eq_false (by omega)⟩
              · exact .inr (.inl ⟨h0, by omega⟩)
            · by_cases h9 : fl = 1
              · exact .inr (.inr (.inl h9))
              · exact .inr (.inr (.inr ⟨by simpa using h0, by simpa using h9⟩))
          rcases hcase with ⟨rfl, h2, h2'⟩ | ⟨rfl, h2⟩ | rfl | ⟨h2, h3⟩
          all_goals
            go_wp2_with fail
            refine (l1Once_any B cb 12 _ HC6.out (by decide) (by decide)).mono ?_
            rintro e w7 ⟨b7, rfl, hc7, hg7⟩
            have HG7 : Hid (w.grownBy w7 (some cb)) := grown_trans HG6.out hg7
            have HC7 : Hid (Cur B w7 cb) := hc7
            clear HG6 HC6 hg7 hc7
            go_upto_if 41 with fail
            go_cut [8] (fun s wx => ∃ x : Int, s = .int .i64 x ∧ (0 ≤ x ∧ x ≤ 9) ∧ wx = w7)
            case first =>
              cases b7
              · go_wp2
                go_meet
                case rel => exact ⟨_, rfl, by omega, rfl⟩
              · go_wp2
                go_meet
                case rel => exact ⟨_, rfl, by omega, rfl⟩
            case rest =>
              obtain ⟨x, rfl, hx, rfl⟩ := hcut
              have sL : ((tx L).size : Int) ≤ 8388608 := by omega
              have sd : ((tx [x]).size : Int) ≤ 8388608 := by rw [tx_size]; simp
              have hap : tx L ++ tx [x] = tx (L ++ [x]) := tx_append L [x]
              have hcv := nconv1 x wc
              have y1 : IntKind.i64.wrap (48 + x) = 48 + x := by rw [IntKind.wrap_i64]; omega
              have y2 : IntKind.u8.wrap (48 + x) = 48 + x := by rw [IntKind.wrap_u8]; omega
              have HL1 : Hid (Dec (L ++ [x])) := dec_snoc L x hD.out hx.1 hx.2
              have HC8 : Hid (Cur B (wc.alloc (.cells #[.int .u8 (48 + x)] 5)) cb) := cur_alloc HC7.out _
              have HG8 : Hid (w.grownBy (wc.alloc (.cells #[.int .u8 (48 + x)] 5)) (some cb)) := grown_trans HG7.out (World.grownBy_alloc _ _ _)
              have hlen : ((L ++ [x]).length : Int) ≤ N := by simp; omega
              have hmz : Hid (200 - strSz (.string (tx (L ++ [x]))) < 200 - strSz (.string (tx L))) := by
                have a : strSz (.string (tx (L ++ [x]))) = L.length + 1 := by show (tx _).size = _; rw [tx_size]; simp
                have b : strSz (.string (tx L)) = L.length := hz
                rw [Hid, a, b]; omega
              generalize L ++ [x] = L1 at *
              clear HC7 HG7 hz hD
              go_wp2
              go_roundw
              case rel => exact ⟨L1, rfl, hlen, HL1, HC8, HG8⟩
              case measure => exact hmz.out
        · have h1 : ¬ ((tx L).size : Int) < N := by omega
          have hp : 0 < L.length := by omega
          have Hs : Hid (Canon (strip L) ∧ ((strip L).length : Int) ≤ most) := ⟨strip_canon L hD.out hp, by have := strip_len L; omega⟩
          go_wp2_with fail
          refine (l10Strip_any L _ hD.out (by omega)).mono ?_
          rintro e wy ⟨rfl, rfl⟩
          go_wp2
          go_ret
          exact ⟨_, rfl, Hs.out.1, Hs.out.2, hC.out, hG.out⟩
end Go.Proofs.YtdkpiofeidcffaaGreatDoor
