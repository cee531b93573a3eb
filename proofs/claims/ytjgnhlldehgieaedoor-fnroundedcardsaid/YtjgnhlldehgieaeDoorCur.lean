/-
  The draws' cursor over the bytes of a code: what it holds in memory, and what one byte of it gives, walked.
-/
import Derived.Test.YtjgnhlldehgieaeDoorLn
import Derived.Test.YtjgnhlldehgieaeDoorRows
import Derived.Deep.QuietTactic
import Derived.BigQuiet
import Derived.WalkSmall
namespace Go.Proofs.YtjgnhlldehgieaeDoor
open Go.RowKit
set_option linter.unusedVariables false
set_option maxRecDepth 100000

theorem and255 (x : Int) : 0 ≤ bits .and .i64 x 255 ∧ bits .and .i64 x 255 ≤ 255 := by
  have h : (BitVec.ofInt 64 x &&& BitVec.ofInt 64 255).toNat ≤ 255 := by
    rw [BitVec.toNat_and]
    exact Nat.le_trans Nat.and_le_right (by decide)
  have e : bits .and .i64 x 255 = IntKind.i64.wrap ((BitVec.ofInt 64 x &&& BitVec.ofInt 64 255).toNat : Int) := rfl
  rw [e, IntKind.wrap_i64]
  omega
/-- The bytes that the cursor reads lie below B. -/
def Bytes (B : Nat) (w : World) (a : Option Addr) (len : Nat) : Prop :=
  len = 0 ∨ ∃ b off, a = some ⟨b, off, none⟩ ∧ b < B ∧ ∀ j, j < len → ∃ z : Int, w.cell? ⟨b, off + j, none⟩ = some (.int .u8 z) ∧ 0 ≤ z ∧ z ≤ 255
/-- A cursor lies in the block cb. -/
def Cur (B : Nat) (w : World) (cb : Nat) : Prop := ∃ (a : Option Addr) (len cap i : Nat) (h : Int), B ≤ cb ∧ cb < w.heap.size ∧ len ≤ 4096 ∧ i ≤ len ∧ Bytes B w a len ∧
  w.cell? ⟨cb, 0, none⟩ = some (.slice a len cap) ∧ w.cell? ⟨cb, 1, none⟩ = some (.int .i64 i) ∧ w.cell? ⟨cb, 2, none⟩ = some (.int .i64 h) ∧ w.frozen? ⟨cb, 1, none⟩ = false ∧ w.frozen? ⟨cb, 2, none⟩ = false
theorem grown_set (w : World) (cb j : Nat) (v : Value) : w.grownBy (w.setCell ⟨cb, j, none⟩ v) (some cb) :=
  ⟨rfl, rfl, rfl, by simp, fun k _ hk => Below.heap_setCell _ _ _ _ (fun e => hk (by rw [e]))⟩
theorem grown_trans {w w1 w2 : World} {r : Option Nat} (h : w.grownBy w1 r) (k : w1.grownBy w2 r) : w.grownBy w2 r :=
  ⟨k.os.trans h.os, k.tape.trans h.tape, k.output.trans h.output, Nat.le_trans h.size k.size, fun i hi hn => (k.block i (Nat.lt_of_lt_of_le hi h.size) hn).trans (h.block i hi hn)⟩
theorem grown_drewN {w w1 : World} {r : Option Nat} (h : w.grownBy w1 r) (n : Nat) : w.grownBy (w1.drewN n) r :=
  ⟨h.os, h.tape, h.output, h.size, h.block⟩
theorem Bytes.grown {B : Nat} {w w' : World} {a : Option Addr} {len cb : Nat} (h : Bytes B w a len) (hg : w.grownBy w' (some cb)) (hB : B ≤ cb) : Bytes B w' a len := by
  rcases h with h | ⟨b, off, rfl, hb, hz⟩
  · exact .inl h
  · refine .inr ⟨b, off, rfl, hb, fun j hj => ?_⟩
    obtain ⟨z, hc, r⟩ := hz j hj
    exact ⟨z, hg.cell hc (fun e => by have e' : b = cb := Option.some.inj e; omega), r⟩
/-- The cursor's two numbers written anew. -/
theorem cur_set {B cb : Nat} {w : World} {a : Option Addr} {len cap i : Nat} {h : Int} (hB : B ≤ cb) (hcb : cb < w.heap.size) (hlen : len ≤ 4096) (hby : Bytes B w a len)
    (c0 : w.cell? ⟨cb, 0, none⟩ = some (.slice a len cap)) (c1 : w.cell? ⟨cb, 1, none⟩ = some (.int .i64 i)) (c2 : w.cell? ⟨cb, 2, none⟩ = some (.int .i64 h)) (f1 : w.frozen? ⟨cb, 1, none⟩ = false) (f2 : w.frozen? ⟨cb, 2, none⟩ = false)
    (h' : Int) (i' : Nat) (hi' : i' ≤ len) (n : Nat) :
    Cur B (((w.setCell ⟨cb, 2, none⟩ (.int .i64 h')).drewN n).setCell ⟨cb, 1, none⟩ (.int .i64 i')) cb ∧ w.grownBy (((w.setCell ⟨cb, 2, none⟩ (.int .i64 h')).drewN n).setCell ⟨cb, 1, none⟩ (.int .i64 i')) (some cb) := by
  have hg : w.grownBy (((w.setCell ⟨cb, 2, none⟩ (.int .i64 h')).drewN n).setCell ⟨cb, 1, none⟩ (.int .i64 i')) (some cb) :=
    grown_trans (grown_drewN (grown_set w cb 2 _) n) (grown_set _ cb 1 _)
  have d : ∀ j, ((w.setCell ⟨cb, 2, none⟩ (.int .i64 h')).drewN n).cell? ⟨cb, j, none⟩ = (w.setCell ⟨cb, 2, none⟩ (.int .i64 h')).cell? ⟨cb, j, none⟩ := fun j => rfl
  have e : ∀ j, ((w.setCell ⟨cb, 2, none⟩ (.int .i64 h')).drewN n).frozen? ⟨cb, j, none⟩ = (w.setCell ⟨cb, 2, none⟩ (.int .i64 h')).frozen? ⟨cb, j, none⟩ := fun j => rfl
  refine ⟨⟨a, len, cap, i', h', hB, Nat.lt_of_lt_of_le hcb hg.size, hlen, hi', hby.grown hg hB, ?_, ?_, ?_, ?_, ?_⟩, hg⟩
  · rw [World.cell?_setCell_other _ _ _ _ (by simp), d, World.cell?_setCell_other _ _ _ _ (by simp)]; exact c0
  · exact World.cell?_setCell_same _ _ _ (u := .int .i64 i) (by rw [d, World.cell?_setCell_other _ _ _ _ (by simp)]; exact c1)
  · rw [World.cell?_setCell_other _ _ _ _ (by simp), d]; exact World.cell?_setCell_same _ _ _ c2
  · rw [World.frozen?_setCell, e, World.frozen?_setCell]; exact f1
  · rw [World.frozen?_setCell, e, World.frozen?_setCell]; exact f2
/-- The cursor's mix alone written anew. -/
theorem cur_mix {B cb : Nat} {w : World} {a : Option Addr} {len cap i : Nat} {h : Int} (hB : B ≤ cb) (hcb : cb < w.heap.size) (hlen : len ≤ 4096) (hi : i ≤ len) (hby : Bytes B w a len)
    (c0 : w.cell? ⟨cb, 0, none⟩ = some (.slice a len cap)) (c1 : w.cell? ⟨cb, 1, none⟩ = some (.int .i64 i)) (c2 : w.cell? ⟨cb, 2, none⟩ = some (.int .i64 h)) (f1 : w.frozen? ⟨cb, 1, none⟩ = false) (f2 : w.frozen? ⟨cb, 2, none⟩ = false)
    (h' : Int) (n : Nat) : Cur B ((w.setCell ⟨cb, 2, none⟩ (.int .i64 h')).drewN n) cb ∧ w.grownBy ((w.setCell ⟨cb, 2, none⟩ (.int .i64 h')).drewN n) (some cb) := by
  have hg : w.grownBy ((w.setCell ⟨cb, 2, none⟩ (.int .i64 h')).drewN n) (some cb) := grown_drewN (grown_set w cb 2 _) n
  have d : ∀ j, ((w.setCell ⟨cb, 2, none⟩ (.int .i64 h')).drewN n).cell? ⟨cb, j, none⟩ = (w.setCell ⟨cb, 2, none⟩ (.int .i64 h')).cell? ⟨cb, j, none⟩ := fun j => rfl
  have e : ∀ j, ((w.setCell ⟨cb, 2, none⟩ (.int .i64 h')).drewN n).frozen? ⟨cb, j, none⟩ = (w.setCell ⟨cb, 2, none⟩ (.int .i64 h')).frozen? ⟨cb, j, none⟩ := fun j => rfl
  refine ⟨⟨a, len, cap, i, h', hB, Nat.lt_of_lt_of_le hcb hg.size, hlen, hi, hby.grown hg hB, ?_, ?_, ?_, ?_, ?_⟩, hg⟩
  · rw [d, World.cell?_setCell_other _ _ _ _ (by simp)]; exact c0
  · rw [d, World.cell?_setCell_other _ _ _ _ (by simp)]; exact c1
  · rw [d]; exact World.cell?_setCell_same _ _ _ c2
  · rw [e, World.frozen?_setCell]; exact f1
  · rw [e, World.frozen?_setCell]; exact f2
set_option maxHeartbeats 400000 in
theorem l1Byte_any (B cb : Nat) (w : World) (hc : Cur B w cb) :
    Calls Tryd.prog 24 #[.pointer (some ⟨cb, 0, none⟩)] w fun e w' => ∃ x, e = .returned (.int .i64 x) ∧ 0 ≤ x ∧ x ≤ 255 ∧ Cur B w' cb ∧ w.grownBy w' (some cb) := by
  obtain ⟨a, len, cap, i, h, hB, hcb, hlen, hi, hby, c0, c1, c2, f1, f2⟩ := hc
  by_cases hlt : i < len
  · have hne : ¬ len = 0 := by omega
    have HY : Hid (∀ (h' : Int) (i' : Nat) (hi' : i' ≤ len) (n : Nat), Cur B (((w.setCell ⟨cb, 2, none⟩ (.int .i64 h')).drewN n).setCell ⟨cb, 1, none⟩ (.int .i64 i')) cb ∧ w.grownBy (((w.setCell ⟨cb, 2, none⟩ (.int .i64 h')).drewN n).setCell ⟨cb, 1, none⟩ (.int .i64 i')) (some cb)) :=
      fun h' i' hi' n => cur_set hB hcb hlen hby c0 c1 c2 f1 f2 h' i' hi' n
    rcases hby with h0 | ⟨b, off, rfl, hb, hz⟩
    · exact absurd h0 hne
    obtain ⟨z, hzc, hz0, hz1⟩ := hz i hlt
    clear hz hne
    have hlt' : (i : Int) < (len : Int) := by omega
    go_enter Tryd.func24, Tryd.ntmps24
    go_wp2
    go_quiet (fail)
    go_wp2
    go_quiet (fail)
    go_wp2
    go_quiet (fail)
    go_wp2
    go_ret
    refine ⟨_, rfl, (and255 _).1, (and255 _).2, ?_⟩
    exact HY.out _ (i + 1) (by omega) _
  · have HY : Hid (∀ (h' : Int) (n m : Nat), Cur B (((w.setCell ⟨cb, 2, none⟩ (.int .i64 h')).drewN n).drewN m) cb ∧ w.grownBy (((w.setCell ⟨cb, 2, none⟩ (.int .i64 h')).drewN n).drewN m) (some cb)) :=
      fun h' n m => ⟨(cur_mix hB hcb hlen hi hby c0 c1 c2 f1 f2 h' n).1, grown_drewN (cur_mix hB hcb hlen hi hby c0 c1 c2 f1 f2 h' n).2 m⟩
    clear hby
    have hlt' : ¬ (i : Int) < (len : Int) := by omega
    go_enter Tryd.func24, Tryd.ntmps24
    go_wp2
    go_quiet (fail)
    go_wp2
    go_quiet (fail)
    go_wp2
    go_ret
    refine ⟨_, rfl, (and255 _).1, (and255 _).2, ?_⟩
    exact HY.out _ _ _
end Go.Proofs.YtjgnhlldehgieaeDoor
