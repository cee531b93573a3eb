/-
  Two words side by side: bits pushed in, looked at and dropped, walked.
-/
import Derived.Test.YtmjkpjmccdjkjadDoorRows
import Derived.WalkKit
import Derived.BigQuiet
import Derived.Deep.QuietTactic
import Derived.Handy
import Derived.Test.YtmjkpjmccdjkjadDoorDig
namespace Go.Proofs.YtmjkpjmccdjkjadDoor
open Go.RowKit
set_option linter.unusedVariables false
set_option maxRecDepth 100000
/-- Two words as a value; a number below 2^128 as two words. -/
abbrev wpV (h l : Int) : Value := .agg #[.int .u64 h, .int .u64 l]
def wdV (W : Int) : Value := wpV (W / 18446744073709551616) (W % 18446744073709551616)
/-- The widths that occur. -/
def Wn (n : Nat) : Prop := n = 1 ∨ n = 5 ∨ n = 8 ∨ n = 10 ∨ n = 12
/-- Words pushed up by n bits, and down. -/
def puH (h l : Int) (n : Nat) : Int := bits .or .u64 (IntKind.u64.wrap (h * 2 ^ n)) (l / 2 ^ (64 - n))
def puL (l b : Int) (n : Nat) : Int := bits .or .u64 (IntKind.u64.wrap (l * 2 ^ n)) b
def drL (h l : Int) (n : Nat) : Int := bits .or .u64 (IntKind.u64.wrap (h * 2 ^ (64 - n))) (l / 2 ^ n)
def lwB (l : Int) (n : Nat) : Int := bits .and .u16 (l % 65536) (2 ^ n - 1)
theorem two_wr (x : Int) : IntKind.u64.wrap x = x % 18446744073709551616 := IntKind.wrap_u64 x
theorem pu_facts (W b : Int) (n : Nat) (hn : Wn n) (h0 : 0 ≤ W) (h1 : W * 2 ^ n < 340282366920938463463374607431768211456) (b0 : 0 ≤ b) (b1 : b < 2 ^ n) :
    puH (W / 18446744073709551616) (W % 18446744073709551616) n = (W * 2 ^ n + b) / 18446744073709551616 ∧ puL (W % 18446744073709551616) b n = (W * 2 ^ n + b) % 18446744073709551616 := by
  unfold puH puL
  rw [two_wr, two_wr]
  rcases hn with rfl | rfl | rfl | rfl | rfl
  · rw [show (2 : Int) ^ 1 = 2 by decide, show (2 : Int) ^ (64 - 1) = 9223372036854775808 by decide] at *
    have a := Bm.join_u64 (W / 18446744073709551616) (W % 18446744073709551616 / 9223372036854775808) 1 (by omega) (by omega) (by omega) (by omega) (by omega)
    have c := Bm.join_u64 (W % 9223372036854775808) b 1 (by omega) (by omega) (by omega) (by omega) (by omega)
    rw [show (2 : Int) ^ 1 = 2 by decide] at a c
    rw [show W / 18446744073709551616 * 2 % 18446744073709551616 = W / 18446744073709551616 * 2 by omega, a, show W % 18446744073709551616 * 2 % 18446744073709551616 = W % 9223372036854775808 * 2 by omega, c]
    refine ⟨?_, ?_⟩ <;> omega
  · rw [show (2 : Int) ^ 5 = 32 by decide, show (2 : Int) ^ (64 - 5) = 576460752303423488 by decide] at *
    have a := Bm.join_u64 (W / 18446744073709551616) (W % 18446744073709551616 / 576460752303423488) 5 (by omega) (by omega) (by omega) (by omega) (by omega)
    have c := Bm.join_u64 (W % 576460752303423488) b 5 (by omega) (by omega) (by omega) (by omega) (by omega)
    rw [show (2 : Int) ^ 5 = 32 by decide] at a c
    rw [show W / 18446744073709551616 * 32 % 18446744073709551616 = W / 18446744073709551616 * 32 by omega, a, show W % 18446744073709551616 * 32 % 18446744073709551616 = W % 576460752303423488 * 32 by omega, c]
    refine ⟨?_, ?_⟩ <;> omega
  · rw [show (2 : Int) ^ 8 = 256 by decide, show (2 : Int) ^ (64 - 8) = 72057594037927936 by decide] at *
    have a := Bm.join_u64 (W / 18446744073709551616) (W % 18446744073709551616 / 72057594037927936) 8 (by omega) (by omega) (by omega) (by omega) (by omega)
    have c := Bm.join_u64 (W % 72057594037927936) b 8 (by omega) (by omega) (by omega) (by omega) (by omega)
    rw [show (2 : Int) ^ 8 = 256 by decide] at a c
    rw [show W / 18446744073709551616 * 256 % 18446744073709551616 = W / 18446744073709551616 * 256 by omega, a, show W % 18446744073709551616 * 256 % 18446744073709551616 = W % 72057594037927936 * 256 by omega, c]
    refine ⟨?_, ?_⟩ <;> omega
  · rw [show (2 : Int) ^ 10 = 1024 by decide, show (2 : Int) ^ (64 - 10) = 18014398509481984 by decide] at *
    have a := Bm.join_u64 (W / 18446744073709551616) (W % 18446744073709551616 / 18014398509481984) 10 (by omega) (by omega) (by omega) (by omega) (by omega)
    have c := Bm.join_u64 (W % 18014398509481984) b 10 (by omega) (by omega) (by omega) (by omega) (by omega)
    rw [show (2 : Int) ^ 10 = 1024 by decide] at a c
    rw [show W / 18446744073709551616 * 1024 % 18446744073709551616 = W / 18446744073709551616 * 1024 by omega, a, show W % 18446744073709551616 * 1024 % 18446744073709551616 = W % 18014398509481984 * 1024 by omega, c]
    refine ⟨?_, ?_⟩ <;> omega
  · rw [show (2 : Int) ^ 12 = 4096 by decide, show (2 : Int) ^ (64 - 12) = 4503599627370496 by decide] at *
    have a := Bm.join_u64 (W / 18446744073709551616) (W % 18446744073709551616 / 4503599627370496) 12 (by omega) (by omega) (by omega) (by omega) (by omega)
    have c := Bm.join_u64 (W % 4503599627370496) b 12 (by omega) (by omega) (by omega) (by omega) (by omega)
    rw [show (2 : Int) ^ 12 = 4096 by decide] at a c
    rw [show W / 18446744073709551616 * 4096 % 18446744073709551616 = W / 18446744073709551616 * 4096 by omega, a, show W % 18446744073709551616 * 4096 % 18446744073709551616 = W % 4503599627370496 * 4096 by omega, c]
    refine ⟨?_, ?_⟩ <;> omega
theorem dr_facts (W : Int) (n : Nat) (hn : Wn n) (h0 : 0 ≤ W) (h1 : W < 340282366920938463463374607431768211456) :
    W / 18446744073709551616 / 2 ^ n = W / 2 ^ n / 18446744073709551616 ∧ drL (W / 18446744073709551616) (W % 18446744073709551616) n = W / 2 ^ n % 18446744073709551616 ∧ lwB (W % 18446744073709551616) n = W % 2 ^ n := by
  unfold drL lwB
  rw [two_wr]
  rcases hn with rfl | rfl | rfl | rfl | rfl
  · have m := Bm.mask_u16 (W % 18446744073709551616 % 65536) 1 (by omega) (by omega) (by omega)
    rw [show (2 : Int) ^ 1 = 2 by decide] at m
    rw [show (2 : Int) ^ 1 = 2 by decide, show (2 : Int) ^ (64 - 1) = 9223372036854775808 by decide]
    have a := Bm.join_u64 (W / 18446744073709551616 % 2) (W % 18446744073709551616 / 2) 63 (by omega) (by omega) (by omega) (by omega) (by omega)
    rw [show (2 : Int) ^ 63 = 9223372036854775808 by decide] at a
    rw [show W / 18446744073709551616 * 9223372036854775808 % 18446744073709551616 = W / 18446744073709551616 % 2 * 9223372036854775808 by omega, a, m]
    refine ⟨?_, ?_, ?_⟩ <;> omega
  · have m := Bm.mask_u16 (W % 18446744073709551616 % 65536) 5 (by omega) (by omega) (by omega)
    rw [show (2 : Int) ^ 5 = 32 by decide] at m
    rw [show (2 : Int) ^ 5 = 32 by decide, show (2 : Int) ^ (64 - 5) = 576460752303423488 by decide]
    have a := Bm.join_u64 (W / 18446744073709551616 % 32) (W % 18446744073709551616 / 32) 59 (by omega) (by omega) (by omega) (by omega) (by omega)
    rw [show (2 : Int) ^ 59 = 576460752303423488 by decide] at a
    rw [show W / 18446744073709551616 * 576460752303423488 % 18446744073709551616 = W / 18446744073709551616 % 32 * 576460752303423488 by omega, a, m]
    refine ⟨?_, ?_, ?_⟩ <;> omega
  · have m := Bm.mask_u16 (W % 18446744073709551616 % 65536) 8 (by omega) (by omega) (by omega)
    rw [show (2 : Int) ^ 8 = 256 by decide] at m
    rw [show (2 : Int) ^ 8 = 256 by decide, show (2 : Int) ^ (64 - 8) = 72057594037927936 by decide]
    have a := Bm.join_u64 (W / 18446744073709551616 % 256) (W % 18446744073709551616 / 256) 56 (by omega) (by omega) (by omega) (by omega) (by omega)
    rw [show (2 : Int) ^ 56 = 72057594037927936 by decide] at a
    rw [show W / 18446744073709551616 * 72057594037927936 % 18446744073709551616 = W / 18446744073709551616 % 256 * 72057594037927936 by omega, a, m]
    refine ⟨?_, ?_, ?_⟩ <;> omega
  · have m := Bm.mask_u16 (W % 18446744073709551616 % 65536) 10 (by omega) (by omega) (by omega)
    rw [show (2 : Int) ^ 10 = 1024 by decide] at m
    rw [show (2 : Int) ^ 10 = 1024 by decide, show (2 : Int) ^ (64 - 10) = 18014398509481984 by decide]
    have a := Bm.join_u64 (W / 18446744073709551616 % 1024) (W % 18446744073709551616 / 1024) 54 (by omega) (by omega) (by omega) (by omega) (by omega)
    rw [show (2 : Int) ^ 54 = 18014398509481984 by decide] at a
    rw [show W / 18446744073709551616 * 18014398509481984 % 18446744073709551616 = W / 18446744073709551616 % 1024 * 18014398509481984 by omega, a, m]
    refine ⟨?_, ?_, ?_⟩ <;> omega
  · have m := Bm.mask_u16 (W % 18446744073709551616 % 65536) 12 (by omega) (by omega) (by omega)
    rw [show (2 : Int) ^ 12 = 4096 by decide] at m
    rw [show (2 : Int) ^ 12 = 4096 by decide, show (2 : Int) ^ (64 - 12) = 4503599627370496 by decide]
    have a := Bm.join_u64 (W / 18446744073709551616 % 4096) (W % 18446744073709551616 / 4096) 52 (by omega) (by omega) (by omega) (by omega) (by omega)
    rw [show (2 : Int) ^ 52 = 4503599627370496 by decide] at a
    rw [show W / 18446744073709551616 * 4503599627370496 % 18446744073709551616 = W / 18446744073709551616 % 4096 * 4503599627370496 by omega, a, m]
    refine ⟨?_, ?_, ?_⟩ <;> omega
theorem wn_bd (n : Nat) (hn : Wn n) : 1 ≤ n ∧ n ≤ 12 := by unfold Wn at hn; omega
theorem wn_mask (n : Nat) (hn : Wn n) : IntKind.u16.wrap (1 * 2 ^ n) = 2 ^ n ∧ IntKind.u16.wrap (2 ^ n) = 2 ^ n ∧ IntKind.u16.wrap (2 ^ n - 1) = 2 ^ n - 1 ∧ 2 ≤ (2 : Int) ^ n ∧ (2 : Int) ^ n ≤ 4096 := by
  rcases hn with rfl | rfl | rfl | rfl | rfl <;> decide
set_option maxRecDepth 100000 in
set_option maxHeartbeats 4000000 in
theorem pushBits_any (W b : Int) (n : Nat) (w : World) (hn : Wn n) (h0 : 0 ≤ W) (h1 : W * 2 ^ n < 340282366920938463463374607431768211456) (b0 : 0 ≤ b) (b1 : b < 2 ^ n) :
    Calls Tryd.prog 40 #[wdV W, .int .u16 b, .int .i64 n] w fun e w' => e = .returned (wdV (W * 2 ^ n + b)) ∧ Below w.heap.size w w' := by
  obtain ⟨f1, f2⟩ := pu_facts W b n hn h0 h1 b0 b1
  have m := wn_mask n hn
  have hnb := wn_bd n hn
  have hb16 : b ≤ 65535 := by omega
  have hW : 0 ≤ W / 18446744073709551616 ∧ 0 ≤ W % 18446744073709551616 ∧ W % 18446744073709551616 ≤ 18446744073709551615 := by omega
  have hs : IntKind.i64.wrap (64 - (n : Int)) = ((64 - n : Nat) : Int) := by rw [IntKind.wrap_i64]; omega
  have HQ : Hid (wdV (W * 2 ^ n + b) = wpV (puH (W / 18446744073709551616) (W % 18446744073709551616) n) (puL (W % 18446744073709551616) b n)) := by show _ = _; unfold wdV; rw [f1, f2]
  rw [HQ.out]
  clear f1 f2 HQ m h1 b1 hn
  unfold wdV
  generalize W / 18446744073709551616 = H at *
  generalize W % 18446744073709551616 = L at *
  go_enter Tryd.func40, Tryd.ntmps40
  go_wp2
  go_region
  go_wp2
  go_returns
  exact ⟨rfl, (((Below.refl _ _).alloc (Nat.le_refl _) _).alloc (by simp) _).drew⟩
set_option maxRecDepth 100000 in
set_option maxHeartbeats 4000000 in
theorem dropBits_any (W : Int) (n : Nat) (w : World) (hn : Wn n) (h0 : 0 ≤ W) (h1 : W < 340282366920938463463374607431768211456) :
    Calls Tryd.prog 46 #[wdV W, .int .i64 n] w fun e w' => e = .returned (wdV (W / 2 ^ n)) ∧ Below w.heap.size w w' := by
  obtain ⟨f1, f2, f3⟩ := dr_facts W n hn h0 h1
  have hnb := wn_bd n hn
  have hW : 0 ≤ W / 18446744073709551616 ∧ W / 18446744073709551616 ≤ 18446744073709551615 ∧ 0 ≤ W % 18446744073709551616 ∧ W % 18446744073709551616 ≤ 18446744073709551615 := by omega
  have hs : IntKind.i64.wrap (64 - (n : Int)) = ((64 - n : Nat) : Int) := by rw [IntKind.wrap_i64]; omega
  have HQ : Hid (wdV (W / 2 ^ n) = wpV (W / 18446744073709551616 / 2 ^ n) (drL (W / 18446744073709551616) (W % 18446744073709551616) n)) := by show _ = _; unfold wdV; rw [f1, f2]
  rw [HQ.out]
  clear f1 f2 f3 HQ h1 hn
  unfold wdV
  generalize W / 18446744073709551616 = H at *
  generalize W % 18446744073709551616 = L at *
  go_enter Tryd.func46, Tryd.ntmps46
  go_wp2
  go_region
  go_wp2
  go_returns
  exact ⟨rfl, (((Below.refl _ _).alloc (Nat.le_refl _) _).alloc (by simp) _).drew⟩
set_option maxRecDepth 100000 in
set_option maxHeartbeats 4000000 in
theorem lowBits_any (W : Int) (n : Nat) (w : World) (hn : Wn n) (h0 : 0 ≤ W) (h1 : W < 340282366920938463463374607431768211456) :
    Calls Tryd.prog 45 #[wdV W, .int .i64 n] w fun e w' => e = .returned (.int .u16 (W % 2 ^ n)) ∧ Below w.heap.size w w' := by
  obtain ⟨f1, f2, f3⟩ := dr_facts W n hn h0 h1
  obtain ⟨m1, m2, m3, m4, m5⟩ := wn_mask n hn
  have hnb := wn_bd n hn
  have hW : 0 ≤ W / 18446744073709551616 ∧ W / 18446744073709551616 ≤ 18446744073709551615 ∧ 0 ≤ W % 18446744073709551616 ∧ W % 18446744073709551616 ≤ 18446744073709551615 := by omega
  have HQ : Hid (lwB (W % 18446744073709551616) n = W % 2 ^ n) := f3
  have hu : IntKind.u16.wrap (W % 18446744073709551616) = W % 18446744073709551616 % 65536 := by rw [IntKind.wrap_u16]
  clear f1 f2 f3 h1 hn
  unfold wdV
  generalize W / 18446744073709551616 = H at *
  generalize hL : W % 18446744073709551616 = L at *
  rw [← HQ.out]
  clear HQ hL
  unfold lwB
  generalize hM : L % 65536 = M at *
  have hM2 : 0 ≤ M ∧ M ≤ 65535 := by omega
  clear hM
  go_enter Tryd.func45, Tryd.ntmps45
  go_wp2
  go_region
  go_wp2
  go_ret
  exact ⟨rfl, ((Below.refl _ _).alloc (Nat.le_refl _) _).drew⟩
end Go.Proofs.YtmjkpjmccdjkjadDoor
