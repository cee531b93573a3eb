/-
  What the program's small functions on a declet's rows answer, walked.
-/
import Derived.Test.YtmeicjbeibmmganDoorRows
import Derived.WalkKit
import Derived.Laws.Externs
import Derived.Test.YtmeicjbeibmmganDoorLn
import Derived.Test.YtmeicjbeibmmganDoorBitM
namespace Go.Proofs.YtmeicjbeibmmganDoor
open Go.RowKit
set_option linter.unusedVariables false
/-- Is a byte a bit's name? -/
def isNm (c : Int) : Prop := (97 ≤ c ∧ c ≤ 107) ∨ c = 109
/-- The place of the bit of that name, the lowest 0. -/
def shN (c : Int) : Nat := if c = 109 then 0 else (108 - c).toNat
theorem ix_all : (List.range 110).all (fun n : Nat => decide (97 ≤ n ∧ n ≠ 108 → firstIdx { data := #[97, 98, 99, 100, 101, 102, 103, 104, 105, 106, 107, 109] } n.toUInt8 = 11 - (shN n : Int))) = true := by kernel_rfl
theorem ix_nm (c : Int) (h : isNm c) : firstIdx { data := #[97, 98, 99, 100, 101, 102, 103, 104, 105, 106, 107, 109] } c.toNat.toUInt8 = 11 - (shN c : Int) := by
  obtain ⟨n, rfl⟩ := Int.eq_ofNat_of_zero_le (show 0 ≤ c by unfold isNm at h; omega)
  have := of_decide_eq_true (List.all_eq_true.1 ix_all n (List.mem_range.2 (by unfold isNm at h; omega)))
  exact this (by unfold isNm at h; omega)
theorem shN_le (c : Int) (h : isNm c) : shN c ≤ 11 := by unfold shN; unfold isNm at h; split <;> omega
theorem ixb_run (s : ByteArray) (c : Int) (w : World) : (callFunc 41 #[.string s, .int .u8 c]).run Tryd.prog w = .ok (.value (.int .i64 (firstIdx s c.toNat.toUInt8))) w := by
  rw [run_callFunc_extern Tryd.func41 (by kernel_rfl) (by kernel_rfl) (by kernel_rfl) (e := Extern.BytealgIndexByte.indexByte) (by kernel_rfl), run_indexByte_string]
  rfl
theorem shiftNamed_any (c : Int) (w : World) (h : isNm c) :
    Calls Tryd.prog 33 #[.int .u8 c] w fun e w' => e = .returned (.int .i64 (shN c)) ∧ w' = w := by
  have hI : ∀ w : World, (callFunc 41 #[.string { data := #[97, 98, 99, 100, 101, 102, 103, 104, 105, 106, 107, 109] }, .int .u8 c]).run Tryd.prog w = .ok (.value (.int .i64 (11 - (shN c : Int)))) w := fun w => by rw [ixb_run, ix_nm c h]
  have hl := shN_le c h
  clear h
  generalize shN c = s at *
  go_enter Tryd.func33, Tryd.ntmps33
  go_wp2_with (first | simp only [hI] | go_in)
  go_ret
  exact ⟨Ln.ret_int (by omega), rfl⟩
/-- The bit of that name. -/
def bn (x : Int) (c : Int) : Int := x / 2 ^ shN c % 2
theorem bn_bd (x c : Int) : 0 ≤ bn x c ∧ bn x c ≤ 1 := by unfold bn; omega
theorem div_bd (x : Int) (n : Nat) (h0 : 0 ≤ x) (h1 : x ≤ 18446744073709551615) : 0 ≤ x / 2 ^ n ∧ x / 2 ^ n ≤ 18446744073709551615 := by
  have := Int.ediv_le_self (2 ^ n) h0
  exact ⟨Int.ediv_nonneg h0 (Int.le_of_lt (Int.pow_pos (by decide))), by omega⟩
theorem bitNamed_any (x c : Int) (w : World) (h : isNm c) (h0 : 0 ≤ x) (h1 : x ≤ 18446744073709551615) :
    Calls Tryd.prog 23 #[.int .u64 x, .int .u8 c] w fun e w' => e = .returned (.int .i64 (bn x c)) ∧ w' = w := by
  have hl := shN_le c h
  have hd := div_bd x (shN c) h0 h1
  have ha : bits .and .u64 (x / 2 ^ shN c) 1 = bn x c := Bm.one_u64 _ hd.1 (by omega)
  have hb := bn_bd x c
  generalize bn x c = B at *
  go_enter Tryd.func23, Tryd.ntmps23
  go_wp2_with fail
  refine (shiftNamed_any c _ h).mono ?_
  rintro e w1 ⟨rfl, rfl⟩
  clear h
  generalize shN c = s at *
  go_wp2
  go_ret
  exact ⟨rfl, rfl⟩
theorem isWritten_any (c : Int) (w : World) :
    Calls Tryd.prog 27 #[.int .u8 c] w fun e w' => e = .returned (.bool (decide (c = 48 ∨ c = 49))) ∧ w' = w := by
  by_cases h : c = 48
  · subst h
    go_enter Tryd.func27, Tryd.ntmps27
    go_wp2
    go_ret
    exact ⟨rfl, rfl⟩
  · by_cases h' : c = 49
    · subst h'
      go_enter Tryd.func27, Tryd.ntmps27
      go_wp2
      go_ret
      exact ⟨rfl, rfl⟩
    · have e : decide (c = 48 ∨ c = 49) = false := decide_eq_false (fun h2 => h2.elim h h')
      rw [e]
      have e1 : (c == 48) = false := by simpa using h
      have e2 : (c == 49) = false := by simpa using h'
      clear h h' e
      go_enter Tryd.func27, Tryd.ntmps27
      go_wp2
      go_ret
      exact ⟨rfl, rfl⟩
theorem writtenBit_any (b : Int) (w : World) (h0 : 0 ≤ b) (h1 : b ≤ 1) :
    Calls Tryd.prog 34 #[.int .u8 (48 + b)] w fun e w' => e = .returned (.int .i64 b) ∧ w' = w := by
  have h : IntKind.u8.wrap (48 + b - 48) = b := by rw [IntKind.wrap_u8]; omega
  go_enter Tryd.func34, Tryd.ntmps34
  go_wp2
  go_ret
  exact ⟨Ln.ret_int (by omega), rfl⟩
theorem bitAtPlace_any (b : Int) (k : Nat) (w : World) (h0 : 0 ≤ b) (h1 : b ≤ 1023) (hk : k < 10) :
    Calls Tryd.prog 28 #[.int .i64 b, .int .i64 k] w fun e w' => e = .returned (.int .i64 (b / 2 ^ (9 - k) % 2)) ∧ w' = w := by
  have hd : 0 ≤ b / 2 ^ (9 - k) ∧ b / 2 ^ (9 - k) ≤ 1023 := by
    have := Int.ediv_le_self (2 ^ (9 - k)) h0
    exact ⟨Int.ediv_nonneg h0 (Int.le_of_lt (Int.pow_pos (by decide))), by omega⟩
  have ha : bits .and .i64 (b / 2 ^ (9 - k)) 1 = b / 2 ^ (9 - k) % 2 := Bm.one_i64 _ hd.1 (by omega)
  have hs : (9 : Int) - (k : Int) = ((9 - k : Nat) : Int) := by omega
  have hj : 9 - k ≤ 9 := by omega
  generalize 9 - k = j at *
  go_enter Tryd.func28, Tryd.ntmps28
  go_wp2
  go_ret
  exact ⟨Ln.ret_int (by first | exact ha | rfl), rfl⟩
end Go.Proofs.YtmeicjbeibmmganDoor
