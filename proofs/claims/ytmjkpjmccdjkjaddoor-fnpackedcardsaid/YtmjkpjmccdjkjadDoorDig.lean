/-
  Plain facts on what four bits stand for under the three weightings.
-/
import Derived.WalkKit
import Derived.Laws.Bits64b
import Derived.Test.YtmjkpjmccdjkjadDoorRows
namespace Go.Proofs.YtmjkpjmccdjkjadDoor.Ln
/-- Lane i of a word. -/
def ln (w : Int) (i : Nat) : Int := w / 16 ^ i % 16
theorem pow4 (i : Nat) : (2 : Int) ^ (4 * i) = 16 ^ i := by rw [Int.pow_mul]; rfl
theorem pow_pos16 (i : Nat) : (0 : Int) < 16 ^ i := Int.pow_pos (by decide)
theorem ln_lo (w : Int) (i : Nat) : 0 ≤ ln w i := Int.emod_nonneg _ (by decide)
theorem ln_hi (w : Int) (i : Nat) : ln w i < 16 := Int.emod_lt_of_pos _ (by decide)
/-- n lanes up, in 64 bits. -/
def up (w : Int) (n : Nat) : Int := w * 16 ^ n % 18446744073709551616
theorem up_zero (w : Int) (h0 : 0 ≤ w) (h1 : w ≤ 18446744073709551615) : up w 0 = w := by
  unfold up; rw [Int.pow_zero, Int.mul_one]; omega
theorem up_succ (w : Int) (n : Nat) : up w n * 16 % 18446744073709551616 = up w (n + 1) := by
  unfold up; rw [Int.pow_succ, ← Int.mul_assoc, Int.mul_emod, Int.emod_emod_of_dvd _ (Int.dvd_refl _), ← Int.mul_emod]
theorem up_lo (w : Int) (n : Nat) : 0 ≤ up w n := by unfold up; omega
theorem up_hi (w : Int) (n : Nat) : up w n ≤ 18446744073709551615 := by unfold up; omega
/-- n lanes down. -/
def down (w : Int) (n : Nat) : Int := w / 16 ^ n
theorem down_zero (w : Int) : down w 0 = w := by unfold down; rw [Int.pow_zero, Int.ediv_one]
theorem down_succ (w : Int) (n : Nat) : down w n / 16 = down w (n + 1) := by
  unfold down; rw [Int.pow_succ, Int.ediv_ediv_of_nonneg (Int.le_of_lt (pow_pos16 n))]
theorem down_lo (w : Int) (n : Nat) (h0 : 0 ≤ w) : 0 ≤ down w n := Int.ediv_nonneg h0 (Int.le_of_lt (pow_pos16 n))
theorem down_hi (w : Int) (n : Nat) (h0 : 0 ≤ w) (h1 : w ≤ 18446744073709551615) : down w n ≤ 18446744073709551615 := by
  have := Int.ediv_le_self (16 ^ n) h0; unfold down; omega
/-- k lanes at the high end are 0, and no more. -/
def IsLead (w : Int) (k : Nat) : Prop := k ≤ 16 ∧ (∀ j, j < k → ln w (15 - j) = 0) ∧ (k < 16 → ln w (15 - k) ≠ 0)
theorem lead_unique (w : Int) (a b : Nat) (ha : IsLead w a) (hb : IsLead w b) : a = b := by
  obtain ⟨a1, a2, a3⟩ := ha
  obtain ⟨b1, b2, b3⟩ := hb
  rcases Nat.lt_trichotomy a b with h | h | h
  · exact absurd (b2 a h) (a3 (by omega))
  · exact h
  · exact absurd (a2 b h) (b3 (by omega))
theorem up_pow (x : Int) (n : Nat) : IntKind.u64.wrap (x * 2 ^ (4 * n)) = up x n := by
  unfold up; rw [IntKind.wrap_u64, pow4]
theorem up_step (x : Int) (n : Nat) : IntKind.u64.wrap (up x n * 16) = up x (n + 1) := by
  rw [IntKind.wrap_u64]; exact up_succ x n
theorem down_pow (x : Int) (n : Nat) : x / 2 ^ (4 * n) = down x n := by unfold down; rw [pow4]
theorem ret_int {k : IntKind} {a b : Int} (h : a = b) : Ending.returned (.int k a) = .returned (.int k b) := by rw [h]
theorem ret_bool {a b : Bool} (h : a = b) : Ending.returned (.bool a) = .returned (.bool b) := by rw [h]
theorem val_int {k : IntKind} {a b : Int} (h : a = b) : Value.int k a = .int k b := by rw [h]
theorem down_nat (x : Int) (n : Nat) (h0 : 0 ≤ x) (h1 : x ≤ 18446744073709551615) : ∃ a : Nat, down x n = a ∧ a < 18446744073709551616 := by
  have l := down_lo x n h0
  have h := down_hi x n h0 h1
  exact ⟨(down x n).toNat, by omega, by omega⟩
theorem ln_and (x : Int) (i : Nat) (h0 : 0 ≤ x) (h1 : x ≤ 18446744073709551615) : bits .and .u64 (x / 2 ^ (4 * i)) 15 = ln x i := by
  rw [down_pow]
  obtain ⟨a, ha, hb⟩ := down_nat x i h0 h1
  have e : ln x i = down x i % 16 := rfl
  rw [e, ha]
  have := bits_and_u64_nat a 15 hb (by decide)
  rw [show ((15 : Nat) : Int) = 15 from rfl] at this
  rw [this, show (15 : Nat) = 2 ^ 4 - 1 from rfl, Nat.and_two_pow_sub_one_eq_mod]
  rfl
theorem ln_mod (x : Int) (i : Nat) (h0 : 0 ≤ x) : Go.RowKit.wrap64 ((x / 2 ^ (4 * i)).tmod 16) = ln x i := by
  rw [down_pow, Int.tmod_eq_emod_of_nonneg (down_lo x i h0)]
  have e : ln x i = down x i % 16 := rfl
  rw [← e]
  have a := ln_lo x i
  have b := ln_hi x i
  unfold Go.RowKit.wrap64; omega
end Go.Proofs.YtmjkpjmccdjkjadDoor.Ln
namespace Go.Proofs.YtmjkpjmccdjkjadDoor.Bm
set_option linter.unusedVariables false
set_option maxRecDepth 100000
theorem ofInt_nat (n a : Nat) (h : a < 2 ^ n) : (BitVec.ofInt n (a : Int)).toNat = a := by
  rw [BitVec.ofInt_natCast, BitVec.toNat_ofNat]; exact Nat.mod_eq_of_lt h
theorem and_i64 (a b : Nat) (ha : a < 2 ^ 63) (hb : b < 2 ^ 63) : bits .and .i64 (a : Int) (b : Int) = ((a &&& b : Nat) : Int) := by
  have hx : a &&& b < 2 ^ 63 := Nat.and_lt_two_pow _ hb
  show IntKind.i64.wrap ((BitVec.ofInt 64 (a : Int) &&& BitVec.ofInt 64 (b : Int)).toNat : Int) = _
  rw [BitVec.toNat_and, ofInt_nat 64 a (by omega), ofInt_nat 64 b (by omega), IntKind.wrap_i64]
  omega
theorem or_i64 (a b : Nat) (ha : a < 2 ^ 63) (hb : b < 2 ^ 63) : bits .or .i64 (a : Int) (b : Int) = ((a ||| b : Nat) : Int) := by
  have hx : a ||| b < 2 ^ 63 := Nat.or_lt_two_pow ha hb
  show IntKind.i64.wrap ((BitVec.ofInt 64 (a : Int) ||| BitVec.ofInt 64 (b : Int)).toNat : Int) = _
  rw [BitVec.toNat_or, ofInt_nat 64 a (by omega), ofInt_nat 64 b (by omega), IntKind.wrap_i64]
  omega
theorem and_u16 (a b : Nat) (ha : a < 2 ^ 16) (hb : b < 2 ^ 16) : bits .and .u16 (a : Int) (b : Int) = ((a &&& b : Nat) : Int) := by
  have hx : a &&& b < 2 ^ 16 := Nat.and_lt_two_pow _ hb
  show IntKind.u16.wrap ((BitVec.ofInt 16 (a : Int) &&& BitVec.ofInt 16 (b : Int)).toNat : Int) = _
  rw [BitVec.toNat_and, ofInt_nat 16 a ha, ofInt_nat 16 b hb, IntKind.wrap_u16]
  omega
theorem or_u16 (a b : Nat) (ha : a < 2 ^ 16) (hb : b < 2 ^ 16) : bits .or .u16 (a : Int) (b : Int) = ((a ||| b : Nat) : Int) := by
  have hx : a ||| b < 2 ^ 16 := Nat.or_lt_two_pow ha hb
  show IntKind.u16.wrap ((BitVec.ofInt 16 (a : Int) ||| BitVec.ofInt 16 (b : Int)).toNat : Int) = _
  rw [BitVec.toNat_or, ofInt_nat 16 a ha, ofInt_nat 16 b hb, IntKind.wrap_u16]
  omega
theorem and_u8 (a b : Nat) (ha : a < 2 ^ 8) (hb : b < 2 ^ 8) : bits .and .u8 (a : Int) (b : Int) = ((a &&& b : Nat) : Int) := by
  have hx : a &&& b < 2 ^ 8 := Nat.and_lt_two_pow _ hb
  show IntKind.u8.wrap ((BitVec.ofInt 8 (a : Int) &&& BitVec.ofInt 8 (b : Int)).toNat : Int) = _
  rw [BitVec.toNat_and, ofInt_nat 8 a ha, ofInt_nat 8 b hb, IntKind.wrap_u8]
  omega
theorem or_u8 (a b : Nat) (ha : a < 2 ^ 8) (hb : b < 2 ^ 8) : bits .or .u8 (a : Int) (b : Int) = ((a ||| b : Nat) : Int) := by
  have hx : a ||| b < 2 ^ 8 := Nat.or_lt_two_pow ha hb
  show IntKind.u8.wrap ((BitVec.ofInt 8 (a : Int) ||| BitVec.ofInt 8 (b : Int)).toNat : Int) = _
  rw [BitVec.toNat_or, ofInt_nat 8 a ha, ofInt_nat 8 b hb, IntKind.wrap_u8]
  omega
theorem or_nat (a b k : Nat) (h : b < 2 ^ k) : a * 2 ^ k ||| b = a * 2 ^ k + b := by
  have e := Nat.shiftLeft_add_eq_or_of_lt h a
  rw [Nat.shiftLeft_eq] at e
  exact e.symm
theorem mask_nat (a k : Nat) : a &&& (2 ^ k - 1) = a % 2 ^ k := Nat.and_two_pow_sub_one_eq_mod a k
/-- The lowest bit. -/
theorem one_i64 (a : Int) (h0 : 0 ≤ a) (h1 : a < 9223372036854775808) : bits .and .i64 a 1 = a % 2 := by
  obtain ⟨n, rfl⟩ := Int.eq_ofNat_of_zero_le h0
  have := and_i64 n 1 (by omega) (by decide)
  rw [show ((1 : Nat) : Int) = 1 from rfl] at this
  rw [this, show (1 : Nat) = 2 ^ 1 - 1 from rfl, mask_nat]
  omega
theorem one_u64 (a : Int) (h0 : 0 ≤ a) (h1 : a < 18446744073709551616) : bits .and .u64 a 1 = a % 2 := by
  obtain ⟨n, rfl⟩ := Int.eq_ofNat_of_zero_le h0
  have := bits_and_u64_nat n 1 (by omega) (by decide)
  rw [show ((1 : Nat) : Int) = 1 from rfl] at this
  rw [this, show (1 : Nat) = 2 ^ 1 - 1 from rfl, mask_nat]
  omega
theorem one_u8 (a : Int) (h0 : 0 ≤ a) (h1 : a < 256) : bits .and .u8 a 1 = a % 2 := by
  obtain ⟨n, rfl⟩ := Int.eq_ofNat_of_zero_le h0
  have := and_u8 n 1 (by omega) (by decide)
  rw [show ((1 : Nat) : Int) = 1 from rfl] at this
  rw [this, show (1 : Nat) = 2 ^ 1 - 1 from rfl, mask_nat]
  omega
theorem cast_pow (k : Nat) : ((2 ^ k : Nat) : Int) = (2 : Int) ^ k := by simp
/-- Apart bits joined. -/
theorem join_u64 (a b : Int) (k : Nat) (h0 : 0 ≤ a) (h1 : a * 2 ^ k < 18446744073709551616) (b0 : 0 ≤ b) (b1 : b < 2 ^ k) (hk : k ≤ 63) : bits .or .u64 (a * 2 ^ k) b = a * 2 ^ k + b := by
  obtain ⟨n, rfl⟩ := Int.eq_ofNat_of_zero_le h0
  obtain ⟨m, rfl⟩ := Int.eq_ofNat_of_zero_le b0
  rw [← cast_pow, ← Int.natCast_mul] at h1 ⊢
  rw [← cast_pow] at b1
  have hm : m < 2 ^ k := by omega
  have hp : 2 ^ k ≤ 2 ^ 63 := Nat.pow_le_pow_right (by decide) hk
  rw [bits_or_u64_nat (n * 2 ^ k) m (by omega) (by omega), or_nat n m k hm, Int.natCast_add]
theorem join_i64 (a b : Int) (k : Nat) (h0 : 0 ≤ a) (h1 : a * 2 ^ k < 9223372036854775808) (b0 : 0 ≤ b) (b1 : b < 2 ^ k) (hk : k ≤ 62) : bits .or .i64 (a * 2 ^ k) b = a * 2 ^ k + b := by
  obtain ⟨n, rfl⟩ := Int.eq_ofNat_of_zero_le h0
  obtain ⟨m, rfl⟩ := Int.eq_ofNat_of_zero_le b0
  rw [← cast_pow, ← Int.natCast_mul] at h1 ⊢
  rw [← cast_pow] at b1
  have hm : m < 2 ^ k := by omega
  have hp : 2 ^ k ≤ 2 ^ 62 := Nat.pow_le_pow_right (by decide) hk
  rw [or_i64 (n * 2 ^ k) m (by omega) (by omega), or_nat n m k hm, Int.natCast_add]
theorem join_u16 (a b : Int) (k : Nat) (h0 : 0 ≤ a) (h1 : a * 2 ^ k < 65536) (b0 : 0 ≤ b) (b1 : b < 2 ^ k) (hk : k ≤ 15) : bits .or .u16 (a * 2 ^ k) b = a * 2 ^ k + b := by
  obtain ⟨n, rfl⟩ := Int.eq_ofNat_of_zero_le h0
  obtain ⟨m, rfl⟩ := Int.eq_ofNat_of_zero_le b0
  rw [← cast_pow, ← Int.natCast_mul] at h1 ⊢
  rw [← cast_pow] at b1
  have hm : m < 2 ^ k := by omega
  have hp : 2 ^ k ≤ 2 ^ 15 := Nat.pow_le_pow_right (by decide) hk
  rw [or_u16 (n * 2 ^ k) m (by omega) (by omega), or_nat n m k hm, Int.natCast_add]
theorem join_u8 (a b : Int) (k : Nat) (h0 : 0 ≤ a) (h1 : a * 2 ^ k < 256) (b0 : 0 ≤ b) (b1 : b < 2 ^ k) (hk : k ≤ 7) : bits .or .u8 (a * 2 ^ k) b = a * 2 ^ k + b := by
  obtain ⟨n, rfl⟩ := Int.eq_ofNat_of_zero_le h0
  obtain ⟨m, rfl⟩ := Int.eq_ofNat_of_zero_le b0
  rw [← cast_pow, ← Int.natCast_mul] at h1 ⊢
  rw [← cast_pow] at b1
  have hm : m < 2 ^ k := by omega
  have hp : 2 ^ k ≤ 2 ^ 7 := Nat.pow_le_pow_right (by decide) hk
  rw [or_u8 (n * 2 ^ k) m (by omega) (by omega), or_nat n m k hm, Int.natCast_add]
/-- What a mask keeps. -/
theorem mask_u16 (a : Int) (k : Nat) (h0 : 0 ≤ a) (h1 : a < 65536) (hk : k ≤ 16) : bits .and .u16 a (2 ^ k - 1) = a % 2 ^ k := by
  obtain ⟨n, rfl⟩ := Int.eq_ofNat_of_zero_le h0
  have hp : 2 ^ k ≤ 2 ^ 16 := Nat.pow_le_pow_right (by decide) hk
  have hq : 0 < 2 ^ k := Nat.pow_pos (by decide)
  have e : (2 : Int) ^ k - 1 = ((2 ^ k - 1 : Nat) : Int) := by rw [← cast_pow]; omega
  rw [e, and_u16 n (2 ^ k - 1) (by omega) (by omega), mask_nat, Int.natCast_emod, cast_pow]
theorem mask_u8 (a : Int) (k : Nat) (h0 : 0 ≤ a) (h1 : a < 256) (hk : k ≤ 8) : bits .and .u8 a (2 ^ k - 1) = a % 2 ^ k := by
  obtain ⟨n, rfl⟩ := Int.eq_ofNat_of_zero_le h0
  have hp : 2 ^ k ≤ 2 ^ 8 := Nat.pow_le_pow_right (by decide) hk
  have hq : 0 < 2 ^ k := Nat.pow_pos (by decide)
  have e : (2 : Int) ^ k - 1 = ((2 ^ k - 1 : Nat) : Int) := by rw [← cast_pow]; omega
  rw [e, and_u8 n (2 ^ k - 1) (by omega) (by omega), mask_nat, Int.natCast_emod, cast_pow]
end Go.Proofs.YtmjkpjmccdjkjadDoor.Bm
namespace Go.Proofs.YtmjkpjmccdjkjadDoor
open Go.RowKit
set_option linter.unusedVariables false
set_option maxRecDepth 100000

theorem laneAt_any (x j : Int) (i : Nat) (w : World) (hj : j = (i : Int)) (hi : i ≤ 15) (h0 : 0 ≤ x) (h1 : x ≤ 18446744073709551615) :
    Calls Tryd.prog 74 #[.int .u64 x, .int .i64 j] w fun e w' => e = .returned (.int .u64 (Ln.ln x i)) ∧ w' = w := by
  subst hj
  go_enter Tryd.func74, Tryd.ntmps74
  go_wp2
  go_ret
  exact ⟨Ln.ret_int (Ln.ln_and x i h0 h1), rfl⟩
end Go.Proofs.YtmjkpjmccdjkjadDoor
namespace Go.Proofs.YtmjkpjmccdjkjadDoor.Ln
/-- The weight of a lane's bit in place k from the high end, under the weighting m + 1. -/
def wt (m k : Nat) : Int := ((([[8, 4, 2, 1], [4, 2, 2, 1], [5, 2, 1, 1]] : List (List Int)).getD m []).getD k 0)
/-- What the k high bits of a lane stand for. -/
def part (m : Nat) (l : Int) : Nat → Int
  | 0 => 0
  | k + 1 => part m l k + (if l / 2 ^ (3 - k) % 2 = 1 then wt m k else 0)
/-- What a lane stands for. -/
def dig (m : Nat) (l : Int) : Int := part m l 4
theorem part_yes (m : Nat) (l : Int) (k : Nat) (h : l / 2 ^ (3 - k) % 2 = 1) : part m l k + wt m k = part m l (k + 1) := by
  show _ = part m l k + _; rw [if_pos h]
theorem part_no (m : Nat) (l : Int) (k : Nat) (h : ¬ l / 2 ^ (3 - k) % 2 = 1) : part m l k = part m l (k + 1) := by
  show _ = part m l k + _; rw [if_neg h, Int.add_zero]
theorem wt_bd (m k : Nat) : 0 ≤ wt m k ∧ wt m k ≤ 8 := by
  unfold wt
  match m, k with
  | 0, 0 | 0, 1 | 0, 2 | 0, 3 | 1, 0 | 1, 1 | 1, 2 | 1, 3 | 2, 0 | 2, 1 | 2, 2 | 2, 3 => decide
  | 0, k + 4 | 1, k + 4 | 2, k + 4 => simp
  | m + 3, k => simp
theorem part_bd (m : Nat) (l : Int) (k : Nat) : 0 ≤ part m l k ∧ part m l k ≤ 8 * k := by
  induction k with
  | zero => exact ⟨Int.le_refl _, Int.le_refl _⟩
  | succ k ih =>
    have := wt_bd m k
    show 0 ≤ part m l k + _ ∧ part m l k + _ ≤ _
    split <;> omega
theorem dig_bd (m : Nat) (l : Int) : 0 ≤ dig m l ∧ dig m l ≤ 32 := by
  have := part_bd m l 4; unfold dig; omega
theorem sh_bd (l : Int) (j : Nat) (h0 : 0 ≤ l) (h1 : l ≤ 15) : 0 ≤ l / 2 ^ j ∧ l / 2 ^ j ≤ 15 := by
  have a : 0 ≤ l / 2 ^ j := Int.ediv_nonneg h0 (Int.le_of_lt (Int.pow_pos (by decide)))
  have b := Int.ediv_le_self (2 ^ j) h0
  omega
theorem bit_and (l : Int) (j : Nat) (h0 : 0 ≤ l) (h1 : l ≤ 15) : bits .and .u64 (l / 2 ^ j) 1 = l / 2 ^ j % 2 := by
  obtain ⟨a, b⟩ := sh_bd l j h0 h1
  obtain ⟨n, hn⟩ := Int.eq_ofNat_of_zero_le a
  rw [hn] at b ⊢
  have := bits_and_u64_nat n 1 (by omega) (by decide)
  rw [show ((1 : Nat) : Int) = 1 from rfl] at this
  rw [this, Nat.and_one_is_mod]
  rfl
theorem bit_yes (l : Int) (j : Nat) (h0 : 0 ≤ l) (h1 : l ≤ 15) (h : l / 2 ^ j % 2 = 1) : (bits .and .u64 (l / 2 ^ j) 1 == 1) = true := by
  rw [bit_and l j h0 h1, h]; rfl
theorem bit_no (l : Int) (j : Nat) (h0 : 0 ≤ l) (h1 : l ≤ 15) (h : ¬ l / 2 ^ j % 2 = 1) : (bits .and .u64 (l / 2 ^ j) 1 == 1) = false := by
  rw [bit_and l j h0 h1]; simp [h]
theorem rem_yes (l : Int) (j : Nat) (h0 : 0 ≤ l) (h1 : l ≤ 15) (h : l / 2 ^ j % 2 = 1) : ((l / 2 ^ j).tmod 2 == 1) = true := by
  rw [Int.tmod_eq_emod_of_nonneg (sh_bd l j h0 h1).1, h]; rfl
theorem rem_no (l : Int) (j : Nat) (h0 : 0 ≤ l) (h1 : l ≤ 15) (h : ¬ l / 2 ^ j % 2 = 1) : ((l / 2 ^ j).tmod 2 == 1) = false := by
  rw [Int.tmod_eq_emod_of_nonneg (sh_bd l j h0 h1).1]; simp [h]
/-- Each of the sixteen lanes stands for at most 9 under the weighting m + 1. -/
def Ok (m : Nat) (x : Int) : Prop := ∀ i, i < 16 → dig m (ln x i) ≤ 9
def okB (m : Nat) (x : Int) : Bool := (List.range 16).all fun i => decide (dig m (ln x i) ≤ 9)
theorem okB_iff (m : Nat) (x : Int) : okB m x = true ↔ Ok m x := by
  unfold okB Ok; simp
theorem okB_no (m : Nat) (x : Int) (i : Nat) (hi : i < 16) (h : 9 < dig m (ln x i)) : okB m x = false := by
  cases e : okB m x with
  | false => rfl
  | true => exact absurd ((okB_iff m x).1 e i hi) (by omega)
end Go.Proofs.YtmjkpjmccdjkjadDoor.Ln
