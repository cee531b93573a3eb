/-
  Both tables of the program lie in their variables.
-/
import Derived.Test.YtmjkpjmccdjkjadDoorRows
import Derived.WalkKit
import Derived.Laws.Externs
import Derived.Test.YtmjkpjmccdjkjadDoorDig
import Derived.Test.YtmjkpjmccdjkjadDoorVal
import Derived.Test.YtmjkpjmccdjkjadDoorPack
import Derived.Test.YtmjkpjmccdjkjadDoorDclM
namespace Go.Proofs.YtmjkpjmccdjkjadDoor
open Go.RowKit
set_option linter.unusedVariables false
set_option maxRecDepth 100000
/-- Is a byte a bit's name? -/
def isNm (c : Int) : Prop := (97 ≤ c ∧ c ≤ 107) ∨ c = 109
/-- The place of the bit of that name, the lowest 0. -/
def shN (c : Int) : Nat := if c = 109 then 0 else (108 - c).toNat
theorem ix_all : (List.range 110).all (fun n : Nat => decide (97 ≤ n ∧ n ≠ 108 → firstIdx { data := #[97, 98, 99, 100, 101, 102, 103, 104, 105, 106, 107, 109] } n.toUInt8 = 11 - (shN n : Int))) = true := by kernel_rfl
theorem ix_nm (c : Int) (h : isNm c) : firstIdx { data := #[97, 98, 99, 100, 101, 102, 103, 104, 105, 106, 107, 109] } c.toNat.toUInt8 = 11 - (shN c : Int) := by
  obtain ⟨n, rfl⟩ := Int.eq_ofNat_of_zero_le (show 0 ≤ c by unfold isNm at h; omega)
  have := of_decide_eq_true (List.all_eq_true.1 ix_all n (List.mem_range.2 (by unfold isNm at h; omega)))
  exact this (by unfold isNm at h; omega)
theorem shN_le (c : Int) (h : isNm c) : shN c ≤ 11 := by unfold shN; unfold isNm at h; split <;> omega
theorem ixb_run (s : ByteArray) (c : Int) (w : World) : (callFunc 85 #[.string s, .int .u8 c]).run Tryd.prog w = .ok (.value (.int .i64 (firstIdx s c.toNat.toUInt8))) w := by
  rw [run_callFunc_extern Tryd.func85 (by kernel_rfl) (by kernel_rfl) (by kernel_rfl) (e := Extern.BytealgIndexByte.indexByte) (by kernel_rfl), run_indexByte_string]
  rfl
theorem shiftNamed_any (c : Int) (w : World) (h : isNm c) :
    Calls Tryd.prog 71 #[.int .u8 c] w fun e w' => e = .returned (.int .i64 (shN c)) ∧ w' = w := by
  have hI : ∀ w : World, (callFunc 85 #[.string { data := #[97, 98, 99, 100, 101, 102, 103, 104, 105, 106, 107, 109] }, .int .u8 c]).run Tryd.prog w = .ok (.value (.int .i64 (11 - (shN c : Int)))) w := fun w => by rw [ixb_run, ix_nm c h]
  have hl := shN_le c h
  clear h
  generalize shN c = s at *
  go_enter Tryd.func71, Tryd.ntmps71
  go_wp2_with (first | simp only [hI] | go_in)
  go_ret
  exact ⟨Ln.ret_int (by omega), rfl⟩
/-- The bit of that name. -/
def bn (x : Int) (c : Int) : Int := x / 2 ^ shN c % 2
theorem bn_bd (x c : Int) : 0 ≤ bn x c ∧ bn x c ≤ 1 := by unfold bn; omega
theorem div_bd (x : Int) (n : Nat) (h0 : 0 ≤ x) (h1 : x ≤ 18446744073709551615) : 0 ≤ x / 2 ^ n ∧ x / 2 ^ n ≤ 18446744073709551615 := by
  have := Int.ediv_le_self (2 ^ n) h0
  exact ⟨Int.ediv_nonneg h0 (Int.le_of_lt (Int.pow_pos (by decide))), by omega⟩
theorem bitNamed_any (x c : Int) (w : World) (h : isNm c) (h0 : 0 ≤ x) (h1 : x ≤ 18446744073709551615) :
    Calls Tryd.prog 68 #[.int .u64 x, .int .u8 c] w fun e w' => e = .returned (.int .i64 (bn x c)) ∧ w' = w := by
  have hl := shN_le c h
  have hd := div_bd x (shN c) h0 h1
  have ha : bits .and .u64 (x / 2 ^ shN c) 1 = bn x c := Bm.one_u64 _ hd.1 (by omega)
  have hb := bn_bd x c
  generalize bn x c = B at *
  go_enter Tryd.func68, Tryd.ntmps68
  go_wp2_with fail
  refine (shiftNamed_any c _ h).mono ?_
  rintro e w1 ⟨rfl, rfl⟩
  clear h
  generalize shN c = s at *
  go_wp2
  go_ret
  exact ⟨rfl, rfl⟩
theorem isWritten_any (c : Int) (w : World) :
    Calls Tryd.prog 61 #[.int .u8 c] w fun e w' => e = .returned (.bool (decide (c = 48 ∨ c = 49))) ∧ w' = w := by
  by_cases h : c = 48
  · subst h
    go_enter Tryd.func61, Tryd.ntmps61
    go_wp2
    go_ret
    exact ⟨rfl, rfl⟩
  · by_cases h' : c = 49
    · subst h'
      go_enter Tryd.func61, Tryd.ntmps61
      go_wp2
      go_ret
      exact ⟨rfl, rfl⟩
    · have e : decide (c = 48 ∨ c = 49) = false := decide_eq_false (fun h2 => h2.elim h h')
      rw [e]
      have e1 : (c == 48) = false := by simpa using h
      have e2 : (c == 49) = false := by simpa using h'
      clear h h' e
      go_enter Tryd.func61, Tryd.ntmps61
      go_wp2
      go_ret
      exact ⟨rfl, rfl⟩
theorem writtenBit_any (b : Int) (w : World) (h0 : 0 ≤ b) (h1 : b ≤ 1) :
    Calls Tryd.prog 79 #[.int .u8 (48 + b)] w fun e w' => e = .returned (.int .i64 b) ∧ w' = w := by
  have h : IntKind.u8.wrap (48 + b - 48) = b := by rw [IntKind.wrap_u8]; omega
  go_enter Tryd.func79, Tryd.ntmps79
  go_wp2
  go_ret
  exact ⟨Ln.ret_int (by omega), rfl⟩
theorem bitAtPlace_any (b : Int) (k : Nat) (w : World) (h0 : 0 ≤ b) (h1 : b ≤ 1023) (hk : k < 10) :
    Calls Tryd.prog 62 #[.int .i64 b, .int .i64 k] w fun e w' => e = .returned (.int .i64 (b / 2 ^ (9 - k) % 2)) ∧ w' = w := by
  have hd : 0 ≤ b / 2 ^ (9 - k) ∧ b / 2 ^ (9 - k) ≤ 1023 := by
    have := Int.ediv_le_self (2 ^ (9 - k)) h0
    exact ⟨Int.ediv_nonneg h0 (Int.le_of_lt (Int.pow_pos (by decide))), by omega⟩
  have ha : bits .and .i64 (b / 2 ^ (9 - k)) 1 = b / 2 ^ (9 - k) % 2 := Bm.one_i64 _ hd.1 (by omega)
  have hs : (9 : Int) - (k : Int) = ((9 - k : Nat) : Int) := by omega
  have hj : 9 - k ≤ 9 := by omega
  generalize 9 - k = j at *
  go_enter Tryd.func62, Tryd.ntmps62
  go_wp2
  go_ret
  exact ⟨Ln.ret_int (by first | exact ha | rfl), rfl⟩
end Go.Proofs.YtmjkpjmccdjkjadDoor
namespace Go.Proofs.YtmjkpjmccdjkjadDoor
open Go.RowKit
set_option linter.unusedVariables false
set_option maxRecDepth 100000
/-- The rows, byte by byte. -/
def rwL : Nat → List Int
  | 0 => [98, 99, 100, 102, 103, 104, 48, 106, 107, 109]
  | 1 => [98, 99, 100, 102, 103, 104, 49, 48, 48, 109]
  | 2 => [98, 99, 100, 106, 107, 104, 49, 48, 49, 109]
  | 3 => [98, 99, 100, 49, 48, 104, 49, 49, 49, 109]
  | 4 => [106, 107, 100, 102, 103, 104, 49, 49, 48, 109]
  | 5 => [102, 103, 100, 48, 49, 104, 49, 49, 49, 109]
  | 6 => [106, 107, 100, 48, 48, 104, 49, 49, 49, 109]
  | _ => [48, 48, 100, 49, 49, 104, 49, 49, 49, 109]
def rwS (r : Nat) : ByteArray := { data := ((rwL r).map fun c => c.toNat.toUInt8).toArray }
/-- A row's byte. -/
def rwC (r k : Nat) : Int := (rwL r).getD k 0
theorem rw_all : ∀ r : Fin 8, (rwS r.val).size = 10 ∧ ∀ k : Fin 10, ((rwS r.val).data.getD k.val 0).toNat = (rwC r.val k.val).toNat ∧ 48 ≤ rwC r.val k.val ∧ (rwC r.val k.val = 48 ∨ rwC r.val k.val = 49 ∨ (97 ≤ rwC r.val k.val ∧ rwC r.val k.val ≤ 107) ∨ rwC r.val k.val = 109) := by decide +kernel
theorem rw_size (r : Nat) (hr : r < 8) : (rwS r).size = 10 := (rw_all ⟨r, hr⟩).1
theorem rw_byte (r k : Nat) (hr : r < 8) (hk : k < (rwS r).size) : (((rwS r)[k]'hk).toNat : Int) = rwC r k := by
  have h10 := rw_size r hr
  have h := ((rw_all ⟨r, hr⟩).2 ⟨k, by omega⟩)
  have e : (rwS r)[k]'hk = (rwS r).data.getD k 0 := by
    have hk' : k < (rwS r).data.size := hk
    show (rwS r).data[k]'hk' = _
    rw [Array.getD_eq_getD_getElem?, Array.getElem?_eq_getElem hk']; rfl
  rw [e, h.1]
  exact Int.toNat_of_nonneg (Int.le_trans (by decide) h.2.1)
theorem rw_kind (r k : Nat) (hr : r < 8) (hk : k < 10) : rwC r k = 48 ∨ rwC r k = 49 ∨ isNm (rwC r k) := by
  have := (rw_all ⟨r, hr⟩).2 ⟨k, hk⟩
  exact this.2.2
/-- The program's rows lie in their variable. -/
def DRows (w : World) : Prop := ∀ r, r < 8 → w.cell? ⟨0, r, none⟩ = some (.string (rwS r))
theorem DRows.below {B : Nat} {w w' : World} (ht : DRows w) (hb : Below B w w') (h0 : 0 < B) : DRows w' := fun r hr => by
  rw [hb.cell (p := ⟨0, r, none⟩) h0]; exact ht r hr
/-- A row's bit at a place. -/
def wbit (x c : Int) : Int := if c = 48 ∨ c = 49 then c - 48 else bn x c
theorem wbit_bd (x c : Int) : 0 ≤ wbit x c ∧ wbit x c ≤ 1 := by
  have := bn_bd x c
  unfold wbit; split <;> omega
/-- The first k bits of a row. -/
def wacc (x : Int) (r : Nat) : Nat → Int
  | 0 => 0
  | k + 1 => wacc x r k * 2 + wbit x (rwC r k)
theorem wacc_bd (x : Int) (r k : Nat) : 0 ≤ wacc x r k ∧ wacc x r k < 2 ^ k := by
  induction k with
  | zero => simp [wacc]
  | succ k ih =>
    have := wbit_bd x (rwC r k)
    unfold wacc
    rw [Int.pow_succ]
    omega
theorem wacc_1023 (x : Int) (r k : Nat) (hk : k ≤ 10) : 0 ≤ wacc x r k ∧ wacc x r k ≤ 1023 := by
  have := wacc_bd x r k
  have : (2 : Int) ^ k ≤ 2 ^ 10 := by
    rcases Nat.lt_or_ge k 10 with h | h
    · exact Int.le_of_lt (Int.pow_lt_pow_of_lt (by decide) h)
    · rw [show k = 10 by omega]; exact Int.le_refl _
  rw [show (2 : Int) ^ 10 = 1024 by decide] at this
  omega
theorem or2_i64 (a b : Int) (h0 : 0 ≤ a) (h1 : a < 4611686018427387904) (b0 : 0 ≤ b) (b1 : b ≤ 1) : bits .or .i64 (a * 2) b = a * 2 + b := by
  have := Bm.join_i64 a b 1 h0 (by omega) b0 (by omega) (by omega)
  rw [show (2 : Int) ^ 1 = 2 by decide] at this
  exact this
/-- Three digits as lanes, and the number of their row. -/
def wdD (n : Int) : Int := n / 100 * 256 + n / 10 % 10 * 16 + n % 10
def wdR (n : Int) : Int := n / 100 / 8 * 4 + n / 10 % 10 / 8 * 2 + n % 10 / 8
theorem wd_tab : (List.range 1000).all (fun n : Nat => decide (wacc (wdD n) (wdR n).toNat 10 = dcl n ∧ bn (wdD n) 97 * 4 + bn (wdD n) 101 * 2 + bn (wdD n) 105 = wdR n ∧ 0 ≤ wdR n ∧ wdR n < 8)) = true := by kernel_rfl
theorem pk_tab : (List.range 1000).all (fun n : Nat => decide (Ln.packV 0 [(n : Int) / 100, (n : Int) / 10 % 10, (n : Int) % 10] = wdD n)) = true := by kernel_rfl
theorem wd_facts (n : Int) (h0 : 0 ≤ n) (h1 : n ≤ 999) : wacc (wdD n) (wdR n).toNat 10 = dcl n ∧ bn (wdD n) 97 * 4 + bn (wdD n) 101 * 2 + bn (wdD n) 105 = wdR n ∧ 0 ≤ wdR n ∧ wdR n < 8 := by
  obtain ⟨N, rfl⟩ := Int.eq_ofNat_of_zero_le h0
  exact of_decide_eq_true (List.all_eq_true.1 wd_tab N (List.mem_range.2 (by omega)))
theorem pk_facts (n : Int) (h0 : 0 ≤ n) (h1 : n ≤ 999) : Ln.packV 0 [n / 100, n / 10 % 10, n % 10] = wdD n := by
  obtain ⟨N, rfl⟩ := Int.eq_ofNat_of_zero_le h0
  exact of_decide_eq_true (List.all_eq_true.1 pk_tab N (List.mem_range.2 (by omega)))
theorem idx_or (A B C : Int) (a0 : 0 ≤ A) (a1 : A ≤ 1) (b0 : 0 ≤ B) (b1 : B ≤ 1) (c0 : 0 ≤ C) (c1 : C ≤ 1) : bits .or .i64 (bits .or .i64 (A * 4) (B * 2)) C = A * 4 + B * 2 + C := by
  rcases (show A = 0 ∨ A = 1 by omega) with rfl | rfl <;> rcases (show B = 0 ∨ B = 1 by omega) with rfl | rfl <;> rcases (show C = 0 ∨ C = 1 by omega) with rfl | rfl <;> rfl
theorem rowBit_any (x c : Int) (w : World) (h : c = 48 ∨ c = 49 ∨ isNm c) (h0 : 0 ≤ x) (h1 : x ≤ 18446744073709551615) :
    Calls Tryd.prog 69 #[.int .u64 x, .int .u8 c] w fun e w' => e = .returned (.int .i64 (wbit x c)) ∧ w' = w := by
  by_cases hc : c = 48 ∨ c = 49
  · have e : Hid (wbit x c = c - 48) := by show _ = _; unfold wbit; rw [if_pos hc]
    have hw := isWritten_any c w
    rw [decide_eq_true hc] at hw
    have hb := writtenBit_any (c - 48) w (by omega) (by omega)
    rw [show 48 + (c - 48) = c by omega] at hb
    have Hw : Hid (Calls Tryd.prog 61 #[.int .u8 c] w fun e w' => e = .returned (.bool true) ∧ w' = w) := hw
    have Hb : Hid (Calls Tryd.prog 79 #[.int .u8 c] w fun e w' => e = .returned (.int .i64 (c - 48)) ∧ w' = w) := hb
    clear hw hb h hc
    rw [e.out]
    go_enter Tryd.func69, Tryd.ntmps69
    go_wp2_with fail
    refine Hw.out.mono ?_
    rintro e w1 ⟨rfl, rfl⟩
    go_wp2_with fail
    refine Hb.out.mono ?_
    rintro e w1 ⟨rfl, rfl⟩
    go_wp2
    go_ret
    exact ⟨rfl, rfl⟩
  · have e : Hid (wbit x c = bn x c) := by show _ = _; unfold wbit; rw [if_neg hc]
    have hn : isNm c := by rcases h with h | h | h; exact absurd (.inl h) hc; exact absurd (.inr h) hc; exact h
    have hw := isWritten_any c w
    rw [decide_eq_false hc] at hw
    have Hw : Hid (Calls Tryd.prog 61 #[.int .u8 c] w fun e w' => e = .returned (.bool false) ∧ w' = w) := hw
    clear hw h hc
    rw [e.out]
    go_enter Tryd.func69, Tryd.ntmps69
    go_wp2_with fail
    refine Hw.out.mono ?_
    rintro e w1 ⟨rfl, rfl⟩
    go_wp2_with fail
    refine (bitNamed_any x c _ hn h0 h1).mono ?_
    rintro e w1 ⟨rfl, rfl⟩
    go_wp2
    go_ret
    exact ⟨rfl, rfl⟩
theorem three_own (w : World) (x y z : Int) : Has (w.alloc (.cells #[.int .i64 x, .int .i64 y, .int .i64 z] 2)) w.heap.size (.slice (some ⟨w.heap.size, 0, none⟩) 3 3) [x, y, z] :=
  World.ownsRow_lit (base := w.heap.size) (e := 2) (size := 1) w #[.int .i64 x, .int .i64 y, .int .i64 z] 3 (Nat.le_refl _) (by decide) (by simp)
set_option maxRecDepth 100000 in
set_option maxHeartbeats 4000000 in
theorem writeDeclet_any (n : Int) (w : World) (ht : Tab w) (hd : DRows w) (hz : 1 < w.heap.size) (hz' : 0 < w.heap.size) (h0 : 0 ≤ n) (h1 : n ≤ 999) :
    Calls Tryd.prog 58 #[.int .i64 n] w fun e w' => e = .returned (.int .i64 (dcl n)) ∧ Below w.heap.size w w' := by
  obtain ⟨f1, f2, f3, f4⟩ := wd_facts n h0 h1
  have f5 := pk_facts n h0 h1
  have a1 : Int.tdiv n 100 = n / 100 := Int.tdiv_eq_ediv_of_nonneg h0
  have a2 : Int.tdiv n 10 = n / 10 := Int.tdiv_eq_ediv_of_nonneg h0
  have a3 : Int.tmod (n / 10) 10 = n / 10 % 10 := Int.tmod_eq_emod_of_nonneg (by omega)
  have a4 : Int.tmod n 10 = n % 10 := Int.tmod_eq_emod_of_nonneg h0
  have b1 : 0 ≤ n / 100 ∧ n / 100 ≤ 9 := by omega
  have b2 : 0 ≤ n / 10 ∧ n / 10 ≤ 99 := by omega
  have b3 : 0 ≤ n / 10 % 10 ∧ n / 10 % 10 ≤ 9 := by omega
  have b4 : 0 ≤ n % 10 ∧ n % 10 ≤ 9 := by omega
  have d0 : 0 ≤ wdD n ∧ wdD n ≤ 4095 := by unfold wdD; omega
  obtain ⟨r, hr⟩ := Int.eq_ofNat_of_zero_le f3
  rw [hr] at f1 f2 f4
  rw [Int.toNat_natCast] at f1
  have hr8 : r < 8 := by omega
  have HT : Hid (Tab w) := ht
  have HD : Hid (DRows w) := hd
  have HF : Hid (wacc (wdD n) r 10 = dcl n) := f1
  have HB : Hid (Below w.heap.size w (w.alloc (.cells #[.int .i64 (n / 100), .int .i64 (n / 10 % 10), .int .i64 (n % 10)] 2))) := (Below.refl _ _).alloc (Nat.le_refl _) _
  have HP : Hid (Calls Tryd.prog 67 #[.int .i64 1, .slice (some ⟨w.heap.size, 0, none⟩) 3 3] (w.alloc (.cells #[.int .i64 (n / 100), .int .i64 (n / 10 % 10), .int .i64 (n % 10)] 2)) fun e w' => ∃ b, e = .returned (.tuple #[.int .u64 (wdD n), .bool b]) ∧ w' = (w.alloc (.cells #[.int .i64 (n / 100), .int .i64 (n / 10 % 10), .int .i64 (n % 10)] 2))) := by
    have := ipack_any 0 _ _ _ _ (ht.below HB.out hz) (by decide) (three_own w (n / 100) (n / 10 % 10) (n % 10))
    rw [f5] at this
    exact this.mono fun e w' h => ⟨_, h.1, h.2⟩
  have HD1 : Hid (DRows (w.alloc (.cells #[.int .i64 (n / 100), .int .i64 (n / 10 % 10), .int .i64 (n % 10)] 2))) := hd.below HB.out hz'
  generalize hD : wdD n = D at *
  clear ht hd f1 f3 hr f5 hD
  generalize dcl n = R at *
  generalize n / 100 = x at *
  generalize n / 10 % 10 = y at *
  generalize n % 10 = z at *
  generalize n / 10 = t at *
  have hA := bn_bd D 97
  have hE := bn_bd D 101
  have hI := bn_bd D 105
  have hor := idx_or _ _ _ hA.1 hA.2 hE.1 hE.2 hI.1 hI.2
  rw [f2] at hor
  have HA : Hid (∀ X, Calls Tryd.prog 68 #[.int .u64 D, .int .u8 97] X fun e w' => e = .returned (.int .i64 (bn D 97)) ∧ w' = X) := fun X => bitNamed_any D 97 X (.inl ⟨by decide, by decide⟩) d0.1 (by omega)
  have HE : Hid (∀ X, Calls Tryd.prog 68 #[.int .u64 D, .int .u8 101] X fun e w' => e = .returned (.int .i64 (bn D 101)) ∧ w' = X) := fun X => bitNamed_any D 101 X (.inl ⟨by decide, by decide⟩) d0.1 (by omega)
  have HI : Hid (∀ X, Calls Tryd.prog 68 #[.int .u64 D, .int .u8 105] X fun e w' => e = .returned (.int .i64 (bn D 105)) ∧ w' = X) := fun X => bitNamed_any D 105 X (.inl ⟨by decide, by decide⟩) d0.1 (by omega)
  generalize bn D 97 = A at *
  generalize bn D 101 = E at *
  generalize bn D 105 = I at *
  clear f2
  go_enter Tryd.func58, Tryd.ntmps58
  go_wp2_with fail
  refine HP.out.mono ?_
  rintro e w1 ⟨bb, rfl, hw1⟩
  generalize hW : w.alloc (.cells #[.int .i64 x, .int .i64 y, .int .i64 z] 2) = W at *
  subst hw1
  clear hW HP
  go_wp2_with fail
  refine (HA.out _).mono ?_
  rintro e w2 ⟨rfl, hw⟩
  subst hw
  go_wp2_with fail
  refine (HE.out _).mono ?_
  rintro e w2 ⟨rfl, hw⟩
  subst hw
  go_wp2_with fail
  refine (HI.out _).mono ?_
  rintro e w2 ⟨rfl, hw⟩
  subst hw
  have hcell := HD1.out r hr8
  have hsz := rw_size r hr8
  have hby : Hid (∀ k (hk : k < (rwS r).size), (((rwS r)[k]'hk).toNat : Int) = rwC r k) := fun k hk => rw_byte r k hr8 hk
  have hkd : Hid (∀ k, k < 10 → rwC r k = 48 ∨ rwC r k = 49 ∨ isNm (rwC r k)) := fun k hk => rw_kind r k hr8 hk
  generalize rwS r = S at *
  go_wp2
  clear HA HE HI hA hE hI hor hcell
  go_loop [6, 34] (fun a i => ∃ k : Nat, k ≤ 10 ∧ i = .int .i64 (k : Int) ∧ a = .int .i64 (wacc D r k)) (fun _ i => 10 - (intOf i).toNat)
  case atStart => exact ⟨0, Nat.zero_le _, rfl, rfl⟩
  case round =>
    obtain ⟨k, hk, rfl, rfl⟩ := hrel
    by_cases hlt : k < 10
    · have hlt' : (k : Int) < 10 := by omega
      have hks : k < S.size := by omega
      have hc := hby.out k hks
      have hwb := wacc_1023 D r k (by omega)
      have hkn := hkd.out k hlt
      have hbd := wbit_bd D (rwC r k)
      have HS : Hid (wacc D r (k + 1) = wacc D r k * 2 + wbit D (rwC r k)) := rfl
      have HRB : Hid (∀ X, Calls Tryd.prog 69 #[.int .u64 D, .int .u8 (rwC r k)] X fun e w' => e = .returned (.int .i64 (wbit D (rwC r k))) ∧ w' = X) := fun X => rowBit_any D (rwC r k) X hkn d0.1 (by omega)
      clear hkn
      have ho := or2_i64 (wacc D r k) (wbit D (rwC r k)) hwb.1 (by omega) hbd.1 hbd.2
      generalize wbit D (rwC r k) = B at *
      generalize rwC r k = C at *
      generalize wacc D r k = U at *
      go_wp2_with fail
      refine (HRB.out _).mono ?_
      rintro e w2 ⟨rfl, hw⟩
      subst hw
      go_wp2
      go_round
      case rel => exact ⟨k + 1, by omega, by go_num, Ln.val_int (by rw [HS.out])⟩
      case measure => simp [intOf]; omega
    · obtain rfl : k = 10 := by omega
      go_wp2
      go_ret
      exact ⟨Ln.ret_int HF.out, HB.out⟩
theorem iDeclet_any (n : Int) (w : World) (ht : Tab w) (hd : DRows w) (hz : 1 < w.heap.size) (hz' : 0 < w.heap.size) :
    Calls Tryd.prog 51 #[.int .i64 n] w fun e w' => e = .returned (.int .i64 (dcl n)) ∧ Below w.heap.size w w' := by
  by_cases h0 : n < 0
  · rw [dcl_none n (by omega)]
    go_enter Tryd.func51, Tryd.ntmps51
    go_wp2
    go_ret
    exact ⟨rfl, Below.refl _ _⟩
  · by_cases h1 : (1000 : Int) ≤ n
    · rw [dcl_none n (by omega)]
      go_enter Tryd.func51, Tryd.ntmps51
      go_wp2
      go_ret
      exact ⟨rfl, Below.refl _ _⟩
    · have H : Hid (Calls Tryd.prog 58 #[.int .i64 n] w fun e w' => e = .returned (.int .i64 (dcl n)) ∧ Below w.heap.size w w') := writeDeclet_any n w ht hd hz hz' (by omega) (by omega)
      clear ht hd
      go_enter Tryd.func51, Tryd.ntmps51
      go_wp2_with fail
      refine H.out.mono ?_
      rintro e w1 ⟨rfl, hb⟩
      go_wp2
      go_ret
      exact ⟨rfl, hb⟩
end Go.Proofs.YtmjkpjmccdjkjadDoor
namespace Go.Proofs.YtmjkpjmccdjkjadDoor
open Go.RowKit
set_option linter.unusedVariables false
set_option maxRecDepth 100000
def Tabs (w : World) : Prop := Tab w ∧ DRows w ∧ 1 < w.heap.size ∧ 0 < w.heap.size
theorem Tabs.below {B : Nat} {w w' : World} (h : Tabs w) (hb : Below B w w') (hB : w.heap.size ≤ B) : Tabs w' :=
  ⟨h.1.below hb (Nat.lt_of_lt_of_le h.2.2.1 hB), h.2.1.below hb (Nat.lt_of_lt_of_le h.2.2.2 hB), Nat.lt_of_lt_of_le h.2.2.1 hb.size, Nat.lt_of_lt_of_le h.2.2.2 hb.size⟩
/-- .. where at least the tables lie below. -/
theorem Tabs.at {B : Nat} {w w' : World} (h : Tabs w) (hb : Below B w w') (h1 : 1 < B) (h2 : 0 < B) : Tabs w' :=
  ⟨h.1.below hb h1, h.2.1.below hb h2, Nat.lt_of_lt_of_le h.2.2.1 hb.size, Nat.lt_of_lt_of_le h.2.2.2 hb.size⟩
theorem Tabs.alloc {w : World} (h : Tabs w) (o : Obj) : Tabs (w.alloc o) := h.below ((Below.refl _ _).alloc (Nat.le_refl _) o) (Nat.le_refl _)
theorem Tabs.declet {w : World} (h : Tabs w) (n : Int) : Calls Tryd.prog 51 #[.int .i64 n] w fun e w' => e = .returned (.int .i64 (dcl n)) ∧ Below w.heap.size w w' := iDeclet_any n w h.1 h.2.1 h.2.2.1 h.2.2.2
end Go.Proofs.YtmjkpjmccdjkjadDoor
