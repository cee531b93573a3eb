/-
  The program's readDeclet and Undeclet, walked.
-/
import Derived.Test.YtmjkpjmccdjkjadDoorTbs
import Derived.Test.YtmjkpjmccdjkjadDoorDigits
import Derived.Test.YtmjkpjmccdjkjadDoorSgn9
import Derived.BigQuiet
import Derived.Deep.QuietTactic
namespace Go.Proofs.YtmjkpjmccdjkjadDoor
open Go.RowKit
set_option linter.unusedVariables false
set_option maxRecDepth 100000
/-- The bit of ten bits at a place, the high one first. -/
def bp (b : Int) (k : Nat) : Int := b / 2 ^ (9 - k) % 2
theorem bp_bd (b : Int) (k : Nat) : 0 ≤ bp b k ∧ bp b k ≤ 1 := by unfold bp; omega
theorem bp_any (b : Int) (k : Nat) (w : World) (h0 : 0 ≤ b) (h1 : b ≤ 1023) (hk : k < 10) :
    Calls Tryd.prog 62 #[.int .i64 b, .int .i64 k] w fun e w' => e = .returned (.int .i64 (bp b k)) ∧ w' = w := bitAtPlace_any b k w h0 h1 hk
/-- Does a row's byte fit the bits there? -/
def okC (b : Int) (k : Nat) (c : Int) : Bool := if c = 48 ∨ c = 49 then decide (c - 48 = bp b k) else true
def fitB (r : Nat) (b : Int) : Bool := (List.range 10).all fun k => okC b k (rwC r k)
theorem fit_no (r : Nat) (b : Int) (k : Nat) (hk : k < 10) (h : okC b k (rwC r k) = false) : fitB r b = false := by
  unfold fitB
  rw [List.all_eq_false]
  exact ⟨k, List.mem_range.2 hk, by rw [h]; decide⟩
theorem fit_yes (r : Nat) (b : Int) (h : ∀ k, k < 10 → okC b k (rwC r k) = true) : fitB r b = true := by
  unfold fitB
  rw [List.all_eq_true]
  exact fun k hk => h k (List.mem_range.1 hk)
/-- Three digits of which no bit but one can be 1. -/
def nmd (c b : Int) : Int := b % 2 * 2 ^ shN c
theorem nmd_bd (c b : Int) (h : isNm c) : 0 ≤ nmd c b ∧ nmd c b ≤ 2048 := by
  have hl := shN_le c h
  have hp : (0 : Int) < 2 ^ shN c := Int.pow_pos (by decide)
  have hq : (2 : Int) ^ shN c ≤ 2 ^ 11 := by
    rcases Nat.lt_or_ge (shN c) 11 with h | h
    · exact Int.le_of_lt (Int.pow_lt_pow_of_lt (by decide) h)
    · rw [show shN c = 11 by omega]; exact Int.le_refl _
  rw [show (2 : Int) ^ 11 = 2048 by decide] at hq
  unfold nmd
  generalize (2 : Int) ^ shN c = p at *
  rcases (show b % 2 = 0 ∨ b % 2 = 1 by omega) with e | e <;> rw [e] <;> omega
theorem named_any (c b : Int) (w : World) (h : isNm c) (h0 : 0 ≤ b) (h1 : b ≤ 1023) :
    Calls Tryd.prog 60 #[.int .u8 c, .int .i64 b] w fun e w' => e = .returned (.int .u64 (nmd c b)) ∧ w' = w := by
  have hl := shN_le c h
  have ha := Bm.one_i64 b h0 (by omega)
  have hb := nmd_bd c b h
  have hw : IntKind.u64.wrap (b % 2 * 2 ^ shN c) = nmd c b := by rw [IntKind.wrap_u64]; unfold nmd at *; omega
  have hm : 0 ≤ b % 2 ∧ b % 2 ≤ 1 := by omega
  generalize nmd c b = M at *
  go_enter Tryd.func60, Tryd.ntmps60
  generalize b % 2 = B at *
  go_wp2_with fail
  refine (shiftNamed_any c _ h).mono ?_
  rintro e w1 ⟨rfl, rfl⟩
  clear h
  generalize shN c = s at *
  go_wp2
  go_ret
  exact ⟨Ln.ret_int (by first | exact hw | rfl | omega), rfl⟩
set_option maxRecDepth 100000 in
set_option maxHeartbeats 4000000 in
theorem fitsRow_any (r : Nat) (b : Int) (w : World) (hr : r < 8) (h0 : 0 ≤ b) (h1 : b ≤ 1023) :
    Calls Tryd.prog 70 #[.string (rwS r), .int .i64 b] w fun e w' => e = .returned (.bool (fitB r b)) ∧ w' = w := by
  have hsz := rw_size r hr
  have hby : Hid (∀ k (hk : k < (rwS r).size), (((rwS r)[k]'hk).toNat : Int) = rwC r k) := fun k hk => rw_byte r k hr hk
  have hN : Hid (∀ k, k < 10 → okC b k (rwC r k) = false → fitB r b = false) := fun k hk h => fit_no r b k hk h
  have hY : Hid ((∀ k, k < 10 → okC b k (rwC r k) = true) → fitB r b = true) := fit_yes r b
  have HI : Hid (∀ c X, Calls Tryd.prog 61 #[.int .u8 c] X fun e w' => e = .returned (.bool (decide (c = 48 ∨ c = 49))) ∧ w' = X) := fun c X => isWritten_any c X
  have HP : Hid (∀ k X, k < 10 → Calls Tryd.prog 62 #[.int .i64 b, .int .i64 (k : Nat)] X fun e w' => e = .returned (.int .i64 (bp b k)) ∧ w' = X) := fun k X hk => bp_any b k X h0 h1 hk
  generalize rwS r = S at *
  generalize fitB r b = R at *
  clear h0 h1
  go_enter Tryd.func70, Tryd.ntmps70
  go_wp2
  go_loop [8] (fun i => ∃ k : Nat, k ≤ 10 ∧ i = .int .i64 (k : Int) ∧ Hid (∀ j, j < k → okC b j (rwC r j) = true)) (fun i => 10 - (intOf i).toNat)
  case atStart => exact ⟨0, Nat.zero_le _, rfl, fun j hj => absurd hj (Nat.not_lt_zero j)⟩
  case round =>
    obtain ⟨k, hk, rfl, hz⟩ := hrel
    by_cases hlt : k < 10
    · have hlt' : (k : Int) < 10 := by omega
      have hks : k < S.size := by omega
      have hc := hby.out k hks
      obtain ⟨C, hC⟩ : ∃ C, C = rwC r k := ⟨_, rfl⟩
      rw [← hC] at hc
      have HC : Hid (C = rwC r k) := hC
      clear hC
      by_cases hw : C = 48 ∨ C = 49
      · have hwd : decide (C = 48 ∨ C = 49) = true := decide_eq_true hw
        have HW : Hid (∀ X, Calls Tryd.prog 79 #[.int .u8 C] X fun e w' => e = .returned (.int .i64 (C - 48)) ∧ w' = X) := fun X => by
          have := writtenBit_any (C - 48) X (by omega) (by omega)
          rw [show 48 + (C - 48) = C by omega] at this
          exact this
        have hpb := bp_bd b k
        have HO : Hid (okC b k C = decide (C - 48 = bp b k)) := by show _ = _; unfold okC; rw [if_pos hw]
        have HPk : Hid (∀ X, Calls Tryd.prog 62 #[.int .i64 b, .int .i64 (k : Nat)] X fun e w' => e = .returned (.int .i64 (bp b k)) ∧ w' = X) := fun X => HP.out k X hlt
        have hC1 : 0 ≤ C - 48 ∧ C - 48 ≤ 1 := by omega
        clear hw
        generalize bp b k = P at *
        by_cases he : C - 48 = P
        · have HO' : Hid (okC b k (rwC r k) = true) := by show _ = _; rw [← HC.out, HO.out]; exact decide_eq_true he
          go_wp2_with fail
          refine (HI.out C _).mono ?_
          rintro e w2 ⟨rfl, hw⟩
          subst hw
          rw [hwd]
          go_wp2_with fail
          refine (HW.out _).mono ?_
          rintro e w2 ⟨rfl, hw⟩
          subst hw
          go_wp2_with fail
          refine (HPk.out _).mono ?_
          rintro e w2 ⟨rfl, hw⟩
          subst hw
          go_wp2
          go_round
          case rel => exact ⟨k + 1, by omega, by go_num, fun j hj => by rcases Nat.lt_or_ge j k with h | h; exact hz.out j h; rw [show j = k by omega]; exact HO'.out⟩
          case measure => simp [intOf]; omega
        · have HO' : Hid (okC b k (rwC r k) = false) := by show _ = _; rw [← HC.out, HO.out]; exact decide_eq_false he
          have heb : (C - 48 == P) = false := beq_eq_false_iff_ne.2 he
          go_wp2_with fail
          refine (HI.out C _).mono ?_
          rintro e w2 ⟨rfl, hw⟩
          subst hw
          rw [hwd]
          go_wp2_with fail
          refine (HW.out _).mono ?_
          rintro e w2 ⟨rfl, hw⟩
          subst hw
          go_wp2_with fail
          refine (HPk.out _).mono ?_
          rintro e w2 ⟨rfl, hw⟩
          subst hw
          go_wp2
          go_ret
          exact ⟨Ln.ret_bool (hN.out k hlt HO'.out).symm, rfl⟩
      · have hwd : decide (C = 48 ∨ C = 49) = false := decide_eq_false hw
        have HO' : Hid (okC b k (rwC r k) = true) := by show _ = _; rw [← HC.out]; unfold okC; rw [if_neg hw]
        clear hw
        go_wp2_with fail
        refine (HI.out C _).mono ?_
        rintro e w2 ⟨rfl, hw⟩
        subst hw
        rw [hwd]
        go_wp2
        go_round
        case rel => exact ⟨k + 1, by omega, by go_num, fun j hj => by rcases Nat.lt_or_ge j k with h | h; exact hz.out j h; rw [show j = k by omega]; exact HO'.out⟩
        case measure => simp [intOf]; omega
    · go_wp2
      go_ret
      exact ⟨Ln.ret_bool (hY.out (fun j hj => hz.out j (by omega))).symm, rfl⟩
/-- The row of ten bits. -/
def rob (b : Int) : Nat := ((List.range 7).find? fun r => fitB r b).getD 7
theorem rob_at (b : Int) (r : Nat) (hr : r < 7) (h : fitB r b = true) (hn : ∀ j, j < r → fitB j b = false) : rob b = r := by
  unfold rob
  have : (List.range 7).find? (fun r => fitB r b) = some r := by
    rw [List.find?_range_eq_some]
    exact ⟨h, by simp [hr], fun j hj => by simp [hn j hj]⟩
  rw [this]; rfl
theorem rob_end (b : Int) (hn : ∀ j, j < 7 → fitB j b = false) : rob b = 7 := by
  unfold rob
  have : (List.range 7).find? (fun r => fitB r b) = none := by
    rw [List.find?_eq_none]
    intro j hj
    rw [hn j (List.mem_range.1 hj)]; decide
  rw [this]; rfl
theorem rob_lt (b : Int) : rob b < 8 := by
  unfold rob
  cases h : (List.range 7).find? fun r => fitB r b with
  | none => decide
  | some l => have := List.mem_of_find?_eq_some h; simp at this; simp; omega
theorem rowOfBits_any (b : Int) (w : World) (hd : DRows w) (h0 : 0 ≤ b) (h1 : b ≤ 1023) :
    Calls Tryd.prog 59 #[.int .i64 b] w fun e w' => e = .returned (.int .i64 (rob b : Nat)) ∧ w' = w := by
  have HD : Hid (DRows w) := hd
  have HFI : Hid (∀ r X, r < 8 → Calls Tryd.prog 70 #[.string (rwS r), .int .i64 b] X fun e w' => e = .returned (.bool (fitB r b)) ∧ w' = X) := fun r X hr => fitsRow_any r b X hr h0 h1
  have H1 : Hid (∀ r, r < 7 → fitB r b = true → (∀ j, j < r → fitB j b = false) → rob b = r) := fun r hr h hn => rob_at b r hr h hn
  have H2 : Hid ((∀ j, j < 7 → fitB j b = false) → rob b = 7) := rob_end b
  clear hd
  generalize rob b = R at *
  go_enter Tryd.func59, Tryd.ntmps59
  go_wp2
  go_loop [6] (fun i => ∃ k : Nat, k ≤ 7 ∧ i = .int .i64 (k : Int) ∧ Hid (∀ j, j < k → fitB j b = false)) (fun i => 7 - (intOf i).toNat)
  case atStart => exact ⟨0, Nat.zero_le _, rfl, fun j hj => absurd hj (Nat.not_lt_zero j)⟩
  case round =>
    obtain ⟨k, hk, rfl, hz⟩ := hrel
    by_cases hlt : k < 7
    · have hlt' : (k : Int) < 7 := by omega
      have hcell := HD.out k (by omega)
      have HC : Hid (∀ X, Calls Tryd.prog 70 #[.string (rwS k), .int .i64 b] X fun e w' => e = .returned (.bool (fitB k b)) ∧ w' = X) := fun X => HFI.out k X (by omega)
      generalize rwS k = S at *
      cases hf : fitB k b with
      | true =>
        have Hf : Hid (fitB k b = true) := hf
        clear hf
        go_wp2_with fail
        refine (HC.out _).mono ?_
        rintro e w2 ⟨rfl, hw⟩
        subst hw
        rw [Hf.out]
        go_wp2
        go_ret
        refine ⟨Ln.ret_int ?_, rfl⟩
        rw [H1.out k hlt Hf.out hz.out]
      | false =>
        have Hf : Hid (fitB k b = false) := hf
        clear hf
        go_wp2_with fail
        refine (HC.out _).mono ?_
        rintro e w2 ⟨rfl, hw⟩
        subst hw
        rw [Hf.out]
        go_wp2
        go_round
        case rel => exact ⟨k + 1, by omega, by go_num, fun j hj => by rcases Nat.lt_or_ge j k with h | h; exact hz.out j h; rw [show j = k by omega]; exact Hf.out⟩
        case measure => simp [intOf]; omega
    · obtain rfl : k = 7 := by omega
      go_wp2
      go_ret
      refine ⟨Ln.ret_int ?_, rfl⟩
      rw [H2.out hz.out]; rfl
end Go.Proofs.YtmjkpjmccdjkjadDoor
namespace Go.Proofs.YtmjkpjmccdjkjadDoor
open Go.RowKit
set_option linter.unusedVariables false
set_option maxRecDepth 100000
/-- The lanes of the digits so far. -/
def rd0 (r : Nat) : Int := bits .or .u64 (bits .or .u64 (nmd 97 ((r : Int) / 4)) (nmd 101 ((r : Int) / 2))) (nmd 105 r)
def racc (r : Nat) (b : Int) : Nat → Int
  | 0 => rd0 r
  | k + 1 => if rwC r k = 48 ∨ rwC r k = 49 then racc r b k else bits .or .u64 (racc r b k) (nmd (rwC r k) (bp b k))
theorem rd_tab : (List.range 1024).all (fun b : Nat => decide (racc (rob b) b 10 = wdD (unK b))) = true := by kernel_rfl
theorem dg_tab : (List.range 1000).all (fun n : Nat => decide (wgt (digits 0 (wdD n)) = n)) = true := by kernel_rfl
theorem rd_facts (b : Int) (h0 : 0 ≤ b) (h1 : b ≤ 1023) : wgt (digits 0 (racc (rob b) b 10)) = unK b ∧ 0 ≤ racc (rob b) b 10 ∧ racc (rob b) b 10 ≤ 4095 := by
  have u := und_back b h0 h1
  obtain ⟨N, rfl⟩ := Int.eq_ofNat_of_zero_le h0
  have e := of_decide_eq_true (List.all_eq_true.1 rd_tab N (List.mem_range.2 (by omega)))
  rw [e]
  generalize unK (N : Int) = U at *
  obtain ⟨M, rfl⟩ := Int.eq_ofNat_of_zero_le u.2.1
  have g := of_decide_eq_true (List.all_eq_true.1 dg_tab M (List.mem_range.2 (by omega)))
  refine ⟨g, ?_, ?_⟩ <;> unfold wdD <;> omega
end Go.Proofs.YtmjkpjmccdjkjadDoor
namespace Go.Proofs.YtmjkpjmccdjkjadDoor
open Go.RowKit
set_option linter.unusedVariables false
set_option maxRecDepth 100000
set_option maxRecDepth 100000 in
set_option maxHeartbeats 4000000 in
theorem readDeclet_any (b : Int) (w : World) (ht : Tab w) (hd : DRows w) (hz : 1 < w.heap.size) (h0 : 0 ≤ b) (h1 : b ≤ 1023) :
    Calls Tryd.prog 52 #[.int .i64 b] w fun e w' => e = .returned (.int .i64 (unK b)) ∧ Below w.heap.size w w' := by
  obtain ⟨f1, f2, f3⟩ := rd_facts b h0 h1
  have hr := rob_lt b
  have HF : Hid (wgt (digits 0 (racc (rob b) b 10)) = unK b) := f1
  have HT : Hid (Tab w) := ht
  have HR : Hid (Calls Tryd.prog 59 #[.int .i64 b] w fun e w' => e = .returned (.int .i64 (rob b : Nat)) ∧ w' = w) := rowOfBits_any b w hd h0 h1
  have hcell := hd (rob b) hr
  have hsz := rw_size (rob b) hr
  have hby : Hid (∀ k (hk : k < (rwS (rob b)).size), (((rwS (rob b))[k]'hk).toNat : Int) = rwC (rob b) k) := fun k hk => rw_byte (rob b) k hr hk
  have hkd : Hid (∀ k, k < 10 → rwC (rob b) k = 48 ∨ rwC (rob b) k = 49 ∨ isNm (rwC (rob b) k)) := fun k hk => rw_kind (rob b) k hr hk
  have HL : Hid (∀ X, Below w.heap.size w X → Calls Tryd.prog 63 #[.int .i64 1, .int .u64 (racc (rob b) b 10)] X fun e w' => ∃ v, e = .returned v ∧ Has w' X.heap.size v (digits 0 (racc (rob b) b 10)) ∧ Below X.heap.size X w') := fun X hX => idigits_any 0 _ X (ht.below hX hz) (Nat.lt_of_lt_of_le hz hX.size) (by decide) f2 (by omega)
  clear ht hd f1 f2 f3
  generalize rob b = r at *
  have a1 : 0 ≤ (r : Int) / 4 ∧ (r : Int) / 4 ≤ 1 := by omega
  have a2 : 0 ≤ (r : Int) / 2 ∧ (r : Int) / 2 ≤ 3 := by omega
  have HA : Hid (∀ X, Calls Tryd.prog 60 #[.int .u8 97, .int .i64 ((r : Int) / 4)] X fun e w' => e = .returned (.int .u64 (nmd 97 ((r : Int) / 4))) ∧ w' = X) := fun X => named_any 97 _ X (.inl ⟨by decide, by decide⟩) a1.1 (by omega)
  have HE : Hid (∀ X, Calls Tryd.prog 60 #[.int .u8 101, .int .i64 ((r : Int) / 2)] X fun e w' => e = .returned (.int .u64 (nmd 101 ((r : Int) / 2))) ∧ w' = X) := fun X => named_any 101 _ X (.inl ⟨by decide, by decide⟩) a2.1 (by omega)
  have HI : Hid (∀ X, Calls Tryd.prog 60 #[.int .u8 105, .int .i64 (r : Int)] X fun e w' => e = .returned (.int .u64 (nmd 105 r)) ∧ w' = X) := fun X => named_any 105 _ X (.inl ⟨by decide, by decide⟩) (by omega) (by omega)
  have H0 : Hid (rd0 r = bits .or .u64 (bits .or .u64 (nmd 97 ((r : Int) / 4)) (nmd 101 ((r : Int) / 2))) (nmd 105 r)) := rfl
  generalize rwS r = S at *
  generalize nmd 97 ((r : Int) / 4) = A at *
  generalize nmd 101 ((r : Int) / 2) = E at *
  generalize nmd 105 (r : Int) = I at *
  have HIS : Hid (∀ c X, Calls Tryd.prog 61 #[.int .u8 c] X fun e w' => e = .returned (.bool (decide (c = 48 ∨ c = 49))) ∧ w' = X) := fun c X => isWritten_any c X
  have HP : Hid (∀ k X, k < 10 → Calls Tryd.prog 62 #[.int .i64 b, .int .i64 (k : Nat)] X fun e w' => e = .returned (.int .i64 (bp b k)) ∧ w' = X) := fun k X hk => bp_any b k X h0 h1 hk
  go_enter Tryd.func52, Tryd.ntmps52
  go_wp2_with fail
  refine HR.out.mono ?_
  rintro e w1 ⟨rfl, hw⟩
  subst hw
  go_wp2_with fail
  refine (HA.out _).mono ?_
  rintro e w2 ⟨rfl, hw⟩
  subst hw
  go_wp2_with fail
  refine (HE.out _).mono ?_
  rintro e w2 ⟨rfl, hw⟩
  subst hw
  go_wp2_with fail
  refine (HI.out _).mono ?_
  rintro e w2 ⟨rfl, hw⟩
  subst hw
  go_wp2
  clear HA HE HI HR hcell a1 a2
  go_loopw [4, 26] (fun a i wr => ∃ k : Nat, k ≤ 10 ∧ i = .int .i64 (k : Int) ∧ a = .int .u64 (racc r b k) ∧ Hid (Below w2.heap.size w2 wr)) (fun _ i _ => 10 - (intOf i).toNat)
  case atStart => exact ⟨0, Nat.zero_le _, rfl, Ln.val_int H0.out.symm, Below.refl _ _⟩
  case round =>
    obtain ⟨k, hk, rfl, rfl, HBw⟩ := hrel
    by_cases hlt : k < 10
    · have hlt' : (k : Int) < 10 := by omega
      have hks : k < S.size := by omega
      have hc := hby.out k hks
      have hkn := hkd.out k hlt
      obtain ⟨C, hC⟩ : ∃ C, C = rwC r k := ⟨_, rfl⟩
      rw [← hC] at hc hkn
      have HC : Hid (C = rwC r k) := hC
      clear hC
      by_cases hw : C = 48 ∨ C = 49
      · have hwd : decide (C = 48 ∨ C = 49) = true := decide_eq_true hw
        have HS : Hid (racc r b (k + 1) = racc r b k) := by show racc r b (k + 1) = _; rw [show racc r b (k + 1) = if rwC r k = 48 ∨ rwC r k = 49 then racc r b k else bits .or .u64 (racc r b k) (nmd (rwC r k) (bp b k)) from rfl, ← HC.out, if_pos hw]
        clear hw hkn
        generalize racc r b k = U at *
        go_wp2_with fail
        refine (HIS.out C _).mono ?_
        rintro e w3 ⟨rfl, hw⟩
        subst hw
        rw [hwd]
        go_wp2
        go_roundw
        case rel => exact ⟨k + 1, by omega, by go_num, Ln.val_int HS.out.symm, HBw⟩
        case measure => simp [intOf]; omega
      · have hwd : decide (C = 48 ∨ C = 49) = false := decide_eq_false hw
        have HS : Hid (racc r b (k + 1) = bits .or .u64 (racc r b k) (nmd C (bp b k))) := by show racc r b (k + 1) = _; rw [show racc r b (k + 1) = if rwC r k = 48 ∨ rwC r k = 49 then racc r b k else bits .or .u64 (racc r b k) (nmd (rwC r k) (bp b k)) from rfl, ← HC.out, if_neg hw]
        have hnm : isNm C := by rcases hkn with h | h | h; exact absurd (.inl h) hw; exact absurd (.inr h) hw; exact h
        have hpb := bp_bd b k
        have HPk : Hid (∀ X, Calls Tryd.prog 62 #[.int .i64 b, .int .i64 (k : Nat)] X fun e w' => e = .returned (.int .i64 (bp b k)) ∧ w' = X) := fun X => HP.out k X hlt
        have HN : Hid (∀ X, Calls Tryd.prog 60 #[.int .u8 C, .int .i64 (bp b k)] X fun e w' => e = .returned (.int .u64 (nmd C (bp b k))) ∧ w' = X) := fun X => named_any C _ X hnm hpb.1 (by omega)
        clear hw hkn hnm
        generalize nmd C (bp b k) = M at *
        generalize bp b k = P at *
        generalize racc r b k = U at *
        go_wp2_with fail
        refine (HIS.out C _).mono ?_
        rintro e w3 ⟨rfl, hw⟩
        subst hw
        rw [hwd]
        go_wp2
        go_quiet (first | (go_at_call 62; refine Calls.quiet_of_same (HPk.out _)) | (go_at_call 60; refine Calls.quiet_of_same (HN.out _)))
        go_wp2
        go_roundw
        case rel => exact ⟨k + 1, by omega, by go_num, Ln.val_int HS.out.symm, below_drewN HBw.out _⟩
        case measure => simp [intOf]; omega
    · obtain rfl : k = 10 := by omega
      go_wp2_with fail
      refine (HL.out _ HBw.out).mono ?_
      rintro e w3 ⟨v, rfl, hv, hb⟩
      go_wp2_with fail
      refine (iWeight_any v _ _ _ hv).mono ?_
      rintro e w4 ⟨rfl, hw⟩
      subst hw
      go_wp2
      go_ret
      exact ⟨Ln.ret_int HF.out, HBw.out.trans (hb.mono HBw.out.size)⟩
theorem iUndeclet_any (b : Int) (w : World) (ht : Tab w) (hd : DRows w) (hz : 1 < w.heap.size) :
    Calls Tryd.prog 47 #[.int .i64 b] w fun e w' => e = .returned (.int .i64 (und b)) ∧ Below w.heap.size w w' := by
  by_cases h0 : b < 0
  · rw [und_none b (by omega)]
    go_enter Tryd.func47, Tryd.ntmps47
    go_wp2
    go_ret
    exact ⟨rfl, Below.refl _ _⟩
  · by_cases h1 : (1024 : Int) ≤ b
    · rw [und_none b (by omega)]
      go_enter Tryd.func47, Tryd.ntmps47
      go_wp2
      go_ret
      exact ⟨rfl, Below.refl _ _⟩
    · have H : Hid (Calls Tryd.prog 52 #[.int .i64 b] w fun e w' => e = .returned (.int .i64 (unK b)) ∧ Below w.heap.size w w') := readDeclet_any b w ht hd hz (by omega) (by omega)
      have e : und b = unK b := by unfold und; rw [if_pos (by omega)]
      rw [e]
      clear ht hd e
      go_enter Tryd.func47, Tryd.ntmps47
      go_wp2_with fail
      refine H.out.mono ?_
      rintro e w1 ⟨rfl, hb⟩
      go_wp2
      go_ret
      exact ⟨rfl, hb⟩
end Go.Proofs.YtmjkpjmccdjkjadDoor
