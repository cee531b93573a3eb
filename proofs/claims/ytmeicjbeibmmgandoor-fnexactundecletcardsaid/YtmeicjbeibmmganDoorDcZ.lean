/-
  The program's readDeclet and Undeclet, walked.
-/
import Derived.Test.YtmeicjbeibmmganDoorDcT
namespace Go.Proofs.YtmeicjbeibmmganDoor
open Go.RowKit
set_option linter.unusedVariables false
set_option maxRecDepth 100000 in
set_option maxHeartbeats 4000000 in
theorem readDeclet_any (b : Int) (w : World) (ht : Tab w) (hd : DRows w) (hz : 1 < w.heap.size) (h0 : 0 ≤ b) (h1 : b ≤ 1023) :
    Calls Tryd.prog 18 #[.int .i64 b] w fun e w' => e = .returned (.int .i64 (unK b)) ∧ Below w.heap.size w w' := by
  obtain ⟨f1, f2, f3⟩ := rd_facts b h0 h1
  have hr := rob_lt b
  have HF : Hid (wgt (digits 0 (racc (rob b) b 10)) = unK b) := f1
  have HT : Hid (Tab w) := ht
  have HR : Hid (Calls Tryd.prog 25 #[.int .i64 b] w fun e w' => e = .returned (.int .i64 (rob b : Nat)) ∧ w' = w) := rowOfBits_any b w hd h0 h1
  have hcell := hd (rob b) hr
  have hsz := rw_size (rob b) hr
  have hby : Hid (∀ k (hk : k < (rwS (rob b)).size), (((rwS (rob b))[k]'hk).toNat : Int) = rwC (rob b) k) := fun k hk => rw_byte (rob b) k hr hk
  have hkd : Hid (∀ k, k < 10 → rwC (rob b) k = 48 ∨ rwC (rob b) k = 49 ∨ isNm (rwC (rob b) k)) := fun k hk => rw_kind (rob b) k hr hk
  have HL : Hid (∀ X, Below w.heap.size w X → Calls Tryd.prog 29 #[.int .i64 1, .int .u64 (racc (rob b) b 10)] X fun e w' => ∃ v, e = .returned v ∧ Has w' X.heap.size v (digits 0 (racc (rob b) b 10)) ∧ Below X.heap.size X w') := fun X hX => idigits_any 0 _ X (ht.below hX hz) (Nat.lt_of_lt_of_le hz hX.size) (by decide) f2 (by omega)
  clear ht hd f1 f2 f3
  generalize rob b = r at *
  have a1 : 0 ≤ (r : Int) / 4 ∧ (r : Int) / 4 ≤ 1 := by omega
  have a2 : 0 ≤ (r : Int) / 2 ∧ (r : Int) / 2 ≤ 3 := by omega
  have HA : Hid (∀ X, Calls Tryd.prog 26 #[.int .u8 97, .int .i64 ((r : Int) / 4)] X fun e w' => e = .returned (.int .u64 (nmd 97 ((r : Int) / 4))) ∧ w' = X) := fun X => named_any 97 _ X (.inl ⟨by decide, by decide⟩) a1.1 (by omega)
  have HE : Hid (∀ X, Calls Tryd.prog 26 #[.int .u8 101, .int .i64 ((r : Int) / 2)] X fun e w' => e = .returned (.int .u64 (nmd 101 ((r : Int) / 2))) ∧ w' = X) := fun X => named_any 101 _ X (.inl ⟨by decide, by decide⟩) a2.1 (by omega)
  have HI : Hid (∀ X, Calls Tryd.prog 26 #[.int .u8 105, .int .i64 (r : Int)] X fun e w' => e = .returned (.int .u64 (nmd 105 r)) ∧ w' = X) := fun X => named_any 105 _ X (.inl ⟨by decide, by decide⟩) (by omega) (by omega)
  have H0 : Hid (rd0 r = bits .or .u64 (bits .or .u64 (nmd 97 ((r : Int) / 4)) (nmd 101 ((r : Int) / 2))) (nmd 105 r)) := rfl
  generalize rwS r = S at *
  generalize nmd 97 ((r : Int) / 4) = A at *
  generalize nmd 101 ((r : Int) / 2) = E at *
  generalize nmd 105 (r : Int) = I at *
  have HIS : Hid (∀ c X, Calls Tryd.prog 27 #[.int .u8 c] X fun e w' => e = .returned (.bool (decide (c = 48 ∨ c = 49))) ∧ w' = X) := fun c X => isWritten_any c X
  have HP : Hid (∀ k X, k < 10 → Calls Tryd.prog 28 #[.int .i64 b, .int .i64 (k : Nat)] X fun e w' => e = .returned (.int .i64 (bp b k)) ∧ w' = X) := fun k X hk => bp_any b k X h0 h1 hk
  go_enter Tryd.func18, Tryd.ntmps18
  go_wp2_with fail
  refine HR.out.mono ?_
  rintro e w1 ⟨rfl, hw⟩
  subst hw
  go_wp2_with fail
  refine (HA.out _).mono ?_
  rintro e w2 ⟨rfl, hw⟩
  subst hw
  go_wp2_with fail
  refine (HE.out _).mono ?_
  rintro e w2 ⟨rfl, hw⟩
  subst hw
  go_wp2_with fail
  refine (HI.out _).mono ?_
  rintro e w2 ⟨rfl, hw⟩
  subst hw
  go_wp2
  clear HA HE HI HR hcell a1 a2
  go_loopw [4, 26] (fun a i wr => ∃ k : Nat, k ≤ 10 ∧ i = .int .i64 (k : Int) ∧ a = .int .u64 (racc r b k) ∧ Hid (Below w2.heap.size w2 wr)) (fun _ i _ => 10 - (intOf i).toNat)
  case atStart => exact ⟨0, Nat.zero_le _, rfl, Ln.val_int H0.out.symm, Below.refl _ _⟩
  case round =>
    obtain ⟨k, hk, rfl, rfl, HBw⟩ := hrel
    by_cases hlt : k < 10
    · have hlt' : (k : Int) < 10 := by omega
      have hks : k < S.size := by omega
      have hc := hby.out k hks
      have hkn := hkd.out k hlt
      obtain ⟨C, hC⟩ : ∃ C, C = rwC r k := ⟨_, rfl⟩
      rw [← hC] at hc hkn
      have HC : Hid (C = rwC r k) := hC
      clear hC
      by_cases hw : C = 48 ∨ C = 49
      · have hwd : decide (C = 48 ∨ C = 49) = true := decide_eq_true hw
        have HS : Hid (racc r b (k + 1) = racc r b k) := by show racc r b (k + 1) = _; rw [show racc r b (k + 1) = if rwC r k = 48 ∨ rwC r k = 49 then racc r b k else bits .or .u64 (racc r b k) (nmd (rwC r k) (bp b k)) from rfl, ← HC.out, if_pos hw]
        clear hw hkn
        generalize racc r b k = U at *
        go_wp2_with fail
        refine (HIS.out C _).mono ?_
        rintro e w3 ⟨rfl, hw⟩
        subst hw
        rw [hwd]
        go_wp2
        go_roundw
        case rel => exact ⟨k + 1, by omega, by go_num, Ln.val_int HS.out.symm, HBw⟩
        case measure => simp [intOf]; omega
      · have hwd : decide (C = 48 ∨ C = 49) = false := decide_eq_false hw
        have HS : Hid (racc r b (k + 1) = bits .or .u64 (racc r b k) (nmd C (bp b k))) := by show racc r b (k + 1) = _; rw [show racc r b (k + 1) = if rwC r k = 48 ∨ rwC r k = 49 then racc r b k else bits .or .u64 (racc r b k) (nmd (rwC r k) (bp b k)) from rfl, ← HC.out, if_neg hw]
        have hnm : isNm C := by rcases hkn with h | h | h; exact absurd (.inl h) hw; exact absurd (.inr h) hw; exact h
        have hpb := bp_bd b k
        have HPk : Hid (∀ X, Calls Tryd.prog 28 #[.int .i64 b, .int .i64 (k : Nat)] X fun e w' => e = .returned (.int .i64 (bp b k)) ∧ w' = X) := fun X => HP.out k X hlt
        have HN : Hid (∀ X, Calls Tryd.prog 26 #[.int .u8 C, .int .i64 (bp b k)] X fun e w' => e = .returned (.int .u64 (nmd C (bp b k))) ∧ w' = X) := fun X => named_any C _ X hnm hpb.1 (by omega)
        clear hw hkn hnm
        generalize nmd C (bp b k) = M at *
        generalize bp b k = P at *
        generalize racc r b k = U at *
        go_wp2_with fail
        refine (HIS.out C _).mono ?_
        rintro e w3 ⟨rfl, hw⟩
        subst hw
        rw [hwd]
        go_wp2
        go_quiet (first | (go_at_call 28; refine Calls.quiet_of_same (HPk.out _)) | (go_at_call 26; refine Calls.quiet_of_same (HN.out _)))
        go_wp2
        go_roundw
        case rel => exact ⟨k + 1, by omega, by go_num, Ln.val_int HS.out.symm, below_drewN HBw.out _⟩
        case measure => simp [intOf]; omega
    · obtain rfl : k = 10 := by omega
      go_wp2_with fail
      refine (HL.out _ HBw.out).mono ?_
      rintro e w3 ⟨v, rfl, hv, hb⟩
      go_wp2_with fail
      refine (iWeight_any v _ _ _ hv).mono ?_
      rintro e w4 ⟨rfl, hw⟩
      subst hw
      go_wp2
      go_ret
      exact ⟨Ln.ret_int HF.out, HBw.out.trans (hb.mono HBw.out.size)⟩
theorem iUndeclet_any (b : Int) (w : World) (ht : Tab w) (hd : DRows w) (hz : 1 < w.heap.size) :
    Calls Tryd.prog 9 #[.int .i64 b] w fun e w' => e = .returned (.int .i64 (und b)) ∧ Below w.heap.size w w' := by
  by_cases h0 : b < 0
  · rw [und_none b (by omega)]
    go_enter Tryd.func9, Tryd.ntmps9
    go_wp2
    go_ret
    exact ⟨rfl, Below.refl _ _⟩
  · by_cases h1 : (1024 : Int) ≤ b
    · rw [und_none b (by omega)]
      go_enter Tryd.func9, Tryd.ntmps9
      go_wp2
      go_ret
      exact ⟨rfl, Below.refl _ _⟩
    · have H : Hid (Calls Tryd.prog 18 #[.int .i64 b] w fun e w' => e = .returned (.int .i64 (unK b)) ∧ Below w.heap.size w w') := readDeclet_any b w ht hd hz (by omega) (by omega)
      have e : und b = unK b := by unfold und; rw [if_pos (by omega)]
      rw [e]
      clear ht hd e
      go_enter Tryd.func9, Tryd.ntmps9
      go_wp2_with fail
      refine H.out.mono ?_
      rintro e w1 ⟨rfl, hb⟩
      go_wp2
      go_ret
      exact ⟨rfl, hb⟩
end Go.Proofs.YtmeicjbeibmmganDoor
