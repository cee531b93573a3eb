/-
  The finite number that bits stand for, of the model, walked; its unpacked words.
-/
import Derived.Test.YtmeicjbeibmmgadGreatDoorWrd5
namespace Go.Proofs.YtmeicjbeibmmgadGreatDoor
open Go.RowKit
set_option linter.unusedVariables false
set_option maxRecDepth 100000
theorem bconv1 (d : Int) (W : World) : (convert 22 9 (.slice (some ⟨W.heap.size, 0, none⟩) 1 1)).run Tryz.prog (W.alloc (.cells #[.int .u8 (48 + d)] 5)) = .ok (.string (tx [d])) (W.alloc (.cells #[.int .u8 (48 + d)] 5)) :=
  run_convert_bytes_arg (P := Tryz.prog) _ 22 5 Tryz.underlying22 Tryz.underlying5 W.heap.size 0 1 1 [48 + d] rfl (fun i hi => by
    match i, hi with
    | 0, _ => simp) 9 Tryz.underlying9
theorem bconv3 (a b c : Int) (W : World) : (convert 22 9 (.slice (some ⟨W.heap.size, 0, none⟩) 3 3)).run Tryz.prog (W.alloc (.cells #[.int .u8 (48 + a), .int .u8 (48 + b), .int .u8 (48 + c)] 5)) = .ok (.string (tx [a, b, c])) (W.alloc (.cells #[.int .u8 (48 + a), .int .u8 (48 + b), .int .u8 (48 + c)] 5)) :=
  run_convert_bytes_arg (P := Tryz.prog) _ 22 5 Tryz.underlying22 Tryz.underlying5 W.heap.size 0 3 3 [48 + a, 48 + b, 48 + c] rfl (fun i hi => by
    match i, hi with
    | 0, _ => simp
    | 1, _ => simp
    | 2, _ => simp) 9 Tryz.underlying9
theorem uHF_bits (c b1 b2 b3 b4 b5 : Int) (hc : c = b1 * 16 + b2 * 8 + b3 * 4 + b4 * 2 + b5) (h : c < 30) (r1 : 0 ≤ b1 ∧ b1 ≤ 1) (r2 : 0 ≤ b2 ∧ b2 ≤ 1) (r3 : 0 ≤ b3 ∧ b3 ≤ 1) (r4 : 0 ≤ b4 ∧ b4 ≤ 1) (r5 : 0 ≤ b5 ∧ b5 ≤ 1) :
    (b1 * 2 + b2 = 3 → uH c = b3 * 2 + b4 ∧ uF c = 8 + b5) ∧ (b1 * 2 + b2 ≠ 3 → uH c = b1 * 2 + b2 ∧ uF c = b3 * 4 + b4 * 2 + b5) ∧ 0 ≤ uH c ∧ uH c ≤ 2 ∧ 0 ≤ uF c ∧ uF c ≤ 9 ∧ b1 + b2 + b3 + b4 ≠ 4 := by
  unfold uH uF
  by_cases e : c / 8 = 3
  · rw [if_pos e, if_pos e]; omega
  · rw [if_neg e, if_neg e]; omega
theorem hb_six (W : Int) (r g n : Nat) (hn : n = 6 + r + 10 * g) : hb (bl W n n) 6 r = W / 2 ^ (10 * g) % 2 ^ r := by
  rw [hb_bl W n 6 r (by omega), show n - 6 - r = 10 * g by omega]
theorem hb_ten (W : Int) (r g n q : Nat) (hn : n = 6 + r + 10 * g) (hq : q < g) : hb (bl W n n) (6 + r + 10 * q) 10 = W / 2 ^ (10 * (g - 1 - q)) % 1024 := by
  rw [hb_bl W n (6 + r + 10 * q) 10 (by omega), show n - (6 + r + 10 * q) - 10 = 10 * (g - 1 - q) by omega]; rfl
set_option maxRecDepth 100000 in
set_option maxHeartbeats 4000000 in
theorem l10Read_fin (v : Value) (W : Int) (r g : Nat) (bias : Int) (n base : Nat) (w : World) (hn : n = 6 + r + 10 * g) (hr : 1 ≤ r) (hr2 : r ≤ 12) (hg : g ≤ 11) (hbi : 0 ≤ bias ∧ bias ≤ 10000) (h : HasN w base v (bl W n n)) (hc : uC r g W < 30) :
    Calls Tryz.prog 22 #[v, .int .i64 r, .int .i64 g, .int .i64 bias] w fun x w' => x = .returned (numV (uK r g W) (uB r g W) (uX r g bias W) (tx (uL r g W))) ∧ Below w.heap.size w w' := by
  obtain ⟨b0, b1, b2, b3, b4, b5, b6, e0, e1, e2, e3, e4, e5, e6, r0, r1, r2, r3, r4, r5, r6, eC, eS, eN⟩ := head_bits r g W n hn hr
  obtain ⟨G, cap, rfl, -, hgl, hcell⟩ := h.form
  rw [bl_len] at hcell
  have q0 := hcell 0 (by omega)
  have q1 := hcell 1 (by omega)
  have q2 := hcell 2 (by omega)
  have q3 := hcell 3 (by omega)
  have q4 := hcell 4 (by omega)
  have q5 := hcell 5 (by omega)
  rw [e0] at q0; rw [e1] at q1; rw [e2] at q2; rw [e3] at q3; rw [e4] at q4; rw [e5] at q5
  rw [bl_len]
  have hn7 : (7 : Int) ≤ (n : Int) := by omega
  obtain ⟨S, hS⟩ : ∃ S, (b0 == 1) = S := ⟨_, rfl⟩
  have hS2 : decide (b0 = 1) = S := by rw [← hS]; rfl
  have HT : Hid (Below w.heap.size w (two4 w S)) := two4_below w S
  have HL : Hid (At4 (two4 w S) w.heap.size (.int .i64 0) (.bool false) (.int .i64 0) (.string { data := #[] })) := two4_lo w S
  have HM : Hid (At4 (two4 w S) (w.heap.size + 1) (.int .i64 1) (.bool S) (.int .i64 0) (.string { data := #[] })) := two4_hi w S
  obtain ⟨u1, u2, u3, u4⟩ := u_fin r g bias W hc
  obtain ⟨s1, s2, s3, s4, s5, s6, s7⟩ := uHF_bits _ b1 b2 b3 b4 b5 eC hc r1 r2 r3 r4 r5
  rw [u1, u2, u3, u4, eS, hS2]
  have HE : Hid (uE r g W = uH (uC r g W) * 2 ^ r + hb (bl W n n) 6 r) := by rw [Hid, hb_six W r g n hn]; rfl
  have HU : Hid (uS r g W = uF (uC r g W) :: uD g W g) := rfl
  have HD : Hid (∀ q, q < g → hb (bl W n n) (6 + r + 10 * q) 10 = W / 2 ^ (10 * (g - 1 - q)) % 1024) := fun q hq => hb_ten W r g n q hn hq
  have HE2 : Hid (0 ≤ uE r g W ∧ uE r g W < 12288) := by
    have := uE_bd r g W hc
    exact ⟨this.1, e_fits _ r hr2 this.2⟩
  have HBt : Hid (Bit (bl W n n)) := bl_bit W n n
  have HCl : Hid (∀ i, i < n → w.cell? ⟨G, i, none⟩ = some (.int .i64 ((bl W n n).getD i 0))) := hcell
  have HUd : Hid (Dec (uS r g W) ∧ (uS r g W).length = 3 * g + 1) := ⟨uS_dec r g W, uS_len r g W⟩
  have HUS : Hid (∀ (x : Int) X, Calls Tryz.prog 38 #[.int .i64 x] X fun e w' => e = .returned (.int .i64 (und x)) ∧ w' = X) := fun x X => sUndeclet_any x X
  have hsum : (b1 + b2 + b3 + b4 == 4) = false := by simp; omega
  have w1 : IntKind.i64.wrap (b1 + b2) = b1 + b2 := by rw [IntKind.wrap_i64]; omega
  have w2 : IntKind.i64.wrap (b1 + b2 + b3) = b1 + b2 + b3 := by rw [IntKind.wrap_i64]; omega
  have w3 : IntKind.i64.wrap (b1 + b2 + b3 + b4) = b1 + b2 + b3 + b4 := by rw [IntKind.wrap_i64]; omega
  have w4 : IntKind.i64.wrap (b1 * 2) = b1 * 2 := by rw [IntKind.wrap_i64]; omega
  have w5 : IntKind.i64.wrap (b1 * 2 + b2) = b1 * 2 + b2 := by rw [IntKind.wrap_i64]; omega
  have w6 : IntKind.i64.wrap (b3 * 4) = b3 * 4 := by rw [IntKind.wrap_i64]; omega
  have w7 : IntKind.i64.wrap (b4 * 2) = b4 * 2 := by rw [IntKind.wrap_i64]; omega
  have w8 : IntKind.i64.wrap (b3 * 4 + b4 * 2) = b3 * 4 + b4 * 2 := by rw [IntKind.wrap_i64]; omega
  have w9 : IntKind.i64.wrap (b3 * 4 + b4 * 2 + b5) = b3 * 4 + b4 * 2 + b5 := by rw [IntKind.wrap_i64]; omega
  have w10 : IntKind.i64.wrap (b3 * 2) = b3 * 2 := by rw [IntKind.wrap_i64]; omega
  have w11 : IntKind.i64.wrap (b3 * 2 + b4) = b3 * 2 + b4 := by rw [IntKind.wrap_i64]; omega
  have w12 : IntKind.i64.wrap (8 + b5) = 8 + b5 := by rw [IntKind.wrap_i64]; omega
  generalize uH (uC r g W) = H at *
  generalize uF (uC r g W) = F at *
  have HS1 : Hid (b1 * 2 + b2 = 3 → H = b3 * 2 + b4 ∧ F = 8 + b5) := s1
  have HS2 : Hid (b1 * 2 + b2 ≠ 3 → H = b1 * 2 + b2 ∧ F = b3 * 4 + b4 * 2 + b5) := s2
  have hn1 : 6 + r + 10 * g ≤ n := by omega
  have hn2 : n ≤ 128 := by omega
  clear hcell h e0 e1 e2 e3 e4 e5 e6 eC eS eN u1 u2 u3 u4 hc hS2 s1 s2 s7 hn
  go_enter Tryz.func22, Tryz.ntmps22
  go_wp2
  go_quiet (fail)
  go_wp2
  go_quiet (fail)
  go_wp2
  go_quiet (fail)
  go_upto_if 75 with fail
  go_cut [10, 11] (fun x y wx => x = .int .i64 H ∧ y = .int .i64 F ∧ Hid (Below (w.heap.size + 2) (two4 w S) wx))
  case first =>
    by_cases h3 : b1 * 2 + b2 = 3
    · have h3' : (b1 * 2 + b2 == 3) = true := by simpa using h3
      obtain ⟨rfl, rfl⟩ := HS1.out h3
      clear h3
      go_wp2
      go_quiet (fail)
      go_wp2
      go_meet
      case rel => exact ⟨rfl, rfl, below_drewN (Below.refl _ _) _⟩
    · have h3' : (b1 * 2 + b2 == 3) = false := by simpa using h3
      obtain ⟨rfl, rfl⟩ := HS2.out h3
      clear h3
      go_wp2
      go_meet
      case rel => exact ⟨rfl, rfl, below_drewN (Below.refl _ _) _⟩
  case rest =>
    obtain ⟨rfl, rfl, hB⟩ := hcut
    have HB : Hid (Below (w.heap.size + 2) (two4 w S) wc) := hB
    have HCw : Hid (∀ i, i < n → wc.cell? ⟨G, i, none⟩ = some (.int .i64 ((bl W n n).getD i 0))) := fun i hi => by
      rw [hB.out.cell (p := ⟨G, i, none⟩) (by show G < _; omega), HT.out.cell (p := ⟨G, i, none⟩) hgl]; exact HCl.out i hi
    clear hB HCl HS1 HS2 w1 w2 w3 w4 w5 w6 w7 w8 w9 w10 w11 w12 hsum q0 q1 q2 q3 q4 q5 r0 r1 r2 r3 r4 r5 r6
    have hcv := bconv1 F wc
    have wF : IntKind.i64.wrap (48 + F) = 48 + F := by rw [IntKind.wrap_i64]; omega
    have wF2 : IntKind.u8.wrap (48 + F) = 48 + F := by rw [IntKind.wrap_u8]; omega
    go_wp2
    go_loop [12, 13] (fun e i => ∃ j : Nat, j ≤ r ∧ i = .int .i64 j ∧ e = .int .i64 (H * 2 ^ j + hb (bl W n n) 6 j)) (fun _ i => r - (intOf i).toNat)
    case atStart => exact ⟨0, Nat.zero_le _, rfl, Ln.val_int (by simp [hb])⟩
    case round =>
      obtain ⟨j, hj, rfl, rfl⟩ := hrel
      by_cases hlt : j < r
      · have hlt' : (j : Int) < (r : Int) := by omega
        have c := HCw.out (6 + j) (by omega)
        have d := HBt.out (6 + j)
        have x := hb_bd (bl W n n) HBt.out 6 j
        have y : (2 : Int) ^ j ≤ 4096 := by
          obtain ⟨t, ht⟩ : ∃ t, 12 = j + t := ⟨12 - j, by omega⟩
          have e2 : (4096 : Int) = 2 ^ j * 2 ^ t := by rw [← Int.pow_add, ← ht]; decide
          have a := pow2_pos j
          have b := pow2_pos t
          have := Int.mul_le_mul_of_nonneg_left (show (1 : Int) ≤ 2 ^ t by omega) (Int.le_of_lt a)
          omega
        have HE3 : Hid (H * 2 ^ (j + 1) + hb (bl W n n) 6 (j + 1) = (H * 2 ^ j + hb (bl W n n) 6 j) * 2 + (bl W n n).getD (6 + j) 0) := by
          rw [Hid, Int.pow_succ, ← Int.mul_assoc]; simp only [hb]; omega
        have z : 0 ≤ H * 2 ^ j ∧ H * 2 ^ j ≤ 8192 := by
          have a := pow2_pos j
          rcases (show H = 0 ∨ H = 1 ∨ H = 2 by omega) with e | e | e <;> rw [e] <;> omega
        have z2 : 0 ≤ H * 2 ^ j + hb (bl W n n) 6 j ∧ H * 2 ^ j + hb (bl W n n) 6 j ≤ 12288 := by omega
        clear x y z
        generalize H * 2 ^ j + hb (bl W n n) 6 j = X at *
        generalize (bl W n n).getD (6 + j) 0 = D at *
        have m1 : IntKind.i64.wrap (X * 2) = X * 2 := by rw [IntKind.wrap_i64]; omega
        have m2 : IntKind.i64.wrap (X * 2 + D) = X * 2 + D := by rw [IntKind.wrap_i64]; omega
        have m3 : IntKind.i64.wrap (6 + (j : Int)) = 6 + (j : Int) := by rw [IntKind.wrap_i64]; omega
        have m4 : (6 : Int) + (j : Int) < (n : Int) := by omega
        have m5 : (0 : Int) ≤ 6 + (j : Int) := by omega
        have m6 : ((6 : Int) + (j : Int)).toNat = 6 + j := by omega
        clear d z2
        go_wp2
        go_round
        case rel => exact ⟨j + 1, by omega, by go_num, Ln.val_int HE3.out.symm⟩
        case measure => simp [intOf]; omega
      · obtain rfl : j = r := by omega
        rw [← HE.out]
        have ee := HE2.out
        have hal : Below (w.heap.size + 2) (two4 w S) (wc.alloc (.cells #[.int .u8 (48 + F)] 5)) := HB.out.alloc (by have := HB.out.size; simpa using this) _
        have HB1 : Hid (Below (w.heap.size + 2) (two4 w S) (wc.alloc (.cells #[.int .u8 (48 + F)] 5))) := hal
        have HCA : Hid (∀ wr, Below (w.heap.size + 2) (two4 w S) wr → ∀ i, i < n → wr.cell? ⟨G, i, none⟩ = some (.int .i64 ((bl W n n).getD i 0))) := fun wr hb i hi => by
          rw [hb.cell (p := ⟨G, i, none⟩) (by show G < _; omega)]
          have := HCw.out i hi
          rw [HB.out.cell (p := ⟨G, i, none⟩) (by show G < _; omega)] at this
          exact this
        clear hal HB HCw HE HE2
        go_wp2
        go_loopw [14, 15] (fun s i wr => ∃ q : Nat, q ≤ g ∧ i = .int .i64 q ∧ s = .string (tx (F :: uD g W q)) ∧ Hid (Below (w.heap.size + 2) (two4 w S) wr)) (fun _ i _ => g - (intOf i).toNat)
        case atStart => exact ⟨0, Nat.zero_le _, rfl, rfl, HB1⟩
        case round =>
          clear HB1 hcv wF wF2
          obtain ⟨q, hq, rfl, rfl, hB⟩ := hrel
          by_cases hlt2 : q < g
          · have hlt' : (q : Int) < (g : Int) := by omega
            have HC2 : Hid (∀ i, i < n → wr.cell? ⟨G, i, none⟩ = some (.int .i64 ((bl W n n).getD i 0))) := HCA.out wr hB.out
            have hD10 := HD.out q hlt2
            obtain ⟨I, hI⟩ : ∃ I, 6 + j + 10 * q = I := ⟨_, rfl⟩
            have hIi : (6 : Int) + (j : Int) + 10 * (q : Int) = (I : Int) := by omega
            have hI2 : I + 10 ≤ n := by omega
            rw [hI] at hD10
            have HV : Hid (uD g W (q + 1) = uD g W q ++ thr (und (hb (bl W n n) I 10))) := by rw [hD10]; rfl
            have hvb : 0 ≤ und (hb (bl W n n) I 10) ∧ und (hb (bl W n n) I 10) ≤ 999 := by
              have := und_back (hb (bl W n n) I 10) (by omega) (by omega)
              unfold und
              rw [if_pos (by omega)]
              exact this.2
            have HVb : Hid (0 ≤ und (hb (bl W n n) I 10) ∧ und (hb (bl W n n) I 10) ≤ 999) := hvb
            clear hI hD10 hvb
            go_wp2
            go_loop [16, 17] (fun d k => ∃ t : Nat, t ≤ 10 ∧ k = .int .i64 t ∧ d = .int .i64 (hb (bl W n n) I t)) (fun _ k => 10 - (intOf k).toNat)
            case atStart => exact ⟨0, Nat.zero_le _, rfl, rfl⟩
            case round =>
              obtain ⟨t, ht, rfl, rfl⟩ := hrel
              by_cases hlt3 : t < 10
              · have hlt' : (t : Int) < 10 := by omega
                have c := HC2.out (I + t) (by omega)
                have d := HBt.out (I + t)
                have x := hb_bd (bl W n n) HBt.out I t
                have x2 : (2 : Int) ^ t ≤ 1024 := by
                  obtain ⟨z, hz⟩ : ∃ z, 10 = t + z := ⟨10 - t, by omega⟩
                  have e2 : (1024 : Int) = 2 ^ t * 2 ^ z := by rw [← Int.pow_add, ← hz]; decide
                  have a := pow2_pos t
                  have b := pow2_pos z
                  have := Int.mul_le_mul_of_nonneg_left (show (1 : Int) ≤ 2 ^ z by omega) (Int.le_of_lt a)
                  omega
                have HE3 : Hid (hb (bl W n n) I (t + 1) = hb (bl W n n) I t * 2 + (bl W n n).getD (I + t) 0) := rfl
                have x3 : 0 ≤ hb (bl W n n) I t ∧ hb (bl W n n) I t ≤ 1024 := by omega
                clear x x2
                generalize hb (bl W n n) I t = X at *
                generalize (bl W n n).getD (I + t) 0 = D at *
                have m1 : IntKind.i64.wrap (X * 2) = X * 2 := by rw [IntKind.wrap_i64]; omega
                have m2 : IntKind.i64.wrap (X * 2 + D) = X * 2 + D := by rw [IntKind.wrap_i64]; omega
                have m3 : IntKind.i64.wrap (6 + (j : Int)) = 6 + (j : Int) := by rw [IntKind.wrap_i64]; omega
                have m7 : IntKind.i64.wrap (10 * (q : Int)) = 10 * (q : Int) := by rw [IntKind.wrap_i64]; omega
                have m8 : IntKind.i64.wrap (I : Int) = I := by rw [IntKind.wrap_i64]; omega
                have m9 : IntKind.i64.wrap ((I : Int) + (t : Int)) = (I : Int) + (t : Int) := by rw [IntKind.wrap_i64]; omega
                have m4 : (I : Int) + (t : Int) < (n : Int) := by omega
                have m5 : (0 : Int) ≤ (I : Int) + (t : Int) := by omega
                have m6 : ((I : Int) + (t : Int)).toNat = I + t := by omega
                clear d x3
                go_wp2
                go_round
                case rel => exact ⟨t + 1, by omega, by go_num, Ln.val_int HE3.out.symm⟩
                case measure => simp [intOf]; omega
              · obtain rfl : t = 10 := by omega
                have hv := HVb.out
                clear HVb HC2 hIi
                generalize hb (bl W n n) I 10 = DD at *
                go_wp2_with fail
                refine (HUS.out _ _).mono ?_
                rintro x wx ⟨rfl, rfl⟩
                have hln : (tx (F :: uD g W q)).size = 1 + 3 * q := by rw [tx_size, List.length_cons, uD_len]; omega
                have hz1 : ((tx (F :: uD g W q)).size : Int) ≤ 8388608 := by omega
                have hap := tx_append (F :: uD g W q) (thr (und DD))
                rw [List.cons_append, ← HV.out] at hap
                generalize und DD = V at *
                have hap' : tx (F :: uD g W q) ++ tx [V / 100, V / 10 % 10, V % 10] = tx (F :: uD g W (q + 1)) := hap
                obtain ⟨A2, hA2⟩ : ∃ A2, F :: uD g W (q + 1) = A2 := ⟨_, rfl⟩
                have HA2 : Hid (F :: uD g W (q + 1) = A2) := hA2
                rw [hA2] at hap'
                clear hA2 hap HV
                generalize F :: uD g W q = A1 at *
                obtain ⟨v1, hv1⟩ : ∃ v1, V / 100 = v1 := ⟨_, rfl⟩
                obtain ⟨v0, hv0⟩ : ∃ v0, V / 10 = v0 := ⟨_, rfl⟩
                obtain ⟨v2, hv2⟩ : ∃ v2, V / 10 % 10 = v2 := ⟨_, rfl⟩
                obtain ⟨v3, hv3⟩ : ∃ v3, V % 10 = v3 := ⟨_, rfl⟩
                have t1 : Int.tdiv V 100 = v1 := by rw [← hv1]; exact Int.tdiv_eq_ediv_of_nonneg hv.1
                have t2 : Int.tdiv V 10 = v0 := by rw [← hv0]; exact Int.tdiv_eq_ediv_of_nonneg hv.1
                have t3 : Int.tmod v0 10 = v2 := by rw [← hv2, hv0]; exact Int.tmod_eq_emod_of_nonneg (by omega)
                have t4 : Int.tmod V 10 = v3 := by rw [← hv3]; exact Int.tmod_eq_emod_of_nonneg hv.1
                have l1 : 0 ≤ v1 ∧ v1 ≤ 9 := by omega
                have l0 : 0 ≤ v0 ∧ v0 ≤ 99 := by omega
                have l2 : 0 ≤ v2 ∧ v2 ≤ 9 := by omega
                have l3 : 0 ≤ v3 ∧ v3 ≤ 9 := by omega
                rw [hv2, hv1, hv3] at hap'
                clear hv0 hv1 hv2 hv3
                have hz2 : ((tx [v1, v2, v3]).size : Int) ≤ 8388608 := by rw [tx_size]; simp
                have hcv3 := bconv3 v1 v2 v3 wx
                have y1 : IntKind.i64.wrap v1 = v1 := by rw [IntKind.wrap_i64]; omega
                have y2 : IntKind.i64.wrap v0 = v0 := by rw [IntKind.wrap_i64]; omega
                have y3 : IntKind.i64.wrap v2 = v2 := by rw [IntKind.wrap_i64]; omega
                have y4 : IntKind.i64.wrap v3 = v3 := by rw [IntKind.wrap_i64]; omega
                have y5 : IntKind.i64.wrap (48 + v1) = 48 + v1 := by rw [IntKind.wrap_i64]; omega
                have y6 : IntKind.i64.wrap (48 + v2) = 48 + v2 := by rw [IntKind.wrap_i64]; omega
                have y7 : IntKind.i64.wrap (48 + v3) = 48 + v3 := by rw [IntKind.wrap_i64]; omega
                have z5 : IntKind.u8.wrap (48 + v1) = 48 + v1 := by rw [IntKind.wrap_u8]; omega
                have z6 : IntKind.u8.wrap (48 + v2) = 48 + v2 := by rw [IntKind.wrap_u8]; omega
                have z7 : IntKind.u8.wrap (48 + v3) = 48 + v3 := by rw [IntKind.wrap_u8]; omega
                have HB3 : Hid (Below (w.heap.size + 2) (two4 w S) (wx.alloc (.cells #[.int .u8 (48 + v1), .int .u8 (48 + v2), .int .u8 (48 + v3)] 5))) := hB.out.alloc (by have := hB.out.size; simpa using this) _
                clear hB hln hv
                go_wp2
                go_roundw
                case rel => exact ⟨q + 1, by omega, by go_num, by rw [HA2.out], HB3⟩
                case measure => simp [intOf]; omega
          · obtain rfl : q = g := by omega
            have hlt' : ¬ (q : Int) < (q : Int) := by omega
            rw [← HU.out]
            have HM2 : Hid (At4 wr (w.heap.size + 1) (.int .i64 1) (.bool S) (.int .i64 0) (.string { data := #[] })) := HM.out.below hB.out (by omega)
            have HL2 : Hid (At4 wr w.heap.size (.int .i64 0) (.bool false) (.int .i64 0) (.string { data := #[] })) := HL.out.below hB.out (by omega)
            have HBw : Hid (Below w.heap.size w wr) := HT.out.trans (hB.out.mono (by omega))
            obtain ⟨c0, c1, c2, c3, c4⟩ := HM2.out
            obtain ⟨d0, d1, d2, d3, d4⟩ := HL2.out
            have c42 := c4 2
            have c43 := c4 3
            have d40 := d4 0
            have d41 := d4 1
            have d42 := d4 2
            have d43 := d4 3
            have wE : IntKind.i64.wrap (uE j q W - bias) = uE j q W - bias := by rw [IntKind.wrap_i64]; omega
            clear c4 d4 hB HCA
            go_wp2_with fail
            refine (l10Strip_any (uS j q W) _ HUd.out.1 (by rw [HUd.out.2]; omega)).mono ?_
            rintro x wx ⟨rfl, rfl⟩
            go_wp2
            have hP := (((HL2.out.far (b' := w.heap.size + 1) (by omega) 2 (.int .i64 (uE j q W - bias))).far (b' := w.heap.size + 1) (by omega) 3 (.string (tx (strip (uS j q W))))).put (.int .i64 1) (.bool S) (.int .i64 (uE j q W - bias)) (.string (tx (strip (uS j q W)))))
            refine bodyPost_ret (results_num rfl _ _ rfl hP.1 hP.2.1 hP.2.2.1 hP.2.2.2.1) rfl ?_
            exact ⟨rfl, bel_four ((HBw.out.setCell (Nat.le_succ _) _).setCell (Nat.le_succ _) _) (Nat.le_refl _) _ _ _ _⟩
end Go.Proofs.YtmeicjbeibmmgadGreatDoor
