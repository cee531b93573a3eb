/-
  What SignedMultiple answers, for the program and for its model alike, walked.
-/
import Derived.Deep.RegionWith
import Derived.Test.YtlbkhiphnllfpakDoorMulJ
import Derived.Test.YtlbkhiphnllfpakDoorMulS
namespace Go.Proofs.YtlbkhiphnllfpakDoor
open Go.RowKit
set_option linter.unusedVariables false
/-- A multiple with a sign: the word, and what leaves. -/
def sgV (x k : Int) : Int := if 0 ≤ k then mulV x k else if mulV x (-k) = 0 then 0 else addV (nine (mulV x (-k))) 0 true
def sgC (x k : Int) : Int := if 0 ≤ k then mulC x k else if mulV x (-k) = 0 then -mulC x (-k) else -mulC x (-k) - 1
theorem ln_nought : Ln.ln 0 = fun _ => 0 := by funext i; unfold Ln.ln; simp
theorem addV_one (y : Int) : addV y 0 true = Sm (sdF (Ln.ln y) (fun _ => 0) 1) 16 := by unfold addV; rw [ln_nought]; rfl
theorem vl_nine (m : Int) (m0 : 0 ≤ m) (m1 : m ≤ 18446744073709551615) (k : Ln.okB 0 m = true) : vl (digits 0 (nine m)) = 9999999999999999 - vl (digits 0 m) := by
  have kn := nine_ok m m0 m1 k
  have h := add_value m (nine m) false k kn
  have e := add_nines m m0 m1 k
  rw [e.1, e.2.1] at h
  have d : vl (digits 0 11068046444225730969) = 9999999999999999 := by decide +kernel
  rw [d] at h
  have i0 : inI false = 0 := rfl
  rw [i0] at h
  omega
theorem vl_room (m : Int) (k : Ln.okB 0 m = true) : 0 ≤ vl (digits 0 m) ∧ vl (digits 0 m) < 10000000000000000 := by
  rw [pv0 m k]
  exact pv_room _ (ok_nine m k)
theorem vl_zero : vl (digits 0 0) = 0 := by decide +kernel
/-- A right word is told by what it stands for. -/
theorem word_told (a b : Int) (ka : Ln.okB 0 a = true) (kb : Ln.okB 0 b = true) (a0 : 0 ≤ a) (a1 : a ≤ 18446744073709551615) (b0 : 0 ≤ b) (b1 : b ≤ 18446744073709551615) (h : vl (digits 0 a) = vl (digits 0 b)) : a = b := by
  rw [pv0 a ka, pv0 b kb] at h
  have := pv_same _ _ (ok_nine a ka) (ok_nine b kb) h
  rwa [Sm_word a a0 a1, Sm_word b b0 b1] at this
theorem sg_facts (x k : Int) (hx : Ln.okB 0 x = true) (k0 : -5 ≤ k) (k5 : k ≤ 5) :
    Ln.okB 0 (sgV x k) = true ∧ (0 ≤ sgV x k ∧ sgV x k ≤ 18446744073709551615) ∧ vl (digits 0 (sgV x k)) + sgC x k * 10 ^ 16 = vl (digits 0 x) * k ∧ (-10 ≤ sgC x k ∧ sgC x k ≤ 9) := by
  unfold sgV sgC
  split
  · rename_i h
    exact ⟨mulV_ok x k, mulV_bd x k, mulV_vl x k hx, by have := mulC_bd x k hx h (by omega); omega⟩
  · rename_i h
    have hv := mulV_vl x (-k) hx
    have hc := mulC_bd x (-k) hx (by omega) (by omega)
    have hb := mulV_bd x (-k)
    have hk := mulV_ok x (-k)
    rw [Int.mul_neg] at hv
    generalize mulV x (-k) = m at *
    generalize mulC x (-k) = c at *
    split
    · rename_i hm
      subst hm
      refine ⟨by decide, by decide, ?_, by omega⟩
      rw [vl_zero] at hv ⊢
      omega
    · rename_i hm
      have kn := nine_ok m hb.1 hb.2 hk
      have a := add_value (nine m) 0 true kn (by decide)
      have r := vl_room m hk
      rw [vl_nine m hb.1 hb.2 hk, vl_zero] at a
      have hne : vl (digits 0 m) ≠ 0 := fun e => hm (word_told m 0 hk (by decide) hb.1 hb.2 (by decide) (by decide) (by rw [e, vl_zero]))
      have ok : Ln.okB 0 (addV (nine m) 0 true) = true := ok_Sm _ (sdF_nine _ _ _)
      have r2 := vl_room _ ok
      have i1 : inI true = 1 := rfl
      rw [i1] at a
      have e16 : (10 : Int) ^ 16 = 10000000000000000 := by decide
      rw [e16] at a hv ⊢
      have hi : inI (addC (nine m) 0 true) = 0 ∨ inI (addC (nine m) 0 true) = 1 := by cases addC (nine m) 0 true; exact .inl rfl; exact .inr rfl
      refine ⟨ok, Sm_u64 _ (sdF_nine _ _ _), ?_, by omega⟩
      rcases hi with hi | hi <;> rw [hi] at a <;> omega
/-- A multiple and that with the other sign. -/
theorem sg_back (x k : Int) (hx : Ln.okB 0 x = true) (k0 : -5 ≤ k) (k5 : k ≤ 5) : addV (sgV x k) (sgV x (-k)) false = 0 ∧ sgC x k + sgC x (-k) + inI (addC (sgV x k) (sgV x (-k)) false) = 0 := by
  obtain ⟨ok1, b1, v1, c1⟩ := sg_facts x k hx k0 k5
  obtain ⟨ok2, b2, v2, c2⟩ := sg_facts x (-k) hx (by omega) (by omega)
  have a := add_value _ _ false ok1 ok2
  have ok : Ln.okB 0 (addV (sgV x k) (sgV x (-k)) false) = true := ok_Sm _ (sdF_nine _ _ _)
  have r := vl_room _ ok
  have b : 0 ≤ addV (sgV x k) (sgV x (-k)) false ∧ addV (sgV x k) (sgV x (-k)) false ≤ 18446744073709551615 := Sm_u64 _ (sdF_nine _ _ _)
  have i0 : inI false = 0 := rfl
  have e16 : (10 : Int) ^ 16 = 10000000000000000 := by decide
  rw [Int.mul_neg] at v2
  rw [i0] at a
  rw [e16] at a v1 v2
  generalize inI (addC (sgV x k) (sgV x (-k)) false) = I at *
  refine ⟨word_told _ 0 ok (by decide) b.1 b.2 (by decide) (by decide) ?_, ?_⟩
  · rw [vl_zero]; omega
  · omega
theorem isgn_out (x k : Int) (w : World) (h : k < -5 ∨ 5 < k) :
    Calls Tryd.prog 15 #[.int .u64 x, .int .i64 k] w fun e w' => e = .returned (.tuple #[.int .u64 0, .int .i64 0, .bool false]) ∧ Below w.heap.size w w' := by
  rcases h with h | h
  · go_enter Tryd.func15, Tryd.ntmps15
    go_wp2
    go_ret3
    exact ⟨rfl, Below.refl _ _⟩
  · have h' : ¬ k < -5 := by omega
    go_enter Tryd.func15, Tryd.ntmps15
    go_wp2
    go_ret3
    exact ⟨rfl, Below.refl _ _⟩
theorem isgn_no (x k : Int) (w : World) (hT : Tab w) (x0 : 0 ≤ x) (x1 : x ≤ 18446744073709551615) (kx : Ln.okB 0 x = false) (k0 : -5 ≤ k) (k5 : k ≤ 5) :
    Calls Tryd.prog 15 #[.int .u64 x, .int .i64 k] w fun e w' => e = .returned (.tuple #[.int .u64 0, .int .i64 0, .bool false]) ∧ Below w.heap.size w w' := by
  have Kx : Hid (Ln.okB 0 x = false) := kx
  have HT : Hid (Tab w) := hT
  clear kx hT
  by_cases hk : 0 ≤ k
  · go_enter Tryd.func15, Tryd.ntmps15
    go_wp2_with fail
    refine (imul_no x k _ HT.out x0 x1 (.inl Kx.out)).mono ?_
    rintro e w1 ⟨rfl, hb1⟩
    go_wp2
    go_ret3
    exact ⟨rfl, hb1⟩
  · go_enter Tryd.func15, Tryd.ntmps15
    go_wp2_with fail
    refine (imul_no x (-k) _ HT.out x0 x1 (.inl Kx.out)).mono ?_
    rintro e w1 ⟨rfl, hb1⟩
    go_wp2
    go_ret3
    exact ⟨rfl, hb1⟩
theorem isgn_yes (x k : Int) (w : World) (hT : Tab w) (hz : 0 < w.heap.size) (x0 : 0 ≤ x) (x1 : x ≤ 18446744073709551615) (kx : Ln.okB 0 x = true) (k0 : -5 ≤ k) (k5 : k ≤ 5) :
    Calls Tryd.prog 15 #[.int .u64 x, .int .i64 k] w fun e w' => e = .returned (.tuple #[.int .u64 (sgV x k), .int .i64 (sgC x k), .bool true]) ∧ Below w.heap.size w w' := by
  have Kx : Hid (Ln.okB 0 x = true) := kx
  have HT : Hid (Tab w) := hT
  clear kx hT
  unfold sgV sgC
  by_cases hk : 0 ≤ k
  · rw [if_pos hk, if_pos hk]
    go_enter Tryd.func15, Tryd.ntmps15
    go_wp2_with fail
    refine (imul_yes x k _ HT.out hz x0 x1 Kx.out hk (by omega)).mono ?_
    rintro e w1 ⟨rfl, hb1⟩
    go_wp2
    go_ret3
    exact ⟨rfl, hb1⟩
  · rw [if_neg hk, if_neg hk]
    have hI : Hid (∀ W, Tab W → 0 < W.heap.size → Calls Tryd.prog 13 #[.int .u64 x, .int .i64 (-k)] W fun e w' => e = .returned (.tuple #[.int .u64 (mulV x (-k)), .int .i64 (mulC x (-k)), .bool true]) ∧ Below W.heap.size W w') := fun W hT hz => imul_yes x (-k) W hT hz x0 x1 Kx.out (by omega) (by omega)
    have hc := mulC_bd x (-k) Kx.out (by omega) (by omega)
    have hb := mulV_bd x (-k)
    have hkm : Hid (Ln.okB 0 (mulV x (-k)) = true) := mulV_ok x (-k)
    generalize mulV x (-k) = m at *
    generalize mulC x (-k) = c at *
    by_cases hm : m = 0
    · subst hm
      rw [if_pos rfl, if_pos rfl]
      go_enter Tryd.func15, Tryd.ntmps15
      go_wp2_with fail
      refine (hI.out _ HT.out hz).mono ?_
      rintro e w1 ⟨rfl, hb1⟩
      go_wp2
      go_ret3
      exact ⟨rfl, hb1⟩
    · rw [if_neg hm, if_neg hm]
      have hm0 : (m == 0) = false := by simpa using hm
      have hn := nine_ok m hb.1 hb.2 hkm.out
      have Hn : Hid (Ln.okB 0 (nine m) = true) := hn
      have hnb : 0 ≤ nine m ∧ nine m ≤ 18446744073709551615 := by unfold nine; rw [IntKind.wrap_u64]; omega
      clear hn hm
      go_enter Tryd.func15, Tryd.ntmps15
      go_wp2_with fail
      refine (hI.out _ HT.out hz).mono ?_
      rintro e w1 ⟨rfl, hb1⟩
      have hT1 : Hid (Tab w1) := Tab.below HT.out hb1 hz
      go_wp2_with fail
      refine (inines_yes m _ hT1.out hb.1 hb.2 hkm.out).mono ?_
      rintro e w' ⟨rfl, hw⟩
      obtain rfl := hw.symm
      go_wp2_with fail
      refine (iadd_yes (nine m) 0 true _ hT1.out hnb.1 hnb.2 (by decide) (by decide) Hn.out (by decide)).mono ?_
      rintro e w' ⟨rfl, hw⟩
      obtain rfl := hw.symm
      go_wp2
      go_ret3
      exact ⟨rfl, hb1⟩
theorem has_noughts (w : World) : Has (w.alloc (.cells noughts 2)) w.heap.size (.slice (some ⟨w.heap.size, 0, none⟩) 16 16) (highsF (fun _ => 0) 16) := by
  have := noughts_own 0 0 w
  unfold Has
  rw [highsF_length]
  exact this
/-- The digits ahead of the noughts. -/
theorem sumA (f : Nat → Int) (nf : Nine f) (va : Value) (w2 w3 : World) (hva : Has w3 w2.drew.heap.size va (highsF f 16)) (hb3 : Below w2.drew.heap.size w2.drew w3) :
    Calls Tryd.prog 28 #[va, .slice (some ⟨w3.heap.size, 0, none⟩) 16 16, .int .i64 1] (w3.alloc (.cells noughts 2)) fun e w5 => ∃ v b, e = .returned (.tuple #[v, .int .i64 (cyF f (fun _ => 0) 1 16)]) ∧ Has w5 b v (highsF (sdF f (fun _ => 0) 1) 16) ∧ Below w2.heap.size w2 w5 := by
  have b0 : Below w3.heap.size w3 (w3.alloc (.cells noughts 2)) := (Below.refl _ _).alloc (Nat.le_refl _) _
  have hs3 : w2.heap.size ≤ w3.heap.size := hb3.size
  refine (l1Sum_any va _ f (fun _ => 0) 1 _ _ _ (hva.below b0 (Nat.le_refl _)) (has_noughts w3) nf (fun _ _ => (by decide : (0 : Int) ≤ 0 ∧ (0 : Int) ≤ 9)) (by decide) (by decide)).mono ?_
  rintro e w5 ⟨v, rfl, hv, hb5⟩
  have h1 : Below w2.heap.size w2 w3 := ⟨hb3.os, hb3.tape, hb3.output, hb3.size, hb3.block⟩
  exact ⟨v, _, rfl, hv, (h1.trans (b0.mono hs3)).trans (hb5.mono (by simp; omega))⟩
/-- The noughts ahead of the digits. -/
theorem sumB (f : Nat → Int) (nf : Nine f) (va : Value) (w2 w3 : World) (hva : Has w3 (w2.alloc (.cells noughts 2)).drew.heap.size va (highsF f 16)) (hb3 : Below (w2.alloc (.cells noughts 2)).drew.heap.size (w2.alloc (.cells noughts 2)).drew w3) :
    Calls Tryd.prog 28 #[va, .slice (some ⟨w2.heap.size, 0, none⟩) 16 16, .int .i64 1] w3 fun e w5 => ∃ v b, e = .returned (.tuple #[v, .int .i64 (cyF f (fun _ => 0) 1 16)]) ∧ Has w5 b v (highsF (sdF f (fun _ => 0) 1) 16) ∧ Below w2.heap.size w2 w5 := by
  have b0 : Below w2.heap.size w2 (w2.alloc (.cells noughts 2)) := (Below.refl _ _).alloc (Nat.le_refl _) _
  have b1 : Below (w2.alloc (.cells noughts 2)).heap.size (w2.alloc (.cells noughts 2)) w3 := ⟨hb3.os, hb3.tape, hb3.output, hb3.size, hb3.block⟩
  have hs0 := b0.size
  have hs1 := b1.size
  refine (l1Sum_any va _ f (fun _ => 0) 1 _ _ _ hva ((has_noughts w2).below b1 (Nat.le_refl _)) nf (fun _ _ => (by decide : (0 : Int) ≤ 0 ∧ (0 : Int) ≤ 9)) (by decide) (by decide)).mono ?_
  rintro e w5 ⟨v, rfl, hv, hb5⟩
  exact ⟨v, _, rfl, hv, (b0.trans (b1.mono hs0)).trans (hb5.mono (by omega))⟩
theorem ssgn_out (x k : Int) (w : World) (h : k < -5 ∨ 5 < k) :
    Calls Tryd.prog 14 #[.int .u64 x, .int .i64 k] w fun e w' => e = .returned (.tuple #[.int .u64 0, .int .i64 0, .bool false]) ∧ Below w.heap.size w w' := by
  go_enter Tryd.func14, Tryd.ntmps14
  go_wp2_with fail
  refine (l1In_no k (-5) 5 _ h).mono ?_
  rintro e w' ⟨rfl, rfl⟩
  go_wp2
  go_ret3
  exact ⟨rfl, Below.refl _ _⟩
theorem ssgn_no (x k : Int) (w : World) (x0 : 0 ≤ x) (x1 : x ≤ 18446744073709551615) (kx : Ln.okB 0 x = false) (k0 : -5 ≤ k) (k5 : k ≤ 5) :
    Calls Tryd.prog 14 #[.int .u64 x, .int .i64 k] w fun e w' => e = .returned (.tuple #[.int .u64 0, .int .i64 0, .bool false]) ∧ Below w.heap.size w w' := by
  have Kx : Hid (Ln.okB 0 x = false) := kx
  clear kx
  by_cases hk : 0 ≤ k
  · go_enter Tryd.func14, Tryd.ntmps14
    go_wp2_with fail
    refine (l1In_yes k (-5) 5 _ k0 k5).mono ?_
    rintro e w' ⟨rfl, rfl⟩
    go_wp2_with fail
    refine (smul_no x k _ x0 x1 (.inl Kx.out)).mono ?_
    rintro e w1 ⟨rfl, hb1⟩
    go_wp2
    go_ret3
    exact ⟨rfl, hb1⟩
  · go_enter Tryd.func14, Tryd.ntmps14
    go_wp2_with fail
    refine (l1In_yes k (-5) 5 _ k0 k5).mono ?_
    rintro e w' ⟨rfl, rfl⟩
    go_wp2_with fail
    refine (smul_no x (-k) _ x0 x1 (.inl Kx.out)).mono ?_
    rintro e w1 ⟨rfl, hb1⟩
    go_wp2
    go_ret3
    exact ⟨rfl, hb1⟩
theorem ssgn_yes (x k : Int) (w : World) (x0 : 0 ≤ x) (x1 : x ≤ 18446744073709551615) (kx : Ln.okB 0 x = true) (k0 : -5 ≤ k) (k5 : k ≤ 5) :
    Calls Tryd.prog 14 #[.int .u64 x, .int .i64 k] w fun e w' => e = .returned (.tuple #[.int .u64 (sgV x k), .int .i64 (sgC x k), .bool true]) ∧ Below w.heap.size w w' := by
  have Kx : Hid (Ln.okB 0 x = true) := kx
  clear kx
  unfold sgV sgC
  by_cases hk : 0 ≤ k
  · rw [if_pos hk, if_pos hk]
    go_enter Tryd.func14, Tryd.ntmps14
    go_wp2_with fail
    refine (l1In_yes k (-5) 5 _ k0 k5).mono ?_
    rintro e w' ⟨rfl, rfl⟩
    go_wp2_with fail
    refine (smul_yes x k _ x0 x1 Kx.out hk (by omega)).mono ?_
    rintro e w1 ⟨rfl, hb1⟩
    go_wp2
    go_ret3
    exact ⟨rfl, hb1⟩
  · rw [if_neg hk, if_neg hk]
    have hI : Hid (∀ W, Calls Tryd.prog 12 #[.int .u64 x, .int .i64 (-k)] W fun e w' => e = .returned (.tuple #[.int .u64 (mulV x (-k)), .int .i64 (mulC x (-k)), .bool true]) ∧ Below W.heap.size W w') := fun W => smul_yes x (-k) W x0 x1 Kx.out (by omega) (by omega)
    have hc := mulC_bd x (-k) Kx.out (by omega) (by omega)
    have hb := mulV_bd x (-k)
    have hkm : Hid (Ln.okB 0 (mulV x (-k)) = true) := mulV_ok x (-k)
    generalize mulV x (-k) = m at *
    generalize mulC x (-k) = c at *
    by_cases hm : m = 0
    · subst hm
      rw [if_pos rfl, if_pos rfl]
      go_enter Tryd.func14, Tryd.ntmps14
      go_wp2_with fail
      refine (l1In_yes k (-5) 5 _ k0 k5).mono ?_
      rintro e w' ⟨rfl, rfl⟩
      go_wp2_with fail
      refine (hI.out _).mono ?_
      rintro e w1 ⟨rfl, hb1⟩
      go_wp2
      go_ret3
      exact ⟨rfl, hb1⟩
    · rw [if_neg hm, if_neg hm]
      have hm0 : (m == 0) = false := by simpa using hm
      have hn := nine_ok m hb.1 hb.2 hkm.out
      have Hn : Hid (Ln.okB 0 (nine m) = true) := hn
      have Hnn : Hid (Nine (Ln.ln (nine m))) := ok_nine _ hn
      have hnb : 0 ≤ nine m ∧ nine m ≤ 18446744073709551615 := by unfold nine; rw [IntKind.wrap_u64]; omega
      have H1 : Hid (addV (nine m) 0 true = Sm (sdF (Ln.ln (nine m)) (fun _ => 0) 1) 16) := addV_one _
      have hmk : ∀ w, (Instr.makeSlice 32 (.int .i64 16) (.int .i64 16)).run Tryd.prog w = .ok (.slice (some ⟨w.heap.size, 0, none⟩) 16 16) (w.alloc (.cells noughts 2)) := fun _ => by kernel_rfl
      clear hn hm
      go_enter Tryd.func14, Tryd.ntmps14
      go_wp2_with fail
      refine (l1In_yes k (-5) 5 _ k0 k5).mono ?_
      rintro e w' ⟨rfl, rfl⟩
      go_wp2_with fail
      refine (hI.out _).mono ?_
      rintro e w1 ⟨rfl, hb1⟩
      have hs1 := hb1.size
      go_wp2_with fail
      refine (snines_yes m _ hb.1 hb.2 hkm.out).mono ?_
      rintro e w2 ⟨rfl, hb2⟩
      have hs2 := hb2.size
      go_wp2
      go_region_with (first
        | (go_at_call 22; refine (l1PlainDigits_any (nine m) _ hnb.1 hnb.2 Hn.out).mono ?_; rintro e w3 ⟨va, rfl, hva, hb3⟩)
        | (go_at_call 28; refine (sumA (Ln.ln (nine m)) Hnn.out va w2 w3 hva hb3).mono ?_; rintro e w5 ⟨v, b5, rfl, hv, hb5⟩)
        | (go_at_call 28; refine (sumB (Ln.ln (nine m)) Hnn.out va w2 w3 hva hb3).mono ?_; rintro e w5 ⟨v, b5, rfl, hv, hb5⟩))
      all_goals
        have hs5 := hb5.size
        go_wp2_with fail
        refine (l1Pack_plain v _ (sdF_nine _ _ _) _ _ hv).mono ?_
        rintro e w6 ⟨rfl, hb6⟩
        go_wp2
        go_ret3
        rw [H1.out]
        exact ⟨rfl, ((hb1.trans (hb2.mono hs1)).trans (hb5.mono (by omega))).trans (hb6.mono (by omega))⟩
end Go.Proofs.YtlbkhiphnllfpakDoor
