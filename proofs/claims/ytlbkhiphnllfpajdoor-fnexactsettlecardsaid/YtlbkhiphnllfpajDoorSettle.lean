/-
  What Settle and SaveZero answer, for the program and for its model alike, walked.
-/
import Derived.Test.YtlbkhiphnllfpajDoorAdd2
import Derived.Test.YtlbkhiphnllfpajDoorRecM
import Derived.Test.YtlbkhiphnllfpajDoorTwM
namespace Go.Proofs.YtlbkhiphnllfpajDoor
open Go.RowKit
set_option linter.unusedVariables false
/-- A word in fours as a plain word. -/
def pl (x : Int) : Int := recV 1 0 x
theorem pl_ok (x : Int) : Ln.okB 0 (pl x) = true := (rec_ok 1 0 x (by decide) (ok_four x)).1
theorem pl_bd (x : Int) : 0 ≤ pl x ∧ pl x ≤ 18446744073709551615 := (rec_ok 1 0 x (by decide) (ok_four x)).2.2
theorem pl_digits (x : Int) : digits 1 x = highsF (Ln.ln (pl x)) 16 := by
  rw [← (rec_ok 1 0 x (by decide) (ok_four x)).2.1]
  rw [digits_highsF 0 (recV 1 0 x) (pl_ok x), plain_dig]
  rfl
/-- What a pair in fours is, settled: the plain word. -/
def stV (s k : Int) : Int := addV (pl s) (pl k) false
/-- What a pair in fours is, settled: what leaves. -/
def stC (s k : Int) : Int := cyF (Ln.ln (pl s)) (Ln.ln (pl k)) 0 16
theorem stC_bd (s k : Int) : 0 ≤ stC s k ∧ stC s k ≤ 1 := cyF_bd _ _ _ (ok_nine _ (pl_ok s)) (ok_nine _ (pl_ok k)) (by decide) (by decide) 16 (Nat.le_refl _)
theorem stC_bool (s k : Int) : (addC (pl s) (pl k) false = true ∧ stC s k = 1) ∨ (addC (pl s) (pl k) false = false ∧ stC s k = 0) := by
  have h := stC_bd s k
  have e : addC (pl s) (pl k) false = (stC s k == 1) := rfl
  rw [e]
  rcases (show stC s k = 0 ∨ stC s k = 1 by omega) with h | h
  · exact .inr ⟨by rw [h]; rfl, h⟩
  · exact .inl ⟨by rw [h]; rfl, h⟩
theorem irec_pl (x : Int) (w : World) (ht : Tab w) (hz : 0 < w.heap.size) (h0 : 0 ≤ x) (h1 : x ≤ 18446744073709551615) :
    Calls Tryd.prog 18 #[.int .i64 2, .int .i64 1, .int .u64 x] w fun e w' => e = .returned (.tuple #[.int .u64 (pl x), .bool (Ln.okB 1 x)]) ∧ Below w.heap.size w w' :=
  irec_any 1 0 x w ht hz (by decide) (by decide) h0 h1
theorem settlePair_any (s k : Int) (w : World) (ht : Tab w) (hz : 0 < w.heap.size) (s0 : 0 ≤ s) (s1 : s ≤ 18446744073709551615) (k0 : 0 ≤ k) (k1 : k ≤ 18446744073709551615) :
    Calls Tryd.prog 13 #[.int .u64 s, .int .u64 k] w fun e w' => e = .returned (.tuple #[.int .u64 (stV s k), .bool (addC (pl s) (pl k) false)]) ∧ Below w.heap.size w w' := by
  go_enter Tryd.func13, Tryd.ntmps13
  go_wp2_with fail
  refine (irec_pl s _ ht hz s0 s1).mono ?_
  rintro e w1 ⟨rfl, hb1⟩
  have hs1 := hb1.size
  have ht1 := ht.below hb1 hz
  go_wp2_with fail
  refine (irec_pl k _ ht1 (by omega) k0 k1).mono ?_
  rintro e w2 ⟨rfl, hb2⟩
  have hb : Below w.heap.size w w2 := hb1.trans (hb2.mono hs1)
  have ht2 := ht.below hb hz
  go_wp2_with fail
  refine (iadd_yes (pl s) (pl k) false _ ht2 (pl_bd s).1 (pl_bd s).2 (pl_bd k).1 (pl_bd k).2 (pl_ok s) (pl_ok k)).mono ?_
  rintro e w' ⟨rfl, rfl⟩
  go_wp2
  go_ret2
  exact ⟨rfl, hb⟩
/-- The program's Settle. -/
theorem isettle_in (s k n : Int) (w : World) (ht : Tab w) (hz : 0 < w.heap.size) (s0 : 0 ≤ s) (s1 : s ≤ 18446744073709551615) (k0 : 0 ≤ k) (k1 : k ≤ 18446744073709551615) (n0 : 0 ≤ n) (n1 : n ≤ 128) :
    Calls Tryd.prog 6 #[.int .u64 s, .int .u64 k, .int .i64 n] w fun e w' => e = .returned (.tuple #[.int .u64 (stV s k), .int .i64 (n + stC s k)]) ∧ Below w.heap.size w w' := by
  have hc := settlePair_any s k
  rcases stC_bool s k with ⟨ha, hb⟩ | ⟨ha, hb⟩
  all_goals
    rw [ha] at hc
    have Hc : Hid (∀ W, Tab W → 0 < W.heap.size → Calls Tryd.prog 13 #[.int .u64 s, .int .u64 k] W fun e w' => e = .returned (.tuple #[.int .u64 (stV s k), .bool _]) ∧ Below W.heap.size W w') := fun W hT hZ => hc W hT hZ s0 s1 k0 k1
    have Hb : Hid (stC s k = _) := hb
    clear ha hb hc
    go_enter Tryd.func6, Tryd.ntmps6
    go_wp2_with fail
    refine (Hc.out _ ht hz).mono ?_
    rintro e w1 ⟨rfl, hb1⟩
    go_wp2
    go_ret2
    exact ⟨by rw [Hb.out]; first | rfl | (rw [Int.add_zero]; rfl), hb1⟩
theorem isettle_out (s k n : Int) (w : World) (hn : n < 0 ∨ 128 < n) :
    Calls Tryd.prog 6 #[.int .u64 s, .int .u64 k, .int .i64 n] w fun e w' => e = .returned (.tuple #[.int .u64 0, .int .i64 0]) ∧ w' = w := by
  rcases hn with h | h
  · go_enter Tryd.func6, Tryd.ntmps6
    go_wp2
    go_ret2
    exact ⟨rfl, rfl⟩
  · have h0 : ¬ n < 0 := by omega
    go_enter Tryd.func6, Tryd.ntmps6
    go_wp2
    go_ret2
    exact ⟨rfl, rfl⟩
theorem izero_any (s k : Int) (w : World) (ht : Tab w) (hz : 0 < w.heap.size) (s0 : 0 ≤ s) (s1 : s ≤ 18446744073709551615) (k0 : 0 ≤ k) (k1 : k ≤ 18446744073709551615) :
    Calls Tryd.prog 8 #[.int .u64 s, .int .u64 k] w fun e w' => e = .returned (.bool (stV s k == 0)) ∧ Below w.heap.size w w' := by
  go_enter Tryd.func8, Tryd.ntmps8
  go_wp2_with fail
  refine (settlePair_any s k _ ht hz s0 s1 k0 k1).mono ?_
  rintro e w1 ⟨rfl, hb1⟩
  go_wp2
  go_ret
  exact ⟨rfl, hb1⟩
theorem sdigits_four (x : Int) (w : World) (h0 : 0 ≤ x) (h1 : x ≤ 18446744073709551615) :
    Calls Tryd.prog 11 #[.int .i64 2, .int .u64 x] w fun e w' => ∃ v, e = .returned v ∧ Has w' w.heap.size v (highsF (Ln.ln (pl x)) 16) ∧ Below w.heap.size w w' := by
  have := sdigits_any 1 x w (by decide) h0 h1
  rw [pl_digits] at this
  exact this
/-- The model's Settle. -/
theorem ssettle_in (s k n : Int) (w : World) (s0 : 0 ≤ s) (s1 : s ≤ 18446744073709551615) (k0 : 0 ≤ k) (k1 : k ≤ 18446744073709551615) (n0 : 0 ≤ n) (n1 : n ≤ 128) :
    Calls Tryd.prog 5 #[.int .u64 s, .int .u64 k, .int .i64 n] w fun e w' => e = .returned (.tuple #[.int .u64 (stV s k), .int .i64 (n + stC s k)]) ∧ Below w.heap.size w w' := by
  have hcb := stC_bd s k
  go_enter Tryd.func5, Tryd.ntmps5
  go_wp2_with fail
  refine (l1In_yes n 0 128 _ n0 n1).mono ?_
  rintro e w' ⟨rfl, hw⟩
  obtain rfl := hw.symm
  go_wp2_with fail
  refine (sdigits_four s _ s0 s1).mono ?_
  rintro e w1 ⟨va, rfl, hva, hb1⟩
  have hs1 := hb1.size
  go_wp2_with fail
  refine (sdigits_four k _ k0 k1).mono ?_
  rintro e w2 ⟨vb, rfl, hvb, hb2⟩
  have hs2 := hb2.size
  have hva2 := hva.below hb2 (Nat.le_refl _)
  clear hva
  go_wp2_with fail
  refine (l1Sum_any va vb (Ln.ln (pl s)) (Ln.ln (pl k)) 0 _ _ _ hva2 hvb (ok_nine _ (pl_ok s)) (ok_nine _ (pl_ok k)) (by decide) (by decide)).mono ?_
  rintro e w3 ⟨v, rfl, hv, hb3⟩
  have hs3 := hb3.size
  have E : Hid (cyF (Ln.ln (pl s)) (Ln.ln (pl k)) 0 16 = stC s k) := rfl
  rw [E.out]
  clear hva2 hvb
  go_wp2_with fail
  refine (l1Pack_plain v _ (sdF_nine _ _ _) _ _ hv).mono ?_
  rintro e w4 ⟨rfl, hb4⟩
  have hb : Below w.heap.size w w4 := ((hb1.trans (hb2.mono hs1)).trans (hb3.mono (by omega))).trans (hb4.mono (by omega))
  clear hb1 hb2 hb3 hb4 hv
  go_wp2
  go_ret2
  exact ⟨rfl, hb⟩
theorem ssettle_out (s k n : Int) (w : World) (hn : n < 0 ∨ 128 < n) :
    Calls Tryd.prog 5 #[.int .u64 s, .int .u64 k, .int .i64 n] w fun e w' => e = .returned (.tuple #[.int .u64 0, .int .i64 0]) ∧ w' = w := by
  go_enter Tryd.func5, Tryd.ntmps5
  go_wp2_with fail
  refine (l1In_no n 0 128 _ hn).mono ?_
  rintro e w' ⟨rfl, hw⟩
  obtain rfl := hw.symm
  go_wp2
  go_ret2
  exact ⟨rfl, rfl⟩
theorem szero_any (s k : Int) (w : World) (s0 : 0 ≤ s) (s1 : s ≤ 18446744073709551615) (k0 : 0 ≤ k) (k1 : k ≤ 18446744073709551615) :
    Calls Tryd.prog 7 #[.int .u64 s, .int .u64 k] w fun e w' => e = .returned (.bool (stV s k == 0)) ∧ Below w.heap.size w w' := by
  go_enter Tryd.func7, Tryd.ntmps7
  go_wp2_with fail
  refine (ssettle_in s k 0 _ s0 s1 k0 k1 (by decide) (by decide)).mono ?_
  rintro e w1 ⟨rfl, hb1⟩
  go_wp2
  go_ret
  exact ⟨rfl, hb1⟩
end Go.Proofs.YtlbkhiphnllfpajDoor
