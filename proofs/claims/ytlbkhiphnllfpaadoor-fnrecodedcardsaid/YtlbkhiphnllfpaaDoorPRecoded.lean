/-
  A drawn word, recoded, stands for the same, and recoded back from a first form it is itself, whatever the code that it is drawn from.
  The card ties the listed package-level variables to the program's text, in the pruned copy that the seat holds; it says nothing of the project's other packages, commands or tests.
-/
import Derived.Test.YtlbkhiphnllfpaaDoorCards
import Derived.Test.YtlbkhiphnllfpaaDoorTie
import Derived.WalkKit
import Derived.ProofKit
import Derived.OpenShut
import Derived.ShutString
import Derived.ChangeOld
import Derived.Below
import Derived.OpenVars
import Derived.LaidMore
import Derived.Stop.Joined
import Derived.Test.YtlbkhiphnllfpaaDoorDraw6
import Derived.Test.YtlbkhiphnllfpaaDoorRecM
import Derived.Test.YtlbkhiphnllfpaaDoorRow
import Derived.Test.YtlbkhiphnllfpaaDoorDoor
namespace Go.Proofs.YtlbkhiphnllfpaaDoor.fnRecoded
open Go.ChangeShapes Go.WideShapes Go.ChangeAt Go.RowKit
set_option linter.unusedVariables false

theorem walk (a0 : Option Addr) (len0 cap0 : Nat) (z0 : List Int) (w : World) (w0 : IsRow .u8 w a0 len0 cap0 z0) (ht : Tab w ∧ 0 < w.heap.size) :
    Calls Tryd.prog 3 #[.slice a0 len0 cap0] w fun e w' => e = .returned (.bool true) ∧ Below w.heap.size w w' := by
  by_cases hbig : 4096 < len0
  · clear w0
    go_enter Tryd.func3, Tryd.ntmps3
    go_wp2_with fail
    refine (big_yes _ _ _ _ hbig).mono ?_
    rintro e w' ⟨rfl, rfl⟩
    go_wp2
    go_ret
    exact ⟨rfl, Below.refl _ _⟩
  have hB : Hid (Bytes w.heap.size w a0 len0) := bytes_of_row w0
  clear w0
  go_enter Tryd.func3, Tryd.ntmps3
  go_wp2_with fail
  refine (big_no _ _ _ _ hbig).mono ?_
  rintro e w' ⟨rfl, hw⟩
  obtain rfl := hw.symm
  go_wp2_with fail
  refine (DrawRecode_any _ _ _ _ (by omega) hB.out).mono ?_
  rintro e w1 ⟨f, t, x, rfl, hf, htt, hx, hb1⟩
  have hs1 := hb1.size
  have ht1 := ht.1.below hb1 ht.2
  have hz1 : 0 < w1.heap.size := by have := ht.2; omega
  by_cases hbad : (f < 1 ∨ 3 < f) ∨ (t < 1 ∨ 3 < t) ∨ Ln.okB (f - 1).toNat x = false
  · have hS : (∀ W, Calls Tryd.prog 9 #[.int .i64 f, .int .i64 t, .int .u64 x] W fun e w' => e = .returned (.tuple #[.int .u64 0, .bool false]) ∧ Below W.heap.size W w') ∧
        (∀ W, Tab W → 0 < W.heap.size → Calls Tryd.prog 8 #[.int .i64 f, .int .i64 t, .int .u64 x] W fun e w' => e = .returned (.tuple #[.int .u64 0, .bool false]) ∧ Below W.heap.size W w') := by
      by_cases hf' : f < 1 ∨ 3 < f
      · exact ⟨fun W => srec_from _ _ _ W hf', fun W _ _ => irec_from _ _ _ W hf'⟩
      · obtain ⟨m, hm0⟩ := Int.eq_ofNat_of_zero_le (show 0 ≤ f - 1 by omega)
        obtain rfl : f = (m : Int) + 1 := by omega
        have hm : m < 3 := by omega
        by_cases ht' : t < 1 ∨ 3 < t
        · exact ⟨fun W => srec_to m t x W hm ht' hx.1 hx.2, fun W hT hz => irec_to m t x W hT hz hm ht' hx.1 hx.2⟩
        · obtain ⟨n, hn0⟩ := Int.eq_ofNat_of_zero_le (show 0 ≤ t - 1 by omega)
          obtain rfl : t = (n : Int) + 1 := by omega
          have hn : n < 3 := by omega
          have hk : Ln.okB m x = false := by
            rcases hbad with h | h | h
            · exact absurd h hf'
            · exact absurd h ht'
            · rw [hm0, Int.toNat_natCast] at h; exact h
          have e0 : recV m n x = 0 := by unfold recV; rw [hk]; rfl
          have a := fun W => srec_any m n x W hm hn hx.1 hx.2
          have b := fun W hT hz => irec_any m n x W hT hz hm hn hx.1 hx.2
          rw [e0, hk] at a b
          exact ⟨a, b⟩
    have Hs : Hid (∀ W, Calls Tryd.prog 9 #[.int .i64 f, .int .i64 t, .int .u64 x] W fun e w' => e = .returned (.tuple #[.int .u64 0, .bool false]) ∧ Below W.heap.size W w') := hS.1
    have Hi : Hid (∀ W, Tab W → 0 < W.heap.size → Calls Tryd.prog 8 #[.int .i64 f, .int .i64 t, .int .u64 x] W fun e w' => e = .returned (.tuple #[.int .u64 0, .bool false]) ∧ Below W.heap.size W w') := hS.2
    clear hS hbad
    go_wp2_with fail
    refine (Hi.out _ ht1 hz1).mono ?_
    rintro e w2 ⟨rfl, hb2⟩
    have hs2 := hb2.size
    go_wp2_with fail
    refine (Hs.out _).mono ?_
    rintro e w3 ⟨rfl, hb3⟩
    have hbf : Below w.heap.size w w3 := (hb1.trans (hb2.mono hs1)).trans (hb3.mono (by omega))
    go_wp2
    go_ret
    exact ⟨rfl, hbf⟩
  obtain ⟨m, hm0⟩ := Int.eq_ofNat_of_zero_le (show 0 ≤ f - 1 by omega)
  obtain rfl : f = (m : Int) + 1 := by omega
  obtain ⟨n, hn0⟩ := Int.eq_ofNat_of_zero_le (show 0 ≤ t - 1 by omega)
  obtain rfl : t = (n : Int) + 1 := by omega
  have hm : m < 3 := by omega
  have hn : n < 3 := by omega
  have K : Hid (Ln.okB m x = true) := by
    rw [Hid]
    cases h : Ln.okB m x with
    | true => rfl
    | false => exact absurd (.inr (.inr (by rw [hm0, Int.toNat_natCast]; exact h))) hbad
  clear hbad hm0 hn0 hf htt
  obtain ⟨kr, dr, hr⟩ := rec_ok m n x hn K.out
  have hyy := rec_again m n n x hn K.out
  have hzz := rec_again m n m x hn K.out
  have hrr : recV m n x = Ln.packN n (digits m x) := by unfold recV; rw [K.out, if_pos rfl]
  have hl16 : (digits m x).length = 16 := by unfold digits; rw [K.out, if_pos rfl, highs_length]
  have hok := okDs_digits m x
  have hpv : Ln.packV m (digits m x) = Ln.packN m (digits m x) := by unfold Ln.packV; rw [hok, if_pos rfl]
  have i1 := fun W hT hz => irec_any m n x W hT hz hm hn hx.1 hx.2
  have i2 := fun W => srec_any m n x W hm hn hx.1 hx.2
  have i3 := fun W hT hz => irec_any n n (recV m n x) W hT hz hn hn hr.1 hr.2
  have i4 := fun W hT hz => irec_any n m (recV m n x) W hT hz hn hm hr.1 hr.2
  have i5 := fun W hT hz => idigits_any m x W hT hz hm hx.1 hx.2
  have i6 := fun W v base hT h => ipack_any m v (digits m x) base W hT hm h
  have i7 := fun W hT => iok_yes n (recV m n x) W hT hn hr.1 hr.2
  have i8 := fun W hT hz => idigits_any n (recV m n x) W hT hz hn hr.1 hr.2
  rw [K.out] at i1 i2
  rw [kr, hyy, ← hrr] at i3
  rw [kr, hzz] at i4
  rw [hpv, hok] at i6
  rw [kr] at i7
  rw [dr] at i8
  obtain ⟨r, hr0⟩ : ∃ r, r = recV m n x := ⟨_, rfl⟩
  obtain ⟨p, hp0⟩ : ∃ p, p = Ln.packN m (digits m x) := ⟨_, rfl⟩
  obtain ⟨D, hD0⟩ : ∃ D, D = digits m x := ⟨_, rfl⟩
  rw [← hr0] at i1 i2 i3 i4 i7 i8
  rw [← hp0] at i4 i6
  rw [← hD0] at i5 i6 i8 hl16
  clear hr0 hp0 hD0 hyy hzz hrr hok hpv kr dr hr
  have I1 : Hid (∀ W, Tab W → 0 < W.heap.size → Calls Tryd.prog 8 #[.int .i64 ((m : Int) + 1), .int .i64 ((n : Int) + 1), .int .u64 x] W fun e w' => e = .returned (.tuple #[.int .u64 r, .bool true]) ∧ Below W.heap.size W w') := i1
  have I2 : Hid (∀ W, Calls Tryd.prog 9 #[.int .i64 ((m : Int) + 1), .int .i64 ((n : Int) + 1), .int .u64 x] W fun e w' => e = .returned (.tuple #[.int .u64 r, .bool true]) ∧ Below W.heap.size W w') := i2
  have I3 : Hid (∀ W, Tab W → 0 < W.heap.size → Calls Tryd.prog 8 #[.int .i64 ((n : Int) + 1), .int .i64 ((n : Int) + 1), .int .u64 r] W fun e w' => e = .returned (.tuple #[.int .u64 r, .bool true]) ∧ Below W.heap.size W w') := i3
  have I4 : Hid (∀ W, Tab W → 0 < W.heap.size → Calls Tryd.prog 8 #[.int .i64 ((n : Int) + 1), .int .i64 ((m : Int) + 1), .int .u64 r] W fun e w' => e = .returned (.tuple #[.int .u64 p, .bool true]) ∧ Below W.heap.size W w') := i4
  have I5 : Hid (∀ W, Tab W → 0 < W.heap.size → Calls Tryd.prog 10 #[.int .i64 ((m : Int) + 1), .int .u64 x] W fun e w' => ∃ v, e = .returned v ∧ Has w' W.heap.size v D ∧ Below W.heap.size W w') := i5
  have I6 : Hid (∀ W v base, Tab W → Has W base v D → Calls Tryd.prog 11 #[.int .i64 ((m : Int) + 1), v] W fun e w' => e = .returned (.tuple #[.int .u64 p, .bool true]) ∧ w' = W) := i6
  have I7 : Hid (∀ W, Tab W → Calls Tryd.prog 12 #[.int .i64 ((n : Int) + 1), .int .u64 r] W fun e w' => e = .returned (.bool true) ∧ w' = W) := i7
  have I8 : Hid (∀ W, Tab W → 0 < W.heap.size → Calls Tryd.prog 10 #[.int .i64 ((n : Int) + 1), .int .u64 r] W fun e w' => ∃ v, e = .returned v ∧ Has w' W.heap.size v D ∧ Below W.heap.size W w') := i8
  have HL : Hid (D.length = 16) := hl16
  clear i1 i2 i3 i4 i5 i6 i7 i8 hl16
  go_wp2_with fail
  refine (I1.out _ ht1 hz1).mono ?_
  rintro e w2 ⟨rfl, hb2⟩
  have hb02 : Below w.heap.size w w2 := hb1.trans (hb2.mono hs1)
  have hs2 := hb02.size
  have ht2 := ht.1.below hb02 ht.2
  go_wp2_with fail
  refine (I2.out _).mono ?_
  rintro e w3 ⟨rfl, hb3⟩
  have hb03 : Below w.heap.size w w3 := hb02.trans (hb3.mono (by omega))
  have hs3 := hb03.size
  have ht3 := ht.1.below hb03 ht.2
  go_wp2_with fail
  refine (I3.out _ ht3 (by omega)).mono ?_
  rintro e w4 ⟨rfl, hb4⟩
  have hb04 : Below w.heap.size w w4 := hb03.trans (hb4.mono (by omega))
  have hs4 := hb04.size
  have ht4 := ht.1.below hb04 ht.2
  go_wp2_with fail
  refine (I4.out _ ht4 (by omega)).mono ?_
  rintro e w5 ⟨rfl, hb5⟩
  have hb05 : Below w.heap.size w w5 := hb04.trans (hb5.mono (by omega))
  have hs5 := hb05.size
  have ht5 := ht.1.below hb05 ht.2
  go_wp2_with fail
  refine (I5.out _ ht5 (by omega)).mono ?_
  rintro e w6 ⟨v, rfl, hv, hb6⟩
  have hb06 : Below w.heap.size w w6 := hb05.trans (hb6.mono (by omega))
  have hs6 := hb06.size
  have ht6 := ht.1.below hb06 ht.2
  obtain ⟨va, vc, hvv, -⟩ := hv.len
  rw [HL.out] at hvv
  rw [hvv] at hv ⊢
  clear hvv
  go_wp2_with fail
  refine (I6.out _ _ _ ht6 hv).mono ?_
  rintro e w' ⟨rfl, rfl⟩
  go_wp2_with fail
  refine (I7.out _ ht6).mono ?_
  rintro e w' ⟨rfl, rfl⟩
  go_wp2_with fail
  refine (I8.out _ ht6 (by omega)).mono ?_
  rintro e w7 ⟨v2, rfl, hv2, hb7⟩
  have hb07 : Below w.heap.size w w7 := hb06.trans (hb7.mono (by omega))
  have hs7 := hb07.size
  go_wp2_with fail
  refine (like_same _ _ D _ _ _ hv2 (hv.below hb7 (Nat.le_refl _))).mono ?_
  rintro e w8 ⟨rfl, hb8⟩
  have hbf : Below w.heap.size w w8 := hb07.trans (hb8.mono (by omega))
  go_wp2
  go_ret
  exact ⟨rfl, hbf⟩

/-- The door's own heap meets the condition. -/
theorem door_met (os : Os) (args : Array Value) : laidMetH Tryd.prog Rows.fnRecodedRow.laid ((World.doorLaid Tryd.prog 400 os).forCall (fun _ _ => 0) ⟨#[], args, []⟩).memory :=
  laidMetH_of_parts3 (fuel := 8) (laidMet_of_run' 8 (by kernel_rfl) (by kernel_rfl)) (by kernel_rfl) (by kernel_rfl)

set_option maxRecDepth 100000 in
theorem lifted (os : Os) (started : os.Started) (H : Type) (enc : TypeId × Value → H) :
    ReturnsInHanded {} Tryd.checked os 3 .any (fun w args => (Rows.fnRecodedSpec.pre enc Tryd.prog Tryd.f3 [] false w args ∧ laidMetH Tryd.prog Rows.fnRecodedRow.laid w) ∧ sizedMet enc Tryd.prog Tryd.f3 (OpenSpec.ofChange Rows.fnRecodedSpec) false w args)
      (Rows.fnRecodedSpec.post enc Tryd.prog Tryd.f3 false true false false) := by
  refine returnsInHanded_of_change_and (C := Tryd.checked) (X := fun w _ => laidMetH Tryd.prog Rows.fnRecodedRow.laid w) (fun _ _ _ hh h => h.of_heap hh) own started (by kernel_rfl) Tryd.func3
    (ChangeSpec.witness_shaped (enc := enc) (C := Tryd.checked) (os := os) (X := fun w _ => laidMetH Tryd.prog Rows.fnRecodedRow.laid w) false (World.doorLaid Tryd.prog 400 os) #[.slice none 0 0] 8 rfl (World.shaped_of_RefB (by kernel_rfl) (by kernel_rfl)) (by kernel_rfl) (by kernel_rfl) (by kernel_rfl) (door_met os _)) ?_
  intro W base args ds gs before hval0 hW _ _ hL _
  have hval : ∀ (j : Nat) t v, Tryd.f3.params[j]? = some t → args[j]? = some v → Value.okWide Tryd.prog W .any base t v := hval0
  have hW' := hW
  obtain ⟨p, q, hA0, hV, rfl, hfz, hnd⟩ := hW
  have hA : DataW.TrodAll enc Tryd.prog W 0 (fun _ => true) true Tryd.f3.params.toList args.toList ds p := hA0
  rw [Tryd.params3] at hA hval
  obtain ⟨v0, vs0, d0, ds0, p0, q0, hargs, rfl, rfl, h0, r0⟩ := trodAll_cons hA
  obtain ⟨rfl, rfl, rfl⟩ := trodAll_nil r0
  obtain rfl : args = #[v0] := by cases args; simp_all
  obtain ⟨a0, len0, cap0, rfl⟩ := okWide_slice Tryd.underlying22 (hval 0 22 v0 rfl rfl)
  have k0 := h0
  have lt0 : ∀ x ∈ p0, x.block < W.heap.size := by obtain ⟨m, hm⟩ := k0; exact DataW.trod_lt m _ _ _ hm
  obtain ⟨z0, w0⟩ : ∃ zs, IsRow .u8 W a0 len0 cap0 zs := by
    obtain ⟨fuel, hf⟩ := h0
    rcases open_ints Tryd.underlying22 Tryd.underlying5 (by kernel_rfl) hf with ⟨hcs, _⟩ | ⟨x, l, c, zs, hcs, _, hl, hm, hz, _, hcell, hwz⟩
    · simp [Value.cells] at hcs
      obtain ⟨rfl, rfl, rfl⟩ := hcs
      exact ⟨[], .inl ⟨rfl, rfl, rfl, rfl⟩⟩
    · simp [Value.cells] at hcs
      obtain ⟨rfl, rfl, rfl⟩ := hcs
      exact ⟨zs, .inr ⟨_, rfl, hl, hm, by simpa using hz, hcell, hwz⟩⟩
  rw [MakeChecks.laidMetH_plain _ _ _ (by kernel_rfl)] at hL
  have ht := tab_of_laid hL
  obtain ⟨g0, rfl⟩ : ∃ g0, gs = [g0] := vars1 hV
  clear hA0 hval0
  refine (walk a0 len0 cap0 z0 W w0 ht).mono fun e W' ⟨he, bel⟩ => ?_
  subst he
  exact ⟨_, rfl, _, _, _, [], _, _, hW', trodAll_mk1 (shut_bool Tryd.underlying4 _), (trodAll_cons_mk (Below.trod laidOut (by kernel_rfl) (of_decide_eq_true (by kernel_rfl)) k0 bel lt0) trodAll_mk0), Below.trodVars laidOut bel (by kernel_rfl) hV, bel.frame _, fun h => by cases h⟩

theorem said : Rows.FnRecodedSaid :=
  OpenClaim.holds_of_wide 3 Tryd.f3 rfl rfl rfl rfl rfl rfl rfl ⟨rfl, rfl, rfl, rfl, rfl⟩ rfl rfl rfl rfl rfl (by kernel_rfl) Tryd.func3 (by kernel_rfl)
    (of_decide_eq_true (by kernel_rfl)) (by unfold Func.isWrapper; first | (rw [if_pos (by decide +kernel)]; kernel_rfl) | (rw [if_neg (by decide +kernel)]; exact ⟨rfl, rfl⟩))
    (fun os started H enc _ => lifted os started H enc)

/-- No parameter wants a stand-in; the program's own looks are off. -/
theorem plain (f : FuncId) (fn : Func) (hf : Tryd.pinned.checked.prog.funcNamed "loop.example/g00085/laws.FnRecoded" = some f) (hfn : Tryd.pinned.checked.prog.funcs[f]? = some fn) :
    false = Tryd.pinned.checked.prog.looks [] ∧ ∀ (j : Nat) t, fn.params[j]? = some t → Tryd.pinned.checked.prog.wantsStandIn t = false := by
  obtain rfl : f = 3 := Option.some.inj ((show Tryd.prog.funcNamed "loop.example/g00085/laws.FnRecoded" = some 3 by kernel_rfl).symm.trans hf) |>.symm
  obtain rfl : fn = Tryd.f3 := (Option.some.inj (Tryd.func3.symm.trans hfn)).symm
  refine ⟨by kernel_rfl, fun j t ht => ?_⟩
  rw [Tryd.params3] at ht
  have hm : t = 22 := by simpa using Array.mem_of_getElem? ht
  subst hm
  · exact (show Tryd.prog.wantsStandIn 22 = false by kernel_rfl)
end Go.Proofs.YtlbkhiphnllfpaaDoor.fnRecoded
namespace Go.Proofs.YtlbkhiphnllfpaaDoor
/-- The given statement: the card. -/
theorem fnRecoded_card : Rows.FnRecodedCardSaid :=
  Claim7.holds_tied_plain_at .later [] _ _ _ _ fnRecoded.said (fun _ h => by cases h) (by kernel_rfl) (fun _ h => by cases h) fnRecoded_row_tie rfl ⟨rfl, rfl⟩ (by kernel_rfl) rfl fnRecoded.plain (by kernel_rfl)
#print axioms fnRecoded_card
end Go.Proofs.YtlbkhiphnllfpaaDoor
