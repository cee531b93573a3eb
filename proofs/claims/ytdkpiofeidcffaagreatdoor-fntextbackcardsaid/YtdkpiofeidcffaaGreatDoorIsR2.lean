/-
  What is right in a format, by the program's isRight and NumOk, walked.
-/
import Derived.Test.YtdkpiofeidcffaaGreatDoorFinP
import Derived.Test.YtdkpiofeidcffaaGreatDoorRnd2
import Derived.Test.YtdkpiofeidcffaaGreatDoorNatS
import Derived.Test.YtdkpiofeidcffaaGreatDoorRows
import Derived.WalkKit
import Derived.Test.YtdkpiofeidcffaaGreatDoorIn
import Derived.Test.YtdkpiofeidcffaaGreatDoorCls
import Derived.BigQuiet
import Derived.Deep.QuietTactic
namespace Go.Proofs.YtdkpiofeidcffaaGreatDoor
open Go.RowKit
set_option linter.unusedVariables false
set_option maxRecDepth 100000
set_option maxRecDepth 100000 in
theorem l12Finish_zero (f mode : Int) (neg : Bool) (e : Int) (rest : Bool) (want : Int) (w : World) :
    Calls Tryz.prog 39 #[.int .i64 f, .int .i64 mode, .bool neg, .string { data := #[48] }, .int .i64 e, .bool rest, .int .i64 want] w fun x w' =>
      x = .returned (rsV 1 neg (min (limH f) (max (limL f) want)) { data := #[48] } 0) ∧ Below w.heap.size w w' := by
  have HZ : Hid (At5 (w.alloc (.cells #[.int .i64 0, .bool false, .int .i64 0, .string { data := #[] }, .int .i64 0] 30)) w.heap.size (.int .i64 0) (.bool false) (.int .i64 0) (.string { data := #[] }) (.int .i64 0) ∧ Below w.heap.size w (w.alloc (.cells #[.int .i64 0, .bool false, .int .i64 0, .string { data := #[] }, .int .i64 0] 30))) := ⟨at5_new w _ _ _ _ _, (Below.refl _ _).alloc (Nat.le_refl _) _⟩
  generalize hHi : limH f = Hi
  generalize hLo : limL f = Lo
  have HL : Hid (limH f = Hi ∧ limL f = Lo) := ⟨hHi, hLo⟩
  clear hHi hLo
  obtain ⟨R, hR⟩ : ∃ R, min Hi (max Lo want) = R := ⟨_, rfl⟩
  have HR : Hid (min Hi (max Lo want) = R) := hR
  rw [hR]
  clear hR
  go_enter Tryz.func39, Tryz.ntmps39
  go_wp2_with fail
  refine (Limits_any f _).mono ?_
  rintro x wa ⟨rfl, hwa⟩
  rw [HL.out.1, HL.out.2]
  rw [← hwa] at HZ
  clear hwa
  generalize limP f = p at *
  go_wp2_with fail
  refine (l1Max_is Lo want _).mono ?_
  rintro x wb ⟨rfl, rfl⟩
  go_wp2_with fail
  refine (l1Min_is Hi (max Lo want) _).mono ?_
  rintro x wc ⟨rfl, rfl⟩
  rw [HR.out]
  go_wp2_with fail
  refine (l12Finite_any neg { data := #[48] } R _).mono ?_
  rintro x wd ⟨rfl, hbd⟩
  have HZ3 : Hid (At5 wd w.heap.size (.int .i64 0) (.bool false) (.int .i64 0) (.string { data := #[] }) (.int .i64 0) ∧ Below w.heap.size w wd) := ⟨HZ.out.1.below hbd HZ.out.1.lt, HZ.out.2.trans (hbd.mono HZ.out.2.size)⟩
  clear hbd HZ
  obtain ⟨q0, q1, q2, q3, q4, q5⟩ := HZ3.out.1.cells
  have f0 := q5 0
  have f1 := q5 1
  have f2 := q5 2
  have f3 := q5 3
  have f4 := q5 4
  clear q5
  have hbl := build_res0 1 neg R { data := #[48] } wd
  go_wp2
  have hP := (HZ3.out.1.put (.int .i64 1) (.bool neg) (.int .i64 R) (.string { data := #[48] }) (.int .i64 0)).cells
  refine bodyPost_ret (results_res rfl _ _ rfl hP.1 hP.2.1 hP.2.2.1 hP.2.2.2.1 hP.2.2.2.2.1) rfl ?_
  exact ⟨rfl, bel_five HZ3.out.2 (Nat.le_refl _) _ _ _ _ _⟩
/-- Arguments that Finish takes. -/
def finO (f mode : Int) (s : ByteArray) (e : Int) (rest : Bool) (want : Int) : Bool :=
  (decide (f = 64 ∨ f = 128) && decide (1 ≤ mode ∧ mode ≤ 5)) && (natB 200 s && (!(s.toList == [48] && rest) && (decide (-200000 ≤ e ∧ e ≤ 200000) && decide (-200000 ≤ want ∧ want ≤ 200000))))
/-- What Finish tells: kind, exponent, digits, flags (the sign beside it). -/
def finS (f mode : Int) (neg : Bool) (s : ByteArray) (e : Int) (rest : Bool) (want : Int) : Int × Int × ByteArray × Int :=
  if finO f mode s e rest want then
    (if nv s = 0 then (1, min (limH f) (max (limL f) want), { data := #[48] }, 0) else finN (limP f).toNat (limL f) (limH f) mode neg (dl s) e rest want)
  else (0, 0, { data := #[] }, 0)
def finSB (f mode : Int) (neg : Bool) (s : ByteArray) (e : Int) (rest : Bool) (want : Int) : Bool := if finO f mode s e rest want then neg else false
end Go.Proofs.YtdkpiofeidcffaaGreatDoor
namespace Go.Proofs.YtdkpiofeidcffaaGreatDoor
open Go.RowKit
set_option linter.unusedVariables false
set_option maxRecDepth 100000
theorem digitCount_64 (w : World) : Calls Tryz.prog 167 #[.agg #[]] w fun e w' => e = .returned (.int .i64 16) ∧ Below w.heap.size w w' := by
  go_enter Tryz.func167, Tryz.ntmps167
  go_wp2
  go_ret
  exact ⟨rfl, (Below.refl _ _).alloc (Nat.le_refl _) _⟩
theorem md_digitCount_64 (n : Nat) (X : World) : (method (n + 1) 88 (.agg #[]) "loop.example/g00085/impl.digitCount").run Tryz.prog X = .ok (167, .agg #[]) X := by kernel_rfl
theorem leastExp_64 (w : World) : Calls Tryz.prog 169 #[.agg #[]] w fun e w' => e = .returned (.int .i64 (-398)) ∧ Below w.heap.size w w' := by
  go_enter Tryz.func169, Tryz.ntmps169
  go_wp2
  go_ret
  exact ⟨rfl, (Below.refl _ _).alloc (Nat.le_refl _) _⟩
theorem md_leastExp_64 (n : Nat) (X : World) : (method (n + 1) 88 (.agg #[]) "loop.example/g00085/impl.leastExp").run Tryz.prog X = .ok (169, .agg #[]) X := by kernel_rfl
theorem greatestExp_64 (w : World) : Calls Tryz.prog 168 #[.agg #[]] w fun e w' => e = .returned (.int .i64 369) ∧ Below w.heap.size w w' := by
  go_enter Tryz.func168, Tryz.ntmps168
  go_wp2
  go_ret
  exact ⟨rfl, (Below.refl _ _).alloc (Nat.le_refl _) _⟩
theorem md_greatestExp_64 (n : Nat) (X : World) : (method (n + 1) 88 (.agg #[]) "loop.example/g00085/impl.greatestExp").run Tryz.prog X = .ok (168, .agg #[]) X := by kernel_rfl
theorem fmtOf_64 (w : World) : Calls Tryz.prog 25 #[.int .i64 64] w fun e w' => e = .returned (.tuple #[.iface 88 (.agg #[]), .bool true]) ∧ w' = w := by
  go_enter Tryz.func25, Tryz.ntmps25
  go_wp2
  go_ret2
  exact ⟨rfl, rfl⟩
theorem digitCount_128 (w : World) : Calls Tryz.prog 172 #[.agg #[]] w fun e w' => e = .returned (.int .i64 34) ∧ Below w.heap.size w w' := by
  go_enter Tryz.func172, Tryz.ntmps172
  go_wp2
  go_ret
  exact ⟨rfl, (Below.refl _ _).alloc (Nat.le_refl _) _⟩
theorem md_digitCount_128 (n : Nat) (X : World) : (method (n + 1) 89 (.agg #[]) "loop.example/g00085/impl.digitCount").run Tryz.prog X = .ok (172, .agg #[]) X := by kernel_rfl
theorem leastExp_128 (w : World) : Calls Tryz.prog 174 #[.agg #[]] w fun e w' => e = .returned (.int .i64 (-6176)) ∧ Below w.heap.size w w' := by
  go_enter Tryz.func174, Tryz.ntmps174
  go_wp2
  go_ret
  exact ⟨rfl, (Below.refl _ _).alloc (Nat.le_refl _) _⟩
theorem md_leastExp_128 (n : Nat) (X : World) : (method (n + 1) 89 (.agg #[]) "loop.example/g00085/impl.leastExp").run Tryz.prog X = .ok (174, .agg #[]) X := by kernel_rfl
theorem greatestExp_128 (w : World) : Calls Tryz.prog 173 #[.agg #[]] w fun e w' => e = .returned (.int .i64 6111) ∧ Below w.heap.size w w' := by
  go_enter Tryz.func173, Tryz.ntmps173
  go_wp2
  go_ret
  exact ⟨rfl, (Below.refl _ _).alloc (Nat.le_refl _) _⟩
theorem md_greatestExp_128 (n : Nat) (X : World) : (method (n + 1) 89 (.agg #[]) "loop.example/g00085/impl.greatestExp").run Tryz.prog X = .ok (173, .agg #[]) X := by kernel_rfl
theorem fmtOf_128 (w : World) : Calls Tryz.prog 25 #[.int .i64 128] w fun e w' => e = .returned (.tuple #[.iface 89 (.agg #[]), .bool true]) ∧ w' = w := by
  go_enter Tryz.func25, Tryz.ntmps25
  go_wp2
  go_ret2
  exact ⟨rfl, rfl⟩
theorem fmtOf_no (f : Int) (w : World) (h1 : f ≠ 64) (h2 : f ≠ 128) : Calls Tryz.prog 25 #[.int .i64 f] w fun e w' => e = .returned (.tuple #[.nilIface, .bool false]) ∧ w' = w := by
  have e1 : (f == 64) = false := beq_eq_false_iff_ne.2 h1
  have e2 : (f == 128) = false := beq_eq_false_iff_ne.2 h2
  go_enter Tryz.func25, Tryz.ntmps25
  go_wp2
  go_ret2
  exact ⟨rfl, rfl⟩
end Go.Proofs.YtdkpiofeidcffaaGreatDoor
namespace Go.Proofs.YtdkpiofeidcffaaGreatDoor
open Go.RowKit
set_option linter.unusedVariables false
set_option maxRecDepth 100000
end Go.Proofs.YtdkpiofeidcffaaGreatDoor
namespace Go.Proofs.YtdkpiofeidcffaaGreatDoor
open Go.RowKit
set_option linter.unusedVariables false
set_option maxRecDepth 100000
/-- What l12Finish tells: kind, exponent, digits, flags (the sign beside it). -/
def finD (f mode : Int) (neg : Bool) (ds : List Int) (e : Int) (rest : Bool) (want : Int) : Int × Int × ByteArray × Int :=
  if ds = [0] then (1, min (limH f) (max (limL f) want), { data := #[48] }, 0) else finN (limP f).toNat (limL f) (limH f) mode neg ds e rest want
/-- A Result of such a word. -/
abbrev rsD (neg : Bool) (F : Int × Int × ByteArray × Int) : Value := rsV F.1 neg F.2.1 F.2.2.1 F.2.2.2
/-- l12Finish answers so (proved in FinB). -/
def FinOK (f mode : Int) : Prop := ∀ (neg : Bool) (ds : List Int) (e : Int) (rest : Bool) (want : Int) (w : World), Canon ds → ds.length ≤ 200 → (-200000 ≤ e ∧ e ≤ 200000) → (-200000 ≤ want ∧ want ≤ 200000) →
    Calls Tryz.prog 39 #[.int .i64 f, .int .i64 mode, .bool neg, .string (tx ds), .int .i64 e, .bool rest, .int .i64 want] w fun x w' => x = .returned (rsD neg (finD f mode neg ds e rest want)) ∧ Below w.heap.size w w'
theorem lims (f : Int) (hf : f = 64 ∨ f = 128) : limP f ≤ 34 ∧ -6176 ≤ limL f ∧ limH f ≤ 6111 := by
  rcases hf with rfl | rfl <;> decide
end Go.Proofs.YtdkpiofeidcffaaGreatDoor
namespace Go.Proofs.YtdkpiofeidcffaaGreatDoor
open Go.RowKit
set_option linter.unusedVariables false
set_option maxRecDepth 100000
set_option linter.unusedSimpArgs false
set_option maxHeartbeats 4000000 in
theorem isNatural_any (s : ByteArray) (n : Int) (w : World) (hs : s.size ≤ 4611686018427387904) :
    Calls Tryz.prog 73 #[.string s, .int .i64 n] w fun e w' => e = .returned (.bool (natB n s)) ∧ w' = w := by
  by_cases hA : s.size < 1
  · have E : Hid (natB n s = false) := natB_empty n s hA
    have h1 : (s.size : Int) = 0 := by omega
    clear hA
    go_enter Tryz.func73, Tryz.ntmps73
    go_wp2
    go_ret
    exact ⟨Ln.ret_bool E.out.symm, rfl⟩
  have h1 : ((s.size : Int) == 0) = false := beq_eq_false_iff_ne.2 (by omega)
  have h0 : 0 < s.size := by omega
  by_cases hB : n < (s.size : Int)
  · have E : Hid (natB n s = false) := natB_long n s hB
    go_enter Tryz.func73, Tryz.ntmps73
    go_wp2
    go_ret
    exact ⟨Ln.ret_bool E.out.symm, rfl⟩
  have h2' : decide (n < (s.size : Int)) = false := by simpa using hB
  have HG : Hid ((∀ k (hk : k < s.size), 48 ≤ (s[k]'hk).toNat ∧ (s[k]'hk).toNat ≤ 57) → (s.size ≤ 1 ∨ (s[0]'h0).toNat ≠ 48) → natB n s = true) := fun h hc => natB_good n s h0 (by omega) hc h
  have HZ : Hid (1 < s.size → (s[0]'h0).toNat = 48 → natB n s = false) := fun h hz => natB_zero n s h hz
  have HB : Hid (∀ k (hk : k < s.size), ((s[k]'hk).toNat < 48 ∨ 57 < (s[k]'hk).toNat) → natB n s = false) := fun k hk h => natB_bad n s k hk h
  clear hA hB
  generalize natB n s = r at *
  go_enter Tryz.func73, Tryz.ntmps73
  go_wp2
  go_loop [17] (fun i => ∃ k : Nat, k ≤ s.size ∧ i = .int .i64 k ∧ Hid (∀ q (hq : q < s.size), q < k → 48 ≤ (s[q]'hq).toNat ∧ (s[q]'hq).toNat ≤ 57)) (fun i => s.size - (intOf i).toNat)
  case atStart => exact ⟨0, Nat.zero_le _, rfl, fun q hq h => absurd h (Nat.not_lt_zero q)⟩
  case round =>
    obtain ⟨k, hk, rfl, hz⟩ := hrel
    by_cases hlt : k < s.size
    · have hlt' : (k : Int) < (s.size : Int) := by omega
      by_cases hlo : (s[k]'hlt).toNat < 48
      · have hl' : ((s[k]'hlt).toNat : Int) < 48 := by omega
        go_wp2
        go_ret
        exact ⟨Ln.ret_bool (HB.out k hlt (.inl hlo)).symm, rfl⟩
      · have hl' : ¬ ((s[k]'hlt).toNat : Int) < 48 := by omega
        have hl'' : decide (((s[k]'hlt).toNat : Int) < 48) = false := decide_eq_false hl'
        by_cases hhi : 57 < (s[k]'hlt).toNat
        · have hh' : (57 : Int) < ((s[k]'hlt).toNat : Int) := by omega
          go_wp2
          go_ret
          exact ⟨Ln.ret_bool (HB.out k hlt (.inr hhi)).symm, rfl⟩
        · have hh' : ¬ (57 : Int) < ((s[k]'hlt).toNat : Int) := by omega
          go_wp2
          go_round
          case rel => exact ⟨k + 1, by omega, by go_num, fun q hq h => by rcases Nat.lt_or_ge q k with c | c; exact hz.out q hq c; obtain rfl : q = k := (by omega); omega⟩
          case measure => simp [intOf]; omega
    · have hkk : ¬ (k : Int) < (s.size : Int) := by omega
      have HA : Hid (∀ q (hq : q < s.size), 48 ≤ (s[q]'hq).toNat ∧ (s[q]'hq).toNat ≤ 57) := fun q hq => hz.out q hq (by omega)
      clear hz
      by_cases h3 : s.size ≤ 1
      · have h3' : (s.size : Int) = 1 := by omega
        have E : Hid (r = true) := HG.out HA.out (.inl h3)
        clear h3
        go_wp2
        go_ret
        exact ⟨Ln.ret_bool E.out.symm, rfl⟩
      · have h3' : ((s.size : Int) == 1) = false := beq_eq_false_iff_ne.2 (by omega)
        by_cases h4 : (s[0]'h0).toNat = 48
        · have h4' : ((s[0]'h0).toNat : Int) = 48 := by omega
          have E : Hid (r = false) := HZ.out (by omega) h4
          clear h4
          go_wp2
          go_ret
          exact ⟨Ln.ret_bool E.out.symm, rfl⟩
        · have h4' : (((s[0]'h0).toNat : Int) == 48) = false := beq_eq_false_iff_ne.2 (by omega)
          have E : Hid (r = true) := HG.out HA.out (.inr h4)
          have h4'' : Hid ((((s[0]'h0).toNat : Int) != 48) = true) := by show _ = _; rw [bne, h4']; rfl
          go_wp2
          go_ret
          exact ⟨Ln.ret_bool (by rw [h4''.out, E.out]), rfl⟩
/-- A number's box. -/
abbrev nbq (w : World) (k : Int) (b : Bool) (e : Int) (s : ByteArray) : World := w.alloc (.cells #[.int .i64 k, .bool b, .int .i64 e, .string s] 25)
theorem nbq_cells {w W : World} {k : Int} {b : Bool} {e : Int} {s : ByteArray} (h : Below (w.heap.size + 1) (nbq w k b e s) W) : W.cell? ⟨w.heap.size, 0, none⟩ = some (.int .i64 k) ∧ W.cell? ⟨w.heap.size, 1, none⟩ = some (.bool b) ∧ W.cell? ⟨w.heap.size, 2, none⟩ = some (.int .i64 e) ∧ W.cell? ⟨w.heap.size, 3, none⟩ = some (.string s) := by
  refine ⟨?_, ?_, ?_, ?_⟩
  · rw [h.cell (p := ⟨w.heap.size, 0, none⟩) (by simp)]; simp
  · rw [h.cell (p := ⟨w.heap.size, 1, none⟩) (by simp)]; simp
  · rw [h.cell (p := ⟨w.heap.size, 2, none⟩) (by simp)]; simp
  · rw [h.cell (p := ⟨w.heap.size, 3, none⟩) (by simp)]; simp
theorem nbq_out {w W : World} {k : Int} {b : Bool} {e : Int} {s : ByteArray} (h : Below (w.heap.size + 1) (nbq w k b e s) W) : Below w.heap.size w W := ((Below.refl _ _).alloc (Nat.le_refl _) _).trans (h.mono (by omega))
theorem nbq_next {w W w1 : World} {k : Int} {b : Bool} {e : Int} {s : ByteArray} (h : Below (w.heap.size + 1) (nbq w k b e s) W) (hb : Below W.heap.size W w1) : Below (w.heap.size + 1) (nbq w k b e s) w1 := h.trans (hb.mono (by have := h.size; simp at this; omega))
end Go.Proofs.YtdkpiofeidcffaaGreatDoor
namespace Go.Proofs.YtdkpiofeidcffaaGreatDoor
open Go.RowKit
set_option linter.unusedVariables false
set_option maxRecDepth 100000
set_option linter.unusedSimpArgs false
set_option maxRecDepth 100000 in
set_option maxHeartbeats 4000000 in
theorem isRight_fin64 (b : Bool) (e : Int) (s : ByteArray) (w : World) (hs : s.size ≤ 4611686018427387904) :
    Calls Tryz.prog 41 #[.iface 88 (.agg #[]), numV 1 b e s] w fun r w' => r = .returned (.bool (natB 16 s && (decide (-398 ≤ e) && decide (e ≤ 369)))) ∧ Below w.heap.size w w' := by
  have HX0 : Hid (Below (w.heap.size + 1) (nbq w 1 b e s) (nbq w 1 b e s).drew) := (Below.refl _ _).drew
  have HNt : Hid (∀ X, Calls Tryz.prog 73 #[.string s, .int .i64 16] X fun e w' => e = .returned (.bool (natB 16 s)) ∧ w' = X) := fun X => isNatural_any s 16 X hs
  generalize natB 16 s = nb at *
  cases nb with
  | false =>
    go_enter Tryz.func41, Tryz.ntmps41
    go_upto_region 3 with fail
    refine wp_region_class (C := fun W => Below (w.heap.size + 1) (nbq w 1 b e s) W) (by kernel_rfl) (by kernel_rfl) HX0.out ?_
    repeat (refine wpQuiet_step (fun K hK => ?_); go_simp; first | (refine hK _ ?_; clear hK K) | (apply Exists.intro; refine ⟨fun wx hC => ?_, hK _ ?_⟩; (first | exact rfl | exact (HNt.out wx).mono (fun _ _ h => ⟨h.1, by rw [h.2]; exact hC⟩) | (simp only [md_digitCount_64, md_leastExp_64, md_greatestExp_64]; go_simp; first | exact Calls.class_of (digitCount_64 wx) (fun w' hb => nbq_next hC hb) | exact Calls.class_of (leastExp_64 wx) (fun w' hb => nbq_next hC hb) | exact Calls.class_of (greatestExp_64 wx) (fun w' hb => nbq_next hC hb)) | (obtain ⟨q0, q1, q2, q3⟩ := nbq_cells hC; go_simp; exact rfl)); clear hK K))
    refine wpQuiet_nil ?_
    intro w1 hb1
    go_wp2
    go_ret
    exact ⟨rfl, nbq_out hb1⟩
  | true =>
    by_cases h1 : -398 ≤ e
    · have E : Hid ((true && (decide ((-398 : Int) ≤ e) && decide (e ≤ 369))) = decide (e ≤ 369)) := by show _ = _; rw [decide_eq_true h1]; rfl
      rw [E.out]
      go_enter Tryz.func41, Tryz.ntmps41
      go_upto_region 3 with fail
      refine wp_region_class (C := fun W => Below (w.heap.size + 1) (nbq w 1 b e s) W) (by kernel_rfl) (by kernel_rfl) HX0.out ?_
      repeat (refine wpQuiet_step (fun K hK => ?_); go_simp; first | (refine hK _ ?_; clear hK K) | (apply Exists.intro; refine ⟨fun wx hC => ?_, hK _ ?_⟩; (first | exact rfl | exact (HNt.out wx).mono (fun _ _ h => ⟨h.1, by rw [h.2]; exact hC⟩) | (simp only [md_digitCount_64, md_leastExp_64, md_greatestExp_64]; go_simp; first | exact Calls.class_of (digitCount_64 wx) (fun w' hb => nbq_next hC hb) | exact Calls.class_of (leastExp_64 wx) (fun w' hb => nbq_next hC hb) | exact Calls.class_of (greatestExp_64 wx) (fun w' hb => nbq_next hC hb)) | (obtain ⟨q0, q1, q2, q3⟩ := nbq_cells hC; go_simp; exact rfl)); clear hK K))
      refine wpQuiet_nil ?_
      intro w1 hb1
      go_wp2
      go_ret
      exact ⟨rfl, nbq_out hb1⟩
    · have E : Hid ((true && (decide ((-398 : Int) ≤ e) && decide (e ≤ 369))) = false) := by show _ = _; rw [decide_eq_false h1]; rfl
      rw [E.out]
      go_enter Tryz.func41, Tryz.ntmps41
      go_upto_region 3 with fail
      refine wp_region_class (C := fun W => Below (w.heap.size + 1) (nbq w 1 b e s) W) (by kernel_rfl) (by kernel_rfl) HX0.out ?_
      repeat (refine wpQuiet_step (fun K hK => ?_); go_simp; first | (refine hK _ ?_; clear hK K) | (apply Exists.intro; refine ⟨fun wx hC => ?_, hK _ ?_⟩; (first | exact rfl | exact (HNt.out wx).mono (fun _ _ h => ⟨h.1, by rw [h.2]; exact hC⟩) | (simp only [md_digitCount_64, md_leastExp_64, md_greatestExp_64]; go_simp; first | exact Calls.class_of (digitCount_64 wx) (fun w' hb => nbq_next hC hb) | exact Calls.class_of (leastExp_64 wx) (fun w' hb => nbq_next hC hb) | exact Calls.class_of (greatestExp_64 wx) (fun w' hb => nbq_next hC hb)) | (obtain ⟨q0, q1, q2, q3⟩ := nbq_cells hC; go_simp; exact rfl)); clear hK K))
      refine wpQuiet_nil ?_
      intro w1 hb1
      go_wp2
      go_ret
      exact ⟨rfl, nbq_out hb1⟩
set_option maxRecDepth 100000 in
set_option maxHeartbeats 4000000 in
theorem isRight_fin128 (b : Bool) (e : Int) (s : ByteArray) (w : World) (hs : s.size ≤ 4611686018427387904) :
    Calls Tryz.prog 41 #[.iface 89 (.agg #[]), numV 1 b e s] w fun r w' => r = .returned (.bool (natB 34 s && (decide (-6176 ≤ e) && decide (e ≤ 6111)))) ∧ Below w.heap.size w w' := by
  have HX0 : Hid (Below (w.heap.size + 1) (nbq w 1 b e s) (nbq w 1 b e s).drew) := (Below.refl _ _).drew
  have HNt : Hid (∀ X, Calls Tryz.prog 73 #[.string s, .int .i64 34] X fun e w' => e = .returned (.bool (natB 34 s)) ∧ w' = X) := fun X => isNatural_any s 34 X hs
  generalize natB 34 s = nb at *
  cases nb with
  | false =>
    go_enter Tryz.func41, Tryz.ntmps41
    go_upto_region 3 with fail
    refine wp_region_class (C := fun W => Below (w.heap.size + 1) (nbq w 1 b e s) W) (by kernel_rfl) (by kernel_rfl) HX0.out ?_
    repeat (refine wpQuiet_step (fun K hK => ?_); go_simp; first | (refine hK _ ?_; clear hK K) | (apply Exists.intro; refine ⟨fun wx hC => ?_, hK _ ?_⟩; (first | exact rfl | exact (HNt.out wx).mono (fun _ _ h => ⟨h.1, by rw [h.2]; exact hC⟩) | (simp only [md_digitCount_128, md_leastExp_128, md_greatestExp_128]; go_simp; first | exact Calls.class_of (digitCount_128 wx) (fun w' hb => nbq_next hC hb) | exact Calls.class_of (leastExp_128 wx) (fun w' hb => nbq_next hC hb) | exact Calls.class_of (greatestExp_128 wx) (fun w' hb => nbq_next hC hb)) | (obtain ⟨q0, q1, q2, q3⟩ := nbq_cells hC; go_simp; exact rfl)); clear hK K))
    refine wpQuiet_nil ?_
    intro w1 hb1
    go_wp2
    go_ret
    exact ⟨rfl, nbq_out hb1⟩
  | true =>
    by_cases h1 : -6176 ≤ e
    · have E : Hid ((true && (decide ((-6176 : Int) ≤ e) && decide (e ≤ 6111))) = decide (e ≤ 6111)) := by show _ = _; rw [decide_eq_true h1]; rfl
      rw [E.out]
      go_enter Tryz.func41, Tryz.ntmps41
      go_upto_region 3 with fail
      refine wp_region_class (C := fun W => Below (w.heap.size + 1) (nbq w 1 b e s) W) (by kernel_rfl) (by kernel_rfl) HX0.out ?_
      repeat (refine wpQuiet_step (fun K hK => ?_); go_simp; first | (refine hK _ ?_; clear hK K) | (apply Exists.intro; refine ⟨fun wx hC => ?_, hK _ ?_⟩; (first | exact rfl | exact (HNt.out wx).mono (fun _ _ h => ⟨h.1, by rw [h.2]; exact hC⟩) | (simp only [md_digitCount_128, md_leastExp_128, md_greatestExp_128]; go_simp; first | exact Calls.class_of (digitCount_128 wx) (fun w' hb => nbq_next hC hb) | exact Calls.class_of (leastExp_128 wx) (fun w' hb => nbq_next hC hb) | exact Calls.class_of (greatestExp_128 wx) (fun w' hb => nbq_next hC hb)) | (obtain ⟨q0, q1, q2, q3⟩ := nbq_cells hC; go_simp; exact rfl)); clear hK K))
      refine wpQuiet_nil ?_
      intro w1 hb1
      go_wp2
      go_ret
      exact ⟨rfl, nbq_out hb1⟩
    · have E : Hid ((true && (decide ((-6176 : Int) ≤ e) && decide (e ≤ 6111))) = false) := by show _ = _; rw [decide_eq_false h1]; rfl
      rw [E.out]
      go_enter Tryz.func41, Tryz.ntmps41
      go_upto_region 3 with fail
      refine wp_region_class (C := fun W => Below (w.heap.size + 1) (nbq w 1 b e s) W) (by kernel_rfl) (by kernel_rfl) HX0.out ?_
      repeat (refine wpQuiet_step (fun K hK => ?_); go_simp; first | (refine hK _ ?_; clear hK K) | (apply Exists.intro; refine ⟨fun wx hC => ?_, hK _ ?_⟩; (first | exact rfl | exact (HNt.out wx).mono (fun _ _ h => ⟨h.1, by rw [h.2]; exact hC⟩) | (simp only [md_digitCount_128, md_leastExp_128, md_greatestExp_128]; go_simp; first | exact Calls.class_of (digitCount_128 wx) (fun w' hb => nbq_next hC hb) | exact Calls.class_of (leastExp_128 wx) (fun w' hb => nbq_next hC hb) | exact Calls.class_of (greatestExp_128 wx) (fun w' hb => nbq_next hC hb)) | (obtain ⟨q0, q1, q2, q3⟩ := nbq_cells hC; go_simp; exact rfl)); clear hK K))
      refine wpQuiet_nil ?_
      intro w1 hb1
      go_wp2
      go_ret
      exact ⟨rfl, nbq_out hb1⟩
theorem isRight_oth64 (k : Int) (b : Bool) (e : Int) (s : ByteArray) (w : World) (hs : s.size ≤ 4611686018427387904) (hk : k ≠ 1) :
    Calls Tryz.prog 41 #[.iface 88 (.agg #[]), numV k b e s] w fun r w' => r = .returned (.bool (numB 64 k b e s)) ∧ Below w.heap.size w w' := by
  have HB : Hid (Below w.heap.size w (nbq w k b e s)) := (Below.refl _ _).alloc (Nat.le_refl _) _
  have k1 : (k == 1) = false := beq_eq_false_iff_ne.2 hk
  have h0 : limP 64 ≠ 0 := by decide
  by_cases k2 : k = 2
  · subst k2
    clear hk
    by_cases he : e = 0
    · subst he
      have E : Hid (numB 64 2 b 0 s = s.toList.isEmpty) := by show _ = _; unfold numB; rw [if_neg h0, if_neg (by decide), if_pos rfl]; rfl
      clear h0
      go_enter Tryz.func41, Tryz.ntmps41
      go_wp2
      go_ret
      exact ⟨Ln.ret_bool E.out.symm, HB.out⟩
    · have he' : (e == 0) = false := by simpa using he
      have E : Hid (numB 64 2 b e s = false) := by show _ = _; unfold numB; rw [if_neg h0, if_neg (by decide), if_pos rfl, decide_eq_false he]; rfl
      clear h0
      go_enter Tryz.func41, Tryz.ntmps41
      go_wp2
      go_ret
      exact ⟨Ln.ret_bool E.out.symm, HB.out⟩
  have k2b : (k == 2) = false := beq_eq_false_iff_ne.2 k2
  by_cases k34 : k = 3 ∨ k = 4
  · have E0 : Hid (numB 64 k b e s = (decide (e = 0) && (s.toList.isEmpty && !b))) := by show _ = _; unfold numB; rw [if_neg h0, if_neg hk, if_neg k2, if_pos k34]
    generalize numB 64 k b e s = R at *
    clear h0 hk k2
    by_cases he : e = 0
    · subst he
      cases hb : s.toList.isEmpty with
      | false =>
        have E : Hid (R = false) := by show _ = _; rw [E0.out, hb]; rfl
        rcases k34 with rfl | rfl
        all_goals
          go_enter Tryz.func41, Tryz.ntmps41
          go_wp2
          go_ret
          exact ⟨Ln.ret_bool E.out.symm, HB.out⟩
      | true =>
        have E : Hid (R = !b) := by show _ = _; rw [E0.out, hb]; rfl
        rcases k34 with rfl | rfl
        all_goals
          go_enter Tryz.func41, Tryz.ntmps41
          go_wp2
          go_ret
          exact ⟨Ln.ret_bool E.out.symm, HB.out⟩
    · have he' : (e == 0) = false := by simpa using he
      have E : Hid (R = false) := by show _ = _; rw [E0.out, decide_eq_false he]; rfl
      clear he
      rcases k34 with rfl | rfl
      all_goals
        go_enter Tryz.func41, Tryz.ntmps41
        go_wp2
        go_ret
        exact ⟨Ln.ret_bool E.out.symm, HB.out⟩
  · have k3b : (k == 3) = false := beq_eq_false_iff_ne.2 (fun h => k34 (.inl h))
    have k4b : (k == 4) = false := beq_eq_false_iff_ne.2 (fun h => k34 (.inr h))
    have E : Hid (numB 64 k b e s = false) := by show _ = _; unfold numB; rw [if_neg h0, if_neg hk, if_neg k2, if_neg k34]
    clear h0 hk k2 k34
    go_enter Tryz.func41, Tryz.ntmps41
    go_wp2
    go_ret
    exact ⟨Ln.ret_bool E.out.symm, HB.out⟩
theorem isRight_64 (k : Int) (b : Bool) (e : Int) (s : ByteArray) (w : World) (hs : s.size ≤ 4611686018427387904) :
    Calls Tryz.prog 41 #[.iface 88 (.agg #[]), numV k b e s] w fun r w' => r = .returned (.bool (numB 64 k b e s)) ∧ Below w.heap.size w w' := by
  by_cases hk : k = 1
  · subst hk
    have E : numB 64 1 b e s = (natB 16 s && (decide (-398 ≤ e) && decide (e ≤ 369))) := by unfold numB; rw [if_neg (by decide), if_pos rfl]; rfl
    rw [E]
    exact isRight_fin64 b e s w hs
  · exact isRight_oth64 k b e s w hs hk
theorem iNumOk_64 (k : Int) (b : Bool) (e : Int) (s : ByteArray) (w : World) (hs : s.size ≤ 4611686018427387904) :
    Calls Tryz.prog 14 #[.int .i64 64, numV k b e s] w fun r w' => r = .returned (.bool (numB 64 k b e s)) ∧ Below w.heap.size w w' := by
  have HI : Hid (∀ X, Calls Tryz.prog 41 #[.iface 88 (.agg #[]), numV k b e s] X fun r w' => r = .returned (.bool (numB 64 k b e s)) ∧ Below X.heap.size X w') := fun X => isRight_64 k b e s X hs
  have HB : Hid (Below (w.heap.size + 1) (nbq w k b e s) (nbq w k b e s)) := Below.refl _ _
  generalize numB 64 k b e s = R at *
  go_enter Tryz.func14, Tryz.ntmps14
  go_wp2_with fail
  refine (fmtOf_64 _).mono ?_
  rintro r w1 ⟨rfl, hw⟩
  subst hw
  go_wp2_with fail
  refine (HI.out _).mono ?_
  rintro r w2 ⟨rfl, hb⟩
  have hB2 := nbq_next HB.out hb
  go_wp2
  go_ret
  exact ⟨rfl, nbq_out hB2⟩
theorem isRight_oth128 (k : Int) (b : Bool) (e : Int) (s : ByteArray) (w : World) (hs : s.size ≤ 4611686018427387904) (hk : k ≠ 1) :
    Calls Tryz.prog 41 #[.iface 89 (.agg #[]), numV k b e s] w fun r w' => r = .returned (.bool (numB 128 k b e s)) ∧ Below w.heap.size w w' := by
  have HB : Hid (Below w.heap.size w (nbq w k b e s)) := (Below.refl _ _).alloc (Nat.le_refl _) _
  have k1 : (k == 1) = false := beq_eq_false_iff_ne.2 hk
  have h0 : limP 128 ≠ 0 := by decide
  by_cases k2 : k = 2
  · subst k2
    clear hk
    by_cases he : e = 0
    · subst he
      have E : Hid (numB 128 2 b 0 s = s.toList.isEmpty) := by show _ = _; unfold numB; rw [if_neg h0, if_neg (by decide), if_pos rfl]; rfl
      clear h0
      go_enter Tryz.func41, Tryz.ntmps41
      go_wp2
      go_ret
      exact ⟨Ln.ret_bool E.out.symm, HB.out⟩
    · have he' : (e == 0) = false := by simpa using he
      have E : Hid (numB 128 2 b e s = false) := by show _ = _; unfold numB; rw [if_neg h0, if_neg (by decide), if_pos rfl, decide_eq_false he]; rfl
      clear h0
      go_enter Tryz.func41, Tryz.ntmps41
      go_wp2
      go_ret
      exact ⟨Ln.ret_bool E.out.symm, HB.out⟩
  have k2b : (k == 2) = false := beq_eq_false_iff_ne.2 k2
  by_cases k34 : k = 3 ∨ k = 4
  · have E0 : Hid (numB 128 k b e s = (decide (e = 0) && (s.toList.isEmpty && !b))) := by show _ = _; unfold numB; rw [if_neg h0, if_neg hk, if_neg k2, if_pos k34]
    generalize numB 128 k b e s = R at *
    clear h0 hk k2
    by_cases he : e = 0
    · subst he
      cases hb : s.toList.isEmpty with
      | false =>
        have E : Hid (R = false) := by show _ = _; rw [E0.out, hb]; rfl
        rcases k34 with rfl | rfl
        all_goals
          go_enter Tryz.func41, Tryz.ntmps41
          go_wp2
          go_ret
          exact ⟨Ln.ret_bool E.out.symm, HB.out⟩
      | true =>
        have E : Hid (R = !b) := by show _ = _; rw [E0.out, hb]; rfl
        rcases k34 with rfl | rfl
        all_goals
          go_enter Tryz.func41, Tryz.ntmps41
          go_wp2
          go_ret
          exact ⟨Ln.ret_bool E.out.symm, HB.out⟩
    · have he' : (e == 0) = false := by simpa using he
      have E : Hid (R = false) := by show _ = _; rw [E0.out, decide_eq_false he]; rfl
      clear he
      rcases k34 with rfl | rfl
      all_goals
        go_enter Tryz.func41, Tryz.ntmps41
        go_wp2
        go_ret
        exact ⟨Ln.ret_bool E.out.symm, HB.out⟩
  · have k3b : (k == 3) = false := beq_eq_false_iff_ne.2 (fun h => k34 (.inl h))
    have k4b : (k == 4) = false := beq_eq_false_iff_ne.2 (fun h => k34 (.inr h))
    have E : Hid (numB 128 k b e s = false) := by show _ = _; unfold numB; rw [if_neg h0, if_neg hk, if_neg k2, if_neg k34]
    clear h0 hk k2 k34
    go_enter Tryz.func41, Tryz.ntmps41
    go_wp2
    go_ret
    exact ⟨Ln.ret_bool E.out.symm, HB.out⟩
theorem isRight_128 (k : Int) (b : Bool) (e : Int) (s : ByteArray) (w : World) (hs : s.size ≤ 4611686018427387904) :
    Calls Tryz.prog 41 #[.iface 89 (.agg #[]), numV k b e s] w fun r w' => r = .returned (.bool (numB 128 k b e s)) ∧ Below w.heap.size w w' := by
  by_cases hk : k = 1
  · subst hk
    have E : numB 128 1 b e s = (natB 34 s && (decide (-6176 ≤ e) && decide (e ≤ 6111))) := by unfold numB; rw [if_neg (by decide), if_pos rfl]; rfl
    rw [E]
    exact isRight_fin128 b e s w hs
  · exact isRight_oth128 k b e s w hs hk
theorem iNumOk_128 (k : Int) (b : Bool) (e : Int) (s : ByteArray) (w : World) (hs : s.size ≤ 4611686018427387904) :
    Calls Tryz.prog 14 #[.int .i64 128, numV k b e s] w fun r w' => r = .returned (.bool (numB 128 k b e s)) ∧ Below w.heap.size w w' := by
  have HI : Hid (∀ X, Calls Tryz.prog 41 #[.iface 89 (.agg #[]), numV k b e s] X fun r w' => r = .returned (.bool (numB 128 k b e s)) ∧ Below X.heap.size X w') := fun X => isRight_128 k b e s X hs
  have HB : Hid (Below (w.heap.size + 1) (nbq w k b e s) (nbq w k b e s)) := Below.refl _ _
  generalize numB 128 k b e s = R at *
  go_enter Tryz.func14, Tryz.ntmps14
  go_wp2_with fail
  refine (fmtOf_128 _).mono ?_
  rintro r w1 ⟨rfl, hw⟩
  subst hw
  go_wp2_with fail
  refine (HI.out _).mono ?_
  rintro r w2 ⟨rfl, hb⟩
  have hB2 := nbq_next HB.out hb
  go_wp2
  go_ret
  exact ⟨rfl, nbq_out hB2⟩
theorem iNumOk_any (f k : Int) (b : Bool) (e : Int) (s : ByteArray) (w : World) (hs : s.size ≤ 4611686018427387904) :
    Calls Tryz.prog 14 #[.int .i64 f, numV k b e s] w fun r w' => r = .returned (.bool (numB f k b e s)) ∧ Below w.heap.size w w' := by
  by_cases h1 : f = 64
  · subst h1; exact iNumOk_64 k b e s w hs
  by_cases h2 : f = 128
  · subst h2; exact iNumOk_128 k b e s w hs
  have E : Hid (numB f k b e s = false) := by show _ = _; unfold numB limP; rw [if_neg h1, if_neg h2, if_pos rfl]
  have HB : Hid (Below (w.heap.size + 1) (nbq w k b e s) (nbq w k b e s)) := Below.refl _ _
  go_enter Tryz.func14, Tryz.ntmps14
  go_wp2_with fail
  refine (fmtOf_no f _ h1 h2).mono ?_
  rintro r w1 ⟨rfl, hw⟩
  subst hw
  go_wp2
  go_ret
  exact ⟨Ln.ret_bool E.out.symm, nbq_out HB.out⟩
end Go.Proofs.YtdkpiofeidcffaaGreatDoor
