/-
  The model's finishing of digits, nought or not, told by one word.
-/
import Derived.Test.YtnkoeidolmiheaaGreatDoorIsR2
import Derived.Test.YtnkoeidolmiheaaGreatDoorRnd2
import Derived.Test.YtnkoeidolmiheaaGreatDoorNatS
namespace Go.Proofs.YtnkoeidolmiheaaGreatDoor
open Go.RowKit
set_option linter.unusedVariables false
set_option maxRecDepth 100000
set_option maxRecDepth 100000 in
theorem l12Finish_zero (f mode : Int) (neg : Bool) (e : Int) (rest : Bool) (want : Int) (w : World) :
    Calls Tryz.prog 62 #[.int .i64 f, .int .i64 mode, .bool neg, .string { data := #[48] }, .int .i64 e, .bool rest, .int .i64 want] w fun x w' =>
      x = .returned (rsV 1 neg (min (limH f) (max (limL f) want)) { data := #[48] } 0) ∧ Below w.heap.size w w' := by
  have HZ : Hid (At5 (w.alloc (.cells #[.int .i64 0, .bool false, .int .i64 0, .string { data := #[] }, .int .i64 0] 29)) w.heap.size (.int .i64 0) (.bool false) (.int .i64 0) (.string { data := #[] }) (.int .i64 0) ∧ Below w.heap.size w (w.alloc (.cells #[.int .i64 0, .bool false, .int .i64 0, .string { data := #[] }, .int .i64 0] 29))) := ⟨at5_new w _ _ _ _ _, (Below.refl _ _).alloc (Nat.le_refl _) _⟩
  generalize hHi : limH f = Hi
  generalize hLo : limL f = Lo
  have HL : Hid (limH f = Hi ∧ limL f = Lo) := ⟨hHi, hLo⟩
  clear hHi hLo
  obtain ⟨R, hR⟩ : ∃ R, min Hi (max Lo want) = R := ⟨_, rfl⟩
  have HR : Hid (min Hi (max Lo want) = R) := hR
  rw [hR]
  clear hR
  go_enter Tryz.func62, Tryz.ntmps62
  go_wp2_with fail
  refine (Limits_any f _).mono ?_
  rintro x wa ⟨rfl, hwa⟩
  rw [HL.out.1, HL.out.2]
  rw [← hwa] at HZ
  clear hwa
  generalize limP f = p at *
  go_wp2_with fail
  refine (l1Max_is Lo want _).mono ?_
  rintro x wb ⟨rfl, rfl⟩
  go_wp2_with fail
  refine (l1Min_is Hi (max Lo want) _).mono ?_
  rintro x wc ⟨rfl, rfl⟩
  rw [HR.out]
  go_wp2_with fail
  refine (l12Finite_any neg { data := #[48] } R _).mono ?_
  rintro x wd ⟨rfl, hbd⟩
  have HZ3 : Hid (At5 wd w.heap.size (.int .i64 0) (.bool false) (.int .i64 0) (.string { data := #[] }) (.int .i64 0) ∧ Below w.heap.size w wd) := ⟨HZ.out.1.below hbd HZ.out.1.lt, HZ.out.2.trans (hbd.mono HZ.out.2.size)⟩
  clear hbd HZ
  obtain ⟨q0, q1, q2, q3, q4, q5⟩ := HZ3.out.1.cells
  have f0 := q5 0
  have f1 := q5 1
  have f2 := q5 2
  have f3 := q5 3
  have f4 := q5 4
  clear q5
  have hbl := build_res0 1 neg R { data := #[48] } wd
  go_wp2
  have hP := (HZ3.out.1.put (.int .i64 1) (.bool neg) (.int .i64 R) (.string { data := #[48] }) (.int .i64 0)).cells
  refine bodyPost_ret (results_res rfl _ _ rfl hP.1 hP.2.1 hP.2.2.1 hP.2.2.2.1 hP.2.2.2.2.1) rfl ?_
  exact ⟨rfl, bel_five HZ3.out.2 (Nat.le_refl _) _ _ _ _ _⟩
/-- Arguments that Finish takes. -/
def finO (f mode : Int) (s : ByteArray) (e : Int) (rest : Bool) (want : Int) : Bool :=
  (decide (f = 64 ∨ f = 128) && decide (1 ≤ mode ∧ mode ≤ 5)) && (natB 200 s && (!(s.toList == [48] && rest) && (decide (-200000 ≤ e ∧ e ≤ 200000) && decide (-200000 ≤ want ∧ want ≤ 200000))))
/-- What Finish tells: kind, exponent, digits, flags (the sign beside it). -/
def finS (f mode : Int) (neg : Bool) (s : ByteArray) (e : Int) (rest : Bool) (want : Int) : Int × Int × ByteArray × Int :=
  if finO f mode s e rest want then
    (if nv s = 0 then (1, min (limH f) (max (limL f) want), { data := #[48] }, 0) else finN (limP f).toNat (limL f) (limH f) mode neg (dl s) e rest want)
  else (0, 0, { data := #[] }, 0)
def finSB (f mode : Int) (neg : Bool) (s : ByteArray) (e : Int) (rest : Bool) (want : Int) : Bool := if finO f mode s e rest want then neg else false
end Go.Proofs.YtnkoeidolmiheaaGreatDoor
namespace Go.Proofs.YtnkoeidolmiheaaGreatDoor
open Go.RowKit
set_option linter.unusedVariables false
set_option maxRecDepth 100000
/-- What l12Finish tells: kind, exponent, digits, flags (the sign beside it). -/
def finD (f mode : Int) (neg : Bool) (ds : List Int) (e : Int) (rest : Bool) (want : Int) : Int × Int × ByteArray × Int :=
  if ds = [0] then (1, min (limH f) (max (limL f) want), { data := #[48] }, 0) else finN (limP f).toNat (limL f) (limH f) mode neg ds e rest want
/-- A Result of such a word. -/
abbrev rsD (neg : Bool) (F : Int × Int × ByteArray × Int) : Value := rsV F.1 neg F.2.1 F.2.2.1 F.2.2.2
/-- l12Finish answers so (proved in FinB). -/
def FinOK (f mode : Int) : Prop := ∀ (neg : Bool) (ds : List Int) (e : Int) (rest : Bool) (want : Int) (w : World), Canon ds → ds.length ≤ 200 → (-200000 ≤ e ∧ e ≤ 200000) → (-200000 ≤ want ∧ want ≤ 200000) →
    Calls Tryz.prog 62 #[.int .i64 f, .int .i64 mode, .bool neg, .string (tx ds), .int .i64 e, .bool rest, .int .i64 want] w fun x w' => x = .returned (rsD neg (finD f mode neg ds e rest want)) ∧ Below w.heap.size w w'
end Go.Proofs.YtnkoeidolmiheaaGreatDoor
