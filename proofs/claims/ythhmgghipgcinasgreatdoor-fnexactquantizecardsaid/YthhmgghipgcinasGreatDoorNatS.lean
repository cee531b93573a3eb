/-
  The model's arithmetic on naturals at any strings, by the numbers that they stand for, walked.
-/
import Derived.Test.YthhmgghipgcinasGreatDoorTxtP
import Derived.OpenShut
import Derived.Test.YthhmgghipgcinasGreatDoorNtM
namespace Go.Proofs.YthhmgghipgcinasGreatDoor
open Go.RowKit
set_option linter.unusedVariables false
set_option maxRecDepth 100000
theorem byte_at (ds : List Int) (h : Dec ds) (k : Nat) (hk : k < (tx ds).size) : ∃ z : Int, (((tx ds)[k]'hk).toNat : Int) = z ∧ z = 48 + ds.getD k 0 ∧ 48 ≤ z ∧ z ≤ 57 := by
  have a := tx_at ds h k hk
  have b := dec_at ds h k
  exact ⟨_, rfl, a, by omega, by omega⟩
end Go.Proofs.YthhmgghipgcinasGreatDoor
namespace Go.Proofs.YthhmgghipgcinasGreatDoor
open Go.RowKit
set_option linter.unusedVariables false
set_option maxRecDepth 100000
end Go.Proofs.YthhmgghipgcinasGreatDoor
namespace Go.Proofs.YthhmgghipgcinasGreatDoor
open Go.RowKit
set_option linter.unusedVariables false
set_option maxRecDepth 100000
end Go.Proofs.YthhmgghipgcinasGreatDoor
namespace Go.Proofs.YthhmgghipgcinasGreatDoor
open Go.RowKit
set_option linter.unusedVariables false
set_option maxRecDepth 100000
theorem canon_le (R : List Int) (h : Canon R) (k : Nat) (hp : 0 < k) (hk : vl R < 10 ^ k) : R.length ≤ k := by
  rcases Nat.lt_or_ge k R.length with c | c
  · have l := canon_low R h (by omega)
    have m := pow_mono k (R.length - 1) (by omega)
    omega
  · exact c
theorem conv_none (W : World) : ∀ dst, Tryz.prog.underlying dst = some .string → (convert 68 dst (.slice (some ⟨W.heap.size, 0, none⟩) 0 0)).run Tryz.prog (W.alloc (.cells #[] 5)) = .ok (.string (tx [])) (W.alloc (.cells #[] 5)) :=
  run_convert_bytes_arg (P := Tryz.prog) _ 68 5 Tryz.underlying68 Tryz.underlying5 W.heap.size 0 0 0 [] rfl (fun i hi => by simp at hi)
theorem l11Zeros_none (w : World) :
    Calls Tryz.prog 32 #[.int .i64 0] w fun e w' => e = .returned (.string (tx [])) ∧ Below w.heap.size w w' := by
  have hcv := conv_none w 9 Tryz.underlying9
  generalize tx [] = T at *
  go_enter Tryz.func32, Tryz.ntmps32
  go_wp2
  go_loop [0, 3] (fun i b => i = .int .i64 0 ∧ b = .slice (some ⟨w.heap.size, 0, none⟩) 0 0) (fun _ _ => 0)
  case atStart => exact ⟨rfl, rfl⟩
  case round =>
    obtain ⟨rfl, rfl⟩ := hrel
    go_wp2
    go_ret
    exact ⟨rfl, (Below.refl _ _).alloc (Nat.le_refl _) _⟩
theorem l11Shift_none (a : List Int) (w : World) (ha : Canon a) (la : a.length ≤ 200) :
    Calls Tryz.prog 17 #[.string (tx a), .int .i64 0] w fun e w' => e = .returned (.string (tx a)) ∧ Below w.heap.size w w' := by
  have Ha : Hid (Canon a) := ha
  clear ha
  have s1 : ((tx a).size : Int) ≤ 8388608 := by rw [tx_size]; omega
  have s2 : ((tx []).size : Int) ≤ 8388608 := by rw [tx_size]; simp
  by_cases hz : a = [0]
  · have hb : ((tx a).toList == [48]) = true := by rw [hz, tx_zero]; rfl
    clear hz s1 s2
    go_enter Tryz.func17, Tryz.ntmps17
    go_wp2
    go_ret
    exact ⟨rfl, Below.refl _ _⟩
  · have hb := tx_is0 a Ha.out.1 hz
    have hap : tx a ++ tx [] = tx a := by rw [tx_append, List.append_nil]
    have Hzr : Hid (∀ w, Calls Tryz.prog 32 #[.int .i64 0] w fun e w' => e = .returned (.string (tx [])) ∧ Below w.heap.size w w') := l11Zeros_none
    clear hz
    generalize tx [] = T at *
    go_enter Tryz.func17, Tryz.ntmps17
    go_wp2_with fail
    refine (Hzr.out _).mono ?_
    rintro e w1 ⟨rfl, hb1⟩
    go_wp2
    go_ret
    exact ⟨rfl, hb1⟩
end Go.Proofs.YthhmgghipgcinasGreatDoor
namespace Go.Proofs.YthhmgghipgcinasGreatDoor
open Go.RowKit
set_option linter.unusedVariables false
set_option maxRecDepth 100000
def ok2 (s t : ByteArray) : Bool := natB 200 s && natB 200 t
theorem ok2_yes {s t : ByteArray} (h : ok2 s t = true) : natB 200 s = true ∧ natB 200 t = true := by
  unfold ok2 at h
  rw [Bool.and_eq_true] at h
  exact h
theorem ok2_no {s t : ByteArray} (h : ok2 s t = false) : natB 200 s = false ∨ (natB 200 s = true ∧ natB 200 t = false) := by
  unfold ok2 at h
  cases a : natB 200 s with
  | false => exact .inl rfl
  | true => rw [a] at h; exact .inr ⟨rfl, by simpa using h⟩
def cmpS (s t : ByteArray) : Int := if ok2 s t then cmpI (nv s) (nv t) else 2
def addS (s t : ByteArray) : ByteArray := if ok2 s t then fitS (nt (nv s + nv t)) else { data := #[] }
def subS (s t : ByteArray) : ByteArray := if ok2 s t then (if nv s < nv t then { data := #[] } else tx (nt (nv s - nv t))) else { data := #[] }
def mulS (s t : ByteArray) : ByteArray := if ok2 s t then fitS (nt (nv s * nv t)) else { data := #[] }
end Go.Proofs.YthhmgghipgcinasGreatDoor
