/-
  Noughts that are none behind a text; how long a text is at most.
-/
import Derived.Test.YtmndemegiimagasDoorTxt3
namespace Go.Proofs.YtmndemegiimagasDoor
open Go.RowKit
set_option linter.unusedVariables false
theorem canon_le (R : List Int) (h : Canon R) (k : Nat) (hp : 0 < k) (hk : vl R < 10 ^ k) : R.length ≤ k := by
  rcases Nat.lt_or_ge k R.length with c | c
  · have l := canon_low R h (by omega)
    have m := pow_mono k (R.length - 1) (by omega)
    omega
  · exact c
theorem conv_none (W : World) : ∀ dst, Tryd.prog.underlying dst = some .string → (convert 58 dst (.slice (some ⟨W.heap.size, 0, none⟩) 0 0)).run Tryd.prog (W.alloc (.cells #[] 5)) = .ok (.string (tx [])) (W.alloc (.cells #[] 5)) :=
  run_convert_bytes_arg (P := Tryd.prog) _ 58 5 Tryd.underlying58 Tryd.underlying5 W.heap.size 0 0 0 [] rfl (fun i hi => by simp at hi)
theorem l11Zeros_none (w : World) :
    Calls Tryd.prog 32 #[.int .i64 0] w fun e w' => e = .returned (.string (tx [])) ∧ Below w.heap.size w w' := by
  have hcv := conv_none w 9 Tryd.underlying9
  generalize tx [] = T at *
  go_enter Tryd.func32, Tryd.ntmps32
  go_wp2
  go_loop [0, 3] (fun i b => i = .int .i64 0 ∧ b = .slice (some ⟨w.heap.size, 0, none⟩) 0 0) (fun _ _ => 0)
  case atStart => exact ⟨rfl, rfl⟩
  case round =>
    obtain ⟨rfl, rfl⟩ := hrel
    go_wp2
    go_ret
    exact ⟨rfl, (Below.refl _ _).alloc (Nat.le_refl _) _⟩
theorem l11Shift_none (a : List Int) (w : World) (ha : Canon a) (la : a.length ≤ 200) :
    Calls Tryd.prog 25 #[.string (tx a), .int .i64 0] w fun e w' => e = .returned (.string (tx a)) ∧ Below w.heap.size w w' := by
  have Ha : Hid (Canon a) := ha
  clear ha
  have s1 : ((tx a).size : Int) ≤ 8388608 := by rw [tx_size]; omega
  have s2 : ((tx []).size : Int) ≤ 8388608 := by rw [tx_size]; simp
  by_cases hz : a = [0]
  · have hb : ((tx a).toList == [48]) = true := by rw [hz, tx_zero]; rfl
    clear hz s1 s2
    go_enter Tryd.func25, Tryd.ntmps25
    go_wp2
    go_ret
    exact ⟨rfl, Below.refl _ _⟩
  · have hb := tx_is0 a Ha.out.1 hz
    have hap : tx a ++ tx [] = tx a := by rw [tx_append, List.append_nil]
    have Hzr : Hid (∀ w, Calls Tryd.prog 32 #[.int .i64 0] w fun e w' => e = .returned (.string (tx [])) ∧ Below w.heap.size w w') := l11Zeros_none
    clear hz
    generalize tx [] = T at *
    go_enter Tryd.func25, Tryd.ntmps25
    go_wp2_with fail
    refine (Hzr.out _).mono ?_
    rintro e w1 ⟨rfl, hb1⟩
    go_wp2
    go_ret
    exact ⟨rfl, hb1⟩
end Go.Proofs.YtmndemegiimagasDoor
