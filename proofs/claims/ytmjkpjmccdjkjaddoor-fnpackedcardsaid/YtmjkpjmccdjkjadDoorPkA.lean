/-
  What is packed is read back, and what is not right is not packed: all that FnPacked asks of Pack64 and Pack128, in two facts.
-/
import Derived.Test.YtmjkpjmccdjkjadDoorWdF
namespace Go.Proofs.YtmjkpjmccdjkjadDoor
open Go.RowKit
set_option linter.unusedVariables false
set_option maxRecDepth 100000
set_option linter.unusedSimpArgs false
theorem pack64_all (k : Int) (b : Bool) (e : Int) (s : ByteArray) (w : World) (ht : Tabs w) (hs : s.size ≤ 340) : ∃ W c, (0 ≤ W ∧ W < 18446744073709551616) ∧
    (∀ X, Below w.heap.size w X → Calls Tryd.prog 6 #[numV k b e s] X fun x w' => x = .returned (.tuple #[.int .u64 W, .bool c]) ∧ Below X.heap.size X w') ∧
    (∀ X, Calls Tryd.prog 7 #[numV k b e s] X fun x w' => x = .returned (.tuple #[.int .u64 W, .bool c]) ∧ Below X.heap.size X w') ∧
    ((c = true ∧ (∀ X, Below w.heap.size w X → Calls Tryd.prog 8 #[.int .u64 W] X fun x w' => x = .returned (numV k b e s) ∧ Below X.heap.size X w') ∧
      (∀ X, Below w.heap.size w X → Calls Tryd.prog 9 #[.int .u64 W] X fun x w' => x = .returned (.int .u64 W) ∧ Below X.heap.size X w')) ∨ (c = false ∧ W = 0)) := by
  cases h : numB 64 k b e s with
  | false => exact ⟨0, false, by decide, fun X _ => iPack64_no k b e s X (by omega) h, fun X => sPack64_no k b e s X (by omega) h, .inr ⟨rfl, rfl⟩⟩
  | true =>
    obtain ⟨ds, rfl, hr⟩ := numB_right 64 k b e s 8 5 398 (.inl ⟨rfl, rfl, rfl, rfl⟩) h
    have hbd := pkW_bd 8 5 398 k b e ds (by decide) hr
    rw [show (2 : Int) ^ (6 + 8 + 10 * 5) = 18446744073709551616 by decide] at hbd
    obtain ⟨e1, e2, e3, e4⟩ := pk_back 8 5 398 k b e ds (by decide) hr
    refine ⟨_, true, hbd, fun X hb => iPack64_yes k b e ds X (ht.below hb (Nat.le_refl _)) hr, fun X => sPack64_yes k b e ds X hr, .inl ⟨rfl, fun X hb => ?_, fun X hb => ?_⟩⟩
    · have := iUnpack64_any (pkW 8 5 398 k b e ds) X (ht.below hb (Nat.le_refl _)) hbd.1 hbd.2
      rw [e1, e2, e3, e4] at this
      exact this
    · have := iCanonWord_any (pkW 8 5 398 k b e ds) X (ht.below hb (Nat.le_refl _)) hbd.1 hbd.2
      have hc : canW (pkW 8 5 398 k b e ds) = pkW 8 5 398 k b e ds := by
        show pkW 8 5 398 (uK 8 5 (pkW 8 5 398 k b e ds)) (uB 8 5 (pkW 8 5 398 k b e ds)) (uX 8 5 398 (pkW 8 5 398 k b e ds)) (uL 8 5 (pkW 8 5 398 k b e ds)) = _
        rw [e1, e2, e3, e4]
      rw [hc] at this
      exact this
theorem pack128_all (k : Int) (b : Bool) (e : Int) (s : ByteArray) (w : World) (ht : Tabs w) (hs : s.size ≤ 340) : ∃ H L c,
    (∀ X, Below w.heap.size w X → Calls Tryd.prog 11 #[numV k b e s] X fun x w' => x = .returned (.tuple #[wpV H L, .bool c]) ∧ Below X.heap.size X w') ∧
    (∀ X, Calls Tryd.prog 12 #[numV k b e s] X fun x w' => x = .returned (.tuple #[wpV H L, .bool c]) ∧ Below X.heap.size X w') ∧
    ((c = true ∧ (∀ X, Below w.heap.size w X → Calls Tryd.prog 13 #[wpV H L] X fun x w' => x = .returned (numV k b e s) ∧ Below X.heap.size X w')) ∨ (c = false ∧ H = 0 ∧ L = 0)) := by
  cases h : numB 128 k b e s with
  | false => exact ⟨0, 0, false, fun X _ => iPack128_no k b e s X (by omega) h, fun X => sPack128_no k b e s X (by omega) h, .inr ⟨rfl, rfl, rfl⟩⟩
  | true =>
    obtain ⟨ds, rfl, hr⟩ := numB_right 128 k b e s 12 11 6176 (.inr ⟨rfl, rfl, rfl, rfl⟩) h
    have hbd := pkW_bd 12 11 6176 k b e ds (by decide) hr
    rw [show (2 : Int) ^ (6 + 12 + 10 * 11) = 340282366920938463463374607431768211456 by decide] at hbd
    obtain ⟨e1, e2, e3, e4⟩ := pk_back 12 11 6176 k b e ds (by decide) hr
    refine ⟨_, _, true, fun X hb => iPack128_yes k b e ds X (ht.below hb (Nat.le_refl _)) hr, fun X => sPack128_yes k b e ds X hr, .inl ⟨rfl, fun X hb => ?_⟩⟩
    have := iUnpack128_any (pkW 12 11 6176 k b e ds / 18446744073709551616) (pkW 12 11 6176 k b e ds % 18446744073709551616) X (ht.below hb (Nat.le_refl _)) (by omega) (by omega) (by omega) (by omega)
    rw [show pkW 12 11 6176 k b e ds / 18446744073709551616 * 18446744073709551616 + pkW 12 11 6176 k b e ds % 18446744073709551616 = pkW 12 11 6176 k b e ds by omega, e1, e2, e3, e4] at this
    exact this
end Go.Proofs.YtmjkpjmccdjkjadDoor
