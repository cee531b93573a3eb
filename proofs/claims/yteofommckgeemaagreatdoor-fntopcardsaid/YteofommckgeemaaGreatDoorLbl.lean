/-
  A scope in which the run jumps to several labels: what holds at each of them, and a measure that every pass from a label lowers.
-/
import Derived.Scope
import Derived.WalkKit
import Derived.Test.YteofommckgeemaaGreatDoorRows
namespace Go.Proofs.YteofommckgeemaaGreatDoor
open Go.RowKit
/-- Ends as Q tells; at a jump: what holds at the label. -/
def jmpE (J : Nat → Act → World → Prop) (Q : Exit → Act → World → Prop) : Exit → Act → World → Prop
  | .goto l, a, w => J l a w
  | e, a, w => Q e a w
section
variable {P : Program} {Q : Exit → Act → World → Prop} {J : Nat → Act → World → Prop} {c : Code} {b : Frame} {k : List Item} {cs : List Frame}
/-- What arrives inside a scope arrives behind it; where a jump leads is asked of 'hj'. -/
theorem scope_out {m : Machine} {e : Exit} {a : Act} {w : World} (h : Arrives P m b (.inScope c :: k) cs e a w) (hq : jmpE J Q e a w)
    (hj : ∀ l, e = .goto l → ∃ e' a' w', Q e' a' w' ∧ Arrives P m b k cs e' a' w') : ∃ e' a' w', Q e' a' w' ∧ Arrives P m b k cs e' a' w' := by
  match e, h, hq, hj with
  | .normal, h, hq, _ => exact ⟨.normal, a, w, hq, h.trans (.one step_inScope)⟩
  | .exit id, h, hq, _ => exact ⟨.exit id, a, w, hq, fun k' hk => h k' (by simp [exitTo, hk])⟩
  | .goto l, _, _, hj => exact hj l rfl
  | .ret, h, hq, _ => exact ⟨.ret, a, w, hq, h⟩
  | .panic ch, h, hq, _ => exact ⟨.panic ch, a, w, hq, h⟩
  | .outgrown, h, hq, _ => exact ⟨.outgrown, a, w, hq, h⟩
/-- The same, the measure a part of what holds at a label. -/
theorem scope_ms {J : Nat → Nat → Act → World → Prop} (hf : ∀ m l a w, J m l a w → (findLabel c l).isSome = true)
    (pass : ∀ m l a w, J m l a w → ((findLabel c l).getD .skip).wp P (jmpE (fun l' a' w' => ∃ m', m' < m ∧ J m' l' a' w') Q) a w) :
    ∀ n m l a w, m < n → J m l a w → ∃ e a' w', Q e a' w' ∧ Arrives P (lone (b.at a (.code ((findLabel c l).getD .skip) :: .inScope c :: k)) cs w) b k cs e a' w'
  | 0, _, _, _, _, h, _ => absurd h (Nat.not_lt_zero _)
  | n + 1, m, l, a, w, hn, hJ => by
    obtain ⟨e, a1, w1, hq, har⟩ := pass m l a w hJ b (.inScope c :: k) cs
    refine scope_out har hq fun l' he => ?_
    subst he
    obtain ⟨m', hlt, hJ'⟩ : ∃ m', m' < m ∧ J m' l' a1 w1 := hq
    obtain ⟨e2, a2, w2, hq2, har2⟩ := scope_ms hf pass n m' l' a1 w1 (by omega) hJ'
    refine ⟨e2, a2, w2, hq2, .of_steps (har _ ?_) har2⟩
    have := hf m' l' a1 w1 hJ'
    cases hq3 : findLabel c l' with
    | none => rw [hq3] at this; cases this
    | some x => simp [gotoIn, hq3]
theorem wp_scope_ms {J : Nat → Nat → Act → World → Prop} {a : Act} {w : World} (hf : ∀ m l a w, J m l a w → (findLabel c l).isSome = true) (M0 : Nat)
    (first : c.wp P (jmpE (fun l' a' w' => ∃ m', m' < M0 ∧ J m' l' a' w') Q) a w)
    (pass : ∀ m l a w, J m l a w → ((findLabel c l).getD .skip).wp P (jmpE (fun l' a' w' => ∃ m', m' < m ∧ J m' l' a' w') Q) a w) : (Code.scope c).wp P Q a w := fun b k cs => by
  obtain ⟨e, a1, w1, hq, har⟩ := first b (.inScope c :: k) cs
  have har' := Arrives.of_steps (.one step_scope) har
  refine scope_out har' hq fun l' he => ?_
  subst he
  obtain ⟨m', hlt, hJ'⟩ : ∃ m', m' < M0 ∧ J m' l' a1 w1 := hq
  obtain ⟨e2, a2, w2, hq2, har2⟩ := scope_ms (b := b) (k := k) (cs := cs) hf pass _ m' l' a1 w1 (Nat.lt_succ_self _) hJ'
  refine ⟨e2, a2, w2, hq2, .of_steps (har' _ ?_) har2⟩
  have := hf m' l' a1 w1 hJ'
  cases hq3 : findLabel c l' with
  | none => rw [hq3] at this; cases this
  | some x => simp [gotoIn, hq3]
end
end Go.Proofs.YteofommckgeemaaGreatDoor
