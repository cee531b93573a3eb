/-
  From a contract of a lone machine, over every tape, to the steps one by one: the theorem. And their run beside others that only leave.
-/
import Derived.Test.YtlbkhiphnllfpamGtg
namespace Go.Proofs.Ytlbkhiphnllfpam
open Go.Conc
open Go.ConcN (sumTo upd sumTo_upd upd_ne upd_same)
set_option linter.unusedVariables false
section
variable {P : Program} {L : FuncId → Bool}
theorem runN_more {m m' : Machine} : ∀ {n : Nat} {i : Nat}, runN P i m = .next m' → runN P (i + n) m = runN P n m' := by
  intro n i
  induction i generalizing m with
  | zero => intro h; simp [runN] at h; subst h; rw [Nat.zero_add]
  | succ i ih =>
    intro h
    rw [show i + 1 + n = (i + n) + 1 by omega]
    simp only [runN] at h ⊢
    cases hs : step P m with
    | next m1 => rw [hs] at h; exact ih h
    | ended o w => rw [hs] at h; cases h
theorem goal_of_contract (hP : OkP P L) {Tg : St → World → Prop} {s0 : St} {w0 : World} (hS0 : OkSt P L s0)
    (hC : ∀ T, ∃ n fr w, runN P n (mOf kR [trap] s0 (w0.on T 0)) = .next (lone fr [trap] w) ∧ (fr.mode = .run ∨ fr.mode = .returning) ∧ ∀ s, mOf kR [trap] s w = lone fr [trap] w → Tg s w) : Goal P Tg s0 w0 := by
  refine Classical.byContradiction fun hng => ?_
  let Sub := { p : St × World // OkSt P L p.1 ∧ ¬ Goal P Tg p.1 p.2 }
  let p0 : Sub := ⟨(s0, w0), hS0, hng⟩
  have hdt : ∀ p : Sub, ∃ x : (Nat → Question → Nat) × Nat × Nat × Option Sub, match x.2.2.2 with
      | some q => Step1 P L p.1.1 p.1.2 x.1 x.2.1 x.2.2.1 (some q.1)
      | none => AtT p.1.1 ∨ Step1 P L p.1.1 p.1.2 x.1 x.2.1 x.2.2.1 none := fun p => by
    rcases not_goal hP p.2.1 p.2.2 with h | ⟨T, d, n, h | ⟨s', w', h, hok, hg⟩⟩
    · exact ⟨(fun _ _ => 0, 0, 0, none), .inl h⟩
    · exact ⟨(T, d, n, none), .inr h⟩
    · exact ⟨(T, d, n, some ⟨(s', w'), hok, hg⟩), h⟩
  let dt : Sub → (Nat → Question → Nat) × Nat × Nat × Option Sub := fun p => Classical.choose (hdt p)
  have hd : ∀ p : Sub, match (dt p).2.2.2 with
      | some q => Step1 P L p.1.1 p.1.2 (dt p).1 (dt p).2.1 (dt p).2.2.1 (some q.1)
      | none => AtT p.1.1 ∨ Step1 P L p.1.1 p.1.2 (dt p).1 (dt p).2.1 (dt p).2.2.1 none := fun p => Classical.choose_spec (hdt p)
  clear_value dt
  let sq : Nat → Option Sub := fun i => Nat.rec (some p0) (fun _ o => o.bind fun p => (dt p).2.2.2) i
  have sq0 : sq 0 = some p0 := rfl
  have sqS : ∀ i, sq (i + 1) = (sq i).bind fun p => (dt p).2.2.2 := fun i => rfl
  clear_value sq
  let off : Nat → Nat := fun i => Nat.rec 0 (fun i o => o + match sq i with | some p => (dt p).2.2.1 | none => 0) i
  have off0 : off 0 = 0 := rfl
  have offS : ∀ i, off (i + 1) = off i + match sq i with | some p => (dt p).2.2.1 | none => 0 := fun i => rfl
  clear_value off
  have mono : ∀ i j, i ≤ j → off i ≤ off j := fun i j h => by
    induction j with
    | zero => rw [Nat.le_zero.1 h]; exact Nat.le_refl _
    | succ j ih =>
      rcases Nat.lt_or_ge i (j + 1) with h' | h'
      · exact Nat.le_trans (ih (by omega)) (by rw [offS]; omega)
      · rw [show i = j + 1 by omega]; exact Nat.le_refl _
  have hTx : ∃ T' : Nat → Question → Nat, ∀ i p, sq i = some p → Agree T' (off i) (dt p).1 (dt p).2.1 (dt p).2.2.1 := by
    have hx : ∀ x, ∃ f : Question → Nat, ∀ i p, sq i = some p → off i ≤ x → x < off (i + 1) → f = (dt p).1 ((dt p).2.1 + (x - off i)) := fun x => by
      by_cases h : ∃ i p, sq i = some p ∧ off i ≤ x ∧ x < off (i + 1)
      · obtain ⟨i, p, h1, h2, h3⟩ := h
        refine ⟨(dt p).1 ((dt p).2.1 + (x - off i)), fun i' p' h1' h2' h3' => ?_⟩
        have : i = i' := by
          rcases Nat.lt_trichotomy i i' with h | h | h
          · have := mono (i + 1) i' h; omega
          · exact h
          · have := mono (i' + 1) i h; omega
        subst this
        rw [h1] at h1'
        cases h1'
        rfl
      · exact ⟨fun _ => 0, fun i p h1 h2 h3 => absurd ⟨i, p, h1, h2, h3⟩ h⟩
    refine ⟨fun x => Classical.choose (hx x), fun i p hp y hy => ?_⟩
    have := Classical.choose_spec (hx (off i + y)) i p hp (by omega) (by rw [offS, hp]; dsimp only; omega)
    rw [show off i + y - off i = y by omega] at this
    exact this
  obtain ⟨T', hAg⟩ := hTx
  have hrun : ∀ i p, sq i = some p → runN P i (mOf kR [trap] s0 (w0.on T' 0)) = .next (mOf kR [trap] p.1.1 (p.1.2.on T' (off i))) := by
    intro i
    induction i with
    | zero => intro p hp; rw [sq0] at hp; cases hp; rw [off0]; rfl
    | succ i ih =>
      intro q hq
      rw [sqS] at hq
      cases hs : sq i with
      | none => rw [hs] at hq; cases hq
      | some p =>
        rw [hs] at hq
        have hq' : (dt p).2.2.2 = some q := hq
        have h1 := hd p
        rw [hq'] at h1
        obtain ⟨_, es, _, hst⟩ := h1
        have h2 := ih p hs
        have h3 := m_go (hst kR [trap] T' (off i) (hAg i p hs))
        rw [runN_more (n := 1) h2]
        simp only [runN, h3]
        rw [offS, hs]
  obtain ⟨n, fr, w, hr, hm, hTg⟩ := hC T'
  cases hsn : sq n with
  | some p =>
    have := hrun n p hsn
    rw [hr] at this
    have e : lone fr [trap] w = mOf kR [trap] p.1.1 (p.1.2.on T' (off n)) := Stepped.next.inj this
    have ew : w = p.1.2.on T' (off n) := by have := congrArg Machine.world e; exact this
    subst ew
    exact p.2.2 (.here ⟨T', off n, hTg _ e.symm⟩)
  | none =>
    have : ∃ i p, i < n ∧ sq i = some p ∧ (dt p).2.2.2 = none := by
      clear hr hm hTg
      induction n with
      | zero => rw [sq0] at hsn; cases hsn
      | succ n ih =>
        cases hs : sq n with
        | none => obtain ⟨i, p, h1, h2⟩ := ih hs; exact ⟨i, p, by omega, h2⟩
        | some p => exact ⟨n, p, by omega, hs, by rw [sqS, hs] at hsn; exact hsn⟩
    obtain ⟨i, p, hi, hp, hnone⟩ := this
    have h1 := hd p
    rw [hnone] at h1
    have hnev : NeverS P (mOf kR [trap] p.1.1 (p.1.2.on T' (off i))) := by
      rcases h1 with h1 | h1
      · exact atT_never h1 _
      · exact dies_never (h1 T' (off i) (hAg i p hp))
    have h2 := hrun i p hp
    obtain ⟨k, rfl⟩ : ∃ k, n = i + (k + 1) := ⟨n - i - 1, by omega⟩
    rw [runN_more h2] at hr
    exact hnev k fr w hr hm
end
end Go.Proofs.Ytlbkhiphnllfpam
