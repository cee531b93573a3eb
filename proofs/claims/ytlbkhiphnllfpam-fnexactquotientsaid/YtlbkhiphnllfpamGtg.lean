/-
  From a contract of a lone machine, over every tape, to the steps one by one.
-/
import Derived.Test.YtlbkhiphnllfpamGtf
namespace Go.Proofs.Ytlbkhiphnllfpam
open Go.Conc
set_option linter.unusedVariables false
section
variable {P : Program} {L : FuncId → Bool}
def mOf (k : List Item) (cs : List Frame) (s : St) (w : World) : Machine := lone (if s.ret then (addK k s.rest s.top).rt else (addK k s.rest s.top).fr) (stk k cs s.rest) w
theorem lone_go {fr fr' : Frame} {cs cs' : List Frame} {w w' : World} {es : Array Event} (h : stepG P true (G fr cs) w = .go (G fr' cs') w' es) : step P (lone fr cs w) = .next (lone fr' cs' w') :=
  step_lone_go (by show (stepG P true (G fr cs) w).bare = _; rw [h]; rfl)
theorem lone_end {fr : Frame} {cs : List Frame} {w w' : World} {o : Outcome} {es : Array Event} (h : stepG P true (G fr cs) w = .ended o w' es) : step P (lone fr cs w) = .ended o w' :=
  step_lone_ended (by show (stepG P true (G fr cs) w).bare = _; rw [h]; rfl)
theorem m_go {k : List Item} {cs : List Frame} {s s' : St} {w w' : World} {es : Array Event} (h : stepG P true (gOf k cs s) w = .go (gOf k cs s') w' es) : step P (mOf k cs s w) = .next (mOf k cs s' w') := lone_go h
/-- It stands where nothing of its own is left to do. -/
def AtT (s : St) : Prop := s.rest = [] ∧ (s.ret = true ∨ s.top.t = [])
def Agree (T' : Nat → Question → Nat) (d' : Nat) (T : Nat → Question → Nat) (d n : Nat) : Prop := ∀ i, i < n → T' (d' + i) = T (d + i)
def Step1 (P : Program) (L : FuncId → Bool) (s : St) (w : World) (T : Nat → Question → Nat) (d n : Nat) : Option (St × World) → Prop
  | some q => OkSt P L q.1 ∧ ∃ es, (∀ e ∈ es, Meek e) ∧ ∀ k cs T' d', Agree T' d' T d n → stepG P true (gOf k cs s) (w.on T' d') = .go (gOf k cs q.1) (q.2.on T' (d' + n)) es
  | none => ∀ T' d', Agree T' d' T d n → Dies P kR [trap] s (stepG P true (gOf kR [trap] s) (w.on T' d'))
theorem step1_ex (hP : OkP P L) {s : St} (hS : OkSt P L s) (hn : ¬ AtT s) (w : World) (T : Nat → Question → Nat) (d : Nat) : ∃ n o, Step1 P L s w T d n o := by
  rcases ls_all hP hS hn with ⟨f, c, F, hG, hF, h1, h2⟩ | hB
  · obtain ⟨n, hn1, hn2, hn3⟩ := runT_on P c hG.hsh (w.on T d) #[]
    obtain ⟨hE, hM⟩ := HshG.runs c hG (w.on T d) #[] (by simp)
    cases hr : c.runT P (w.on T d) #[] with
    | mk r es =>
      rw [hr] at hE hM
      cases r with
      | ok x w' =>
        refine ⟨n, some (F x, w'), hF x hE, seen P f es, fun e he => hM e (mem_seen he), fun k cs T' d' hA => ?_⟩
        have := hn3 T' d' hA
        rw [hr] at this
        exact h1 k cs _ x _ es this hE
      | halt h w' =>
        refine ⟨n, none, fun T' d' hA => ?_⟩
        have := hn3 T' d' hA
        rw [hr] at this
        refine h2 kR [trap] _ h _ es this ?_
        cases h <;> first | exact True.intro | exact hE
  · exact ⟨0, none, fun T' d' _ => .inr (hB _)⟩

/-- The steps one by one, over every tape. -/
def Goal (P : Program) (Tg : St → World → Prop) (s : St) (w : World) : Prop :=
  ∀ Q : St → World → Prop, (∀ s w, (∃ T d, Tg s (w.on T d)) → Q s w) →
    (∀ s w, ∀ nx : (Nat → Question → Nat) → Nat → St × World × Array Event, (∀ T d, (∀ e ∈ (nx T d).2.2, Meek e) ∧ ∀ k cs, stepG P true (gOf k cs s) (w.on T d) = .go (gOf k cs (nx T d).1) (nx T d).2.1 (nx T d).2.2) → (∀ T d, Q (nx T d).1 (nx T d).2.1) → Q s w) → Q s w
theorem ey_fst {p : Prop} {q : p → Prop} (h : ∃ t, q t) : p := h.elim fun t _ => t
theorem ey_snd {p : Prop} {q : p → Prop} (h : ∃ t, q t) : q (ey_fst h) := by obtain ⟨t, ht⟩ := h; exact ht
theorem Goal.here {P : Program} {Tg : St → World → Prop} {s : St} {w : World} (h : ∃ T d, Tg s (w.on T d)) : Goal P Tg s w := fun Q a b => a s w h
theorem Goal.step {P : Program} {Tg : St → World → Prop} {s : St} {w : World} (nx : (Nat → Question → Nat) → Nat → St × World × Array Event)
    (h : ∀ T d, (∀ e ∈ (nx T d).2.2, Meek e) ∧ ∀ k cs, stepG P true (gOf k cs s) (w.on T d) = .go (gOf k cs (nx T d).1) (nx T d).2.1 (nx T d).2.2) (hn : ∀ T d, Goal P Tg (nx T d).1 (nx T d).2.1) : Goal P Tg s w := fun Q a b => b s w nx h fun T d => hn T d Q a b
theorem Goal.ind {P : Program} {Tg : St → World → Prop} {motive : ∀ (s : St) (w : World), Goal P Tg s w → Prop}
    (here : ∀ {s : St} {w : World} (h : ∃ T d, Tg s (w.on T d)), motive s w (Goal.here h))
    (step : ∀ {s : St} {w : World} (nx : (Nat → Question → Nat) → Nat → St × World × Array Event) (h : ∀ T d, (∀ e ∈ (nx T d).2.2, Meek e) ∧ ∀ k cs, stepG P true (gOf k cs s) (w.on T d) = .go (gOf k cs (nx T d).1) (nx T d).2.1 (nx T d).2.2) (hn : ∀ T d, Goal P Tg (nx T d).1 (nx T d).2.1) (ih : ∀ T d, motive (nx T d).1 (nx T d).2.1 (hn T d)), motive s w (Goal.step nx h hn))
    {s : St} {w : World} (t : Goal P Tg s w) : motive s w t := by
  have h : ∃ t : Goal P Tg s w, motive s w t := t (fun s w => ∃ t : Goal P Tg s w, motive s w t) (fun s w h => ⟨Goal.here h, here h⟩)
    (fun s w nx h hn => ⟨Goal.step nx h fun T d => ey_fst (hn T d), step nx h (fun T d => ey_fst (hn T d)) fun T d => ey_snd (hn T d)⟩)
  exact ey_snd h
theorem Goal.next {Tg : St → World → Prop} {s : St} {w : World} (h : ∀ T d, ∃ s' w' es, (∀ e ∈ es, Meek e) ∧ (∀ k cs, stepG P true (gOf k cs s) (w.on T d) = .go (gOf k cs s') w' es) ∧ Goal P Tg s' w') : Goal P Tg s w := by
  have hex : ∀ T d, ∃ x : St × World × Array Event, (∀ e ∈ x.2.2, Meek e) ∧ (∀ k cs, stepG P true (gOf k cs s) (w.on T d) = .go (gOf k cs x.1) x.2.1 x.2.2) ∧ Goal P Tg x.1 x.2.1 := fun T d => by
    obtain ⟨s', w', es, h1, h2, h3⟩ := h T d
    exact ⟨(s', w', es), h1, h2, h3⟩
  exact .step (fun T d => Classical.choose (hex T d)) (fun T d => ⟨(Classical.choose_spec (hex T d)).1, (Classical.choose_spec (hex T d)).2.1⟩) (fun T d => (Classical.choose_spec (hex T d)).2.2)
/-- A goal stays one over another tape. -/
theorem Goal.on {Tg : St → World → Prop} {s : St} {w : World} (h : Goal P Tg s w) (T : Nat → Question → Nat) (d : Nat) : Goal P Tg s (w.on T d) := by
  induction h using Goal.ind with
  | here h => exact .here h
  | step nx h hn _ => exact .step nx h hn
/-- Where no goal is: it stands at the end; or some tape leads to where no goal is, or to the stand-ins' end. -/
theorem not_goal (hP : OkP P L) {Tg : St → World → Prop} {s : St} {w : World} (hS : OkSt P L s) (hg : ¬ Goal P Tg s w) :
    AtT s ∨ ∃ T d n, Step1 P L s w T d n none ∨ ∃ s' w', Step1 P L s w T d n (some (s', w')) ∧ OkSt P L s' ∧ ¬ Goal P Tg s' w' := by
  by_cases hT : AtT s
  · exact .inl hT
  · right
    by_cases hx : ∃ T d n, Step1 P L s w T d n none ∨ ∃ s' w', Step1 P L s w T d n (some (s', w')) ∧ OkSt P L s' ∧ ¬ Goal P Tg s' w'
    · exact hx
    · exfalso
      refine hg (Goal.next fun T d => ?_)
      obtain ⟨n, o, h1⟩ := step1_ex hP hS hT w T d
      cases o with
      | none => exact absurd ⟨T, d, n, .inl h1⟩ hx
      | some q =>
        obtain ⟨s', w'⟩ := q
        by_cases hg' : Goal P Tg s' w'
        · obtain ⟨hok, es, hm, hst⟩ := h1
          refine ⟨s', w'.on T (d + n), es, hm, fun k cs => hst k cs T d (fun _ _ => rfl), ?_⟩
          exact hg'.on T (d + n)
        · exact absurd ⟨T, d, n, .inr ⟨s', w', h1, h1.1, hg'⟩⟩ hx
/-! ### the stand-ins' end -/
/-- No later machine is one in which goroutine 0 runs or returns right above the stand-in. -/
def Never (P : Program) (m : Machine) : Prop := ∀ n fr w, runN P n m = .next (lone fr [trap] w) → fr.mode = .run ∨ fr.mode = .returning → False
theorem runN_end {m : Machine} {o : Outcome} {w : World} (h : step P m = .ended o w) (n : Nat) (m' : Machine) : runN P (n + 1) m ≠ .next m' := by simp [runN, h]
theorem never_end {m : Machine} {o : Outcome} {w : World} (h : step P m = .ended o w) (h0 : ∀ fr w, m = lone fr [trap] w → fr.mode = .run ∨ fr.mode = .returning → False) : Never P m := fun n fr w' hr hm => by
  cases n with
  | zero => simp [runN] at hr; exact h0 fr w' hr hm
  | succ n => exact runN_end h n _ hr
theorem never_step {m m' : Machine} (h : step P m = .next m') (hn : Never P m') (h0 : ∀ fr w, m = lone fr [trap] w → fr.mode = .run ∨ fr.mode = .returning → False) : Never P m := fun n fr w' hr hm => by
  cases n with
  | zero => simp [runN] at hr; exact h0 fr w' hr hm
  | succ n => simp only [runN, h] at hr; exact hn n fr w' hr hm
theorem stk_pre (k : List Item) : ∀ (rest : List Fm), ∃ fs : List Frame, (∀ cs, stk k cs rest = fs ++ cs) ∧ ∀ f ∈ fs, f.defers = [] ∧ f.mode = .run
  | [] => ⟨[], fun _ => rfl, by simp⟩
  | m :: r => by
    obtain ⟨fs, h1, h2⟩ := stk_pre k r
    refine ⟨(addK k r m).fr :: fs, fun cs => by simp [stk, h1], fun f hf => ?_⟩
    rcases List.mem_cons.1 hf with rfl | hf
    · exact ⟨rfl, rfl⟩
    · exact h2 f hf
theorem raise_never : ∀ (fs : List Frame), (∀ f ∈ fs, f.defers = [] ∧ f.mode = .run) → ∀ (f : Frame) (chain : List PanicEntry) (w : World), f.defers = [] → f.mode = .panicking chain → Never P (lone f (fs ++ [trap]) w)
  | [], _, f, chain, w, hd, hm => by
    have h0 : ∀ fr w', lone f ([] ++ [trap]) w = lone fr [trap] w' → fr.mode = .run ∨ fr.mode = .returning → False := fun fr w' e h => by
      simp [lone] at e
      obtain ⟨_, rfl⟩ := e
      rw [hm] at h
      rcases h with h | h <;> cases h
    by_cases hc : f.catches P = true
    · exact never_end (o := _) (w := w) (lone_end (es := #[]) (by simp only [G, stepG, hm, unwind, hd, hc, if_true, List.nil_append]; rfl)) h0
    · refine never_step (m' := lone (trap.raise chain) [] w) (lone_go (es := #[]) (by simp only [G, stepG, hm, unwind, hd, hc, List.nil_append]; rfl)) ?_ h0
      refine never_end (o := _) (w := w) (lone_end (es := #[]) (by rfl)) (fun fr w' e h => ?_)
      simp [lone] at e
  | c :: fs, hfs, f, chain, w, hd, hm => by
    have h0 : ∀ fr w', lone f ((c :: fs) ++ [trap]) w = lone fr [trap] w' → fr.mode = .run ∨ fr.mode = .returning → False := fun fr w' e h => by
      simp [lone] at e
    obtain ⟨hcd, hcm⟩ := hfs c (List.mem_cons_self ..)
    by_cases hc : f.catches P = true
    · exact never_end (o := _) (w := w) (lone_end (es := #[]) (by simp only [G, stepG, hm, unwind, hd, hc, if_true, List.cons_append]; rfl)) h0
    · refine never_step (m' := lone (c.raise chain) (fs ++ [trap]) w) (lone_go (es := #[]) (by simp only [G, stepG, hm, unwind, hd, hc, List.cons_append]; rfl)) ?_ h0
      have e : c.raise chain = { c with mode := .panicking chain } := by unfold Frame.raise; rw [hcm]
      rw [e]
      exact raise_never fs (fun f hf => hfs f (List.mem_cons_of_mem _ hf)) _ chain w hcd rfl
/-- Not behind a step. -/
def NeverS (P : Program) (m : Machine) : Prop := ∀ n fr w, runN P (n + 1) m = .next (lone fr [trap] w) → fr.mode = .run ∨ fr.mode = .returning → False
theorem neverS_step {m m' : Machine} (h : step P m = .next m') (hn : Never P m') : NeverS P m := fun n fr w' hr hm => by
  simp only [runN, h] at hr
  exact hn n fr w' hr hm
theorem neverS_end {m : Machine} {o : Outcome} {w : World} (h : step P m = .ended o w) : NeverS P m := fun n fr w' hr hm => runN_end h n _ hr
theorem dies_never {s : St} {W : World} (h : Dies P kR [trap] s (stepG P true (gOf kR [trap] s) W)) : NeverS P (mOf kR [trap] s W) := by
  rcases h with ⟨chain, w, es, h⟩ | ⟨o, w, es, h⟩
  · refine neverS_step (lone_go h) ?_
    obtain ⟨fs, h1, h2⟩ := stk_pre kR s.rest
    rw [h1]
    have hm : ∃ ch, ((if s.ret then (addK kR s.rest s.top).rt else (addK kR s.rest s.top).fr).raise chain).mode = .panicking ch ∧ ((if s.ret then (addK kR s.rest s.top).rt else (addK kR s.rest s.top).fr).raise chain).defers = [] := by
      cases s.ret <;> exact ⟨chain, rfl, rfl⟩
    obtain ⟨ch, hm1, hm2⟩ := hm
    exact raise_never fs h2 _ ch w hm2 hm1
  · exact neverS_end (lone_end h)
theorem atT_never {s : St} (h : AtT s) (W : World) : NeverS P (mOf kR [trap] s W) := by
  obtain ⟨⟨f, x, t⟩, b, rest⟩ := s
  obtain ⟨rfl, h⟩ := h
  cases b with
  | false =>
    obtain rfl : t = [] := h.resolve_left (by simp)
    exact neverS_end (o := _) (w := W) (lone_end (es := #[]) (by rfl))
  | true =>
    have hN : ∀ w', Never P (lone trap [] w') := fun w' => never_end (o := _) (w := w') (lone_end (es := #[]) (by rfl)) (fun fr w'' e _ => by simp [lone] at e)
    have hg : mOf kR [trap] ⟨⟨f, x, t⟩, true, []⟩ W = lone (addK kR [] ⟨f, x, t⟩).rt [trap] W := rfl
    rw [hg]
    generalize hm : (addK kR [] ⟨f, x, t⟩).rt = fr
    have h1 : fr.mode = .returning := by rw [← hm]; rfl
    have h2 : fr.defers = [] := by rw [← hm]; rfl
    have h3 : fr.kind = .normal := by rw [← hm]; rfl
    cases hf : P.funcs[fr.fn]? with
    | none => exact neverS_step (m' := lone trap [] W) (lone_go (es := #[]) (by simp only [G, stepG, h1, unwind, h2, hf, doReturn, h3]; rfl)) (hN W)
    | some fn =>
      cases hr : (results fn fr.tmps).runT P W #[] with
      | mk r es =>
        cases r with
        | ok v w' => exact neverS_step (m' := lone trap [] w') (lone_go (es := seen P fr.fn es ++ #[]) (by simp only [G, stepG, h1, unwind, h2, hf, hr, doReturn, h3]; rfl)) (hN w')
        | halt x w' =>
          have : ∃ o w'' es', stepG P true (G fr [trap]) W = .ended o w'' es' := by
            simp only [G, stepG, h1, unwind, h2, hf, hr]
            cases x <;> exact ⟨_, _, _, rfl⟩
          obtain ⟨o, w'', es', h⟩ := this
          exact neverS_end (lone_end h)
end
end Go.Proofs.Ytlbkhiphnllfpam
