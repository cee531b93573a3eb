/-
  Goroutine 0 beside others that only leave: its walk to the end, step by step, by the lone contracts of what it calls, through phases over a channel.
-/
import Derived.Test.YtlbkhiphnllfpamGti
import Derived.Conc.CompanyMem
namespace Go.Proofs.Ytlbkhiphnllfpam
open Go.Conc
open Go.ConcN (sumTo upd sumTo_upd upd_ne upd_same)
set_option linter.unusedVariables false
section
variable {P : Program} {Post : Value → World → Prop}
/-- The run ends well. -/
def En (P : Program) (Post : Value → World → Prop) (m : Machine) (T : Trace) : Prop :=
  ∃ N last o w' t', runNT P (N + 1) m T = (.ended o w', t') ∧ runN P N m = .next last ∧ step P last = .ended o w' ∧ Good P Post last o w' t'
theorem En.runs {m m' : Machine} {T T' : Trace} {K : Nat} (h : runNT P K m T = (.next m', T')) (hE : En P Post m' T') : En P Post m T := by
  obtain ⟨N, last, o, w', t', h1, h2, h3, h4⟩ := hE
  have hk : runN P K m = .next m' := by rw [← runNT_fst P K m T, h]
  refine ⟨K + N, last, o, w', t', ?_, ?_, h3, h4⟩
  · rw [show K + N + 1 = K + (N + 1) by omega, runNT_add, h]; exact h1
  · rw [runN_add, hk]; exact h2
theorem En.step {m m' : Machine} {T : Trace} {ops : Array MemOp} (h : stepT P m = (.next m', ops)) (hE : En P Post m' (T ++ ops)) : En P Post m T :=
  En.runs (K := 1) (by rw [runNT_succ_next h]; rfl) hE
/-- On its way to the end, beside others that only leave. -/
def BW (P : Program) (Post : Value → World → Prop) (g : Goroutine) (w : World) : Prop :=
  ∀ (T2 : Nat → Question → Nat) (d : Nat) (gs : Array Goroutine) (T : Trace) (q : Nat → Nat) (sl : Option (Nat × Nat)), gs[0]? = some g → Leavers P T gs q → (∃ B, Past (fun _ => False) B T) → En P Post (crowd gs (w.on T2 d) sl) T
theorem En.reach {m : Machine} {T : Trace} {n : Nat} (h : Reach P (fun _ g w => BW P Post g w) n m T) : En P Post m T := by
  obtain ⟨N, gs', a', w', sl', T', q', B', M, h1, h2, h3, h4, h5, h6⟩ := h
  exact En.runs h1 (h4 w'.tape w'.drawn gs' T' q' sl' h3 h5 ⟨B', h6⟩)
/-- The same, on the world's own tape. -/
def BWt (P : Program) (Post : Value → World → Prop) (g : Goroutine) (w : World) : Prop :=
  ∀ (d : Nat) (gs : Array Goroutine) (T : Trace) (q : Nat → Nat) (sl : Option (Nat × Nat)), gs[0]? = some g → Leavers P T gs q → (∃ B, Past (fun _ => False) B T) → En P Post (crowd gs (w.at d) sl) T
theorem BWt.pick {g : Goroutine} {w : World} (hs : g.status = .running)
    (H : ∀ (d : Nat) (gs : Array Goroutine) (T : Trace) (q : Nat → Nat) (sl : Option (Nat × Nat)) (m : Machine), gs[0]? = some g → Leavers P T gs q → (∃ B, Past (fun _ => False) B T) → (∃ d' sl', m = crowd gs (w.at d') sl') → stepT P m = runT P (crowd gs (w.at d) sl) 0 → En P Post m T) : BWt P Post g w := by
  intro d2 gs T q sl h0 hL hP
  generalize hn : sumTo gs.size q = n
  induction n using Nat.strongRecOn generalizing d2 gs T q sl with
  | _ n ihn =>
    have haw : ∀ x ∈ gs, awake x := by
      intro x hx
      obtain ⟨i, hi, rfl⟩ := Array.mem_iff_getElem.1 hx
      rcases Nat.eq_zero_or_pos i with rfl | hpos
      · have : gs[0] = g := by simpa [Array.getElem?_eq_getElem hi] using h0
        rw [this]; exact awake_of (.inl hs)
      · exact awake_of ((hL.old i _ hpos (Array.getElem?_eq_getElem hi)).status.elim .inl fun x => .inr (.inr x))
    obtain ⟨i, x, d, sl', hi, hg, hst⟩ := crowd_pick (P := P) (w := w.at d2) (sl := sl) haw ⟨0, _, h0, hs⟩
    rcases Nat.eq_zero_or_pos i with rfl | hpos
    · exact H d gs T q sl' _ h0 hL hP ⟨d2, sl, rfl⟩ hst
    · have hq := hL.old i x hpos hi
      have hi0 : (i == 0) = false := by simp; omega
      have hlt : i < gs.size := (Array.getElem?_eq_some_iff.1 hi).1
      cases hqi : q i with
      | zero => rw [hqi] at hq; rw [hq.1] at hg; cases hg
      | succ k' =>
        rw [hqi] at hq
        rcases hq with ⟨hf, _⟩ | ⟨_, g', es, hm, hstp, hq'⟩
        · rw [hf] at hg; cases hg
        have hrunT := runT_crowd_go (P := P) (sl := sl') (i := i) hi (by rw [hi0]; exact hstp ((w.at d2).at d))
        have hsum : sumTo gs.size (upd q i k') + (k' + 1) = sumTo gs.size q + k' := by
          have := sumTo_upd q k' id hlt
          simpa [hqi] using this
        have hz : ((gs.map (Conc.woken P x g' ((w.at d2).at d))).setIfInBounds i g').size = gs.size := by simp
        obtain ⟨B, hP⟩ := hP
        have := ihn (sumTo gs.size (upd q i k')) (by omega) d ((gs.map (Conc.woken P x g' ((w.at d2).at d))).setIfInBounds i g') (T ++ MemOp.ofEvents i x.frame.fn x.frame.place es) (upd q i k') sl' (by rw [get_set_ne (show i ≠ 0 by omega), Array.getElem?_map, h0]; simp [woken_run hs])
          ⟨fun x y hx hy => Leave.slip (Who := fun _ => True) hlt hpos trivial (fun i g h _ => hL.old i g h) hq' _ _ x y hx trivial hy, fun x hx => by
            rw [Deaf_other T (g' := i) (by simp at hx; omega) _ (fun op hop => by obtain ⟨e, _, rfl⟩ := mem_ofEv hop; rfl)]
            exact hL.above x (by simpa using hx)⟩ ⟨B, hP.mute (by omega) hm⟩ (by rw [hz])
        exact En.step (hst.trans hrunT) this
theorem BW.pick {g : Goroutine} {w : World} (hs : g.status = .running)
    (H : ∀ (T2 : Nat → Question → Nat) (d : Nat) (gs : Array Goroutine) (T : Trace) (q : Nat → Nat) (sl : Option (Nat × Nat)) (m : Machine), gs[0]? = some g → Leavers P T gs q → (∃ B, Past (fun _ => False) B T) → (∃ d' sl', m = crowd gs (w.on T2 d') sl') → stepT P m = runT P (crowd gs (w.on T2 d) sl) 0 → En P Post m T) : BW P Post g w := fun T2 d =>
  BWt.pick (w := w.on T2 0) hs (fun d gs T q sl m h0 hL hP hm hst => H T2 d gs T q sl m h0 hL hP hm hst) d
theorem En.own {g a' : Goroutine} {w' : World} {m : Machine} {gs : Array Goroutine} {T : Trace} {q : Nat → Nat} {sl : Option (Nat × Nat)} {es : Array Event} {fn : FuncId} {pos : String} (h0 : gs[0]? = some g) (hL : Leavers P T gs q) (hP : ∃ B, Past (fun _ => False) B T) (hm : ∀ e ∈ es, Meek e)
    (hst : stepT P m = (.next (crowd ((gs.map (Conc.woken P g a' w')).setIfInBounds 0 a') w' sl), MemOp.ofEvents 0 fn pos es))
    (H : ∀ gs' T' q', gs'[0]? = some a' → Leavers P T' gs' q' → (∃ B, Past (fun _ => False) B T') → En P Post (crowd gs' w' sl) T') : En P Post m T := by
  have hlt0 : 0 < gs.size := (Array.getElem?_eq_some_iff.1 h0).1
  obtain ⟨B, hP⟩ := hP
  refine En.step hst (H _ _ q (get_set_same (by simpa using hlt0) _) ⟨fun x y hx hy => ?_, fun x hx => ?_⟩ (past_meek hP hm _ _))
  · rw [get_set_ne (show (0 : Nat) ≠ x by omega), Array.getElem?_map] at hy
    obtain ⟨u, hu, rfl⟩ := Option.map_eq_some_iff.1 hy
    have hq := hL.old x u hx hu
    rw [woken_quitsD hq, Deaf_other T (g' := 0) (by omega) _ (fun op hop => by obtain ⟨e, _, rfl⟩ := mem_ofEv hop; rfl)]
    exact hq
  · rw [Deaf_other T (g' := 0) (by simp at hx; omega) _ (fun op hop => by obtain ⟨e, _, rfl⟩ := mem_ofEv hop; rfl)]
    exact hL.above x (by simpa using hx)
theorem BW.step {g : Goroutine} {w : World} (hs : g.status = .running) (H : ∀ T d, ∃ g' w' es, stepG P true g (w.on T d) = .go g' w' es ∧ (∀ e ∈ es, Meek e) ∧ BW P Post g' w') : BW P Post g w :=
  BW.pick hs fun T2 d gs T q sl m h0 hL hP hmm hst => by
    obtain ⟨g', w', es, hgo, hm, hB⟩ := H T2 d
    have hrun := runT_crowd_go (P := P) (sl := sl) (i := 0) h0 (show stepG P (0 == 0) g (w.on T2 d) = _ from hgo)
    exact En.own h0 hL hP hm (hst.trans hrun) fun gs' T' q' h0' hL' hP' => hB w'.tape w'.drawn gs' T' q' sl h0' hL' hP'
/-- The last step. -/
theorem BW.done {g : Goroutine} {w : World} (hs : g.status = .running) (H : ∀ T d, ∃ v es, stepG P true g (w.on T d) = .ended (.done v) (w.on T d) es ∧ (∀ e ∈ es, Meek e) ∧ Post v (w.on T d)) : BW P Post g w :=
  BW.pick hs fun T2 d gs T q sl m h0 hL hP hmm hst => by
    obtain ⟨v, es, hend, hm, hpost⟩ := H T2 d
    have hrunT := runT_many_ended (P := P) (sl := sl) (i := 0) h0 (show stepG P (0 == 0) g (w.on T2 d) = _ from hend)
    obtain ⟨B, hP⟩ := hP
    obtain ⟨B', hP'⟩ := past_meek hP hm g.frame.fn g.frame.place
    obtain ⟨d', sl', rfl⟩ := hmm
    have hstep := hst.trans hrunT
    refine ⟨0, crowd gs (w.on T2 d') sl', _, _, T ++ MemOp.ofEvents 0 g.frame.fn g.frame.place es, ?_, rfl, ?_, v, rfl, hpost, hP'.clean, hP'.over, ⟨fun x hx => ?_, rfl⟩, fun j x hx hj => ?_⟩
    · simp only [runNT, hstep]
    · have := runNT_fst P 1 (crowd gs (w.on T2 d') sl') #[]
      simp only [runNT, hstep, runN] at this
      cases hq : Go.step P (crowd gs (w.on T2 d') sl') with
      | next m' => rw [hq] at this; cases this
      | ended o w => rw [hq] at this; exact this.symm
    · obtain ⟨j, hj⟩ := List.mem_iff_getElem?.1 hx
      rw [List.getElem?_drop] at hj
      exact ⟨_, (hL.old (1 + j) x (by omega) (by simpa [crowd] using hj)).leaves⟩
    · have hq := hL.old j x (by omega) hx
      refine ⟨q j, ?_⟩
      have e : (T ++ MemOp.ofEvents 0 g.frame.fn g.frame.place es).deaf j (T ++ MemOp.ofEvents 0 g.frame.fn g.frame.place es).size = Deaf T j :=
        Deaf_other T (g := j) (g' := 0) (by omega) _ (fun op hop => by obtain ⟨e, _, rfl⟩ := mem_ofEv hop; rfl)
      rw [e]
      exact hq.hears _
theorem BW.ctl {g g' : Goroutine} {w : World} (hs : g.status = .running) (h : ∀ w, stepG P true g w = .go g' w) (hB : BW P Post g' w) : BW P Post g w :=
  BW.step hs fun T d => ⟨g', _, #[], h _, by simp, fun T2 d2 => hB T2 d2⟩
theorem BW.goal {Tg : St → World → Prop} {s : St} {w : World} (k : List Item) (cs : List Frame) (h : Goal P Tg s w) (hk : ∀ s w, Tg s w → BW P Post (gOf k cs s) w) : BW P Post (gOf k cs s) w := by
  induction h using Goal.ind with
  | here h =>
    obtain ⟨T, d, h⟩ := h
    exact fun T2 d2 => hk _ _ h T2 d2
  | step nx h hn ih => exact BW.step (gOf_run k cs _) fun T d => ⟨_, _, _, (h T d).2 k cs, (h T d).1, ih T d⟩
theorem BW.spawn {a : Goroutine} {w : World} (hs : a.status = .running) (H : ∀ T, ∃ (a' child : Goroutine) (w' : World) (vs : List Value) (c L : Nat) (z : Value), c < L ∧ L ≤ w'.heap.size ∧ (∀ d, stepG P true a ((w.on T 0).at d) = .spawn a' child (w'.at d) #[]) ∧ (∃ s r tm, w'.heap[c]? = some (.chan 0 #[] false s r tm)) ∧ RecvsO P c L z (fun _ g w => BW P Post g w) vs (fun _ => False) a' w' ∧ SendsO P c L vs (fun _ => False) child w') : BW P Post a w := by
  intro T2 d gs T q sl h0 hL hP
  obtain ⟨a', child, w', vs, c, L, z, hcL, hLw, hsp, hch, hA, hB⟩ := H T2
  obtain ⟨B, hP⟩ := hP
  exact En.reach (pipe_phase (w := w.on T2 d) (es := #[]) hcL hLw h0 hs hL hP hsp hch hA hB)
end
end Go.Proofs.Ytlbkhiphnllfpam
