/-
  Goroutine 0 beside others that only leave: its walk to the end; calls and code of its own by the lone walk; the receiver.
-/
import Derived.Test.YtlbkhiphnllfpacGab
import Derived.Conc.CompanyMem
import Derived.Test.YtlbkhiphnllfpacGac
import Derived.Test.YtlbkhiphnllfpacRows
import Derived.KernelRfl
import Derived.Conc.SmallLaws
namespace Go.Proofs.Ytlbkhiphnllfpac
open Go.Conc
open Go.ConcN (sumTo upd sumTo_upd upd_ne upd_same)
set_option linter.unusedVariables false
set_option maxRecDepth 100000
section
variable {P : Program} {Post : Value → World → Prop}
/-- The run ends well. -/
def En (P : Program) (Post : Value → World → Prop) (m : Machine) (T : Trace) : Prop :=
  ∃ N last o w' t', runNT P (N + 1) m T = (.ended o w', t') ∧ runN P N m = .next last ∧ step P last = .ended o w' ∧ Conc.Good P Post last o w' t'
theorem En.runs {m m' : Machine} {T T' : Trace} {K : Nat} (h : runNT P K m T = (.next m', T')) (hE : En P Post m' T') : En P Post m T := by
  obtain ⟨N, last, o, w', t', h1, h2, h3, h4⟩ := hE
  have hk : runN P K m = .next m' := by rw [← runNT_fst P K m T, h]
  refine ⟨K + N, last, o, w', t', ?_, ?_, h3, h4⟩
  · rw [show K + N + 1 = K + (N + 1) by omega, runNT_add, h]; exact h1
  · rw [runN_add, hk]; exact h2
theorem En.step {m m' : Machine} {T : Trace} {ops : Array MemOp} (h : stepT P m = (.next m', ops)) (hE : En P Post m' (T ++ ops)) : En P Post m T :=
  En.runs (K := 1) (by rw [runNT_succ_next h]; rfl) hE
/-- On its way to the end, beside others that only leave. -/
def BW (P : Program) (Post : Value → World → Prop) (g : Goroutine) (w : World) : Prop :=
  ∀ (T2 : Nat → Question → Nat) (d : Nat) (gs : Array Goroutine) (T : Trace) (q : Nat → Nat) (sl : Option (Nat × Nat)), gs[0]? = some g → Leavers P T gs q → (∃ B, Past (fun _ => False) B T) → En P Post (crowd gs (w.on T2 d) sl) T
theorem En.reach {m : Machine} {T : Trace} {n : Nat} (h : Reach P (fun _ g w => BW P Post g w) n m T) : En P Post m T := by
  obtain ⟨N, gs', a', w', sl', T', q', B', M, h1, h2, h3, h4, h5, h6⟩ := h
  exact En.runs h1 (h4 w'.tape w'.drawn gs' T' q' sl' h3 h5 ⟨B', h6⟩)
/-- The same, on the world's own tape. -/
def BWt (P : Program) (Post : Value → World → Prop) (g : Goroutine) (w : World) : Prop :=
  ∀ (d : Nat) (gs : Array Goroutine) (T : Trace) (q : Nat → Nat) (sl : Option (Nat × Nat)), gs[0]? = some g → Leavers P T gs q → (∃ B, Past (fun _ => False) B T) → En P Post (crowd gs (w.at d) sl) T
theorem BWt.pick {g : Goroutine} {w : World} (hs : g.status = .running)
    (H : ∀ (d : Nat) (gs : Array Goroutine) (T : Trace) (q : Nat → Nat) (sl : Option (Nat × Nat)) (m : Machine), gs[0]? = some g → Leavers P T gs q → (∃ B, Past (fun _ => False) B T) → (∃ d' sl', m = crowd gs (w.at d') sl') → stepT P m = runT P (crowd gs (w.at d) sl) 0 → En P Post m T) : BWt P Post g w := by
  intro d2 gs T q sl h0 hL hP
  generalize hn : sumTo gs.size q = n
  induction n using Nat.strongRecOn generalizing d2 gs T q sl with
  | _ n ihn =>
    have haw : ∀ x ∈ gs, awake x := by
      intro x hx
      obtain ⟨i, hi, rfl⟩ := Array.mem_iff_getElem.1 hx
      rcases Nat.eq_zero_or_pos i with rfl | hpos
      · have : gs[0] = g := by simpa [Array.getElem?_eq_getElem hi] using h0
        rw [this]; exact awake_of (.inl hs)
      · exact awake_of ((hL.old i _ hpos (Array.getElem?_eq_getElem hi)).status.elim .inl fun x => .inr (.inr x))
    obtain ⟨i, x, d, sl', hi, hg, hst⟩ := crowd_pick (P := P) (w := w.at d2) (sl := sl) haw ⟨0, _, h0, hs⟩
    rcases Nat.eq_zero_or_pos i with rfl | hpos
    · exact H d gs T q sl' _ h0 hL hP ⟨d2, sl, rfl⟩ hst
    · have hq := hL.old i x hpos hi
      have hi0 : (i == 0) = false := by simp; omega
      have hlt : i < gs.size := (Array.getElem?_eq_some_iff.1 hi).1
      cases hqi : q i with
      | zero => rw [hqi] at hq; rw [hq.1] at hg; cases hg
      | succ k' =>
        rw [hqi] at hq
        rcases hq with ⟨hf, _⟩ | ⟨_, g', es, hm, hstp, hq'⟩
        · rw [hf] at hg; cases hg
        have hrunT := runT_crowd_go (P := P) (sl := sl') (i := i) hi (by rw [hi0]; exact hstp ((w.at d2).at d))
        have hsum : sumTo gs.size (upd q i k') + (k' + 1) = sumTo gs.size q + k' := by
          have := sumTo_upd q k' id hlt
          simpa [hqi] using this
        have hz : ((gs.map (Conc.woken P x g' ((w.at d2).at d))).setIfInBounds i g').size = gs.size := by simp
        obtain ⟨B, hP⟩ := hP
        have := ihn (sumTo gs.size (upd q i k')) (by omega) d ((gs.map (Conc.woken P x g' ((w.at d2).at d))).setIfInBounds i g') (T ++ MemOp.ofEvents i x.frame.fn x.frame.place es) (upd q i k') sl' (by rw [get_set_ne (show i ≠ 0 by omega), Array.getElem?_map, h0]; simp [woken_run hs])
          ⟨fun x y hx hy => Leave.slip (Who := fun _ => True) hlt hpos trivial (fun i g h _ => hL.old i g h) hq' _ _ x y hx trivial hy, fun x hx => by
            rw [Deaf_other T (g' := i) (by simp at hx; omega) _ (fun op hop => by obtain ⟨e, _, rfl⟩ := mem_ofEv hop; rfl)]
            exact hL.above x (by simpa using hx)⟩ ⟨B, hP.mute (by omega) hm⟩ (by rw [hz])
        exact En.step (hst.trans hrunT) this
theorem BW.pick {g : Goroutine} {w : World} (hs : g.status = .running)
    (H : ∀ (T2 : Nat → Question → Nat) (d : Nat) (gs : Array Goroutine) (T : Trace) (q : Nat → Nat) (sl : Option (Nat × Nat)) (m : Machine), gs[0]? = some g → Leavers P T gs q → (∃ B, Past (fun _ => False) B T) → (∃ d' sl', m = crowd gs (w.on T2 d') sl') → stepT P m = runT P (crowd gs (w.on T2 d) sl) 0 → En P Post m T) : BW P Post g w := fun T2 d =>
  BWt.pick (w := w.on T2 0) hs (fun d gs T q sl m h0 hL hP hm hst => H T2 d gs T q sl m h0 hL hP hm hst) d
theorem En.own {g a' : Goroutine} {w' : World} {m : Machine} {gs : Array Goroutine} {T : Trace} {q : Nat → Nat} {sl : Option (Nat × Nat)} {es : Array Event} {fn : FuncId} {pos : String} (h0 : gs[0]? = some g) (hL : Leavers P T gs q) (hP : ∃ B, Past (fun _ => False) B T) (hm : ∀ e ∈ es, Meek e)
    (hst : stepT P m = (.next (crowd ((gs.map (Conc.woken P g a' w')).setIfInBounds 0 a') w' sl), MemOp.ofEvents 0 fn pos es))
    (H : ∀ gs' T' q', gs'[0]? = some a' → Leavers P T' gs' q' → (∃ B, Past (fun _ => False) B T') → En P Post (crowd gs' w' sl) T') : En P Post m T := by
  have hlt0 : 0 < gs.size := (Array.getElem?_eq_some_iff.1 h0).1
  obtain ⟨B, hP⟩ := hP
  refine En.step hst (H _ _ q (get_set_same (by simpa using hlt0) _) ⟨fun x y hx hy => ?_, fun x hx => ?_⟩ (past_meek hP hm _ _))
  · rw [get_set_ne (show (0 : Nat) ≠ x by omega), Array.getElem?_map] at hy
    obtain ⟨u, hu, rfl⟩ := Option.map_eq_some_iff.1 hy
    have hq := hL.old x u hx hu
    rw [woken_quitsD hq, Deaf_other T (g' := 0) (by omega) _ (fun op hop => by obtain ⟨e, _, rfl⟩ := mem_ofEv hop; rfl)]
    exact hq
  · rw [Deaf_other T (g' := 0) (by simp at hx; omega) _ (fun op hop => by obtain ⟨e, _, rfl⟩ := mem_ofEv hop; rfl)]
    exact hL.above x (by simpa using hx)
theorem BW.step {g : Goroutine} {w : World} (hs : g.status = .running) (H : ∀ T d, ∃ g' w' es, stepG P true g (w.on T d) = .go g' w' es ∧ (∀ e ∈ es, Meek e) ∧ BW P Post g' w') : BW P Post g w :=
  BW.pick hs fun T2 d gs T q sl m h0 hL hP hmm hst => by
    obtain ⟨g', w', es, hgo, hm, hB⟩ := H T2 d
    have hrun := runT_crowd_go (P := P) (sl := sl) (i := 0) h0 (show stepG P (0 == 0) g (w.on T2 d) = _ from hgo)
    exact En.own h0 hL hP hm (hst.trans hrun) fun gs' T' q' h0' hL' hP' => hB w'.tape w'.drawn gs' T' q' sl h0' hL' hP'
/-- The last step. -/
theorem BW.done {g : Goroutine} {w : World} (hs : g.status = .running) (H : ∀ T d, ∃ v es, stepG P true g (w.on T d) = .ended (.done v) (w.on T d) es ∧ (∀ e ∈ es, Meek e) ∧ Post v (w.on T d)) : BW P Post g w :=
  BW.pick hs fun T2 d gs T q sl m h0 hL hP hmm hst => by
    obtain ⟨v, es, hend, hm, hpost⟩ := H T2 d
    have hrunT := runT_many_ended (P := P) (sl := sl) (i := 0) h0 (show stepG P (0 == 0) g (w.on T2 d) = _ from hend)
    obtain ⟨B, hP⟩ := hP
    obtain ⟨B', hP'⟩ := past_meek hP hm g.frame.fn g.frame.place
    obtain ⟨d', sl', rfl⟩ := hmm
    have hstep := hst.trans hrunT
    refine ⟨0, crowd gs (w.on T2 d') sl', _, _, T ++ MemOp.ofEvents 0 g.frame.fn g.frame.place es, ?_, rfl, ?_, v, rfl, hpost, hP'.clean, hP'.over, ⟨fun x hx => ?_, rfl⟩, fun j x hx hj => ?_⟩
    · simp only [runNT, hstep]
    · have := runNT_fst P 1 (crowd gs (w.on T2 d') sl') #[]
      simp only [runNT, hstep, runN] at this
      cases hq : Go.step P (crowd gs (w.on T2 d') sl') with
      | next m' => rw [hq] at this; cases this
      | ended o w => rw [hq] at this; exact this.symm
    · obtain ⟨j, hj⟩ := List.mem_iff_getElem?.1 hx
      rw [List.getElem?_drop] at hj
      exact ⟨_, (hL.old (1 + j) x (by omega) (by simpa [crowd] using hj)).leaves⟩
    · have hq := hL.old j x (by omega) hx
      refine ⟨q j, ?_⟩
      have e : (T ++ MemOp.ofEvents 0 g.frame.fn g.frame.place es).deaf j (T ++ MemOp.ofEvents 0 g.frame.fn g.frame.place es).size = Deaf T j :=
        Deaf_other T (g := j) (g' := 0) (by omega) _ (fun op hop => by obtain ⟨e, _, rfl⟩ := mem_ofEv hop; rfl)
      rw [e]
      exact hq.hears _
theorem BW.ctl {g g' : Goroutine} {w : World} (hs : g.status = .running) (h : ∀ w, stepG P true g w = .go g' w) (hB : BW P Post g' w) : BW P Post g w :=
  BW.step hs fun T d => ⟨g', _, #[], h _, by simp, fun T2 d2 => hB T2 d2⟩
theorem BW.goal {Tg : St → World → Prop} {s : St} {w : World} (k : List Item) (cs : List Frame) (h : Goal P Tg s w) (hk : ∀ s w, Tg s w → BW P Post (gOf k cs s) w) : BW P Post (gOf k cs s) w := by
  induction h using Goal.ind with
  | here h =>
    obtain ⟨T, d, h⟩ := h
    exact fun T2 d2 => hk _ _ h T2 d2
  | step nx h hn ih => exact BW.step (gOf_run k cs _) fun T d => ⟨_, _, _, (h T d).2 k cs, (h T d).1, ih T d⟩
theorem BW.spawn {a : Goroutine} {w : World} (hs : a.status = .running) (H : ∀ T, ∃ (a' child : Goroutine) (w' : World) (vs : List Value) (c L : Nat) (z : Value), c < L ∧ L ≤ w'.heap.size ∧ (∀ d, stepG P true a ((w.on T 0).at d) = .spawn a' child (w'.at d) #[]) ∧ (∃ s r tm, w'.heap[c]? = some (.chan 0 #[] false s r tm)) ∧ RecvsO P c L z (fun _ g w => BW P Post g w) vs (fun _ => False) a' w' ∧ SendsO P c L vs (fun _ => False) child w') : BW P Post a w := by
  intro T2 d gs T q sl h0 hL hP
  obtain ⟨a', child, w', vs, c, L, z, hcL, hLw, hsp, hch, hA, hB⟩ := H T2
  obtain ⟨B, hP⟩ := hP
  exact En.reach (pipe_phase (w := w.on T2 d) (es := #[]) hcL hLw h0 hs hL hP hsp hch hA hB)
end
end Go.Proofs.Ytlbkhiphnllfpac
namespace Go.Proofs.Ytlbkhiphnllfpac
open Go.Conc
open Go.ConcN (sumTo upd sumTo_upd upd_ne upd_same)
set_option linter.unusedVariables false
set_option maxRecDepth 100000
section
variable {P : Program} {L' : FuncId → Bool} {Post : Value → World → Prop} {c L : Nat} {w0 : World} {h : Hl} {g : Goroutine} {w : World}
theorem evO_meek {M : Nat → Prop} {B : Nat} {e : Event} (he : EvO L M B e) : Meek e := he.quiet
theorem goO_en {M : Nat → Prop} (H : GoO P true c L (fun _ g w => BW P Post g w) M g w) : ∀ w₂, Keep c L M w w₂ → BWt P Post g w₂ := by
  induction H using GoO.ind with
  | stop h => intro w₂ k d gs T q sl h0 hL hP; exact h w₂ k w₂.tape d gs T q sl h0 hL hP
  | step hs nx h hn ih =>
    rename_i M g w
    intro w₂ k
    refine BWt.pick hs fun d gs T q sl m h0 hL hP hmm hst => ?_
    have k' : Keep c L M w (w₂.at d) := k.trans (Keep.at _ _ _ _ d)
    obtain ⟨hgo, hmv⟩ := h _ k'
    have hih := ih _ k' _ (Keep.refl _ _ _ _)
    generalize (nx (w₂.at d)).1 = a' at *
    generalize (nx (w₂.at d)).2.1 = w' at *
    generalize (nx (w₂.at d)).2.2.1 = es at *
    generalize (nx (w₂.at d)).2.2.2 = M' at *
    have hrun := runT_crowd_go (P := P) (sl := sl) (i := 0) h0 (show stepG P (0 == 0) g (w₂.at d) = _ from hgo)
    exact En.own h0 hL hP (fun e he => evO_meek (hmv.evs e he)) (hst.trans hrun) fun gs' T' q' h0' hL' hP' => hih w'.drawn gs' T' q' sl h0' hL' hP'
theorem BW.ofGO (H : GO P true c L w0 (fun _ g w => BW P Post g w) h g) (hS : Sat w0 c L h w) : BW P Post g w := fun T2 d gs T q sl h0 hL hP =>
  goO_en (H (w.on T2 d) ⟨hS.old, hS.own, hS.far, hS.size, hS.os, hS.output⟩) _ (Keep.refl _ _ _ _) d gs T q sl h0 hL hP
/-- What lies there at the beginning. -/
theorem Sat.start (w : World) : Sat w w.heap.size w.heap.size (fun _ => none) w := ⟨fun _ _ _ => rfl, (fun _ _ e => by cases e), (fun _ _ e => by cases e), Nat.le_refl _, rfl, rfl⟩
theorem mOf_inv {f0 : FuncId} {x : Array Value} {t : List Item} {s : St} {w w' : World} (e : mOf kR [trap] s w = lone ((base f0).at ⟨x, []⟩ (t ++ kR)) [trap] w') : s = ⟨⟨f0, x, t⟩, false, []⟩ := by
  obtain ⟨⟨f, y, u⟩, b, rest⟩ := s
  have hc : stk kR [trap] rest = [trap] := congrArg (fun m : Machine => (m.gs[0]?.getD default).callers) e
  have hr : rest = [] := by
    cases rest with
    | nil => rfl
    | cons m r =>
      have hl : ∀ r : List Fm, (stk kR [trap] r).length = r.length + 1 := fun r => by
        induction r with
        | nil => rfl
        | cons m r ih => simp [stk, ih]
      have := congrArg List.length hc
      rw [hl] at this
      simp at this
  subst hr
  have hf : (if b then (addK kR [] ⟨f, y, u⟩).rt else (addK kR [] ⟨f, y, u⟩).fr) = (base f0).at ⟨x, []⟩ (t ++ kR) := congrArg (fun m : Machine => (m.gs[0]?.getD default).frame) e
  cases b with
  | true => have := congrArg Frame.mode hf; cases this
  | false =>
    have h1 : f = f0 := congrArg Frame.fn hf
    have h2 : y = x := congrArg Frame.tmps hf
    have h3 : u ++ kR = t ++ kR := congrArg Frame.todo hf
    subst h1 h2
    rw [List.append_cancel_right h3]
/-- A CALL, by the lone contract of what is called, on every tape. -/
theorem BW.call (hP : OkP P L') {f0 : FuncId} {x : Array Value} {k : List Item} {cs : List Frame} {ops : Array Oper} {i : Nat} {rest : List Nat} {o : Oper} {f : FuncId} {fn : Func} {cd : Code} {args : Array Operand} {ats : Array TypeId} {vs : Array Value}
    (ho : ops[i]? = some o) (hw : Region.wanted o (yielded ops x) = true) (hop : o.op = .call { callee := .value (.func f), args, argTypes := ats }) (hf : P.funcs[f]? = some fn) (hname : (fn.name == "runtime.NumGoroutine") = false) (hb : fn.body = some cd)
    (ha : args.map (Act.eval ⟨x, []⟩) = vs) (hL : L' f = true) (hops : ops.all (okOp P L') = true) {R : World → Ending → World → Prop} (hC : ∀ T d, Calls P f vs (w.on T d) (R (w.on T d))) (hR : ∀ W e w', R W e w' → ∃ v, e = .returned v)
    (hnext : ∀ T d v w', R (w.on T d) (.returned v) w' → BW P Post (G ((base f0).at (Act.put ⟨x, []⟩ o.dst v) (.inRegion ops rest :: k)) cs) w') : BW P Post (G ((base f0).at ⟨x, []⟩ (.inRegion ops (i :: rest) :: k)) cs) w := by
  have hb' : fn.body.isNone = false := by rw [hb]; rfl
  obtain ⟨fn', cd', hf', hbd', hok⟩ := hP.code f hL
  obtain rfl : fn' = fn := Option.some.inj (hf'.symm.trans hf)
  obtain rfl : cd' = cd := Option.some.inj (hbd'.symm.trans hb)
  have he : ∀ (k : List Item) (cs : List Frame), gOf k cs ⟨entF P f vs, false, [⟨f0, x, [.inRegion ops (i :: rest)]⟩]⟩ = G (Frame.enter P f vs .normal) ((base f0).at ⟨x, []⟩ (.inRegion ops (i :: rest) :: k) :: cs) := fun k cs => by
    rw [enter_fm hf hb]
    unfold gOf
    simp [addK, stk, Fm.fr]
  have hm : ∀ (k : List Item) (cs : List Frame) (W : World), mOf k cs ⟨entF P f vs, false, [⟨f0, x, [.inRegion ops (i :: rest)]⟩]⟩ W = lone (Frame.enter P f vs .normal) ((base f0).at ⟨x, []⟩ (.inRegion ops (i :: rest) :: k) :: cs) W := fun k cs W => by
    rw [enter_fm hf hb]
    unfold mOf
    simp [addK, stk, Fm.fr]
  have hg : Goal P (fun s w' => ∃ T v, s = ⟨⟨f0, (Act.put ⟨x, []⟩ o.dst v).tmps, [.inRegion ops rest]⟩, false, []⟩ ∧ R (w.on T 0) (.returned v) w') ⟨entF P f vs, false, [⟨f0, x, [.inRegion ops (i :: rest)]⟩]⟩ w := by
    refine goal_of_contract hP ⟨fun it hit => ?_, fun m hm => ?_⟩ fun T => ?_
    · have et : (entF P f vs).t = [.code cd'] := by simp [entF, hf, hb]
      rw [et] at hit
      obtain rfl := List.mem_singleton.1 hit
      exact hok
    · obtain rfl := List.mem_singleton.1 hm
      exact ⟨fun it hit => by obtain rfl := List.mem_singleton.1 hit; exact hops, ops, i, rest, [], rfl⟩
    · obtain ⟨e, w', fr, hr, hcm, _, hlv⟩ := hC T 0 ((base f0).at ⟨x, []⟩ (.inRegion ops (i :: rest) :: kR) :: [trap])
      obtain ⟨v, rfl⟩ := hR _ _ _ hr
      obtain ⟨n, hn⟩ := (show Steps P _ _ from hcm)
      have hfin : ((base f0).at ⟨x, []⟩ (.inRegion ops (i :: rest) :: kR)).finish v = (base f0).at ⟨(Act.put ⟨x, []⟩ o.dst v).tmps, []⟩ ([.inRegion ops rest] ++ kR) := by
        rw [Frame.finish_at, ho]
        show (base f0).at (Act.put ⟨x, []⟩ o.dst v) _ = _
        rw [put_eq]
        rfl
      have hl := step_leave_returned (c := (base f0).at ⟨x, []⟩ (.inRegion ops (i :: rest) :: kR)) (cs := [trap]) hlv
      rw [hfin] at hl
      refine ⟨n + 1, _, w', ?_, .inl ?_, fun s hs => ⟨T, v, mOf_inv hs, hr⟩⟩
      · rw [hm, runN_more (n := 1) hn]
        simp only [runN, hl]
      · rfl
  have hB := BW.goal (Post := Post) k cs hg fun s w' ⟨T, v, hs, hr⟩ => by
    subst hs
    have := hnext T 0 v w' hr
    rw [put_eq] at this
    exact this
  rw [he] at hB
  refine BW.step rfl fun T d => ⟨_, w.on T d, #[], ?_, by simp, fun T2 d2 => hB T2 d2⟩
  rw [stepG_enter ho hw (by simp [base]) (run_call_body hop hf hname hb'), ha]
  have : listed P (base f0).fn ⟨x, []⟩ o (w.on T d) = #[] := listed_nil (events_call_body hop hf hname hb' _)
  rw [this]
/-- The same, in the walk by what it owns. -/
theorem GO.lone (hP : OkP P L') {f0 : FuncId} {x : Array Value} {k : List Item} {cs : List Frame} {ops : Array Oper} {i : Nat} {rest : List Nat} {o : Oper} {f : FuncId} {fn : Func} {cd : Code} {args : Array Operand} {ats : Array TypeId} {vs : Array Value}
    (ho : ops[i]? = some o) (hw : Region.wanted o (yielded ops x) = true) (hop : o.op = .call { callee := .value (.func f), args, argTypes := ats }) (hf : P.funcs[f]? = some fn) (hname : (fn.name == "runtime.NumGoroutine") = false) (hb : fn.body = some cd)
    (ha : args.map (Act.eval ⟨x, []⟩) = vs) (hL : L' f = true) (hops : ops.all (okOp P L') = true) {R : World → Ending → World → Prop} (hC : ∀ w, Sat w0 c L h w → Calls P f vs w (R w)) (hR : ∀ W e w', R W e w' → ∃ v, e = .returned v)
    (hnext : ∀ w v w', Sat w0 c L h w → R w (.returned v) w' → BW P Post (G ((base f0).at (Act.put ⟨x, []⟩ o.dst v) (.inRegion ops rest :: k)) cs) w') :
    GO P true c L w0 (fun _ g w => BW P Post g w) h (G ((base f0).at ⟨x, []⟩ (.inRegion ops (i :: rest) :: k)) cs) :=
  GO.stop fun w hS => BW.call hP ho hw hop hf hname hb ha hL hops (R := R) (fun T d => hC (w.on T d) ⟨hS.old, hS.own, hS.far, hS.size, hS.os, hS.output⟩) hR (fun T d v w' hr => hnext (w.on T d) v w' ⟨hS.old, hS.own, hS.far, hS.size, hS.os, hS.output⟩ hr)
end
end Go.Proofs.Ytlbkhiphnllfpac
namespace Go.Proofs.Ytlbkhiphnllfpac
open Go.Conc
set_option linter.unusedVariables false
set_option maxRecDepth 100000
section
variable {P : Program} {L' : FuncId → Bool} {Post : Value → World → Prop} {w : World}
theorem mOf_inv2 {f0 : FuncId} {x : Array Value} {todo : List Item} {s : St} {w w' : World} (e : mOf kR [trap] s w = lone { (base f0).at ⟨x, []⟩ todo with mode := .returning } [trap] w') : ∃ t, s = ⟨⟨f0, x, t⟩, true, []⟩ := by
  obtain ⟨⟨f, y, u⟩, b, rest⟩ := s
  have hc : stk kR [trap] rest = [trap] := congrArg (fun m : Machine => (m.gs[0]?.getD default).callers) e
  have hr : rest = [] := by
    cases rest with
    | nil => rfl
    | cons m r =>
      have hl : ∀ r : List Fm, (stk kR [trap] r).length = r.length + 1 := fun r => by
        induction r with
        | nil => rfl
        | cons m r ih => simp [stk, ih]
      have := congrArg List.length hc
      rw [hl] at this
      simp at this
  subst hr
  have hf : (if b then (addK kR [] ⟨f, y, u⟩).rt else (addK kR [] ⟨f, y, u⟩).fr) = { (base f0).at ⟨x, []⟩ todo with mode := .returning } := congrArg (fun m : Machine => (m.gs[0]?.getD default).frame) e
  cases b with
  | false => have := congrArg Frame.mode hf; cases this
  | true =>
    have h1 : f = f0 := congrArg Frame.fn hf
    have h2 : y = x := congrArg Frame.tmps hf
    subst h1 h2
    exact ⟨u, rfl⟩
/-- A PIECE OF CODE of its own, by the lone walk over it. -/
theorem BW.code (hP : OkP P L') {f0 : FuncId} {x : Array Value} {c : Code} {k : List Item} {cs : List Frame} (hok : okCode P L' c = true) {Q : World → Exit → Act → World → Prop}
    (hC : ∀ T d, c.wp P (Q (w.on T d)) ⟨x, []⟩ (w.on T d)) (hQ : ∀ W e a' w', Q W e a' w' → (e = .normal ∨ e = .ret) ∧ a'.defers = [])
    (hn : ∀ T d y w', Q (w.on T d) .normal ⟨y, []⟩ w' → BW P Post (G ((base f0).at ⟨y, []⟩ k) cs) w')
    (hr : ∀ T d y w' todo, Q (w.on T d) .ret ⟨y, []⟩ w' → BW P Post (G { (base f0).at ⟨y, []⟩ todo with mode := .returning } cs) w') :
    BW P Post (G ((base f0).at ⟨x, []⟩ (.code c :: k)) cs) w := by
  have hm : ∀ W : World, mOf kR [trap] ⟨⟨f0, x, [.code c]⟩, false, []⟩ W = lone ((base f0).at ⟨x, []⟩ (.code c :: kR)) [trap] W := fun W => rfl
  have hg : Goal P (fun s w' => ∃ T y, (s = ⟨⟨f0, y, []⟩, false, []⟩ ∧ Q (w.on T 0) .normal ⟨y, []⟩ w') ∨ ∃ t, s = ⟨⟨f0, y, t⟩, true, []⟩ ∧ Q (w.on T 0) .ret ⟨y, []⟩ w') ⟨⟨f0, x, [.code c]⟩, false, []⟩ w := by
    refine goal_of_contract hP ⟨fun it hit => ?_, fun m hm => by cases hm⟩ fun T => ?_
    · obtain rfl := List.mem_singleton.1 hit
      exact hok
    · obtain ⟨e, a', w', hq, harr⟩ := hC T 0 (base f0) kR [trap]
      obtain ⟨he, hd⟩ := hQ _ _ _ _ hq
      obtain ⟨y, df⟩ := a'
      obtain rfl : df = [] := hd
      rcases he with rfl | rfl
      · obtain ⟨n, hn⟩ := (show Steps P _ _ from harr)
        exact ⟨n, _, w', by rw [hm]; exact hn, .inl rfl, fun s hs => ⟨T, y, .inl ⟨mOf_inv (t := []) hs, hq⟩⟩⟩
      · obtain ⟨todo, n, hn⟩ := (show ∃ todo, Steps P _ _ from harr)
        exact ⟨n, _, w', by rw [hm]; exact hn, .inr rfl, fun s hs => by
          obtain ⟨t, ht⟩ := mOf_inv2 hs
          exact ⟨T, y, .inr ⟨t, ht, hq⟩⟩⟩
  have hB := BW.goal (Post := Post) k cs hg fun s w' ⟨T, y, h⟩ => by
    rcases h with ⟨rfl, hq⟩ | ⟨t, rfl, hq⟩
    · exact hn T 0 y w' hq
    · exact hr T 0 y w' _ hq
  exact hB
/-- .. the last piece: it returns. -/
theorem BW.tail (hP : OkP P L') {f0 : FuncId} {x : Array Value} {c : Code} {fn : Func} (hf : P.funcs[f0]? = some fn) (hi : P.inits.idxOf? f0 = none) (hok : okCode P L' c = true)
    (hev : ∀ (y : Array Value) (W : World), ∀ e ∈ (results fn y).events P W #[], Meek e)
    (hC : ∀ T d, c.wp P (bodyPost P fn fun e w' => ∃ v, e = .returned v ∧ Post v w') ⟨x, []⟩ (w.on T d)) (hpost : ∀ v W T d, Post v W → Post v (W.on T d)) (hres : ∀ y v W T d, (results fn y).run P W = .ok v W → (results fn y).run P (W.on T d) = .ok v (W.on T d)) :
    BW P Post (G ((base f0).at ⟨x, []⟩ [.code c]) []) w := by
  have hend : ∀ (y : Array Value) (todo : List Item) (w' : World) (v : Value), (results fn y).run P w' = .ok v w' → Post v w' → BW P Post (G { (base f0).at ⟨y, []⟩ todo with mode := .returning } []) w' := fun y todo w' v h1 h2 =>
    BW.done rfl fun T d => ⟨v, seen P f0 ((results fn y).events P (w'.on T d) #[]), by
      have := hres y v w' T d h1
      simp [G, stepG, unwind, doReturn, Frame.at, base, hf, this, hi, GStep.after], fun e he => hev y _ e (mem_seen he), hpost v w' T d h2⟩
  refine BW.code hP (k := []) (Q := fun _ e a' w' => (e = .normal ∨ e = .ret) ∧ a'.defers = [] ∧ ∃ v, (results fn a'.tmps).run P w' = .ok v w' ∧ Post v w') hok (fun T d => wp_mono (hC T d) fun e a' w' h => ?_) (fun _ _ _ _ h => ⟨h.1, h.2.1⟩) (fun T d y w' h => ?_) (fun T d y w' todo h => ?_)
  · cases e with
    | normal => obtain ⟨h1, v, h2, v', h3, h4⟩ := h; cases h3; exact ⟨.inl rfl, h1, v, h2, h4⟩
    | ret => obtain ⟨h1, v, h2, v', h3, h4⟩ := h; cases h3; exact ⟨.inr rfl, h1, v, h2, h4⟩
    | panic ch => obtain ⟨h1, v', h3, h4⟩ := h; cases h3
    | outgrown => obtain ⟨v', h3, h4⟩ := h; cases h3
    | exit id => exact h.elim
    | goto l => exact h.elim
  · obtain ⟨-, -, v, h1, h2⟩ := h
    exact BW.ctl rfl (fun _ => stepG_end) (hend y [] w' v h1 h2)
  · obtain ⟨-, -, v, h1, h2⟩ := h
    exact hend y todo w' v h1 h2
/-- It returns from the bottom, with one result in a slot. -/
theorem BW.ret1 {f0 : FuncId} {y : Array Value} {todo : List Item} {fn : Func} {t : Tmp} (hf : P.funcs[f0]? = some fn) (hi : P.inits.idxOf? f0 = none) (hrs : fn.results = #[.tmp t]) (hpost : ∀ v W T d, Post v W → Post v (W.on T d)) (h : Post (y.getD t undef) w) :
    BW P Post (G { (base f0).at ⟨y, []⟩ todo with mode := .returning } []) w :=
  BW.done rfl fun T d => ⟨y.getD t undef, #[], by
    simp [G, stepG, unwind, doReturn, Frame.at, base, hf, hi, GStep.after, results, hrs, seen], by simp, hpost _ _ T d h⟩
/-- .. with one result, in a slot. -/
theorem BW.tail1 (hP : OkP P L') {f0 : FuncId} {x : Array Value} {c : Code} {fn : Func} {t : Tmp} (hf : P.funcs[f0]? = some fn) (hi : P.inits.idxOf? f0 = none) (hrs : fn.results = #[.tmp t]) (hok : okCode P L' c = true)
    (hC : ∀ T d, c.wp P (bodyPost P fn fun e w' => ∃ v, e = .returned v ∧ Post v w') ⟨x, []⟩ (w.on T d)) (hpost : ∀ v W T d, Post v W → Post v (W.on T d)) :
    BW P Post (G ((base f0).at ⟨x, []⟩ [.code c]) []) w := by
  have h1 : ∀ (y : Array Value) (W : World), (results fn y).run P W = .ok (y.getD t undef) W ∧ (results fn y).events P W #[] = #[] := fun y W => by
    simp [results, hrs]
  refine BW.tail hP hf hi hok (fun y W e he => ?_) hC hpost (fun y v W T d h => ?_)
  · rw [(h1 y W).2] at he; simp at he
  · rw [(h1 y W).1] at h
    cases h
    exact (h1 y _).1
end
end Go.Proofs.Ytlbkhiphnllfpac
namespace Go.Proofs.Ytlbkhiphnllfpac
open Go.Conc
set_option linter.unusedVariables false
set_option maxRecDepth 100000
def loneL : List FuncId := [7, 16, 18, 19, 21, 22, 23, 24, 25, 26, 27, 28, 45, 33, 32, 46, 47, 48, 51, 52, 53, 54, 55, 57, 58, 59, 60, 61, 62, 63, 72, 73, 74, 75, 76, 77, 79]
def loneB (f : FuncId) : Bool := loneL.elem f
theorem lone_all : (loneL.all fun f => (Try.prog.funcs[f]?).any fun fn => (fn.body).any (okCode Try.prog loneB)) = true := by kernel_rfl
theorem lone_ok : OkP Try.prog loneB where
  code := fun f hf => by
    have h := List.all_eq_true.1 lone_all f (by simpa [loneB] using hf)
    cases h1 : Try.prog.funcs[f]? with
    | none => rw [h1] at h; cases h
    | some fn =>
      rw [h1] at h
      cases h2 : fn.body with
      | none => rw [show (some fn).any _ = (fn.body).any _ from rfl, h2] at h; cases h
      | some c => rw [show (some fn).any _ = (fn.body).any _ from rfl, h2] at h; exact ⟨fn, c, rfl, h2, h⟩
  wide := by kernel_rfl
  step := fun g => by
    have h : (Try.prog.funcs.all fun f => ((f.body.map readies).getD []) == []) = true := by kernel_rfl
    unfold Program.stepOf
    rw [Array.findIdx?_eq_none_iff]
    intro fn hfn
    have h1 := Array.all_eq_true_iff_forall_mem.1 h fn hfn
    cases h2 : fn.body with
    | none => rfl
    | some c =>
      rw [h2] at h1
      have h3 : readies c = [] := by simpa using h1
      simp [h3]
end Go.Proofs.Ytlbkhiphnllfpac
namespace Go.Proofs.Ytlbkhiphnllfpac
open Go.Conc Go.RowKit
set_option linter.unusedVariables false
set_option maxRecDepth 100000
set_option linter.unusedSimpArgs false
section
variable {P : Program} {main : Bool} {c L B : Nat} {z : Value} {w0 : World} {Stop : (Nat → Prop) → Goroutine → World → Prop} {Fin : (Nat → Prop) → Goroutine → World → Prop} {h h' h'' : Hl} {b : Frame} {a : Act} {k : List Item} {cs : List Frame} {ops : Array Oper} {i : Nat} {rest : List Nat} {o : Oper}
theorem dom0 : Hl.dom (fun _ => none) = fun _ => False := by funext k; simp [Hl.dom]
theorem Sat.fresh0 (w : World) (c : Nat) : Sat w c w.heap.size (fun _ => none) w := ⟨fun _ _ _ => rfl, (fun _ _ e => by cases e), (fun _ _ e => by cases e), Nat.le_refl _, rfl, rfl⟩
def RStopOf (P : Program) (c L : Nat) (z : Value) (Fin : (Nat → Prop) → Goroutine → World → Prop) : List Value → (Nat → Prop) → Goroutine → World → Prop
  | [] => AtR P c z fun M g w => Fin M (Conc.served g (recvd true z false)) w
  | v :: vs => AtR P c z fun M g w => RecvsO P c L z Fin vs M (Conc.served g (recvd true v true)) w
theorem recvs_of {vs : List Value} {g : Goroutine} {w : World} (H : GO P true c L w0 (RStopOf P c L z Fin vs) h g) (hS : Sat w0 c L h w) : RecvsO P c L z Fin vs h.dom g w := by
  cases vs <;> exact H w hS
theorem served_o (v : Value) (ho : ops[i]? = some o) : Conc.served (core (G (b.at a (.inRegion ops (i :: rest) :: k)) cs)) v = G (b.at (a.put o.dst v) (.inRegion ops rest :: k)) cs := by
  show G ((b.at a (.inRegion ops (i :: rest) :: k)).finish v) cs = _
  rw [Frame.finish_at, ho]; rfl
/-- It stands at a receive that brings v .. -/
theorem GO.recv {v : Value} {vs : List Value} (ho : ops[i]? = some o) (hw : Region.wanted o (yielded ops a.tmps) = true) (hk : b.kind ≠ .early)
    (hr : ∀ w, Sat w0 c L h w → (execOp a.eval o).run P w = .ok (.comm #[rcase c z] true (.recv true)) w ∧ (execOp a.eval o).events P w #[] = #[])
    (H : GO P true c L w0 (RStopOf P c L z Fin vs) h (G (b.at (a.put o.dst (.tuple #[v, .bool true])) (.inRegion ops rest :: k)) cs)) :
    GO P true c L w0 (RStopOf P c L z Fin (v :: vs)) h (G (b.at a (.inRegion ops (i :: rest) :: k)) cs) :=
  GO.stop fun w hS => ⟨rfl, by rw [stepG_comm ho hw hk (hr w hS).1, listed_nil (hr w hS).2]; rfl, by
    show RecvsO P c L z Fin vs h.dom (Conc.served (core (G (b.at a (.inRegion ops (i :: rest) :: k)) cs)) (recvd true v true)) w
    rw [served_o _ ho]
    exact recvs_of H hS⟩
/-- .. or the channel's end. -/
theorem GO.recvEnd (ho : ops[i]? = some o) (hw : Region.wanted o (yielded ops a.tmps) = true) (hk : b.kind ≠ .early)
    (hr : ∀ w, Sat w0 c L h w → (execOp a.eval o).run P w = .ok (.comm #[rcase c z] true (.recv true)) w ∧ (execOp a.eval o).events P w #[] = #[])
    (H : ∀ w, Sat w0 c L h w → Fin h.dom (G (b.at (a.put o.dst (.tuple #[z, .bool false])) (.inRegion ops rest :: k)) cs) w) :
    GO P true c L w0 (RStopOf P c L z Fin []) h (G (b.at a (.inRegion ops (i :: rest) :: k)) cs) :=
  GO.stop fun w hS => ⟨rfl, by rw [stepG_comm ho hw hk (hr w hS).1, listed_nil (hr w hS).2]; rfl, by
    show Fin h.dom (Conc.served (core (G (b.at a (.inRegion ops (i :: rest) :: k)) cs)) (recvd true z false)) w
    rw [served_o _ ho]
    exact H w hS⟩
theorem GO.leave2 {fn : Func} {todo : List Item} {b₀ : Frame} {a₀ : Act} {t u : Tmp} (hn : b.kind = .normal) (hd : a.defers = []) (hf : P.funcs[b.fn]? = some fn) (hr : fn.results = #[.tmp t, .tmp u])
    (H : GO P main c L w0 Stop h (G (b₀.at (a₀.put ((ops[i]?).bind (·.dst)) (.tuple #[a.tmps.getD t undef, a.tmps.getD u undef])) (.inRegion ops rest :: k)) cs)) :
    GO P main c L w0 Stop h (G { b.at a todo with mode := .returning } (b₀.at a₀ (.inRegion ops (i :: rest) :: k) :: cs)) :=
  GO.quiet rfl fun w hS => goes_leave2 hn hd hf hr ⟨rfl, by simp, H⟩
theorem Hl.tr {r k : Nat} {b : Obj} (n : h k = some b) (f : h r = none) (l : h.le h') (s : ∀ k, k ≠ r → h'' k = h' k) : h'' k = some b := by
  have : k ≠ r := fun e => by rw [e, f] at n; cases n
  rw [s k this]; exact l _ _ n
theorem RowS.le {v : Value} {l : List (Int × Int)} (hr : RowS w0 c L B h v l) (hl : h.le h') : RowS w0 c L B h' v l := by
  obtain ⟨g, cap, cur, e1, e2, e3, e4, e5, e6⟩ := hr
  exact ⟨g, cap, cur, e1, e2, e3, e4, e5, e6.imp (hl _ _) id⟩
theorem RowS.put {v : Value} {l : List (Int × Int)} {r : Nat} (hr : RowS w0 c L B h v l) (f : h r = none) (hl : h.le h') (s : ∀ k, k ≠ r → h'' k = h' k) : RowS w0 c L B h'' v l := by
  obtain ⟨g, cap, cur, e1, e2, e3, e4, e5, e6⟩ := hr
  exact ⟨g, cap, cur, e1, e2, e3, e4, e5, e6.imp (fun n => Hl.tr n f hl s) id⟩
/-- THE go STATEMENT: a phase over a channel begins. -/
theorem BW.go {Post : Value → World → Prop} {w : World} {d : Deferred} {f : Fn} {cap : Array Value} (ho : ops[i]? = some o) (hw : Region.wanted o (yielded ops a.tmps) = true) (hk : b.kind ≠ .early)
    (hr : ∀ W, (execOp a.eval o).run P W = .ok (.spawn d) W) (hd : d.target = .fn f cap) (he : ∀ W, (execOp a.eval o).events P W #[] = #[])
    (H : ∀ T, ∃ (vs : List Value) (c L : Nat) (z : Value), c < L ∧ L ≤ w.heap.size ∧ (∃ s r tm, w.heap[c]? = some (.chan 0 #[] false s r tm)) ∧ RecvsO P c L z (fun _ g w => BW P Post g w) vs (fun _ => False) (G (b.at (a.put o.dst undef) (.inRegion ops rest :: k)) cs) (w.on T 0) ∧ SendsO P c L vs (fun _ => False) (born P d) (w.on T 0)) :
    BW P Post (G (b.at a (.inRegion ops (i :: rest) :: k)) cs) w :=
  BW.spawn rfl fun T => by
    obtain ⟨vs, c, L, z, h1, h2, h3, h4, h5⟩ := H T
    exact ⟨_, born P d, w.on T 0, vs, c, L, z, h1, h2, fun dd => by rw [stepG_spawn ho hw hk (hr _) hd, listed_nil (he _)], h3, h4, h5⟩
theorem mkch {w : World} (es : Array Event) : (Instr.makeChan 91 (.int .i64 0)).events Try.prog w es = es := by
  obtain ⟨i0, hi, hz0, hz1, hz2⟩ := info_parts infoTurn
  simpa using events_makeChan (P := Try.prog) (w := w) Try.underlying91 hi .i64 0 (by omega) (by simp) es
theorem recv_run {x : Operand} (hop : o.op = .recv 70 x true) (hx : a.eval x = .chan (some c)) (w : World) :
    (execOp a.eval o).run Try.prog w = .ok (.comm #[rcase c (.agg #[.int .i64 0, .int .i64 0])] true (.recv true)) w ∧ (execOp a.eval o).events Try.prog w #[] = #[] := by
  obtain ⟨i0, hi, hz0, hz1, hz2⟩ := info_parts infoTurn
  unfold execOp
  simp only [hop]
  constructor
  · simp [run_underlying Try.underlying70, zeroValue, typeInfo, hi, hz0, hx, rcase]
  · simp [run_underlying Try.underlying70, zeroValue, typeInfo, hi, hz0, hx, rcase, go_sem]
end
end Go.Proofs.Ytlbkhiphnllfpac
