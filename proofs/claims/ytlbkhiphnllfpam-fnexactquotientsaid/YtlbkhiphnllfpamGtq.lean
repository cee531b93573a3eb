/-
  Goroutine 0 beside others that only leave: the walk by what it owns; a call by the lone contract of what is called.
-/
import Derived.Test.YtlbkhiphnllfpamGtp
import Derived.Test.YtlbkhiphnllfpamGtj
namespace Go.Proofs.Ytlbkhiphnllfpam
open Go.Conc
open Go.ConcN (sumTo upd sumTo_upd upd_ne upd_same)
set_option linter.unusedVariables false
section
variable {P : Program} {L' : FuncId → Bool} {Post : Value → World → Prop} {c L : Nat} {w0 : World} {h : Hl} {g : Goroutine} {w : World}
theorem evO_meek {M : Nat → Prop} {B : Nat} {e : Event} (he : EvO L M B e) : Meek e := he.quiet
theorem goO_en {M : Nat → Prop} (H : GoO P true c L (fun _ g w => BW P Post g w) M g w) : ∀ w₂, Keep c L M w w₂ → BWt P Post g w₂ := by
  induction H using GoO.ind with
  | stop h => intro w₂ k d gs T q sl h0 hL hP; exact h w₂ k w₂.tape d gs T q sl h0 hL hP
  | step hs nx h hn ih =>
    rename_i M g w
    intro w₂ k
    refine BWt.pick hs fun d gs T q sl m h0 hL hP hmm hst => ?_
    have k' : Keep c L M w (w₂.at d) := k.trans (Keep.at _ _ _ _ d)
    obtain ⟨hgo, hmv⟩ := h _ k'
    have hih := ih _ k' _ (Keep.refl _ _ _ _)
    generalize (nx (w₂.at d)).1 = a' at *
    generalize (nx (w₂.at d)).2.1 = w' at *
    generalize (nx (w₂.at d)).2.2.1 = es at *
    generalize (nx (w₂.at d)).2.2.2 = M' at *
    have hrun := runT_crowd_go (P := P) (sl := sl) (i := 0) h0 (show stepG P (0 == 0) g (w₂.at d) = _ from hgo)
    exact En.own h0 hL hP (fun e he => evO_meek (hmv.evs e he)) (hst.trans hrun) fun gs' T' q' h0' hL' hP' => hih w'.drawn gs' T' q' sl h0' hL' hP'
theorem BW.ofGO (H : GO P true c L w0 (fun _ g w => BW P Post g w) h g) (hS : Sat w0 c L h w) : BW P Post g w := fun T2 d gs T q sl h0 hL hP =>
  goO_en (H (w.on T2 d) ⟨hS.old, hS.own, hS.far, hS.size, hS.os, hS.output⟩) _ (Keep.refl _ _ _ _) d gs T q sl h0 hL hP
/-- What lies there at the beginning. -/
theorem Sat.start (w : World) : Sat w w.heap.size w.heap.size (fun _ => none) w := ⟨fun _ _ _ => rfl, (fun _ _ e => by cases e), (fun _ _ e => by cases e), Nat.le_refl _, rfl, rfl⟩
theorem mOf_inv {f0 : FuncId} {x : Array Value} {t : List Item} {s : St} {w w' : World} (e : mOf kR [trap] s w = lone ((base f0).at ⟨x, []⟩ (t ++ kR)) [trap] w') : s = ⟨⟨f0, x, t⟩, false, []⟩ := by
  obtain ⟨⟨f, y, u⟩, b, rest⟩ := s
  have hc : stk kR [trap] rest = [trap] := congrArg (fun m : Machine => (m.gs[0]?.getD default).callers) e
  have hr : rest = [] := by
    cases rest with
    | nil => rfl
    | cons m r =>
      have hl : ∀ r : List Fm, (stk kR [trap] r).length = r.length + 1 := fun r => by
        induction r with
        | nil => rfl
        | cons m r ih => simp [stk, ih]
      have := congrArg List.length hc
      rw [hl] at this
      simp at this
  subst hr
  have hf : (if b then (addK kR [] ⟨f, y, u⟩).rt else (addK kR [] ⟨f, y, u⟩).fr) = (base f0).at ⟨x, []⟩ (t ++ kR) := congrArg (fun m : Machine => (m.gs[0]?.getD default).frame) e
  cases b with
  | true => have := congrArg Frame.mode hf; cases this
  | false =>
    have h1 : f = f0 := congrArg Frame.fn hf
    have h2 : y = x := congrArg Frame.tmps hf
    have h3 : u ++ kR = t ++ kR := congrArg Frame.todo hf
    subst h1 h2
    rw [List.append_cancel_right h3]
/-- A CALL, by the lone contract of what is called, on every tape. -/
theorem BW.call (hP : OkP P L') {f0 : FuncId} {x : Array Value} {k : List Item} {cs : List Frame} {ops : Array Oper} {i : Nat} {rest : List Nat} {o : Oper} {f : FuncId} {fn : Func} {cd : Code} {args : Array Operand} {ats : Array TypeId} {vs : Array Value}
    (ho : ops[i]? = some o) (hw : Region.wanted o (yielded ops x) = true) (hop : o.op = .call { callee := .value (.func f), args, argTypes := ats }) (hf : P.funcs[f]? = some fn) (hname : (fn.name == "runtime.NumGoroutine") = false) (hb : fn.body = some cd)
    (ha : args.map (Act.eval ⟨x, []⟩) = vs) (hL : L' f = true) (hops : ops.all (okOp P L') = true) {R : World → Ending → World → Prop} (hC : ∀ T d, Calls P f vs (w.on T d) (R (w.on T d))) (hR : ∀ W e w', R W e w' → ∃ v, e = .returned v)
    (hnext : ∀ T d v w', R (w.on T d) (.returned v) w' → BW P Post (G ((base f0).at (Act.put ⟨x, []⟩ o.dst v) (.inRegion ops rest :: k)) cs) w') : BW P Post (G ((base f0).at ⟨x, []⟩ (.inRegion ops (i :: rest) :: k)) cs) w := by
  have hb' : fn.body.isNone = false := by rw [hb]; rfl
  obtain ⟨fn', cd', hf', hbd', hok⟩ := hP.code f hL
  obtain rfl : fn' = fn := Option.some.inj (hf'.symm.trans hf)
  obtain rfl : cd' = cd := Option.some.inj (hbd'.symm.trans hb)
  have he : ∀ (k : List Item) (cs : List Frame), gOf k cs ⟨entF P f vs, false, [⟨f0, x, [.inRegion ops (i :: rest)]⟩]⟩ = G (Frame.enter P f vs .normal) ((base f0).at ⟨x, []⟩ (.inRegion ops (i :: rest) :: k) :: cs) := fun k cs => by
    rw [enter_fm hf hb]
    unfold gOf
    simp [addK, stk, Fm.fr]
  have hm : ∀ (k : List Item) (cs : List Frame) (W : World), mOf k cs ⟨entF P f vs, false, [⟨f0, x, [.inRegion ops (i :: rest)]⟩]⟩ W = lone (Frame.enter P f vs .normal) ((base f0).at ⟨x, []⟩ (.inRegion ops (i :: rest) :: k) :: cs) W := fun k cs W => by
    rw [enter_fm hf hb]
    unfold mOf
    simp [addK, stk, Fm.fr]
  have hg : Goal P (fun s w' => ∃ T v, s = ⟨⟨f0, (Act.put ⟨x, []⟩ o.dst v).tmps, [.inRegion ops rest]⟩, false, []⟩ ∧ R (w.on T 0) (.returned v) w') ⟨entF P f vs, false, [⟨f0, x, [.inRegion ops (i :: rest)]⟩]⟩ w := by
    refine goal_of_contract hP ⟨fun it hit => ?_, fun m hm => ?_⟩ fun T => ?_
    · have et : (entF P f vs).t = [.code cd'] := by simp [entF, hf, hb]
      rw [et] at hit
      obtain rfl := List.mem_singleton.1 hit
      exact hok
    · obtain rfl := List.mem_singleton.1 hm
      exact ⟨fun it hit => by obtain rfl := List.mem_singleton.1 hit; exact hops, ops, i, rest, [], rfl⟩
    · obtain ⟨e, w', fr, hr, hcm, _, hlv⟩ := hC T 0 ((base f0).at ⟨x, []⟩ (.inRegion ops (i :: rest) :: kR) :: [trap])
      obtain ⟨v, rfl⟩ := hR _ _ _ hr
      obtain ⟨n, hn⟩ := (show Steps P _ _ from hcm)
      have hfin : ((base f0).at ⟨x, []⟩ (.inRegion ops (i :: rest) :: kR)).finish v = (base f0).at ⟨(Act.put ⟨x, []⟩ o.dst v).tmps, []⟩ ([.inRegion ops rest] ++ kR) := by
        rw [Frame.finish_at, ho]
        show (base f0).at (Act.put ⟨x, []⟩ o.dst v) _ = _
        rw [put_eq]
        rfl
      have hl := step_leave_returned (c := (base f0).at ⟨x, []⟩ (.inRegion ops (i :: rest) :: kR)) (cs := [trap]) hlv
      rw [hfin] at hl
      refine ⟨n + 1, _, w', ?_, .inl ?_, fun s hs => ⟨T, v, mOf_inv hs, hr⟩⟩
      · rw [hm, runN_more (n := 1) hn]
        simp only [runN, hl]
      · rfl
  have hB := BW.goal (Post := Post) k cs hg fun s w' ⟨T, v, hs, hr⟩ => by
    subst hs
    have := hnext T 0 v w' hr
    rw [put_eq] at this
    exact this
  rw [he] at hB
  refine BW.step rfl fun T d => ⟨_, w.on T d, #[], ?_, by simp, fun T2 d2 => hB T2 d2⟩
  rw [stepG_enter ho hw (by simp [base]) (run_call_body hop hf hname hb'), ha]
  have : listed P (base f0).fn ⟨x, []⟩ o (w.on T d) = #[] := listed_nil (events_call_body hop hf hname hb' _)
  rw [this]
/-- The same, in the walk by what it owns. -/
theorem GO.lone (hP : OkP P L') {f0 : FuncId} {x : Array Value} {k : List Item} {cs : List Frame} {ops : Array Oper} {i : Nat} {rest : List Nat} {o : Oper} {f : FuncId} {fn : Func} {cd : Code} {args : Array Operand} {ats : Array TypeId} {vs : Array Value}
    (ho : ops[i]? = some o) (hw : Region.wanted o (yielded ops x) = true) (hop : o.op = .call { callee := .value (.func f), args, argTypes := ats }) (hf : P.funcs[f]? = some fn) (hname : (fn.name == "runtime.NumGoroutine") = false) (hb : fn.body = some cd)
    (ha : args.map (Act.eval ⟨x, []⟩) = vs) (hL : L' f = true) (hops : ops.all (okOp P L') = true) {R : World → Ending → World → Prop} (hC : ∀ w, Sat w0 c L h w → Calls P f vs w (R w)) (hR : ∀ W e w', R W e w' → ∃ v, e = .returned v)
    (hnext : ∀ w v w', Sat w0 c L h w → R w (.returned v) w' → BW P Post (G ((base f0).at (Act.put ⟨x, []⟩ o.dst v) (.inRegion ops rest :: k)) cs) w') :
    GO P true c L w0 (fun _ g w => BW P Post g w) h (G ((base f0).at ⟨x, []⟩ (.inRegion ops (i :: rest) :: k)) cs) :=
  GO.stop fun w hS => BW.call hP ho hw hop hf hname hb ha hL hops (R := R) (fun T d => hC (w.on T d) ⟨hS.old, hS.own, hS.far, hS.size, hS.os, hS.output⟩) hR (fun T d v w' hr => hnext (w.on T d) v w' ⟨hS.old, hS.own, hS.far, hS.size, hS.os, hS.output⟩ hr)
end
end Go.Proofs.Ytlbkhiphnllfpam
