/-
  Every step of code of the kinds that are used.
-/
import Derived.Test.YtlbkhiphnllfpamGte
namespace Go.Proofs.Ytlbkhiphnllfpam
open Go.Conc
set_option linter.unusedVariables false
section
variable {P : Program} {L : FuncId → Bool}
def entF (P : Program) (g : FuncId) (args : Array Value) : Fm := ⟨g, args ++ Array.replicate (((P.funcs[g]?).map (·.ntmps)).getD 0 - args.size) undef, match (P.funcs[g]?).bind (·.body) with | some c => [.code c] | none => []⟩
theorem enter_fm {g : FuncId} {args : Array Value} {fn : Func} {c : Code} (hf : P.funcs[g]? = some fn) (hb : fn.body = some c) : Frame.enter P g args .normal = (entF P g args).fr := by
  rw [enter_at args hf hb]
  unfold entF Fm.fr
  simp only [hf, hb, Option.map_some, Option.getD_some, Option.bind_some]
def nextOf (P : Program) (f : FuncId) (x : Array Value) (ops : Array Oper) (i : Nat) (r : List Nat) (t : List Item) (rest : List Fm) (o : Oper) : Next → St
  | .value v => ⟨⟨f, (Act.put ⟨x, []⟩ o.dst v).tmps, .inRegion ops r :: t⟩, false, rest⟩
  | .skip => ⟨⟨f, (Act.put ⟨x, []⟩ o.dst undef).tmps, .inRegion ops r :: t⟩, false, rest⟩
  | .enter g args => ⟨entF P g args, false, ⟨f, x, .inRegion ops (i :: r) :: t⟩ :: rest⟩
  | _ => ⟨⟨f, x, []⟩, false, []⟩
theorem early_ends (hP : OkP P L) (fr : Frame) (cs : List Frame) (g : Nat) (w : World) : ∃ o w', early P fr cs none g w = .ended o w' := by
  unfold early
  simp only [hP.wide, hP.step, Bool.not_true, Bool.false_eq_true, if_false]
  exact ⟨_, _, rfl⟩
theorem apply_panic {fr : Frame} {cs : List Frame} {s : Sem Next} {w w' : World} {v : Value} {es : Array Event} (e : s.runT P w #[] = (.halt (.panic v) w', es)) (hk : fr.kind = .normal) :
    stepG.apply P true fr cs none s w = .go { frame := fr.raise [{ v, recovered := false }], callers := cs, status := .running, dying := none } w' (seen P fr.fn es ++ #[]) := by
  unfold stepG.apply
  simp only [e, if_true, hk]
  rfl
theorem apply_stuck {fr : Frame} {cs : List Frame} {s : Sem Next} {w w' : World} {v : String} {es : Array Event} (e : s.runT P w #[] = (.halt (.stuck v) w', es)) (hk : fr.kind = .normal) :
    ∃ o w'' es', stepG.apply P true fr cs none s w = .ended o w'' es' := by
  unfold stepG.apply
  simp only [e, if_true, hk]
  exact ⟨_, _, _, rfl⟩
theorem apply_uns (hP : OkP P L) {fr : Frame} {cs : List Frame} {s : Sem Next} {w w' : World} {u : Unsupported} {es : Array Event} (e : s.runT P w #[] = (.halt (.unsupported u) w', es)) (hk : fr.kind = .normal) :
    ∃ o w'' es', stepG.apply P true fr cs none s w = .ended o w'' es' := by
  cases u with
  | initOrder g =>
    obtain ⟨o', w'', he⟩ := early_ends hP fr cs g w'
    unfold stepG.apply
    simp only [e, if_true, hk, he]
    exact ⟨_, _, _, rfl⟩
  | _ =>
    unfold stepG.apply
    simp only [e, if_true, hk]
    exact ⟨_, _, _, rfl⟩
theorem ls_op (hP : OkP P L) {f : FuncId} {x : Array Value} {ops : Array Oper} {i : Nat} {r : List Nat} {t : List Item} {rest : List Fm} {o : Oper} (hS : OkSt P L ⟨⟨f, x, .inRegion ops (i :: r) :: t⟩, false, rest⟩)
    (ho : ops[i]? = some o) (hw : Region.wanted o (yielded ops x) = true) : LS P L ⟨⟨f, x, .inRegion ops (i :: r) :: t⟩, false, rest⟩ := by
  have hitems := hS.top
  have hops : ops.all (okOp P L) = true := hitems _ (List.mem_cons_self ..)
  have hokop : okOp P L o = true := by
    rw [Array.all_eq_true] at hops
    obtain ⟨hlt, rfl⟩ := Array.getElem?_eq_some_iff.1 ho
    exact hops i hlt
  have ht : ∀ y ∈ t, okItem P L y = true := fun y hy => hitems y (List.mem_cons_of_mem _ hy)
  have hG := execOp_ok (P := P) (L := L) (ρ := Act.eval ⟨x, []⟩) (o := o) (fun _ => rfl) hokop
  refine .inl ⟨f, execOp (Act.eval ⟨x, []⟩) o, nextOf P f x ops i r t rest o, hG, fun y hy => ?_, fun k cs w y w' es e hy => ?_, fun k cs w h w' es e hE => ?_⟩
  · cases y with
    | value v => exact ⟨fun z hz => by rcases List.mem_cons.1 hz with rfl | hz; exact hops; exact ht z hz, hS.rest⟩
    | skip => exact ⟨fun z hz => by rcases List.mem_cons.1 hz with rfl | hz; exact hops; exact ht z hz, hS.rest⟩
    | enter g args =>
      obtain ⟨fn, c, hf, hb, hc⟩ := hP.code g hy
      refine ⟨fun z hz => ?_, fun m hm => ?_⟩
      · simp only [nextOf, entF, hf, Option.bind_some, hb, List.mem_cons, List.not_mem_nil, or_false] at hz
        subst hz
        exact hc
      · rcases List.mem_cons.1 hm with rfl | hm
        · exact ⟨hitems, _, _, _, _, rfl⟩
        · exact hS.rest m hm
    | _ => exact hy.elim
  · have hrun : (execOp (Act.eval ⟨x, []⟩) o).run P w = .ok y w' := by rw [← Sem.runT_fst P _ w #[], e]
    have hev : listed P f ⟨x, []⟩ o w = seen P f es := by unfold listed Sem.events; rw [e]
    cases y with
    | value v =>
      have := stepG_value (P := P) (main := true) (b := base f) (a := ⟨x, []⟩) (k := t ++ (if rest.isEmpty then k else [])) (cs := stk k cs rest) (rest := r) ho hw (by simp [base]) hrun
      rw [put_eq] at this
      exact this.trans (by rw [show listed P (base f).fn ⟨x, []⟩ o w = seen P f es from hev]; rfl)
    | skip =>
      have := stepG_none (P := P) (main := true) (b := base f) (a := ⟨x, []⟩) (k := t ++ (if rest.isEmpty then k else [])) (cs := stk k cs rest) (rest := r) ho hw (by simp [base]) hrun
      rw [put_eq] at this
      exact this.trans (by rw [show listed P (base f).fn ⟨x, []⟩ o w = seen P f es from hev]; rfl)
    | enter g args =>
      obtain ⟨fn, c, hf, hb, hc⟩ := hP.code g hy
      have := stepG_enter (P := P) (main := true) (b := base f) (a := ⟨x, []⟩) (k := t ++ (if rest.isEmpty then k else [])) (cs := stk k cs rest) (rest := r) ho hw (by simp [base]) hrun
      rw [enter_fm hf hb] at this
      refine this.trans ?_
      rw [show listed P (base f).fn ⟨x, []⟩ o w = seen P f es from hev]
      have e2 : addK k (⟨f, x, .inRegion ops (i :: r) :: t⟩ :: rest) (entF P g args) = entF P g args := by unfold addK; simp
      show _ = GStep.go (G (if false = true then _ else (addK k (⟨f, x, .inRegion ops (i :: r) :: t⟩ :: rest) (entF P g args)).fr) _) w' _
      rw [e2]
      rfl
    | _ => exact hy.elim
  · have hst : stepG P true (gOf k cs ⟨⟨f, x, .inRegion ops (i :: r) :: t⟩, false, rest⟩) w = stepG.apply P true ((base f).at ⟨x, []⟩ (.inRegion ops (i :: r) :: (t ++ (if rest.isEmpty then k else [])))) (stk k cs rest) none (execOp (Act.eval ⟨x, []⟩) o) w :=
      stepG_oper (P := P) (main := true) (b := base f) (a := ⟨x, []⟩) (k := t ++ (if rest.isEmpty then k else [])) (cs := stk k cs rest) ho hw
    rw [hst]
    cases h with
    | panic v => exact .inl ⟨_, w', _, apply_panic e rfl⟩
    | stuck s => exact .inr (apply_stuck e rfl)
    | unsupported u => exact .inr (apply_uns hP e rfl)
    | _ => exact hE.elim
theorem okSt_top {f : FuncId} {x : Array Value} {t t' : List Item} {rest : List Fm} {b : Bool} (hS : OkSt P L ⟨⟨f, x, t⟩, b, rest⟩) (h : ∀ i ∈ t', okItem P L i = true) (x' : Array Value) : OkSt P L ⟨⟨f, x', t'⟩, false, rest⟩ := ⟨h, hS.rest⟩
theorem ls_item (hP : OkP P L) {f : FuncId} {x : Array Value} {it : Item} {t : List Item} {rest : List Fm} (hS : OkSt P L ⟨⟨f, x, it :: t⟩, false, rest⟩) : LS P L ⟨⟨f, x, it :: t⟩, false, rest⟩ := by
  have hitems := hS.top
  have hit : okItem P L it = true := hitems _ (List.mem_cons_self ..)
  have ht : ∀ y ∈ t, okItem P L y = true := fun y hy => hitems y (List.mem_cons_of_mem _ hy)
  have two : ∀ {u v : Item}, okItem P L u = true → okItem P L v = true → ∀ i ∈ u :: v :: t, okItem P L i = true := fun hu hv i hi => by
    rcases List.mem_cons.1 hi with rfl | hi
    · exact hu
    · rcases List.mem_cons.1 hi with rfl | hi
      · exact hv
      · exact ht i hi
  have one : ∀ {u : Item}, okItem P L u = true → ∀ i ∈ u :: t, okItem P L i = true := fun hu i hi => by
    rcases List.mem_cons.1 hi with rfl | hi
    · exact hu
    · exact ht i hi
  cases it with
  | code c =>
    cases c with
    | skip => exact .ctl (okSt_top hS ht x) (fun k cs w => stepG_skip (P := P) (b := base f) (a := ⟨x, []⟩))
    | label l => exact .ctl (okSt_top hS ht x) (fun k cs w => stepG_label (P := P) (b := base f) (a := ⟨x, []⟩))
    | seq a b =>
      have h : okCode P L a = true ∧ okCode P L b = true := by simpa [okItem, okCode] using hit
      exact .ctl (okSt_top hS (two (u := .code a) (v := .code b) h.1 h.2) x) (fun k cs w => stepG_seq (P := P) (b := base f) (a := ⟨x, []⟩))
    | cond c a b =>
      have h : okCode P L a = true ∧ okCode P L b = true := by simpa [okItem, okCode] using hit
      by_cases hb : ∃ v, Act.eval ⟨x, []⟩ c = .bool v
      · obtain ⟨v, hv⟩ := hb
        exact .ctl (okSt_top hS (one (u := .code (if v then a else b)) (by cases v; exact h.2; exact h.1)) x) (fun k cs w => stepG_cond (P := P) (b := base f) (a := ⟨x, []⟩) hv)
      · refine .inr fun w => ?_
        show ∃ o w' es, stepG P true (G ((base f).at ⟨x, []⟩ (.code (.cond c a b) :: (t ++ (if rest.isEmpty then kR else [])))) (stk kR [trap] rest)) w = _
        generalize t ++ (if rest.isEmpty then kR else []) = tt
        have h' : ∀ v, ((base f).at ⟨x, []⟩ (.code (.cond c a b) :: tt)).eval c ≠ .bool v := fun v e => hb ⟨v, by rw [← Frame.eval_at (base f) ⟨x, []⟩]; exact e⟩
        cases hz : ((base f).at ⟨x, []⟩ (.code (.cond c a b) :: tt)).eval c with
        | bool v => exact absurd hz (h' v)
        | _ => simp only [Frame.at] at hz; simp only [G, stepG, stepG.exec, Frame.at, hz]; exact ⟨_, _, _, rfl⟩
    | block i c => exact .ctl (okSt_top hS (two (u := .code c) (v := .inBlock i) hit rfl) x) (fun k cs w => stepG_block (P := P) (b := base f) (a := ⟨x, []⟩))
    | loop c => exact .ctl (okSt_top hS (two (u := .code c) (v := .inLoop c) hit hit) x) (fun k cs w => stepG_loop (P := P) (b := base f) (a := ⟨x, []⟩))
    | scope c =>
      refine .ctl (s' := ⟨⟨f, x, .code c :: .inScope c :: t⟩, false, rest⟩) (okSt_top hS (two (u := .code c) (v := .inScope c) hit hit) x) (fun k cs w => ?_)
      show stepG P true (G ((base f).at ⟨x, []⟩ (.code (.scope c) :: (t ++ (if rest.isEmpty then k else [])))) (stk k cs rest)) w = _
      simp [G, stepG, stepG.exec, Frame.at, gOf, addK, Fm.fr]
    | exit id =>
      cases he : exitTo id t with
      | some u => exact .ctl (okSt_top hS (fun i hi => ht i (exit_mem he i hi)) x) (fun k cs w => stepG_exit (P := P) (b := base f) (a := ⟨x, []⟩) (exit_app he))
      | none =>
        refine .inr fun w => ?_
        have hn : exitTo id (t ++ (if rest.isEmpty then kR else [])) = none := exit_none (by cases rest.isEmpty <;> rfl) he
        show ∃ o w' es, stepG P true (G ((base f).at ⟨x, []⟩ (.code (.exit id) :: (t ++ (if rest.isEmpty then kR else [])))) (stk kR [trap] rest)) w = _
        simp only [G, stepG, stepG.exec, Frame.at, hn, Option.elim]
        exact ⟨_, _, _, rfl⟩
    | ret =>
      refine .ctl (s' := ⟨⟨f, x, .code .ret :: t⟩, true, rest⟩) ⟨hitems, hS.rest⟩ (fun k cs w => ?_)
      exact stepG_ret' (P := P) (b := base f) (a := ⟨x, []⟩)
    | region id ops draw =>
      cases draw with
      | false => exact .ctl (okSt_top hS (one (u := .inRegion ops (List.range ops.size)) hit) x) (fun k cs w => stepG_region (P := P) (b := base f) (a := ⟨x, []⟩))
      | true =>
        have hF : ∀ n, OkSt P L ⟨⟨f, x, .inRegion ops (Region.schedule (P.follows .mixedOrders) ops n) :: t⟩, false, rest⟩ := fun n => okSt_top hS (one (u := .inRegion ops _) hit) x
        refine .inl ⟨0, .choose (.order f id) fun n => .pure (.value (.int .i64 n)), fun y => match y with
          | .value (.int _ n) => ⟨⟨f, x, .inRegion ops (Region.schedule (P.follows .mixedOrders) ops n.toNat) :: t⟩, false, rest⟩
          | _ => ⟨⟨f, x, .inRegion ops (Region.schedule (P.follows .mixedOrders) ops 0) :: t⟩, false, rest⟩, fun _ => True.intro, fun y hy => ?_, fun k cs w y w' es e hy => ?_, fun k cs w h w' es e hE => ?_⟩
        · cases y with
          | value v => cases v <;> exact hF _
          | _ => exact hF _
        · have hq : (Question.order f id).forced = false := rfl
          simp only [Sem.runT, hq, Bool.false_eq_true, if_false] at e
          cases e
          have es : seen P 0 #[] = #[] := by rw [seen_def]; rfl
          rw [es]
          show stepG P true (G ((base f).at ⟨x, []⟩ (.code (.region id ops true) :: (t ++ (if rest.isEmpty then k else [])))) (stk k cs rest)) w = _
          generalize ht' : t ++ (if rest.isEmpty then k else []) = tt
          have : stepG P true (G ((base f).at ⟨x, []⟩ (.code (.region id ops true) :: tt)) (stk k cs rest)) w = .go (G ((base f).at ⟨x, []⟩ (.inRegion ops (Region.schedule (P.follows .mixedOrders) ops (Question.cut (.order f id) (w.tape w.drawn (.order f id)))) :: tt)) (stk k cs rest)) { w with drawn := w.drawn + 1 } := by
            simp [G, stepG, stepG.exec, Frame.at, base, choose, Sem.run, hq]
          rw [this, ← ht']
          rfl
        · have hq : (Question.order f id).forced = false := rfl
          simp only [Sem.runT, hq, Bool.false_eq_true, if_false] at e
          cases e
    | _ => cases hit
  | inBlock i => exact .ctl (okSt_top hS ht x) (fun k cs w => stepG_inBlock (P := P) (b := base f) (a := ⟨x, []⟩))
  | inLoop c => exact .ctl (okSt_top hS (two (u := .code c) (v := .inLoop c) hit hit) x) (fun k cs w => stepG_inLoop (P := P) (b := base f) (a := ⟨x, []⟩))
  | inScope c =>
    refine .ctl (s' := ⟨⟨f, x, t⟩, false, rest⟩) (okSt_top hS ht x) (fun k cs w => ?_)
    show stepG P true (G ((base f).at ⟨x, []⟩ (.inScope c :: (t ++ (if rest.isEmpty then k else [])))) (stk k cs rest)) w = _
    simp [G, stepG, stepG.exec, Frame.at, gOf, addK, Fm.fr]
  | inRegion ops l =>
    cases l with
    | nil => exact .ctl (okSt_top hS ht x) (fun k cs w => stepG_region_end (P := P) (b := base f) (a := ⟨x, []⟩))
    | cons i r =>
      cases ho : ops[i]? with
      | none =>
        refine .ctl (s' := ⟨⟨f, x, .inRegion ops r :: t⟩, false, rest⟩) (okSt_top hS (one (u := .inRegion ops r) hit) x) (fun k cs w => ?_)
        show stepG P true (G ((base f).at ⟨x, []⟩ (.inRegion ops (i :: r) :: (t ++ (if rest.isEmpty then k else [])))) (stk k cs rest)) w = _
        have hfin : ((base f).at ⟨x, []⟩ (.inRegion ops (i :: r) :: (t ++ (if rest.isEmpty then k else [])))).finish undef = (base f).at ⟨x, []⟩ (.inRegion ops r :: (t ++ (if rest.isEmpty then k else []))) := by rw [Frame.finish_at, ho]; rfl
        have : stepG P true (G ((base f).at ⟨x, []⟩ (.inRegion ops (i :: r) :: (t ++ (if rest.isEmpty then k else [])))) (stk k cs rest)) w = .go (G (((base f).at ⟨x, []⟩ (.inRegion ops (i :: r) :: (t ++ (if rest.isEmpty then k else [])))).finish undef) (stk k cs rest)) w := by
          simp [G, stepG, stepG.exec, Frame.at, ho]
        rw [this, hfin]
        rfl
      | some o =>
        cases hw : Region.wanted o (yielded ops x) with
        | true => exact ls_op hP hS ho hw
        | false =>
          refine .ctl (s' := ⟨⟨f, (Act.put ⟨x, []⟩ o.dst undef).tmps, .inRegion ops r :: t⟩, false, rest⟩) (okSt_top hS (one (u := .inRegion ops r) hit) _) (fun k cs w => ?_)
          have := stepG_unwanted (P := P) (main := true) (b := base f) (a := ⟨x, []⟩) (k := t ++ (if rest.isEmpty then k else [])) (cs := stk k cs rest) (rest := r) (w := w) ho hw
          rw [put_eq] at this
          exact this
  | _ => cases hit
def mapR {α β : Type} (g : α → β) : Result α → Result β
  | .ok a w => .ok (g a) w
  | .halt h w => .halt h w
theorem runT_map {α β : Type} (P : Program) (g : α → β) (s : Sem α) : ∀ (w : World) (es : Array Event), (s.bind fun v => .pure (g v)).runT P w es = (mapR g (s.runT P w es).1, (s.runT P w es).2) := by
  induction s with
  | pure a => exact fun w es => rfl
  | load m a k ih =>
    intro w es
    simp only [Sem.bind, Sem.runT]
    split
    · exact ih _ _ _
    · split
      · exact ih _ _ _
      · rfl
  | store m a v k ih =>
    intro w es
    cases v <;> first
      | rfl
      | (simp only [Sem.bind, Sem.runT]
         split
         · split
           · rfl
           · exact ih _ _
         · split
           · exact ih _ _
           · rfl)
  | new o k ih => exact fun w es => ih _ _ _
  | shape r k ih => exact fun w es => ih _ _ _
  | freeze a n k ih => exact fun w es => ih _ _
  | frozen a k ih => exact fun w es => ih _ _ _
  | getObj r k ih =>
    intro w es
    simp only [Sem.bind, Sem.runT]
    split
    · rfl
    · exact ih _ _ _
    · rfl
  | setObj r o k ih =>
    intro w es
    simp only [Sem.bind, Sem.runT]
    split
    · rfl
    · exact ih _ _
    · rfl
  | choose q k ih =>
    intro w es
    simp only [Sem.bind, Sem.runT]
    split
    · exact ih _ _ _
    · exact ih _ _ _
  | sys c k ih => exact fun w es => ih _ _ _
  | program k ih => exact fun w es => ih _ _ _
  | mark m k ih => exact fun w es => ih _ _
  | halt h => exact fun w es => rfl
/-- The return to a frame of the stack's own. -/
theorem ls_ret (hP : OkP P L) {m c : Fm} {rest : List Fm} (hS : OkSt P L ⟨m, true, c :: rest⟩) : LS P L ⟨m, true, c :: rest⟩ := by
  obtain ⟨hc, ops, i, r, t, ht⟩ := hS.rest c (List.mem_cons_self ..)
  have hfin : ∀ v k, ((addK k rest c).fr).finish v = (addK k rest ⟨c.fn, (Act.put ⟨c.x, []⟩ ((ops[i]?).bind (·.dst)) v).tmps, .inRegion ops r :: t⟩).fr := fun v k => by
    unfold addK Fm.fr
    simp only [ht, List.cons_append]
    rw [Frame.finish_at, put_eq]
  have hok : ∀ v, OkSt P L ⟨⟨c.fn, (Act.put ⟨c.x, []⟩ ((ops[i]?).bind (·.dst)) v).tmps, .inRegion ops r :: t⟩, false, rest⟩ := fun v => by
    refine ⟨fun y hy => ?_, fun y hy => hS.rest y (List.mem_cons_of_mem _ hy)⟩
    rcases List.mem_cons.1 hy with rfl | hy
    · have := hc (.inRegion ops (i :: r)) (by rw [ht]; exact List.mem_cons_self ..)
      exact this
    · exact hc y (by rw [ht]; exact List.mem_cons_of_mem _ hy)
  have haM : ∀ k, addK k (c :: rest) m = m := fun k => by unfold addK; simp
  let F : Next → St := fun y => match y with
    | .value v => ⟨⟨c.fn, (Act.put ⟨c.x, []⟩ ((ops[i]?).bind (·.dst)) v).tmps, .inRegion ops r :: t⟩, false, rest⟩
    | _ => ⟨⟨c.fn, (Act.put ⟨c.x, []⟩ ((ops[i]?).bind (·.dst)) undef).tmps, .inRegion ops r :: t⟩, false, rest⟩
  have hF : ∀ y, OkSt P L (F y) := fun y => by cases y <;> exact hok _
  have hg : ∀ k cs, gOf k cs ⟨m, true, c :: rest⟩ = G m.rt ((addK k rest c).fr :: stk k cs rest) := fun k cs => by
    show G (if true = true then (addK k (c :: rest) m).rt else _) _ = _
    rw [haM]; rfl
  cases hf : P.funcs[m.fn]? with
  | none =>
    refine .ctl (hF (.value (m.x.getD 0 undef))) (fun k cs w => ?_)
    rw [hg]
    have : stepG P true (G m.rt ((addK k rest c).fr :: stk k cs rest)) w = .go (G ((addK k rest c).fr.finish (m.x.getD 0 undef)) (stk k cs rest)) w := by
      simp [G, stepG, unwind, doReturn, Fm.rt, Fm.fr, Frame.at, base, hf]
    rw [this, hfin]
    rfl
  | some fn =>
    refine .inl ⟨m.fn, (results fn m.x).bind fun v => .pure (.value v), F, Hsh.bindG h_results (fun _ => True.intro), fun y _ => hF y, fun k cs w y w' es e hy => ?_, fun k cs w h w' es e hE => ?_⟩
    · rw [runT_map] at e
      cases hr : (results fn m.x).runT P w #[] with
      | mk r es' =>
        rw [hr] at e
        cases r with
        | halt h w'' => cases e
        | ok v w'' =>
          simp only [mapR, Prod.mk.injEq, Result.ok.injEq] at e
          obtain ⟨⟨rfl, rfl⟩, rfl⟩ := e
          rw [hg]
          have : stepG P true (G m.rt ((addK k rest c).fr :: stk k cs rest)) w = .go (G ((addK k rest c).fr.finish v) (stk k cs rest)) w'' (seen P m.fn es') := by
            have hr' : (results fn (m.rt).tmps).runT P w #[] = (.ok v w'', es') := hr
            have hk : m.rt.kind = .normal := rfl
            have hd : m.rt.defers = [] := rfl
            have hm : m.rt.mode = .returning := rfl
            have hf' : P.funcs[m.rt.fn]? = some fn := hf
            simp only [G, stepG, hm, unwind, hd, hf', hr', doReturn, hk, GStep.after, Array.append_empty]
            rfl
          rw [this, hfin]
          rfl
    · rw [runT_map] at e
      cases hr : (results fn m.x).runT P w #[] with
      | mk r es' =>
        rw [hr] at e
        cases r with
        | ok v w'' => cases e
        | halt h' w'' =>
          right
          rw [hg]
          have hr' : (results fn (m.rt).tmps).runT P w #[] = (.halt h' w'', es') := hr
          have hd : m.rt.defers = [] := rfl
          have hm : m.rt.mode = .returning := rfl
          have hf' : P.funcs[m.rt.fn]? = some fn := hf
          simp only [G, stepG, hm, unwind, hd, hf', hr']
          cases h' <;> exact ⟨_, _, _, rfl⟩
theorem ls_all (hP : OkP P L) {s : St} (hS : OkSt P L s) (hn : ¬ (s.rest = [] ∧ (s.ret = true ∨ s.top.t = []))) : LS P L s := by
  obtain ⟨⟨f, x, t⟩, b, rest⟩ := s
  cases b with
  | true =>
    cases rest with
    | nil => exact absurd ⟨rfl, .inl rfl⟩ hn
    | cons c rest => exact ls_ret hP hS
  | false =>
    cases t with
    | nil =>
      cases rest with
      | nil => exact absurd ⟨rfl, .inr rfl⟩ hn
      | cons c rest => exact .ctl (s' := ⟨⟨f, x, []⟩, true, c :: rest⟩) ⟨hS.top, hS.rest⟩ (fun k cs w => stepG_end (P := P) (b := base f) (a := ⟨x, []⟩))
    | cons it t => exact ls_item hP hS
end
end Go.Proofs.Ytlbkhiphnllfpam
