/-
  The operations that the program uses: what they can come to.
-/
import Derived.Test.YtlbkhiphnllfpamGtc
namespace Go.Proofs.Ytlbkhiphnllfpam
open Go.Conc
set_option linter.unusedVariables false
set_option maxHeartbeats 1000000
/-- As 'Hsh', and whatever it yields is good. -/
def HshG {α : Type} (P : Program) (Good : α → Prop) : Sem α → Prop
  | .pure a => Good a
  | .load _ _ k => ∀ v, HshG P Good (k v)
  | .store _ _ _ k => HshG P Good k
  | .new _ k => ∀ r, HshG P Good (k r)
  | .shape _ k => ∀ x, HshG P Good (k x)
  | .freeze _ _ k => HshG P Good k
  | .frozen _ k => ∀ b, HshG P Good (k b)
  | .getObj _ k => ∀ o, HshG P Good (k o)
  | .setObj _ _ k => HshG P Good k
  | .choose _ k => ∀ n, HshG P Good (k n)
  | .sys _ _ => False
  | .program k => HshG P Good (k P)
  | .mark m k => m = .noRoom ∧ HshG P Good k
  | .halt h => match h with | .panic _ => True | .stuck _ => True | .unsupported _ => True | _ => False
theorem Hsh.bindG {α β : Type} {P : Program} {Good : β → Prop} : ∀ {s : Sem α} {f : α → Sem β}, Hsh P s → (∀ a, HshG P Good (f a)) → HshG P Good (s.bind f)
  | .pure a, f, _, h => h a
  | .load _ _ k, f, hs, h => fun v => Hsh.bindG (hs v) h
  | .store _ _ _ k, f, hs, h => Hsh.bindG (s := k) hs h
  | .new _ k, f, hs, h => fun v => Hsh.bindG (hs v) h
  | .shape _ k, f, hs, h => fun v => Hsh.bindG (hs v) h
  | .freeze _ _ k, f, hs, h => Hsh.bindG (s := k) hs h
  | .frozen _ k, f, hs, h => fun v => Hsh.bindG (hs v) h
  | .getObj _ k, f, hs, h => fun v => Hsh.bindG (hs v) h
  | .setObj _ _ k, f, hs, h => Hsh.bindG (s := k) hs h
  | .choose _ k, f, hs, h => fun v => Hsh.bindG (hs v) h
  | .program k, f, hs, h => Hsh.bindG (s := k P) hs h
  | .mark m k, f, hs, h => ⟨hs.1, Hsh.bindG (s := k) hs.2 h⟩
  | .halt _, f, hs, _ => hs
theorem HshG.hsh {α : Type} {P : Program} {Good : α → Prop} : ∀ {s : Sem α}, HshG P Good s → Hsh P s
  | .pure a, _ => True.intro
  | .load _ _ k, hs => fun v => HshG.hsh (hs v)
  | .store _ _ _ k, hs => HshG.hsh (s := k) hs
  | .new _ k, hs => fun v => HshG.hsh (hs v)
  | .shape _ k, hs => fun v => HshG.hsh (hs v)
  | .freeze _ _ k, hs => HshG.hsh (s := k) hs
  | .frozen _ k, hs => fun v => HshG.hsh (hs v)
  | .getObj _ k, hs => fun v => HshG.hsh (hs v)
  | .setObj _ _ k, hs => HshG.hsh (s := k) hs
  | .choose _ k, hs => fun v => HshG.hsh (hs v)
  | .program k, hs => HshG.hsh (s := k P) hs
  | .mark m k, hs => ⟨hs.1, HshG.hsh (s := k) hs.2⟩
  | .halt _, hs => hs
/-- How it can end. -/
def EndOk {α : Type} (Good : α → Prop) : Result α → Prop
  | .ok a _ => Good a
  | .halt (.panic _) _ => True
  | .halt (.stuck _) _ => True
  | .halt (.unsupported _) _ => True
  | _ => False
/-- An entry without a word of deafness. -/
def Meek (e : Event) : Prop := e.loc ≠ .mark .disable ∧ e.loc ≠ .mark .enable
theorem meek_cells {es : Array Event} (h : ∀ e ∈ es, Meek e) (l : List Addr) (wr s : Bool) : ∀ e ∈ es ++ l.toArray.map (⟨.cell ·, wr, s⟩), Meek e := fun e he => by
  rcases Array.mem_append.1 he with he | he
  · exact h e he
  · obtain ⟨a, _, rfl⟩ := Array.mem_map.1 he; exact ⟨by simp, by simp⟩
theorem meek_push {es : Array Event} (h : ∀ e ∈ es, Meek e) {x : Event} (hx : Meek x) : ∀ e ∈ es.push x, Meek e := fun e he => by
  rcases Array.mem_push.1 he with he | rfl
  · exact h e he
  · exact hx
theorem noCell_uns (w : World) (a : Addr) (s : String) : EndOk (α := Unit) (fun _ => True) (.halt (w.noCell a s) w) := by
  unfold World.noCell
  split <;> exact True.intro
theorem farLoad_ok {P : Program} {w : World} {a : Addr} {b : Bool} {h : Halt} (e : w.farLoad P a b = .error h) : (∃ s, h = .stuck s) ∨ ∃ u, h = .unsupported u := by
  unfold World.farLoad at e
  split at e
  · split at e
    · cases e
    · cases e; exact .inr ⟨_, rfl⟩
  · cases e
    unfold World.noCell
    split
    · exact .inr ⟨_, rfl⟩
    · exact .inr ⟨_, rfl⟩
    · exact .inl ⟨_, rfl⟩
theorem farStore_ok {P : Program} {w : World} {a : Addr} {v : Value} {b : Bool} {h : Halt} (e : w.farStore P a v b = .error h) : (∃ s, h = .stuck s) ∨ ∃ u, h = .unsupported u := by
  unfold World.farStore at e
  split at e
  · split at e
    · cases e
    · cases e; exact .inr ⟨_, rfl⟩
  · cases e
    unfold World.noCell
    split
    · exact .inr ⟨_, rfl⟩
    · exact .inr ⟨_, rfl⟩
    · exact .inl ⟨_, rfl⟩
theorem HshG.runs {α : Type} {P : Program} {Good : α → Prop} (s : Sem α) (hs : HshG P Good s) : ∀ (w : World) (es : Array Event), (∀ e ∈ es, Meek e) → EndOk Good (s.runT P w es).1 ∧ ∀ e ∈ (s.runT P w es).2, Meek e := by
  induction s with
  | pure a => exact fun w es h => ⟨hs, h⟩
  | load m a k ih =>
    intro w es h
    cases h1 : w.cell? a with
    | some v => simp only [Sem.runT, h1]; exact ih v (hs v) w _ (meek_push h ⟨by simp, by simp⟩)
    | none =>
      cases h5 : w.farLoad P a (m == .atomic) with
      | error e =>
        simp only [Sem.runT, h1, h5]
        rcases farLoad_ok h5 with ⟨s, rfl⟩ | ⟨u, rfl⟩ <;> exact ⟨True.intro, h⟩
      | ok r => obtain ⟨v, ts⟩ := r; simp only [Sem.runT, h1, h5]; exact ih v (hs v) w _ (meek_cells h ts _ _)
  | store m a v k ih =>
    intro w es h
    have key : (∃ c, v = .agg c) ∨ (∃ c, v = .tuple c) ∨ (∀ W es', (Sem.store m a v k).runT P W es' = (match W.cell? a with
      | some _ => if W.frozen? a then (.halt (.unsupported (.unsafePointer "a write to bytes that a string shares")) W, es') else k.runT P (W.setCell a v) (es'.push ⟨.cell a, true, m == .atomic⟩)
      | none => match W.farStore P a v (m == .atomic) with
        | .ok (W, touched) => k.runT P W (es' ++ touched.toArray.map (⟨.cell ·, true, m == .atomic⟩))
        | .error h => (.halt h W, es'))) := by
      cases v <;> first | exact .inl ⟨_, rfl⟩ | exact .inr (.inl ⟨_, rfl⟩) | exact .inr (.inr fun W es' => rfl)
    rcases key with ⟨c, rfl⟩ | ⟨c, rfl⟩ | key
    · exact ⟨True.intro, h⟩
    · exact ⟨True.intro, h⟩
    · rw [key]
      cases h1 : w.cell? a with
      | some old =>
        by_cases h2 : w.frozen? a = true
        · simp only [h2, if_true]; exact ⟨True.intro, h⟩
        · simp only [h2]; exact ih hs _ _ (meek_push h ⟨by simp, by simp⟩)
      | none =>
        cases h2 : w.farStore P a v (m == .atomic) with
        | error e => rcases farStore_ok h2 with ⟨s, rfl⟩ | ⟨u, rfl⟩ <;> exact ⟨True.intro, h⟩
        | ok x => obtain ⟨W, ts⟩ := x; exact ih hs _ _ (meek_cells h ts _ _)
  | new o k ih => exact fun w es h => ih _ (hs _) _ _ h
  | shape r k ih => exact fun w es h => ih _ (hs _) _ _ h
  | freeze a n k ih => exact fun w es h => ih hs _ _ h
  | frozen a k ih => exact fun w es h => ih _ (hs _) _ _ h
  | getObj r k ih =>
    intro w es h
    cases h1 : w.heap[r]? with
    | none => simp only [Sem.runT, h1]; exact ⟨True.intro, h⟩
    | some o =>
      cases o with
      | cells c e f => simp only [Sem.runT, h1]; exact ⟨True.intro, h⟩
      | _ => simp only [Sem.runT, h1]; exact ih _ (hs _) _ _ (meek_push h ⟨by simp, by simp⟩)
  | setObj r o k ih =>
    intro w es h
    cases h1 : w.heap[r]? with
    | none => simp only [Sem.runT, h1]; exact ⟨True.intro, h⟩
    | some o' =>
      cases o' with
      | cells c e f => simp only [Sem.runT, h1]; exact ⟨True.intro, h⟩
      | _ => simp only [Sem.runT, h1]; exact ih hs _ _ (meek_push h ⟨by simp, by simp⟩)
  | choose q k ih =>
    intro w es h
    simp only [Sem.runT]
    split
    · exact ih _ (hs _) _ _ h
    · exact ih _ (hs _) _ _ h
  | sys c k ih => exact hs.elim
  | program k ih => exact fun w es h => ih P hs _ _ h
  | mark m k ih => exact fun w es h => ih hs.2 _ _ (meek_push h ⟨by rw [hs.1]; simp, by rw [hs.1]; simp⟩)
  | halt x =>
    intro w es h
    refine ⟨?_, h⟩
    cases x <;> first | exact True.intro | exact hs.elim

/-! ### the operations -/
/-- What a step may come to: a value, nothing, a call of a function of the list. -/
def OkN (L : FuncId → Bool) : Next → Prop
  | .value _ => True
  | .skip => True
  | .enter f _ => L f = true
  | _ => False
/-- An operation of the kinds that are used. -/
def okOp (P : Program) (L : FuncId → Bool) (o : Oper) : Bool :=
  match o.op with
  | .move _ | .assign _ | .pick .. | .alloc _ | .box .. | .build .. | .buildSlice .. | .load .. | .store .. | .unOp .. | .extract .. | .makeFunc .. | .makeChan .. | .makeSlice .. | .slice .. | .fieldAddr .. | .indexAddr .. | .index .. | .nilCheck _ => true
  | .binOp _ t _ _ _ => plainTy P t
  | .convert s d _ => okConv P s d
  | .call c =>
    match c.callee with
    | .value (.func f) => L f && (P.funcs[f]?).any fun fn => fn.body.isSome && fn.name != "runtime.NumGoroutine"
    | .builtin .append | .builtin .copy | .builtin .len | .builtin .max => true
    | _ => false
  | _ => false
theorem h_followBlind {P : Program} : ∀ (l : List FieldStep) (t : TypeId) (x : Option Value), Hsh P (followBlind l t x)
  | [], t, x => True.intro
  | s :: rest, t, x => by
    have ih := @h_followBlind P rest
    unfold followBlind
    repeat' (first | (with_reducible refine hbind ?_ ?_) | (with_reducible refine hite ?_ ?_) | with_reducible exact hpure | with_reducible exact hhalt | with_reducible exact h_und | with_reducible exact h_part | exact ih _ _ | (intro _) | (dsimp only) | split)
theorem h_nilAhead {P : Program} : ∀ (n : Nat) (t : TypeId) (v : Value) (s : String), Hsh P (nilAhead n t v s)
  | 0, t, v, s => True.intro
  | n + 1, t, v, s => by
    have ih := @h_nilAhead P n
    unfold nilAhead
    repeat' (first | (with_reducible refine hbind ?_ ?_) | (with_reducible refine hite ?_ ?_) | with_reducible exact hpure | with_reducible exact hhalt | with_reducible exact h_und | with_reducible exact h_typeInfo | with_reducible exact h_followBlind _ _ _ | exact ih _ _ _ | (intro _) | (dsimp only) | split)
theorem gv {P : Program} {L : FuncId → Bool} {s : Sem Value} (h : Hsh P s) : HshG P (OkN L) (do pure (.value (← s)) : Sem Next) := Hsh.bindG h (fun _ => True.intro)
theorem gu {P : Program} {L : FuncId → Bool} {s : Sem Unit} (h : Hsh P s) : HshG P (OkN L) (do s; pure .skip : Sem Next) := Hsh.bindG h (fun _ => True.intro)
theorem h_nilCheck {P : Program} {L : FuncId → Bool} {ρ : Operand → Value} {o : Oper} {x : Operand} (h : o.op = .nilCheck x) : HshG P (OkN L) (execOp ρ o) := by
  unfold execOp
  simp only [h]
  generalize ρ x = v
  have hp : HshG P (OkN L) (runtimePanic .nilDeref : Sem Next) := True.intro
  split
  · exact hp
  · exact hp
  · exact hp
  · split
    · exact hp
    · refine Hsh.bindG hpg (fun p => ?_)
      refine Hsh.bindG (h_nilAhead _ _ _ _) (fun r => ?_)
      split
      · exact True.intro
      · exact True.intro
    · exact True.intro
  · exact True.intro
theorem h_callee {P : Program} {L : FuncId → Bool} {f : FuncId} {args : Array Value} (hL : L f = true) (hf : ((P.funcs[f]?).any fun fn => fn.body.isSome && fn.name != "runtime.NumGoroutine") = true) : HshG P (OkN L) (callFunc f args) := by
  show HshG P (OkN L) (match P.funcs[f]? with
    | none => stuck "call: no such function"
    | some fn => _)
  cases h : P.funcs[f]? with
  | none => exact True.intro
  | some fn =>
    rw [h] at hf
    simp only [Option.any_some, Bool.and_eq_true, bne_iff_ne, ne_eq] at hf
    have h1 : (fn.name == "runtime.NumGoroutine") = false := by simpa using hf.2
    have h2 : fn.body.isNone = false := by cases hb : fn.body <;> simp_all
    simp only [h1, h2, Bool.false_eq_true, if_false]
    exact hL
theorem execOp_ok {P : Program} {L : FuncId → Bool} {ρ : Operand → Value} {o : Oper} (hρ : ∀ f, ρ (.func f) = .func (.func f) #[] #[]) (h : okOp P L o = true) : HshG P (OkN L) (execOp ρ o) := by
  unfold okOp at h
  cases hop : o.op with
  | move x => unfold execOp; simp only [hop]; exact True.intro
  | assign x => unfold execOp; simp only [hop]; exact True.intro
  | pick c a b => unfold execOp; simp only [hop]; exact Hsh.bindG h_asBool (fun _ => True.intro)
  | alloc t => unfold execOp; simp only [hop]; exact gv h_alloc
  | box t x => unfold execOp; simp only [hop]; exact gv h_box
  | build t p => unfold execOp; simp only [hop]; exact gv h_build
  | buildSlice t n p => unfold execOp; simp only [hop]; exact gv h_buildS
  | load t a => unfold execOp; simp only [hop]; exact gv h_loadAt
  | store t a x => unfold execOp; simp only [hop]; exact gu h_storeAt
  | unOp p t x => unfold execOp; simp only [hop]; exact gv h_unary
  | extract t i => unfold execOp; simp only [hop]; exact gv h_extract
  | makeFunc f a b => unfold execOp; simp only [hop]; exact gv h_makeFunc
  | makeChan t s => unfold execOp; simp only [hop]; exact gv h_makeChan
  | makeSlice t l c => unfold execOp; simp only [hop]; exact gv h_makeSlice
  | slice t x a b c => unfold execOp; simp only [hop]; exact gv h_sliceAt
  | fieldAddr s x f => unfold execOp; simp only [hop]; exact gv h_fieldAt
  | indexAddr t x i => unfold execOp; simp only [hop]; exact gv h_indexAt
  | index t x i => unfold execOp; simp only [hop]; exact gv h_index
  | nilCheck x => exact h_nilCheck hop
  | binOp p t x y u => rw [hop] at h; unfold execOp; simp only [hop]; exact gv (hbind (h_eqGuard h) (fun _ => h_binOp h))
  | convert s d x => rw [hop] at h; unfold execOp; simp only [hop]; exact gv (h_convert h)
  | call c =>
    rw [hop] at h
    unfold execOp
    simp only [hop]
    dsimp only at h
    split at h
    · rename_i f hc
      simp only [Bool.and_eq_true] at h
      have e : (do let d ← resolve ρ c o.type; invoke d.target d.args : Sem Next) = callFunc f (#[] ++ c.args.map ρ ++ #[]) := by
        unfold resolve
        simp only [hc, hρ]
        rfl
      rw [e]
      exact h_callee h.1 h.2
    · rename_i hc
      have e : (do let d ← resolve ρ c o.type; invoke d.target d.args : Sem Next) = (do pure (.value (← Builtin.append_ c.argTypes o.type (c.args.map ρ)))) := by unfold resolve; simp only [hc]; rfl
      rw [e]; exact gv h_append
    · rename_i hc
      have e : (do let d ← resolve ρ c o.type; invoke d.target d.args : Sem Next) = (do pure (.value (← Builtin.copy_ c.argTypes o.type (c.args.map ρ)))) := by unfold resolve; simp only [hc]; rfl
      rw [e]; exact gv h_copy
    · rename_i hc
      have e : (do let d ← resolve ρ c o.type; invoke d.target d.args : Sem Next) = (do pure (.value (← Builtin.len_ c.argTypes o.type (c.args.map ρ)))) := by unfold resolve; simp only [hc]; rfl
      rw [e]; exact gv h_len
    · rename_i hc
      have e : (do let d ← resolve ρ c o.type; invoke d.target d.args : Sem Next) = (do pure (.value (← Builtin.max_ c.argTypes o.type (c.args.map ρ)))) := by unfold resolve; simp only [hc]; rfl
      rw [e]; exact gv h_max
    · cases h
  | _ => rw [hop] at h; cases h
theorem h_results {P : Program} {fn : Func} {tmps : Array Value} : Hsh P (results fn tmps) := by
  unfold results
  refine hbind (hmapMA (fun r => ?_)) (fun _ => hpure)
  cases r with
  | tmp t => exact hpure
  | cell a t => exact hbind h_asAddr (fun _ => h_loadVar)
end Go.Proofs.Ytlbkhiphnllfpam
