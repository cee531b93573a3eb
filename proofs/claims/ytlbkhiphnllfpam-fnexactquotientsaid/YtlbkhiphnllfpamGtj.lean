/-
  A goroutine in company, by what it owns: the walk step by step.
-/
import Derived.Test.YtlbkhiphnllfpamGmc
import Derived.Conc.CompanyMem
import Derived.Below
namespace Go.Proofs.Ytlbkhiphnllfpam
open Go.Conc
set_option linter.unusedVariables false
/-- What it owns. -/
abbrev Hl := Nat → Option Obj
def Hl.dom (h : Hl) : Nat → Prop := fun k => ∃ b, h k = some b
def Hl.up (h : Hl) (r : Nat) (b : Obj) : Hl := fun k => if k = r then some b else h k
def Hl.le (h h' : Hl) : Prop := ∀ k b, h k = some b → h' k = some b
theorem Hl.le.refl (h : Hl) : h.le h := fun _ _ e => e
theorem Hl.le.trans {h h' h'' : Hl} (a : h.le h') (b : h'.le h'') : h.le h'' := fun k x e => b k x (a k x e)
theorem Hl.up_le {h : Hl} {r : Nat} (b : Obj) (hr : h r = none) : h.le (h.up r b) := fun k x e => by
  unfold Hl.up
  split
  · rename_i e'; subst e'; rw [hr] at e; cases e
  · exact e
theorem Hl.up_same (h : Hl) (r : Nat) (b : Obj) : h.up r b r = some b := by simp [Hl.up]
theorem Hl.up_ne {h : Hl} {r k : Nat} (b : Obj) (e : k ≠ r) : h.up r b k = h k := by simp [Hl.up, e]
/-- The world holds what it owns, and all that was there at the start but the channel. -/
structure Sat (w0 : World) (c L : Nat) (h : Hl) (w : World) : Prop where
  old : ∀ k, k < L → k ≠ c → w.heap[k]? = w0.heap[k]?
  own : ∀ k b, h k = some b → w.heap[k]? = some b
  far : ∀ k b, h k = some b → L ≤ k
  size : L ≤ w.heap.size
  os : w.os = w0.os
  output : w.output = w0.output
section
variable {P : Program} {main : Bool} {c L : Nat} {w0 : World} {Stop : (Nat → Prop) → Goroutine → World → Prop} {h h' : Hl} {g g' : Goroutine} {w w₁ w' : World} {es : Array Event}
theorem Sat.keep (hS : Sat w0 c L h w) (k : Keep c L h.dom w w₁) : Sat w0 c L h w₁ :=
  ⟨fun i a b => (k.old i a b).trans (hS.old i a b), fun i b e => (k.own i ⟨b, e⟩).trans (hS.own i b e), hS.far, Nat.le_trans hS.size k.size, k.os.trans hS.os, k.output.trans hS.output⟩
theorem Sat.lt (hS : Sat w0 c L h w) {r : Nat} {b : Obj} (e : h r = some b) : r < w.heap.size := by
  have := hS.own r b e
  exact (Array.getElem?_eq_some_iff.1 this).1
theorem Sat.fresh (hS : Sat w0 c L h w) : h w.heap.size = none := by
  cases e : h w.heap.size with
  | none => rfl
  | some b => exact absurd (hS.lt e) (by omega)
/-- On its way, in whatever world holds what it owns. -/
def GO (P : Program) (main : Bool) (c L : Nat) (w0 : World) (Stop : (Nat → Prop) → Goroutine → World → Prop) (h : Hl) (g : Goroutine) : Prop := ∀ w, Sat w0 c L h w → GoO P main c L Stop h.dom g w
theorem GO.step (hs : g.status = .running) (H : ∀ w, Sat w0 c L h w → (stepG P main g w).goes fun g' w' es => ∃ h', Mv c L h.dom h'.dom w w' es ∧ Sat w0 c L h' w' ∧ GO P main c L w0 Stop h' g') : GO P main c L w0 Stop h g := fun w hS =>
  GoO.next hs fun w₁ k => by
    obtain ⟨g', w', es, e, h', hm, hS', hG⟩ := goes_elim (H w₁ (hS.keep k))
    exact ⟨g', w', es, h'.dom, e, hm, hG w' hS'⟩
theorem Mv.idle (w : World) (h : Hl) (he : ∀ e ∈ es, EvO L h.dom w.heap.size e) : Mv c L h.dom h.dom w w es := ⟨rfl, rfl, rfl, Nat.le_refl _, fun _ _ _ => rfl, fun _ k => k, fun _ k => .inl k, he⟩
theorem GO.quiet (hs : g.status = .running) (H : ∀ w, Sat w0 c L h w → (stepG P main g w).goes fun g₂ w' es => w' = w ∧ (∀ e ∈ es, EvO L h.dom w.heap.size e) ∧ GO P main c L w0 Stop h g₂) : GO P main c L w0 Stop h g :=
  GO.step hs fun w hS => by
    obtain ⟨g₂, w', es, e, rfl, hev, hG⟩ := goes_elim (H w hS)
    rw [e]
    exact ⟨h, Mv.idle _ h hev, hS, hG⟩
theorem GO.ctl (hs : g.status = .running) (H : ∀ w, stepG P main g w = .go g' w) (hG : GO P main c L w0 Stop h g') : GO P main c L w0 Stop h g :=
  GO.quiet hs fun w hS => by rw [H]; exact ⟨rfl, by simp, hG⟩
theorem GO.stop (H : ∀ w, Sat w0 c L h w → Stop h.dom g w) : GO P main c L w0 Stop h g := fun w hS => .stop fun w₁ k => H w₁ (hS.keep k)
theorem heap_al (w : World) (o : Obj) (k : Nat) (h : k < w.heap.size) : (w.alloc o).heap[k]? = w.heap[k]? := by
  show (w.heap.push o)[k]? = _
  rw [Array.getElem?_push_lt h, Array.getElem?_eq_getElem h]
theorem Sat.alloc (hS : Sat w0 c L h w) (o : Obj) : Sat w0 c L (h.up w.heap.size o) (w.alloc o) ∧ Mv c L h.dom (h.up w.heap.size o).dom w (w.alloc o) #[] := by
  have hsz : (w.alloc o).heap.size = w.heap.size + 1 := by show (w.heap.push o).size = _; simp
  have hf := hS.fresh
  refine ⟨⟨fun k a b => (heap_al w o k (Nat.lt_of_lt_of_le a hS.size)).trans (hS.old k a b), fun k b e => ?_, fun k b e => ?_, by have := hS.size; omega, hS.os, hS.output⟩,
    ⟨rfl, rfl, rfl, by omega, fun k hk _ => heap_al w o k hk, fun k ⟨b, e⟩ => ⟨b, Hl.up_le o hf k b e⟩, fun k ⟨b, e⟩ => ?_, by simp⟩⟩
  · unfold Hl.up at e
    split at e
    · rename_i e'; subst e'; cases e; show (w.heap.push _)[_]? = _; simp
    · rw [heap_al w o k (hS.lt e)]; exact hS.own k b e
  · unfold Hl.up at e
    split at e
    · rename_i e'; subst e'; exact hS.size
    · exact hS.far k b e
  · unfold Hl.up at e
    split at e
    · rename_i e'; subst e'; right; omega
    · exact .inl ⟨b, e⟩
theorem Sat.set {r : Nat} {b o : Obj} (hS : Sat w0 c L h w) (hr : h r = some b) (h1 : w'.tape = w.tape) (h2 : w'.os = w.os) (h3 : w'.output = w.output) (h4 : w'.heap.size = w.heap.size) (h5 : ∀ k, k ≠ r → w'.heap[k]? = w.heap[k]?) (h6 : w'.heap[r]? = some o)
    (he : ∀ e ∈ es, EvO L h.dom w.heap.size e) : Sat w0 c L (h.up r o) w' ∧ Mv c L h.dom (h.up r o).dom w w' es := by
  have hd : ∀ k, h.dom k → (h.up r o).dom k := fun k ⟨x, e⟩ => by
    by_cases hk : k = r
    · subst hk; exact ⟨o, Hl.up_same _ _ _⟩
    · exact ⟨x, by rw [Hl.up_ne _ hk]; exact e⟩
  refine ⟨⟨fun k a b' => (h5 k (fun e => by have := hS.far r b hr; omega)).trans (hS.old k a b'), fun k x e => ?_, fun k x e => ?_, by rw [h4]; exact hS.size, h2.trans hS.os, h3.trans hS.output⟩,
    ⟨h1, h2, h3, by omega, fun k _ hk => h5 k (fun e => hk ⟨b, e ▸ hr⟩), hd, fun k ⟨x, e⟩ => .inl ?_, fun e he' => ?_⟩⟩
  · by_cases hk : k = r
    · subst hk; rw [Hl.up_same] at e; cases e; exact h6
    · rw [Hl.up_ne _ hk] at e; rw [h5 k hk]; exact hS.own k x e
  · by_cases hk : k = r
    · subst hk; exact hS.far _ b hr
    · rw [Hl.up_ne _ hk] at e; exact hS.far k x e
  · by_cases hk : k = r
    · subst hk; exact ⟨b, hr⟩
    · rw [Hl.up_ne _ hk] at e; exact ⟨x, e⟩
  · rcases he e he' with ⟨ad, wr, sy, x, y, z⟩ | x
    · exact .inl ⟨ad, wr, sy, x, by rw [h4]; exact y, z.imp (hd _) id⟩
    · exact .inr x
variable {b : Frame} {a : Act} {k : List Item} {cs : List Frame} {ops : Array Oper} {i : Nat} {rest : List Nat} {o : Oper}
/-- AN OPERATION that turns nothing. -/
theorem GO.opq (ho : ops[i]? = some o) (hw : Region.wanted o (yielded ops a.tmps) = true) (hk : b.kind ≠ .early)
    (H : ∀ w, Sat w0 c L h w → ∀ K : Act → World → Prop, (∀ a' w', w' = w ∧ (∀ e ∈ (execOp a.eval o).events P w #[], EvO L h.dom w.heap.size e) ∧ GO P main c L w0 Stop h (G (b.at a' (.inRegion ops rest :: k)) cs) → K a' w') → uponK o a K ((execOp a.eval o).run P w)) :
    GO P main c L w0 Stop h (G (b.at a (.inRegion ops (i :: rest) :: k)) cs) :=
  GO.quiet rfl fun w hS => goes_oper_k ho hw hk fun K hK => H w hS K fun a' w' ⟨e, h1, h2⟩ => hK a' w' ⟨e, fun e he => h1 e (mem_listed he), h2⟩
/-- .. that lays a block. -/
theorem GO.opn (ho : ops[i]? = some o) (hw : Region.wanted o (yielded ops a.tmps) = true) (hk : b.kind ≠ .early)
    (H : ∀ w, Sat w0 c L h w → ∀ K : Act → World → Prop, (∀ a' w', (∃ ob, w' = w.alloc ob ∧ (∀ e ∈ (execOp a.eval o).events P w #[], EvO L h.dom w.heap.size e) ∧ ∀ h' : Hl, h' w.heap.size = some ob → h w.heap.size = none → L ≤ w.heap.size → h.le h' → GO P main c L w0 Stop h' (G (b.at a' (.inRegion ops rest :: k)) cs)) → K a' w') → uponK o a K ((execOp a.eval o).run P w)) :
    GO P main c L w0 Stop h (G (b.at a (.inRegion ops (i :: rest) :: k)) cs) :=
  GO.step rfl fun w hS => goes_oper_k ho hw hk fun K hK => H w hS K fun a' w' ⟨ob, e, h1, h2⟩ => hK a' w' (by
    subst e
    obtain ⟨hS', hm⟩ := hS.alloc ob
    refine ⟨h.up w.heap.size ob, ⟨hm.tape, hm.os, hm.output, hm.size, hm.rest, hm.sub, hm.new, fun e he => ?_⟩, hS', h2 _ (Hl.up_same _ _ _) hS.fresh hS.size (Hl.up_le ob hS.fresh)⟩
    rcases h1 e (mem_listed he) with ⟨ad, wr, sy, x, y, z⟩ | x
    · exact .inl ⟨ad, wr, sy, x, Nat.lt_of_lt_of_le y hm.size, z.imp (hm.sub _) id⟩
    · exact .inr x)
/-- .. that writes into a block of its own. -/
theorem GO.opw {r : Nat} {bl ob : Obj} (hr : h r = some bl) (ho : ops[i]? = some o) (hw : Region.wanted o (yielded ops a.tmps) = true) (hk : b.kind ≠ .early)
    (H : ∀ w, Sat w0 c L h w → ∀ K : Act → World → Prop, (∀ a' w', ((w'.tape = w.tape ∧ w'.os = w.os ∧ w'.output = w.output ∧ w'.heap.size = w.heap.size ∧ (∀ k, k ≠ r → w'.heap[k]? = w.heap[k]?) ∧ w'.heap[r]? = some ob) ∧ (∀ e ∈ (execOp a.eval o).events P w #[], EvO L h.dom w.heap.size e) ∧ ∀ h' : Hl, h' r = some ob → (∀ k, k ≠ r → h' k = h k) → GO P main c L w0 Stop h' (G (b.at a' (.inRegion ops rest :: k)) cs)) → K a' w') → uponK o a K ((execOp a.eval o).run P w)) :
    GO P main c L w0 Stop h (G (b.at a (.inRegion ops (i :: rest) :: k)) cs) :=
  GO.step rfl fun w hS => goes_oper_k ho hw hk fun K hK => H w hS K fun a' w' ⟨⟨e1, e2, e3, e4, e5, e6⟩, h1, h2⟩ => hK a' w' (by
    obtain ⟨hS', hm⟩ := hS.set (es := listed P b.fn a o w) hr e1 e2 e3 e4 e5 e6 fun e he => h1 e (mem_listed he)
    exact ⟨h.up r ob, hm, hS', h2 _ (Hl.up_same _ _ _) fun k hk => Hl.up_ne _ hk⟩)
/-- An operation that is not wanted. -/
theorem GO.unw (ho : ops[i]? = some o) (hw : Region.wanted o (yielded ops a.tmps) = false) (H : GO P main c L w0 Stop h (G (b.at (a.put o.dst undef) (.inRegion ops rest :: k)) cs)) : GO P main c L w0 Stop h (G (b.at a (.inRegion ops (i :: rest) :: k)) cs) :=
  GO.ctl rfl (fun w => stepG_unwanted ho hw) H
/-- A call of a function with a body. -/
theorem GO.call {f : FuncId} {fn : Func} {cd : Code} {args : Array Operand} {ats : Array TypeId} {vs : Array Value} (ho : ops[i]? = some o) (hw : Region.wanted o (yielded ops a.tmps) = true) (hk : b.kind ≠ .early) (hop : o.op = .call { callee := .value (.func f), args, argTypes := ats })
    (hf : P.funcs[f]? = some fn) (hname : (fn.name == "runtime.NumGoroutine") = false) (hb : fn.body = some cd) (ha : args.map a.eval = vs)
    (H : GO P main c L w0 Stop h (G ((base f).at { tmps := vs ++ Array.replicate (fn.ntmps - vs.size) undef, defers := [] } [.code cd]) (b.at a (.inRegion ops (i :: rest) :: k) :: cs))) :
    GO P main c L w0 Stop h (G (b.at a (.inRegion ops (i :: rest) :: k)) cs) :=
  GO.quiet rfl fun w hS => goes_call ho hw hk hop hf hname hb ⟨rfl, by simp, by rw [ha]; exact H⟩
/-- A cut: what follows is walked once. -/
theorem GO.cut {x : Code} (Q : Hl → Act → Prop) (hk : ∀ h a, Q h a → GO P main c L w0 Stop h (G (b.at a k) cs)) (hx : (∀ h a, Q h a → GO P main c L w0 Stop h (G (b.at a k) cs)) → GO P main c L w0 Stop h (G (b.at a (.code x :: k)) cs)) : GO P main c L w0 Stop h (G (b.at a (.code x :: k)) cs) := hx hk
theorem GO.leave1 {fn : Func} {todo : List Item} {b₀ : Frame} {a₀ : Act} {t : Tmp} (hn : b.kind = .normal) (hd : a.defers = []) (hf : P.funcs[b.fn]? = some fn) (hr : fn.results = #[.tmp t])
    (H : GO P main c L w0 Stop h (G (b₀.at (a₀.put ((ops[i]?).bind (·.dst)) (a.tmps.getD t undef)) (.inRegion ops rest :: k)) cs)) :
    GO P main c L w0 Stop h (G { b.at a todo with mode := .returning } (b₀.at a₀ (.inRegion ops (i :: rest) :: k) :: cs)) :=
  GO.quiet rfl fun w hS => goes_leave1 hn hd hf hr ⟨rfl, by simp, H⟩
theorem stepG_leaveE {fn : Func} {todo : List Item} {cl : Frame} {v : Value} (hn : b.kind = .normal) (hd : a.defers = []) (hf : P.funcs[b.fn]? = some fn) (hr : (results fn a.tmps).run P w = .ok v w) :
    stepG P main (G { b.at a todo with mode := .returning } (cl :: cs)) w = .go (G (cl.finish v) cs) w (seen P b.fn ((results fn a.tmps).events P w #[])) := by
  simp [G, stepG, unwind, doReturn, Frame.at, hn, hd, hf, hr, GStep.after]
/-- The return, with results that lie in a cell of its own. -/
theorem GO.leaveE {fn : Func} {todo : List Item} {b₀ : Frame} {a₀ : Act} {v : Value} (hn : b.kind = .normal) (hd : a.defers = []) (hf : P.funcs[b.fn]? = some fn)
    (hr : ∀ w, Sat w0 c L h w → (results fn a.tmps).run P w = .ok v w ∧ ∀ e ∈ (results fn a.tmps).events P w #[], EvO L h.dom w.heap.size e)
    (H : GO P main c L w0 Stop h (G (b₀.at (a₀.put ((ops[i]?).bind (·.dst)) v) (.inRegion ops rest :: k)) cs)) :
    GO P main c L w0 Stop h (G { b.at a todo with mode := .returning } (b₀.at a₀ (.inRegion ops (i :: rest) :: k) :: cs)) :=
  GO.quiet rfl fun w hS => by
    rw [stepG_leaveE hn hd hf (hr w hS).1, Frame.finish_at]
    exact ⟨rfl, fun e he => (hr w hS).2 e (mem_seen he), H⟩
/-- A loop, by a measure. -/
theorem GO.loopI {cd : Code} (I : Nat → Hl → Act → Prop) (n : Nat) (h0 : I n h a)
    (round : ∀ n h a, I n h a → (∀ n' h' a', n' < n → I n' h' a' → GO P main c L w0 Stop h' (G (b.at a' (.inLoop cd :: k)) cs)) → GO P main c L w0 Stop h (G (b.at a (.code cd :: .inLoop cd :: k)) cs)) :
    GO P main c L w0 Stop h (G (b.at a (.code (.loop cd) :: k)) cs) := by
  refine GO.ctl rfl (fun _ => stepG_loop) ?_
  induction n using Nat.strongRecOn generalizing h a with
  | _ n ih => exact round n h a h0 fun n' h' a' hn hI => GO.ctl rfl (fun _ => stepG_inLoop) (ih n' hn hI)
theorem GO.seq {x y : Code} (H : GO P main c L w0 Stop h (G (b.at a (.code x :: .code y :: k)) cs)) : GO P main c L w0 Stop h (G (b.at a (.code (.seq x y) :: k)) cs) := GO.ctl rfl (fun _ => stepG_seq) H
theorem GO.skip (H : GO P main c L w0 Stop h (G (b.at a k) cs)) : GO P main c L w0 Stop h (G (b.at a (.code .skip :: k)) cs) := GO.ctl rfl (fun _ => stepG_skip) H
theorem GO.block {id : Nat} {x : Code} (H : GO P main c L w0 Stop h (G (b.at a (.code x :: .inBlock id :: k)) cs)) : GO P main c L w0 Stop h (G (b.at a (.code (.block id x) :: k)) cs) := GO.ctl rfl (fun _ => stepG_block) H
theorem GO.inBlock {id : Nat} (H : GO P main c L w0 Stop h (G (b.at a k) cs)) : GO P main c L w0 Stop h (G (b.at a (.inBlock id :: k)) cs) := GO.ctl rfl (fun _ => stepG_inBlock) H
theorem GO.regionEnd (H : GO P main c L w0 Stop h (G (b.at a k) cs)) : GO P main c L w0 Stop h (G (b.at a (.inRegion ops [] :: k)) cs) := GO.ctl rfl (fun _ => stepG_region_end) H
theorem GO.label {l : Nat} (H : GO P main c L w0 Stop h (G (b.at a k) cs)) : GO P main c L w0 Stop h (G (b.at a (.code (.label l) :: k)) cs) := GO.ctl rfl (fun _ => stepG_label) H
theorem GO.ret (H : GO P main c L w0 Stop h (G { b.at a (.code .ret :: k) with mode := .returning } cs)) : GO P main c L w0 Stop h (G (b.at a (.code .ret :: k)) cs) := GO.ctl rfl (fun _ => stepG_ret') H
theorem GO.fin (H : GO P main c L w0 Stop h (G { b.at a [] with mode := .returning } cs)) : GO P main c L w0 Stop h (G (b.at a []) cs) := GO.ctl rfl (fun _ => stepG_end) H
theorem GO.exit {id : Nat} {k' : List Item} (e : exitTo id k = some k') (H : GO P main c L w0 Stop h (G (b.at a k') cs)) : GO P main c L w0 Stop h (G (b.at a (.code (.exit id) :: k)) cs) := GO.ctl rfl (fun _ => stepG_exit e) H
theorem GO.region {id : Nat} {l : List Nat} (e : List.range ops.size = l) (H : GO P main c L w0 Stop h (G (b.at a (.inRegion ops l :: k)) cs)) : GO P main c L w0 Stop h (G (b.at a (.code (.region id ops false) :: k)) cs) := GO.ctl rfl (fun _ => stepG_region) (by rw [e]; exact H)
/-- Kept from the walk. -/
theorem hid {p : Prop} (h : p) : Go.RowKit.Hid p := h
theorem GO.cond {cd : Operand} {x y : Code} {t : Bool} (hc : a.eval cd = .bool t) (h1 : t = true → GO P main c L w0 Stop h (G (b.at a (.code x :: k)) cs)) (h2 : t = false → GO P main c L w0 Stop h (G (b.at a (.code y :: k)) cs)) :
    GO P main c L w0 Stop h (G (b.at a (.code (.cond cd x y) :: k)) cs) :=
  GO.ctl rfl (fun _ => stepG_cond hc) (by cases t <;> first | exact h1 rfl | exact h2 rfl)
end
theorem gcell_of {w : World} {r o : Nat} {cs : Array Value} {t : TypeId} {f : Nat × Nat} (e : w.heap[r]? = some (.cells cs t f)) : w.cell? ⟨r, o, none⟩ = cs[o]? := by simp [World.cell?, e]
theorem gwarm_of {w : World} {r o : Nat} {cs : Array Value} {t : TypeId} (e : w.heap[r]? = some (.cells cs t (0, 0))) : w.frozen? ⟨r, o, none⟩ = false := by simp [World.frozen?, e]
theorem evo_own {w0 w : World} {c L : Nat} {h : Hl} {r o : Nat} {b : Obj} {wr : Bool} (hS : Sat w0 c L h w) (hr : h r = some b) : EvO L h.dom w.heap.size ⟨.cell ⟨r, o, none⟩, wr, false⟩ := .inl ⟨_, _, _, rfl, hS.lt hr, .inl ⟨b, hr⟩⟩
theorem evo_old {w0 w : World} {c L : Nat} {h : Hl} {r o : Nat} (hS : Sat w0 c L h w) (hr : r < L) : EvO L h.dom w.heap.size ⟨.cell ⟨r, o, none⟩, false, false⟩ := .inl ⟨_, _, _, rfl, Nat.lt_of_lt_of_le hr hS.size, .inr ⟨rfl, hr⟩⟩
theorem put_at {w : World} {r o : Nat} {cs : Array Value} {t : TypeId} {f : Nat × Nat} (v : Value) (e : w.heap[r]? = some (.cells cs t f)) : (w.setCell ⟨r, o, none⟩ v).heap[r]? = some (.cells (cs.setIfInBounds o v) t f) := by
  simp [World.setCell, Array.getElem?_modify, e]
theorem put_ne {w : World} {r o k : Nat} (v : Value) (e : k ≠ r) : (w.setCell ⟨r, o, none⟩ v).heap[k]? = w.heap[k]? := Go.RowKit.Below.heap_setCell _ _ _ _ e
end Go.Proofs.Ytlbkhiphnllfpam
