/-
  Goroutines: the walk in company by what is owned; the program's turns, signed and plain; the goroutine that sends; rows that grow; regions that draw their order.
-/
import Derived.Test.YtlbkhiphnllfpacGaa
import Derived.Conc.CompanyMem
import Derived.Below
import Derived.Test.YtlbkhiphnllfpacRows
import Derived.RowKit
import Derived.IntWalk
import Derived.Test.YtlbkhiphnllfpacDivP
import Derived.Conc.Quits
import Derived.KernelRfl
import Derived.Test.YtlbkhiphnllfpacTrn
import Derived.Conc.AppendWalk
import Derived.Conc.CompanyDraw
import Derived.Orders
import Derived.Test.YtlbkhiphnllfpacSl
namespace Go.Proofs.Ytlbkhiphnllfpac
open Go.Conc
set_option linter.unusedVariables false
set_option maxRecDepth 100000
/-- What it owns. -/
abbrev Hl := Nat → Option Obj
def Hl.dom (h : Hl) : Nat → Prop := fun k => ∃ b, h k = some b
def Hl.up (h : Hl) (r : Nat) (b : Obj) : Hl := fun k => if k = r then some b else h k
def Hl.le (h h' : Hl) : Prop := ∀ k b, h k = some b → h' k = some b
theorem Hl.le.refl (h : Hl) : h.le h := fun _ _ e => e
theorem Hl.le.trans {h h' h'' : Hl} (a : h.le h') (b : h'.le h'') : h.le h'' := fun k x e => b k x (a k x e)
theorem Hl.up_le {h : Hl} {r : Nat} (b : Obj) (hr : h r = none) : h.le (h.up r b) := fun k x e => by
  unfold Hl.up
  split
  · rename_i e'; subst e'; rw [hr] at e; cases e
  · exact e
theorem Hl.up_same (h : Hl) (r : Nat) (b : Obj) : h.up r b r = some b := by simp [Hl.up]
theorem Hl.up_ne {h : Hl} {r k : Nat} (b : Obj) (e : k ≠ r) : h.up r b k = h k := by simp [Hl.up, e]
/-- The world holds what it owns, and all that was there at the start but the channel. -/
structure Sat (w0 : World) (c L : Nat) (h : Hl) (w : World) : Prop where
  old : ∀ k, k < L → k ≠ c → w.heap[k]? = w0.heap[k]?
  own : ∀ k b, h k = some b → w.heap[k]? = some b
  far : ∀ k b, h k = some b → L ≤ k
  size : L ≤ w.heap.size
  os : w.os = w0.os
  output : w.output = w0.output
section
variable {P : Program} {main : Bool} {c L : Nat} {w0 : World} {Stop : (Nat → Prop) → Goroutine → World → Prop} {h h' : Hl} {g g' : Goroutine} {w w₁ w' : World} {es : Array Event}
theorem Sat.keep (hS : Sat w0 c L h w) (k : Keep c L h.dom w w₁) : Sat w0 c L h w₁ :=
  ⟨fun i a b => (k.old i a b).trans (hS.old i a b), fun i b e => (k.own i ⟨b, e⟩).trans (hS.own i b e), hS.far, Nat.le_trans hS.size k.size, k.os.trans hS.os, k.output.trans hS.output⟩
theorem Sat.lt (hS : Sat w0 c L h w) {r : Nat} {b : Obj} (e : h r = some b) : r < w.heap.size := by
  have := hS.own r b e
  exact (Array.getElem?_eq_some_iff.1 this).1
theorem Sat.fresh (hS : Sat w0 c L h w) : h w.heap.size = none := by
  cases e : h w.heap.size with
  | none => rfl
  | some b => exact absurd (hS.lt e) (by omega)
/-- On its way, in whatever world holds what it owns. -/
def GO (P : Program) (main : Bool) (c L : Nat) (w0 : World) (Stop : (Nat → Prop) → Goroutine → World → Prop) (h : Hl) (g : Goroutine) : Prop := ∀ w, Sat w0 c L h w → GoO P main c L Stop h.dom g w
theorem GO.step (hs : g.status = .running) (H : ∀ w, Sat w0 c L h w → (stepG P main g w).goes fun g' w' es => ∃ h', Mv c L h.dom h'.dom w w' es ∧ Sat w0 c L h' w' ∧ GO P main c L w0 Stop h' g') : GO P main c L w0 Stop h g := fun w hS =>
  GoO.next hs fun w₁ k => by
    obtain ⟨g', w', es, e, h', hm, hS', hG⟩ := goes_elim (H w₁ (hS.keep k))
    exact ⟨g', w', es, h'.dom, e, hm, hG w' hS'⟩
theorem Mv.idle (w : World) (h : Hl) (he : ∀ e ∈ es, EvO L h.dom w.heap.size e) : Mv c L h.dom h.dom w w es := ⟨rfl, rfl, rfl, Nat.le_refl _, fun _ _ _ => rfl, fun _ k => k, fun _ k => .inl k, he⟩
theorem GO.quiet (hs : g.status = .running) (H : ∀ w, Sat w0 c L h w → (stepG P main g w).goes fun g₂ w' es => w' = w ∧ (∀ e ∈ es, EvO L h.dom w.heap.size e) ∧ GO P main c L w0 Stop h g₂) : GO P main c L w0 Stop h g :=
  GO.step hs fun w hS => by
    obtain ⟨g₂, w', es, e, rfl, hev, hG⟩ := goes_elim (H w hS)
    rw [e]
    exact ⟨h, Mv.idle _ h hev, hS, hG⟩
theorem GO.ctl (hs : g.status = .running) (H : ∀ w, stepG P main g w = .go g' w) (hG : GO P main c L w0 Stop h g') : GO P main c L w0 Stop h g :=
  GO.quiet hs fun w hS => by rw [H]; exact ⟨rfl, by simp, hG⟩
theorem GO.stop (H : ∀ w, Sat w0 c L h w → Stop h.dom g w) : GO P main c L w0 Stop h g := fun w hS => .stop fun w₁ k => H w₁ (hS.keep k)
theorem heap_al (w : World) (o : Obj) (k : Nat) (h : k < w.heap.size) : (w.alloc o).heap[k]? = w.heap[k]? := by
  show (w.heap.push o)[k]? = _
  rw [Array.getElem?_push_lt h, Array.getElem?_eq_getElem h]
theorem Sat.alloc (hS : Sat w0 c L h w) (o : Obj) : Sat w0 c L (h.up w.heap.size o) (w.alloc o) ∧ Mv c L h.dom (h.up w.heap.size o).dom w (w.alloc o) #[] := by
  have hsz : (w.alloc o).heap.size = w.heap.size + 1 := by show (w.heap.push o).size = _; simp
  have hf := hS.fresh
  refine ⟨⟨fun k a b => (heap_al w o k (Nat.lt_of_lt_of_le a hS.size)).trans (hS.old k a b), fun k b e => ?_, fun k b e => ?_, by have := hS.size; omega, hS.os, hS.output⟩,
    ⟨rfl, rfl, rfl, by omega, fun k hk _ => heap_al w o k hk, fun k ⟨b, e⟩ => ⟨b, Hl.up_le o hf k b e⟩, fun k ⟨b, e⟩ => ?_, by simp⟩⟩
  · unfold Hl.up at e
    split at e
    · rename_i e'; subst e'; cases e; show (w.heap.push _)[_]? = _; simp
    · rw [heap_al w o k (hS.lt e)]; exact hS.own k b e
  · unfold Hl.up at e
    split at e
    · rename_i e'; subst e'; exact hS.size
    · exact hS.far k b e
  · unfold Hl.up at e
    split at e
    · rename_i e'; subst e'; right; omega
    · exact .inl ⟨b, e⟩
theorem Sat.set {r : Nat} {b o : Obj} (hS : Sat w0 c L h w) (hr : h r = some b) (h1 : w'.tape = w.tape) (h2 : w'.os = w.os) (h3 : w'.output = w.output) (h4 : w'.heap.size = w.heap.size) (h5 : ∀ k, k ≠ r → w'.heap[k]? = w.heap[k]?) (h6 : w'.heap[r]? = some o)
    (he : ∀ e ∈ es, EvO L h.dom w.heap.size e) : Sat w0 c L (h.up r o) w' ∧ Mv c L h.dom (h.up r o).dom w w' es := by
  have hd : ∀ k, h.dom k → (h.up r o).dom k := fun k ⟨x, e⟩ => by
    by_cases hk : k = r
    · subst hk; exact ⟨o, Hl.up_same _ _ _⟩
    · exact ⟨x, by rw [Hl.up_ne _ hk]; exact e⟩
  refine ⟨⟨fun k a b' => (h5 k (fun e => by have := hS.far r b hr; omega)).trans (hS.old k a b'), fun k x e => ?_, fun k x e => ?_, by rw [h4]; exact hS.size, h2.trans hS.os, h3.trans hS.output⟩,
    ⟨h1, h2, h3, by omega, fun k _ hk => h5 k (fun e => hk ⟨b, e ▸ hr⟩), hd, fun k ⟨x, e⟩ => .inl ?_, fun e he' => ?_⟩⟩
  · by_cases hk : k = r
    · subst hk; rw [Hl.up_same] at e; cases e; exact h6
    · rw [Hl.up_ne _ hk] at e; rw [h5 k hk]; exact hS.own k x e
  · by_cases hk : k = r
    · subst hk; exact hS.far _ b hr
    · rw [Hl.up_ne _ hk] at e; exact hS.far k x e
  · by_cases hk : k = r
    · subst hk; exact ⟨b, hr⟩
    · rw [Hl.up_ne _ hk] at e; exact ⟨x, e⟩
  · rcases he e he' with ⟨ad, wr, sy, x, y, z⟩ | x
    · exact .inl ⟨ad, wr, sy, x, by rw [h4]; exact y, z.imp (hd _) id⟩
    · exact .inr x
variable {b : Frame} {a : Act} {k : List Item} {cs : List Frame} {ops : Array Oper} {i : Nat} {rest : List Nat} {o : Oper}
/-- AN OPERATION that turns nothing. -/
theorem GO.opq (ho : ops[i]? = some o) (hw : Region.wanted o (yielded ops a.tmps) = true) (hk : b.kind ≠ .early)
    (H : ∀ w, Sat w0 c L h w → ∀ K : Act → World → Prop, (∀ a' w', w' = w ∧ (∀ e ∈ (execOp a.eval o).events P w #[], EvO L h.dom w.heap.size e) ∧ GO P main c L w0 Stop h (G (b.at a' (.inRegion ops rest :: k)) cs) → K a' w') → uponK o a K ((execOp a.eval o).run P w)) :
    GO P main c L w0 Stop h (G (b.at a (.inRegion ops (i :: rest) :: k)) cs) :=
  GO.quiet rfl fun w hS => goes_oper_k ho hw hk fun K hK => H w hS K fun a' w' ⟨e, h1, h2⟩ => hK a' w' ⟨e, fun e he => h1 e (mem_listed he), h2⟩
/-- .. that lays a block. -/
theorem GO.opn (ho : ops[i]? = some o) (hw : Region.wanted o (yielded ops a.tmps) = true) (hk : b.kind ≠ .early)
    (H : ∀ w, Sat w0 c L h w → ∀ K : Act → World → Prop, (∀ a' w', (∃ ob, w' = w.alloc ob ∧ (∀ e ∈ (execOp a.eval o).events P w #[], EvO L h.dom w.heap.size e) ∧ ∀ h' : Hl, h' w.heap.size = some ob → h w.heap.size = none → L ≤ w.heap.size → h.le h' → GO P main c L w0 Stop h' (G (b.at a' (.inRegion ops rest :: k)) cs)) → K a' w') → uponK o a K ((execOp a.eval o).run P w)) :
    GO P main c L w0 Stop h (G (b.at a (.inRegion ops (i :: rest) :: k)) cs) :=
  GO.step rfl fun w hS => goes_oper_k ho hw hk fun K hK => H w hS K fun a' w' ⟨ob, e, h1, h2⟩ => hK a' w' (by
    subst e
    obtain ⟨hS', hm⟩ := hS.alloc ob
    refine ⟨h.up w.heap.size ob, ⟨hm.tape, hm.os, hm.output, hm.size, hm.rest, hm.sub, hm.new, fun e he => ?_⟩, hS', h2 _ (Hl.up_same _ _ _) hS.fresh hS.size (Hl.up_le ob hS.fresh)⟩
    rcases h1 e (mem_listed he) with ⟨ad, wr, sy, x, y, z⟩ | x
    · exact .inl ⟨ad, wr, sy, x, Nat.lt_of_lt_of_le y hm.size, z.imp (hm.sub _) id⟩
    · exact .inr x)
/-- .. that writes into a block of its own. -/
theorem GO.opw {r : Nat} {bl ob : Obj} (hr : h r = some bl) (ho : ops[i]? = some o) (hw : Region.wanted o (yielded ops a.tmps) = true) (hk : b.kind ≠ .early)
    (H : ∀ w, Sat w0 c L h w → ∀ K : Act → World → Prop, (∀ a' w', ((w'.tape = w.tape ∧ w'.os = w.os ∧ w'.output = w.output ∧ w'.heap.size = w.heap.size ∧ (∀ k, k ≠ r → w'.heap[k]? = w.heap[k]?) ∧ w'.heap[r]? = some ob) ∧ (∀ e ∈ (execOp a.eval o).events P w #[], EvO L h.dom w.heap.size e) ∧ ∀ h' : Hl, h' r = some ob → (∀ k, k ≠ r → h' k = h k) → GO P main c L w0 Stop h' (G (b.at a' (.inRegion ops rest :: k)) cs)) → K a' w') → uponK o a K ((execOp a.eval o).run P w)) :
    GO P main c L w0 Stop h (G (b.at a (.inRegion ops (i :: rest) :: k)) cs) :=
  GO.step rfl fun w hS => goes_oper_k ho hw hk fun K hK => H w hS K fun a' w' ⟨⟨e1, e2, e3, e4, e5, e6⟩, h1, h2⟩ => hK a' w' (by
    obtain ⟨hS', hm⟩ := hS.set (es := listed P b.fn a o w) hr e1 e2 e3 e4 e5 e6 fun e he => h1 e (mem_listed he)
    exact ⟨h.up r ob, hm, hS', h2 _ (Hl.up_same _ _ _) fun k hk => Hl.up_ne _ hk⟩)
/-- An operation that is not wanted. -/
theorem GO.unw (ho : ops[i]? = some o) (hw : Region.wanted o (yielded ops a.tmps) = false) (H : GO P main c L w0 Stop h (G (b.at (a.put o.dst undef) (.inRegion ops rest :: k)) cs)) : GO P main c L w0 Stop h (G (b.at a (.inRegion ops (i :: rest) :: k)) cs) :=
  GO.ctl rfl (fun w => stepG_unwanted ho hw) H
/-- A call of a function with a body. -/
theorem GO.call {f : FuncId} {fn : Func} {cd : Code} {args : Array Operand} {ats : Array TypeId} {vs : Array Value} (ho : ops[i]? = some o) (hw : Region.wanted o (yielded ops a.tmps) = true) (hk : b.kind ≠ .early) (hop : o.op = .call { callee := .value (.func f), args, argTypes := ats })
    (hf : P.funcs[f]? = some fn) (hname : (fn.name == "runtime.NumGoroutine") = false) (hb : fn.body = some cd) (ha : args.map a.eval = vs)
    (H : GO P main c L w0 Stop h (G ((base f).at { tmps := vs ++ Array.replicate (fn.ntmps - vs.size) undef, defers := [] } [.code cd]) (b.at a (.inRegion ops (i :: rest) :: k) :: cs))) :
    GO P main c L w0 Stop h (G (b.at a (.inRegion ops (i :: rest) :: k)) cs) :=
  GO.quiet rfl fun w hS => goes_call ho hw hk hop hf hname hb ⟨rfl, by simp, by rw [ha]; exact H⟩
/-- A cut: what follows is walked once. -/
theorem GO.cut {x : Code} (Q : Hl → Act → Prop) (hk : ∀ h a, Q h a → GO P main c L w0 Stop h (G (b.at a k) cs)) (hx : (∀ h a, Q h a → GO P main c L w0 Stop h (G (b.at a k) cs)) → GO P main c L w0 Stop h (G (b.at a (.code x :: k)) cs)) : GO P main c L w0 Stop h (G (b.at a (.code x :: k)) cs) := hx hk
theorem GO.leave1 {fn : Func} {todo : List Item} {b₀ : Frame} {a₀ : Act} {t : Tmp} (hn : b.kind = .normal) (hd : a.defers = []) (hf : P.funcs[b.fn]? = some fn) (hr : fn.results = #[.tmp t])
    (H : GO P main c L w0 Stop h (G (b₀.at (a₀.put ((ops[i]?).bind (·.dst)) (a.tmps.getD t undef)) (.inRegion ops rest :: k)) cs)) :
    GO P main c L w0 Stop h (G { b.at a todo with mode := .returning } (b₀.at a₀ (.inRegion ops (i :: rest) :: k) :: cs)) :=
  GO.quiet rfl fun w hS => goes_leave1 hn hd hf hr ⟨rfl, by simp, H⟩
theorem stepG_leaveE {fn : Func} {todo : List Item} {cl : Frame} {v : Value} (hn : b.kind = .normal) (hd : a.defers = []) (hf : P.funcs[b.fn]? = some fn) (hr : (results fn a.tmps).run P w = .ok v w) :
    stepG P main (G { b.at a todo with mode := .returning } (cl :: cs)) w = .go (G (cl.finish v) cs) w (seen P b.fn ((results fn a.tmps).events P w #[])) := by
  simp [G, stepG, unwind, doReturn, Frame.at, hn, hd, hf, hr, GStep.after]
/-- The return, with results that lie in a cell of its own. -/
theorem GO.leaveE {fn : Func} {todo : List Item} {b₀ : Frame} {a₀ : Act} {v : Value} (hn : b.kind = .normal) (hd : a.defers = []) (hf : P.funcs[b.fn]? = some fn)
    (hr : ∀ w, Sat w0 c L h w → (results fn a.tmps).run P w = .ok v w ∧ ∀ e ∈ (results fn a.tmps).events P w #[], EvO L h.dom w.heap.size e)
    (H : GO P main c L w0 Stop h (G (b₀.at (a₀.put ((ops[i]?).bind (·.dst)) v) (.inRegion ops rest :: k)) cs)) :
    GO P main c L w0 Stop h (G { b.at a todo with mode := .returning } (b₀.at a₀ (.inRegion ops (i :: rest) :: k) :: cs)) :=
  GO.quiet rfl fun w hS => by
    rw [stepG_leaveE hn hd hf (hr w hS).1, Frame.finish_at]
    exact ⟨rfl, fun e he => (hr w hS).2 e (mem_seen he), H⟩
/-- A loop, by a measure. -/
theorem GO.loopI {cd : Code} (I : Nat → Hl → Act → Prop) (n : Nat) (h0 : I n h a)
    (round : ∀ n h a, I n h a → (∀ n' h' a', n' < n → I n' h' a' → GO P main c L w0 Stop h' (G (b.at a' (.inLoop cd :: k)) cs)) → GO P main c L w0 Stop h (G (b.at a (.code cd :: .inLoop cd :: k)) cs)) :
    GO P main c L w0 Stop h (G (b.at a (.code (.loop cd) :: k)) cs) := by
  refine GO.ctl rfl (fun _ => stepG_loop) ?_
  induction n using Nat.strongRecOn generalizing h a with
  | _ n ih => exact round n h a h0 fun n' h' a' hn hI => GO.ctl rfl (fun _ => stepG_inLoop) (ih n' hn hI)
theorem GO.seq {x y : Code} (H : GO P main c L w0 Stop h (G (b.at a (.code x :: .code y :: k)) cs)) : GO P main c L w0 Stop h (G (b.at a (.code (.seq x y) :: k)) cs) := GO.ctl rfl (fun _ => stepG_seq) H
theorem GO.skip (H : GO P main c L w0 Stop h (G (b.at a k) cs)) : GO P main c L w0 Stop h (G (b.at a (.code .skip :: k)) cs) := GO.ctl rfl (fun _ => stepG_skip) H
theorem GO.block {id : Nat} {x : Code} (H : GO P main c L w0 Stop h (G (b.at a (.code x :: .inBlock id :: k)) cs)) : GO P main c L w0 Stop h (G (b.at a (.code (.block id x) :: k)) cs) := GO.ctl rfl (fun _ => stepG_block) H
theorem GO.inBlock {id : Nat} (H : GO P main c L w0 Stop h (G (b.at a k) cs)) : GO P main c L w0 Stop h (G (b.at a (.inBlock id :: k)) cs) := GO.ctl rfl (fun _ => stepG_inBlock) H
theorem GO.regionEnd (H : GO P main c L w0 Stop h (G (b.at a k) cs)) : GO P main c L w0 Stop h (G (b.at a (.inRegion ops [] :: k)) cs) := GO.ctl rfl (fun _ => stepG_region_end) H
theorem GO.label {l : Nat} (H : GO P main c L w0 Stop h (G (b.at a k) cs)) : GO P main c L w0 Stop h (G (b.at a (.code (.label l) :: k)) cs) := GO.ctl rfl (fun _ => stepG_label) H
theorem GO.ret (H : GO P main c L w0 Stop h (G { b.at a (.code .ret :: k) with mode := .returning } cs)) : GO P main c L w0 Stop h (G (b.at a (.code .ret :: k)) cs) := GO.ctl rfl (fun _ => stepG_ret') H
theorem GO.fin (H : GO P main c L w0 Stop h (G { b.at a [] with mode := .returning } cs)) : GO P main c L w0 Stop h (G (b.at a []) cs) := GO.ctl rfl (fun _ => stepG_end) H
theorem GO.exit {id : Nat} {k' : List Item} (e : exitTo id k = some k') (H : GO P main c L w0 Stop h (G (b.at a k') cs)) : GO P main c L w0 Stop h (G (b.at a (.code (.exit id) :: k)) cs) := GO.ctl rfl (fun _ => stepG_exit e) H
theorem GO.region {id : Nat} {l : List Nat} (e : List.range ops.size = l) (H : GO P main c L w0 Stop h (G (b.at a (.inRegion ops l :: k)) cs)) : GO P main c L w0 Stop h (G (b.at a (.code (.region id ops false) :: k)) cs) := GO.ctl rfl (fun _ => stepG_region) (by rw [e]; exact H)
/-- Kept from the walk. -/
theorem hid {p : Prop} (h : p) : Go.RowKit.Hid p := h
theorem GO.cond {cd : Operand} {x y : Code} {t : Bool} (hc : a.eval cd = .bool t) (h1 : t = true → GO P main c L w0 Stop h (G (b.at a (.code x :: k)) cs)) (h2 : t = false → GO P main c L w0 Stop h (G (b.at a (.code y :: k)) cs)) :
    GO P main c L w0 Stop h (G (b.at a (.code (.cond cd x y) :: k)) cs) :=
  GO.ctl rfl (fun _ => stepG_cond hc) (by cases t <;> first | exact h1 rfl | exact h2 rfl)
end
theorem gcell_of {w : World} {r o : Nat} {cs : Array Value} {t : TypeId} {f : Nat × Nat} (e : w.heap[r]? = some (.cells cs t f)) : w.cell? ⟨r, o, none⟩ = cs[o]? := by simp [World.cell?, e]
theorem gwarm_of {w : World} {r o : Nat} {cs : Array Value} {t : TypeId} (e : w.heap[r]? = some (.cells cs t (0, 0))) : w.frozen? ⟨r, o, none⟩ = false := by simp [World.frozen?, e]
theorem evo_own {w0 w : World} {c L : Nat} {h : Hl} {r o : Nat} {b : Obj} {wr : Bool} (hS : Sat w0 c L h w) (hr : h r = some b) : EvO L h.dom w.heap.size ⟨.cell ⟨r, o, none⟩, wr, false⟩ := .inl ⟨_, _, _, rfl, hS.lt hr, .inl ⟨b, hr⟩⟩
theorem evo_old {w0 w : World} {c L : Nat} {h : Hl} {r o : Nat} (hS : Sat w0 c L h w) (hr : r < L) : EvO L h.dom w.heap.size ⟨.cell ⟨r, o, none⟩, false, false⟩ := .inl ⟨_, _, _, rfl, Nat.lt_of_lt_of_le hr hS.size, .inr ⟨rfl, hr⟩⟩
theorem put_at {w : World} {r o : Nat} {cs : Array Value} {t : TypeId} {f : Nat × Nat} (v : Value) (e : w.heap[r]? = some (.cells cs t f)) : (w.setCell ⟨r, o, none⟩ v).heap[r]? = some (.cells (cs.setIfInBounds o v) t f) := by
  simp [World.setCell, Array.getElem?_modify, e]
theorem put_ne {w : World} {r o k : Nat} (v : Value) (e : k ≠ r) : (w.setCell ⟨r, o, none⟩ v).heap[k]? = w.heap[k]? := Go.RowKit.Below.heap_setCell _ _ _ _ e
end Go.Proofs.Ytlbkhiphnllfpac
namespace Go.Proofs.Ytlbkhiphnllfpac
open Go.Conc Go.RowKit
set_option linter.unusedVariables false
set_option maxRecDepth 100000
set_option linter.unusedSimpArgs false
theorem wrG (n : Int) (h : -9223372036854775808 ≤ n ∧ n ≤ 9223372036854775807) : IntKind.i64.wrap n = n := by rw [IntKind.wrap_i64]; omega
theorem mulG (x y m n : Int) (x0 : -m ≤ x) (x1 : x ≤ m) (y0 : 0 ≤ y) (y1 : y ≤ n) (m0 : 0 ≤ m) : -(m * n) ≤ x * y ∧ x * y ≤ m * n := by
  have h1 : x * y ≤ m * y := Int.mul_le_mul_of_nonneg_right x1 y0
  have h2 : m * y ≤ m * n := Int.mul_le_mul_of_nonneg_left y1 m0
  have h3 : -m * y ≤ x * y := Int.mul_le_mul_of_nonneg_right x0 y0
  rw [Int.neg_mul] at h3
  exact ⟨by omega, by omega⟩
theorem events_max2 {P : Program} {w : World} (ts : Array TypeId) (t : TypeId) (k k' : IntKind) (x y : Int) (es : Array Event) : (Builtin.max_ ts t #[.int k x, .int k' y]).events P w es = es := by
  unfold Builtin.max_ Builtin.max2 Sem.events
  simp only [List.foldlM_cons, List.foldlM_nil]
  rfl
section
variable {main : Bool} {c L : Nat} {w0 : World} {Stop : (Nat → Prop) → Goroutine → World → Prop} {h : Hl}
set_option maxRecDepth 100000 in
theorem bounds_o (d g y : Int) (hd : 1 ≤ d ∧ d ≤ 100000000) (hg : 5 ≤ g ∧ g ≤ 9) (hy : -10000000000 ≤ y ∧ y ≤ 10000000000) {b₀ : Frame} {a₀ : Act} {ops : Array Oper} {i : Nat} {rest : List Nat} {k : List Item} {cs : List Frame} {fn : Func} {cd : Code} (hf : Try.prog.funcs[48]? = some fn) (hb : fn.body = some cd)
    (hnext : ∀ h' : Hl, h.le h' → GO Try.prog main c L w0 Stop h' (G (b₀.at (a₀.put ((ops[i]?).bind (·.dst)) (.bool (decide (9 * max y (-y) ≤ g * d)))) (.inRegion ops rest :: k)) cs)) :
    GO Try.prog main c L w0 Stop h (G ((base 48).at { tmps := #[.agg #[.int .i64 d, .int .i64 g], .int .i64 y] ++ Array.replicate (fn.ntmps - 2) undef, defers := [] } [.code cd]) (b₀.at a₀ (.inRegion ops (i :: rest) :: k) :: cs)) := by
  have e := hf.symm.trans Try.func48
  cases e
  cases hb
  simp only [Try.ntmps48, List.size_toArray, List.length_cons, List.length_nil, Nat.reduceAdd, Nat.reduceSub, Array.replicate_succ, Array.replicate_zero, List.push_toArray, List.append_toArray, List.nil_append, List.cons_append]
  have e1 : IntKind.i64.wrap (-y) = -y := wrG _ (by omega)
  obtain ⟨M, hM⟩ : ∃ M, max y (-y) = M := ⟨_, rfl⟩
  have hMb : 0 ≤ M ∧ M ≤ 10000000000 := by omega
  have e2 : IntKind.i64.wrap (9 * M) = 9 * M := wrG _ (by omega)
  obtain ⟨D, hD⟩ : ∃ D, g * d = D := ⟨_, rfl⟩
  have m0 := mulG g d 9 100000000 (by omega) (by omega) (by omega) (by omega) (by decide)
  have e3 : IntKind.i64.wrap D = D := wrG _ (by omega)
  have e4 : (if -y > y then -y else y) = M := by rw [← hM]; split <;> omega
  rw [hM, hD] at hnext
  replace hnext := hid hnext
  clear hM m0
  first | with_reducible refine GO.seq ?_ | with_reducible refine GO.skip ?_ | with_reducible refine GO.region (by simp only [List.size_toArray, List.length_cons, List.length_nil, Nat.reduceAdd, Nat.zero_add, List.range, List.range.loop]; exact rfl) ?_ | with_reducible refine GO.regionEnd ?_ | with_reducible refine GO.block ?_ | with_reducible refine GO.inBlock ?_ | with_reducible refine GO.label ?_ | with_reducible refine GO.ret ?_ | with_reducible refine GO.fin ?_ | with_reducible refine GO.exit (by with_unfolding_all rfl) ?_
  first | with_reducible refine GO.seq ?_ | with_reducible refine GO.skip ?_ | with_reducible refine GO.region (by simp only [List.size_toArray, List.length_cons, List.length_nil, Nat.reduceAdd, Nat.zero_add, List.range, List.range.loop]; exact rfl) ?_ | with_reducible refine GO.regionEnd ?_ | with_reducible refine GO.block ?_ | with_reducible refine GO.inBlock ?_ | with_reducible refine GO.label ?_ | with_reducible refine GO.ret ?_ | with_reducible refine GO.fin ?_ | with_reducible refine GO.exit (by with_unfolding_all rfl) ?_
  refine GO.opn rfl (by rfl) (by first | assumption | decide) (fun wQ hQ KQ kQ => ?_)
  go_simp
  refine kQ _ _ ⟨_, rfl, by simp [go_sem, events_max2], fun h1 n f1 L1 hle => ?_⟩
  clear kQ KQ hQ
  try walk_nrm
  generalize wQ.heap.size = r at *
  clear wQ
  refine GO.opq rfl (by rfl) (by first | assumption | decide) (fun wQ hQ KQ kQ => ?_)
  go_simp
  refine kQ _ _ ⟨rfl, (by first | (simp [go_sem, events_max2]; done) | (intro e he; exact absurd (show e ∈ (#[] : Array Event) from he) (by simp))), ?_⟩
  clear kQ KQ
  try clear hc0 hc1 hc2 hc3
  clear hQ wQ
  try walk_nrm
  first | with_reducible refine GO.seq ?_ | with_reducible refine GO.skip ?_ | with_reducible refine GO.region (by simp only [List.size_toArray, List.length_cons, List.length_nil, Nat.reduceAdd, Nat.zero_add, List.range, List.range.loop]; exact rfl) ?_ | with_reducible refine GO.regionEnd ?_ | with_reducible refine GO.block ?_ | with_reducible refine GO.inBlock ?_ | with_reducible refine GO.label ?_ | with_reducible refine GO.ret ?_ | with_reducible refine GO.fin ?_ | with_reducible refine GO.exit (by with_unfolding_all rfl) ?_
  first | with_reducible refine GO.seq ?_ | with_reducible refine GO.skip ?_ | with_reducible refine GO.region (by simp only [List.size_toArray, List.length_cons, List.length_nil, Nat.reduceAdd, Nat.zero_add, List.range, List.range.loop]; exact rfl) ?_ | with_reducible refine GO.regionEnd ?_ | with_reducible refine GO.block ?_ | with_reducible refine GO.inBlock ?_ | with_reducible refine GO.label ?_ | with_reducible refine GO.ret ?_ | with_reducible refine GO.fin ?_ | with_reducible refine GO.exit (by with_unfolding_all rfl) ?_
  first | with_reducible refine GO.seq ?_ | with_reducible refine GO.skip ?_ | with_reducible refine GO.region (by simp only [List.size_toArray, List.length_cons, List.length_nil, Nat.reduceAdd, Nat.zero_add, List.range, List.range.loop]; exact rfl) ?_ | with_reducible refine GO.regionEnd ?_ | with_reducible refine GO.block ?_ | with_reducible refine GO.inBlock ?_ | with_reducible refine GO.label ?_ | with_reducible refine GO.ret ?_ | with_reducible refine GO.fin ?_ | with_reducible refine GO.exit (by with_unfolding_all rfl) ?_
  refine GO.opq rfl (by rfl) (by first | assumption | decide) (fun wQ hQ KQ kQ => ?_)
  go_simp
  refine kQ _ _ ⟨rfl, (by first | (simp [go_sem, events_max2]; done) | (intro e he; exact absurd (show e ∈ (#[] : Array Event) from he) (by simp))), ?_⟩
  clear kQ KQ
  try clear hc0 hc1 hc2 hc3
  clear hQ wQ
  try walk_nrm
  refine GO.opq rfl (by rfl) (by first | assumption | decide) (fun wQ hQ KQ kQ => ?_)
  go_simp
  refine kQ _ _ ⟨rfl, (by first | (simp [go_sem, events_max2]; done) | (intro e he; exact absurd (show e ∈ (#[] : Array Event) from he) (by simp))), ?_⟩
  clear kQ KQ
  try clear hc0 hc1 hc2 hc3
  clear hQ wQ
  try walk_nrm
  refine GO.opq rfl (by rfl) (by first | assumption | decide) (fun wQ hQ KQ kQ => ?_)
  go_simp
  refine kQ _ _ ⟨rfl, (by first | (simp [go_sem, events_max2]; done) | (intro e he; exact absurd (show e ∈ (#[] : Array Event) from he) (by simp))), ?_⟩
  clear kQ KQ
  try clear hc0 hc1 hc2 hc3
  clear hQ wQ
  try walk_nrm
  refine GO.opq rfl (by rfl) (by first | assumption | decide) (fun wQ hQ KQ kQ => ?_)
  go_simp
  refine kQ _ _ ⟨rfl, (by first | (simp [go_sem, events_max2]; done) | (intro e he; exact absurd (show e ∈ (#[] : Array Event) from he) (by simp))), ?_⟩
  clear kQ KQ
  try clear hc0 hc1 hc2 hc3
  clear hQ wQ
  try walk_nrm
  refine GO.opq rfl (by rfl) (by first | assumption | decide) (fun wQ hQ KQ kQ => ?_)
  go_simp
  refine kQ _ _ ⟨rfl, (by first | (simp [go_sem, events_max2]; done) | (intro e he; exact absurd (show e ∈ (#[] : Array Event) from he) (by simp))), ?_⟩
  clear kQ KQ
  try clear hc0 hc1 hc2 hc3
  clear hQ wQ
  try walk_nrm
  refine GO.opq rfl (by rfl) (by first | assumption | decide) (fun wQ hQ KQ kQ => ?_)
  go_simp
  refine kQ _ _ ⟨rfl, (by first | (simp [go_sem, events_max2]; done) | (intro e he; exact absurd (show e ∈ (#[] : Array Event) from he) (by simp))), ?_⟩
  clear kQ KQ
  try clear hc0 hc1 hc2 hc3
  clear hQ wQ
  try walk_nrm
  refine GO.opq rfl (by rfl) (by first | assumption | decide) (fun wQ hQ KQ kQ => ?_)
  have hc := hQ.own _ _ n
  have hc0 := gcell_of (o := 0) hc
  have hc1 := gcell_of (o := 1) hc
  have hc2 := gwarm_of (o := 0) hc
  have hc3 := gwarm_of (o := 1) hc
  clear hc
  simp only [List.getElem?_toArray, List.getElem?_cons_succ, List.getElem?_cons_zero, List.getElem?_nil] at hc0 hc1
  go_simp
  refine kQ _ _ ⟨rfl, (by have h0 := @evo_own _ _ _ _ _ _ 0 _ false hQ n; have h1 := @evo_own _ _ _ _ _ _ 1 _ false hQ n; first | (simp [go_sem, *]; done) | (simp [go_sem, *]; first | exact h0 | exact h1 | exact ⟨h0, h1⟩)), ?_⟩
  clear kQ KQ
  try clear hc0 hc1 hc2 hc3
  clear hQ wQ
  try walk_nrm
  refine GO.opq rfl (by rfl) (by first | assumption | decide) (fun wQ hQ KQ kQ => ?_)
  go_simp
  refine kQ _ _ ⟨rfl, (by first | (simp [go_sem, events_max2]; done) | (intro e he; exact absurd (show e ∈ (#[] : Array Event) from he) (by simp))), ?_⟩
  clear kQ KQ
  try clear hc0 hc1 hc2 hc3
  clear hQ wQ
  try walk_nrm
  refine GO.opq rfl (by rfl) (by first | assumption | decide) (fun wQ hQ KQ kQ => ?_)
  have hc := hQ.own _ _ n
  have hc0 := gcell_of (o := 0) hc
  have hc1 := gcell_of (o := 1) hc
  have hc2 := gwarm_of (o := 0) hc
  have hc3 := gwarm_of (o := 1) hc
  clear hc
  simp only [List.getElem?_toArray, List.getElem?_cons_succ, List.getElem?_cons_zero, List.getElem?_nil] at hc0 hc1
  go_simp
  refine kQ _ _ ⟨rfl, (by have h0 := @evo_own _ _ _ _ _ _ 0 _ false hQ n; have h1 := @evo_own _ _ _ _ _ _ 1 _ false hQ n; first | (simp [go_sem, *]; done) | (simp [go_sem, *]; first | exact h0 | exact h1 | exact ⟨h0, h1⟩)), ?_⟩
  clear kQ KQ
  try clear hc0 hc1 hc2 hc3
  clear hQ wQ
  try walk_nrm
  refine GO.opq rfl (by rfl) (by first | assumption | decide) (fun wQ hQ KQ kQ => ?_)
  go_simp
  refine kQ _ _ ⟨rfl, (by first | (simp [go_sem, events_max2]; done) | (intro e he; exact absurd (show e ∈ (#[] : Array Event) from he) (by simp))), ?_⟩
  clear kQ KQ
  try clear hc0 hc1 hc2 hc3
  clear hQ wQ
  try walk_nrm
  refine GO.opq rfl (by rfl) (by first | assumption | decide) (fun wQ hQ KQ kQ => ?_)
  go_simp
  refine kQ _ _ ⟨rfl, (by first | (simp [go_sem, events_max2]; done) | (intro e he; exact absurd (show e ∈ (#[] : Array Event) from he) (by simp))), ?_⟩
  clear kQ KQ
  try clear hc0 hc1 hc2 hc3
  clear hQ wQ
  try walk_nrm
  refine GO.opq rfl (by rfl) (by first | assumption | decide) (fun wQ hQ KQ kQ => ?_)
  go_simp
  refine kQ _ _ ⟨rfl, (by first | (simp [go_sem, events_max2]; done) | (intro e he; exact absurd (show e ∈ (#[] : Array Event) from he) (by simp))), ?_⟩
  clear kQ KQ
  try clear hc0 hc1 hc2 hc3
  clear hQ wQ
  try walk_nrm
  first | with_reducible refine GO.seq ?_ | with_reducible refine GO.skip ?_ | with_reducible refine GO.region (by simp only [List.size_toArray, List.length_cons, List.length_nil, Nat.reduceAdd, Nat.zero_add, List.range, List.range.loop]; exact rfl) ?_ | with_reducible refine GO.regionEnd ?_ | with_reducible refine GO.block ?_ | with_reducible refine GO.inBlock ?_ | with_reducible refine GO.label ?_ | with_reducible refine GO.ret ?_ | with_reducible refine GO.fin ?_ | with_reducible refine GO.exit (by with_unfolding_all rfl) ?_
  first | with_reducible refine GO.seq ?_ | with_reducible refine GO.skip ?_ | with_reducible refine GO.region (by simp only [List.size_toArray, List.length_cons, List.length_nil, Nat.reduceAdd, Nat.zero_add, List.range, List.range.loop]; exact rfl) ?_ | with_reducible refine GO.regionEnd ?_ | with_reducible refine GO.block ?_ | with_reducible refine GO.inBlock ?_ | with_reducible refine GO.label ?_ | with_reducible refine GO.ret ?_ | with_reducible refine GO.fin ?_ | with_reducible refine GO.exit (by with_unfolding_all rfl) ?_
  refine GO.leave1 rfl rfl hf (by rfl) ?_
  exact hnext.out _ hle
end
end Go.Proofs.Ytlbkhiphnllfpac
namespace Go.Proofs.Ytlbkhiphnllfpac
open Go.Conc Go.RowKit
set_option linter.unusedVariables false
set_option maxRecDepth 100000
set_option linter.unusedSimpArgs false
theorem scan_step (a d y s : Int) (hs : (0 ≤ y ∧ s = 1) ∨ (y < 0 ∧ s = -1)) (hd : 0 < d) (f j : Nat) (h0 : j = 0 ∨ ¬ 9 * abI (10 * y) ≤ a * d) :
    dsc a d y (f + 1) j = if 9 * max (10 * y - s * j * d) (-(10 * y - s * j * d)) ≤ a * d then s * j else dsc a d y f (j + 1) := by
  have hJ : 0 ≤ (j : Int) * d := Int.mul_nonneg (by omega) (by omega)
  have hz : j = 0 → (j : Int) * d = 0 := fun e => by rw [e]; simp
  have e1 : (1 : Int) * j * d = j * d := by rw [Int.one_mul]
  have e2 : (-1 : Int) * j * d = -(j * d) := by rw [Int.neg_mul, Int.neg_mul, Int.one_mul]
  conv => lhs; unfold dsc
  generalize a * d = A at *
  unfold abI at *
  rcases hs with ⟨hy, rfl⟩ | ⟨hy, rfl⟩
  · rw [e1]
    generalize (j : Int) * d = J at *
    by_cases hc : 9 * (if 10 * y - J < 0 then -(10 * y - J) else 10 * y - J) ≤ A
    · rw [if_pos hc, if_pos (by split at hc <;> omega), Int.one_mul]
    · have hc2 : ¬ 9 * (if 10 * y + J < 0 then -(10 * y + J) else 10 * y + J) ≤ A := by
        intro hc2
        rcases h0 with h0 | h0
        · have := hz h0; split at hc <;> split at hc2 <;> omega
        · split at h0 <;> split at hc2 <;> omega
      have hc3 : ¬ 9 * max (10 * y - J) (-(10 * y - J)) ≤ A := by split at hc <;> omega
      rw [if_neg hc, if_neg hc2, if_neg hc3]
  · rw [e2]
    generalize (j : Int) * d = J at *
    by_cases hc : 9 * (if 10 * y - J < 0 then -(10 * y - J) else 10 * y - J) ≤ A
    · rw [if_pos hc]
      rcases h0 with h0 | h0
      · have := hz h0
        rw [if_pos (by split at hc <;> omega), h0]; rfl
      · exfalso; split at hc <;> split at h0 <;> omega
    · rw [if_neg hc]
      by_cases hc2 : 9 * (if 10 * y + J < 0 then -(10 * y + J) else 10 * y + J) ≤ A
      · rw [if_pos hc2, if_pos (by split at hc2 <;> omega)]; omega
      · rw [if_neg hc2, if_neg (by split at hc2 <;> omega)]
theorem scan_done (g d y s : Int) (hs : (0 ≤ y ∧ s = 1) ∨ (y < 0 ∧ s = -1)) (hd : 0 < d) (j : Nat) (hj : j ≤ g.toNat) (h0 : j = 0 ∨ ¬ 9 * abI (10 * y) ≤ g * d) (he : dgt g d y = dsc g d y (g.toNat + 1 - j) j)
    (hw : 9 * max (10 * y - s * j * d) (-(10 * y - s * j * d)) ≤ g * d) : dgt g d y = s * j := by
  rw [he, show g.toNat + 1 - j = (g.toNat - j) + 1 by omega, scan_step g d y s hs hd _ _ h0, if_pos hw]
theorem scan_more (g d y s : Int) (hs : (0 ≤ y ∧ s = 1) ∨ (y < 0 ∧ s = -1)) (hd : 0 < d) (hg : 5 ≤ g ∧ g ≤ 9) (hy1 : 9 * y ≤ g * d) (hy2 : -(g * d) ≤ 9 * y) (j : Nat) (hj : j ≤ g.toNat) (h0 : j = 0 ∨ ¬ 9 * abI (10 * y) ≤ g * d) (he : dgt g d y = dsc g d y (g.toNat + 1 - j) j)
    (hw : ¬ 9 * max (10 * y - s * j * d) (-(10 * y - s * j * d)) ≤ g * d) : j + 1 ≤ g.toNat ∧ dgt g d y = dsc g d y (g.toNat + 1 - (j + 1)) (j + 1) ∧ ¬ 9 * abI (10 * y) ≤ g * d := by
  have hn : ¬ 9 * abI (10 * y) ≤ g * d := by
    rcases h0 with rfl | h0
    · intro hc
      apply hw
      have := (abI_small _ _).1 hc
      simp only [Int.natCast_zero, Int.mul_zero, Int.zero_mul, Int.sub_zero]
      omega
    · exact h0
  have e := scan_step g d y s hs hd (g.toNat - j) j h0
  rw [if_neg hw] at e
  rw [show g.toNat + 1 - j = (g.toNat - j) + 1 by omega, e] at he
  refine ⟨?_, by rw [he]; congr 1; omega, hn⟩
  rcases Nat.lt_or_ge j g.toNat with h | h
  · omega
  · exfalso
    have hz : dgt g d y = 0 := by rw [he, show g.toNat - j = 0 by omega]; rfl
    have hf := (dgt_fits g d y hd hg.1 hg.2 hy1 hy2).1
    rw [hz] at hf
    unfold Fits at hf
    rw [Int.zero_mul, Int.sub_zero] at hf
    exact hn ((abI_small _ _).2 hf)
section
variable {main : Bool} {c L : Nat} {w0 : World} {Stop : (Nat → Prop) → Goroutine → World → Prop} {h : Hl}
theorem Hl.le_set {h h1 h2 : Hl} {r : Nat} (l : h.le h1) (f : h r = none) (e : ∀ k, k ≠ r → h2 k = h1 k) : h.le h2 := fun k b hk => by
  have : k ≠ r := fun ek => by rw [ek, f] at hk; cases hk
  rw [e k this]; exact l k b hk
theorem res_o {w : World} {r : Nat} {q R : Int} {xs : Array Value} (hS : Sat w0 c L h w) (hr : h r = some (.cells #[.int .i64 q, .int .i64 R] 39)) (hx : xs[4]? = some (.pointer (some ⟨r, 0, none⟩)) := by rfl) :
    (results Try.f50 xs).run Try.prog w = .ok (.agg #[.int .i64 q, .int .i64 R]) w ∧ ∀ e ∈ (results Try.f50 xs).events Try.prog w #[], EvO L h.dom w.heap.size e := by
  have hc := hS.own _ _ hr
  have hc0 := gcell_of (o := 0) hc
  have hc1 := gcell_of (o := 1) hc
  simp only [List.getElem?_toArray, List.getElem?_cons_succ, List.getElem?_cons_zero, List.getElem?_nil] at hc0 hc1
  have h0 := @evo_own _ _ _ _ _ _ 0 _ false hS hr
  have h1 := @evo_own _ _ _ _ _ _ 1 _ false hS hr
  have e : (Try.f50).results = #[.cell 4 39] := rfl
  unfold results
  rw [e]
  clear hc hr hS
  constructor
  · simp [go_sem, *]
  · simp [go_sem, *]
    first | exact h0 | exact h1 | exact ⟨h0, h1⟩
set_option maxRecDepth 100000 in
set_option maxHeartbeats 8000000 in
theorem signed_o (d g y : Int) (hd : 1 ≤ d ∧ d ≤ 100000000) (hg : 5 ≤ g ∧ g ≤ 9) (hy1 : 9 * y ≤ g * d) (hy2 : -(g * d) ≤ 9 * y) {b₀ : Frame} {a₀ : Act} {ops : Array Oper} {i : Nat} {rest : List Nat} {k : List Item} {cs : List Frame} {fn : Func} {cd : Code} (hf : Try.prog.funcs[50]? = some fn) (hb : fn.body = some cd)
    (hnext : ∀ h' : Hl, h.le h' → GO Try.prog main c L w0 Stop h' (G (b₀.at (a₀.put ((ops[i]?).bind (·.dst)) (.agg #[.int .i64 (dgt g d y), .int .i64 (10 * y - dgt g d y * d)])) (.inRegion ops rest :: k)) cs)) :
    GO Try.prog main c L w0 Stop h (G ((base 50).at { tmps := #[.agg #[.int .i64 d, .int .i64 g], .int .i64 y] ++ Array.replicate (fn.ntmps - 2) undef, defers := [] } [.code cd]) (b₀.at a₀ (.inRegion ops (i :: rest) :: k) :: cs)) := by
  have e := hf.symm.trans Try.func50
  cases e
  cases hb
  simp only [Try.ntmps50, List.size_toArray, List.length_cons, List.length_nil, Nat.reduceAdd, Nat.reduceSub, Array.replicate_succ, Array.replicate_zero, List.push_toArray, List.append_toArray, List.nil_append, List.cons_append]
  replace hnext := hid hnext
  have m0 := mulG g d 9 100000000 (by omega) (by omega) (by omega) (by omega) (by decide)
  have hyb : -100000000 ≤ y ∧ y ≤ 100000000 := by omega
  have e1 : IntKind.i64.wrap (10 * y) = 10 * y := wrG _ (by omega)
  obtain ⟨s, hs⟩ : ∃ s : Int, (0 ≤ y ∧ s = 1) ∨ (y < 0 ∧ s = -1) := by
    rcases Int.lt_or_le y 0 with h | h
    · exact ⟨-1, .inr ⟨h, rfl⟩⟩
    · exact ⟨1, .inl ⟨h, rfl⟩⟩
  repeat (first | with_reducible refine GO.seq ?_ | with_reducible refine GO.skip ?_ | with_reducible refine GO.region (by simp only [List.size_toArray, List.length_cons, List.length_nil, Nat.reduceAdd, Nat.zero_add, List.range, List.range.loop]; exact rfl) ?_ | with_reducible refine GO.regionEnd ?_ | with_reducible refine GO.block ?_ | with_reducible refine GO.inBlock ?_ | with_reducible refine GO.label ?_ | with_reducible refine GO.ret ?_ | with_reducible refine GO.fin ?_ | with_reducible refine GO.exit (by with_unfolding_all rfl) ?_)
  refine GO.opn rfl (by rfl) (by first | assumption | decide) (fun wQ hQ KQ kQ => ?_)
  go_simp
  refine kQ _ _ ⟨_, rfl, by simp [go_sem, events_max2], fun h1 n2 f2 L2 l2 => ?_⟩
  clear kQ KQ hQ
  try walk_nrm
  generalize wQ.heap.size = r2 at *
  clear wQ
  refine GO.opn rfl (by rfl) (by first | assumption | decide) (fun wQ hQ KQ kQ => ?_)
  go_simp
  refine kQ _ _ ⟨_, rfl, by simp [go_sem, events_max2], fun h2 n4 f4 L4 l4 => ?_⟩
  clear kQ KQ hQ
  try walk_nrm
  generalize wQ.heap.size = r4 at *
  clear wQ
  replace n2 := l4 _ _ n2
  have l := l2.trans l4
  have d24 : r2 ≠ r4 := fun e => by rw [e] at n2; cases n2.symm.trans n4
  repeat (first | with_reducible refine GO.seq ?_ | with_reducible refine GO.skip ?_ | with_reducible refine GO.region (by simp only [List.size_toArray, List.length_cons, List.length_nil, Nat.reduceAdd, Nat.zero_add, List.range, List.range.loop]; exact rfl) ?_ | with_reducible refine GO.regionEnd ?_ | with_reducible refine GO.block ?_ | with_reducible refine GO.inBlock ?_ | with_reducible refine GO.label ?_ | with_reducible refine GO.ret ?_ | with_reducible refine GO.fin ?_ | with_reducible refine GO.exit (by with_unfolding_all rfl) ?_)
  refine GO.opq rfl (by rfl) (by first | assumption | decide) (fun wQ hQ KQ kQ => ?_)
  go_simp
  refine kQ _ _ ⟨rfl, (by first | (simp [go_sem, events_max2]; done) | (intro e he; exact absurd (show e ∈ (#[] : Array Event) from he) (by simp))), ?_⟩
  clear kQ KQ
  try clear hc0 hc1 hc2 hc3
  clear hQ wQ
  try walk_nrm
  repeat (first | with_reducible refine GO.seq ?_ | with_reducible refine GO.skip ?_ | with_reducible refine GO.region (by simp only [List.size_toArray, List.length_cons, List.length_nil, Nat.reduceAdd, Nat.zero_add, List.range, List.range.loop]; exact rfl) ?_ | with_reducible refine GO.regionEnd ?_ | with_reducible refine GO.block ?_ | with_reducible refine GO.inBlock ?_ | with_reducible refine GO.label ?_ | with_reducible refine GO.ret ?_ | with_reducible refine GO.fin ?_ | with_reducible refine GO.exit (by with_unfolding_all rfl) ?_)
  refine GO.opq rfl (by rfl) (by first | assumption | decide) (fun wQ hQ KQ kQ => ?_)
  go_simp
  refine kQ _ _ ⟨rfl, (by first | (simp [go_sem, events_max2]; done) | (intro e he; exact absurd (show e ∈ (#[] : Array Event) from he) (by simp))), ?_⟩
  clear kQ KQ
  try clear hc0 hc1 hc2 hc3
  clear hQ wQ
  try walk_nrm
  refine GO.opq rfl (by rfl) (by first | assumption | decide) (fun wQ hQ KQ kQ => ?_)
  go_simp
  refine kQ _ _ ⟨rfl, (by first | (simp [go_sem, events_max2]; done) | (intro e he; exact absurd (show e ∈ (#[] : Array Event) from he) (by simp))), ?_⟩
  clear kQ KQ
  try clear hc0 hc1 hc2 hc3
  clear hQ wQ
  try walk_nrm
  first | with_reducible refine GO.seq ?_ | with_reducible refine GO.skip ?_ | with_reducible refine GO.region (by simp only [List.size_toArray, List.length_cons, List.length_nil, Nat.reduceAdd, Nat.zero_add, List.range, List.range.loop]; exact rfl) ?_ | with_reducible refine GO.regionEnd ?_ | with_reducible refine GO.block ?_ | with_reducible refine GO.inBlock ?_ | with_reducible refine GO.label ?_ | with_reducible refine GO.ret ?_ | with_reducible refine GO.fin ?_ | with_reducible refine GO.exit (by with_unfolding_all rfl) ?_
  refine GO.cut (fun h' a => ∃ x7 x8, h' = h2 ∧ a = ⟨#[.agg #[.int .i64 d, .int .i64 g], .int .i64 y, .pointer (some ⟨r2, 0, none⟩), undef, .pointer (some ⟨r4, 0, none⟩), .int .i64 s, undef, x7, x8, undef, undef, undef, undef, undef, undef, undef, undef, undef, undef, undef, undef, undef, undef, undef, undef, undef, undef, undef, undef, undef, undef], []⟩) ?_ ?_
  · rintro _ _ ⟨x7, x8, rfl, rfl⟩
    repeat (first | with_reducible refine GO.seq ?_ | with_reducible refine GO.skip ?_ | with_reducible refine GO.region (by simp only [List.size_toArray, List.length_cons, List.length_nil, Nat.reduceAdd, Nat.zero_add, List.range, List.range.loop]; exact rfl) ?_ | with_reducible refine GO.regionEnd ?_ | with_reducible refine GO.block ?_ | with_reducible refine GO.inBlock ?_ | with_reducible refine GO.label ?_ | with_reducible refine GO.ret ?_ | with_reducible refine GO.fin ?_ | with_reducible refine GO.exit (by with_unfolding_all rfl) ?_)
    refine GO.opq rfl (by rfl) (by first | assumption | decide) (fun wQ hQ KQ kQ => ?_)
    go_simp
    refine kQ _ _ ⟨rfl, (by first | (simp [go_sem, events_max2]; done) | (intro e he; exact absurd (show e ∈ (#[] : Array Event) from he) (by simp))), ?_⟩
    clear kQ KQ
    try clear hc0 hc1 hc2 hc3
    clear hQ wQ
    try walk_nrm
    refine GO.opq rfl (by rfl) (by first | assumption | decide) (fun wQ hQ KQ kQ => ?_)
    go_simp
    refine kQ _ _ ⟨rfl, (by first | (simp [go_sem, events_max2]; done) | (intro e he; exact absurd (show e ∈ (#[] : Array Event) from he) (by simp))), ?_⟩
    clear kQ KQ
    try clear hc0 hc1 hc2 hc3
    clear hQ wQ
    try walk_nrm
    refine GO.opq rfl (by rfl) (by first | assumption | decide) (fun wQ hQ KQ kQ => ?_)
    go_simp
    refine kQ _ _ ⟨rfl, (by first | (simp [go_sem, events_max2]; done) | (intro e he; exact absurd (show e ∈ (#[] : Array Event) from he) (by simp))), ?_⟩
    clear kQ KQ
    try clear hc0 hc1 hc2 hc3
    clear hQ wQ
    try walk_nrm
    refine GO.opn rfl (by rfl) (by first | assumption | decide) (fun wQ hQ KQ kQ => ?_)
    go_simp
    refine kQ _ _ ⟨_, rfl, by simp [go_sem, events_max2], fun h3 n6 f6 L6 l6 => ?_⟩
    clear kQ KQ hQ
    try walk_nrm
    generalize wQ.heap.size = r6 at *
    clear wQ
    refine GO.opw (ob := (.cells #[.int .i64 0, .int .i64 (10 * y)] 39)) n6 rfl (by rfl) (by first | assumption | decide) (fun wQ hQ KQ kQ => ?_)
    have hc := hQ.own _ _ n6
    have hc0 := gcell_of (o := 0) hc
    have hc1 := gcell_of (o := 1) hc
    have hc2 := gwarm_of (o := 0) hc
    have hc3 := gwarm_of (o := 1) hc
    simp only [List.getElem?_toArray, List.getElem?_cons_succ, List.getElem?_cons_zero, List.getElem?_nil] at hc0 hc1
    go_simp
    try (unfold stored; go_simp)
    refine kQ _ _ ⟨⟨rfl, rfl, rfl, by simp [World.setCell], (fun k hk => by first | exact put_ne _ hk | exact (put_ne _ hk).trans (put_ne _ hk)), (by first | exact put_at _ hc | exact put_at _ (put_at _ hc))⟩, ?_, fun h4 m6 s6 => ?_⟩
    · have h0 := @evo_own _ _ _ _ _ _ 0 _ true hQ n6
      have h1 := @evo_own _ _ _ _ _ _ 1 _ true hQ n6
      first | (simp [go_sem, *]; done) | (simp [go_sem, *]; first | exact h0 | exact h1 | exact ⟨h0, h1⟩) | (simp [go_sem, storedEv, *]; done) | (simp [go_sem, storedEv, *]; first | exact h0 | exact h1 | exact ⟨h0, h1⟩)
    clear kQ KQ hc hc0 hc1 hc2 hc3
    clear hQ wQ
    try walk_nrm
    repeat (first | with_reducible refine GO.seq ?_ | with_reducible refine GO.skip ?_ | with_reducible refine GO.region (by simp only [List.size_toArray, List.length_cons, List.length_nil, Nat.reduceAdd, Nat.zero_add, List.range, List.range.loop]; exact rfl) ?_ | with_reducible refine GO.regionEnd ?_ | with_reducible refine GO.block ?_ | with_reducible refine GO.inBlock ?_ | with_reducible refine GO.label ?_ | with_reducible refine GO.ret ?_ | with_reducible refine GO.fin ?_ | with_reducible refine GO.exit (by with_unfolding_all rfl) ?_)
    have d26 : r2 ≠ r6 := fun e => by rw [e] at n2; exact absurd (n2.symm.trans f6) (by simp)
    have d46 : r4 ≠ r6 := fun e => by rw [e] at n4; exact absurd (n4.symm.trans f6) (by simp)
    have n2' : h4 r2 = some (.cells #[.int .i64 d, .int .i64 g] 69) := (s6 _ d26).trans (l6 _ _ n2)
    have n4' : h4 r4 = some (.cells #[.int .i64 0, .int .i64 0] 39) := (s6 _ d46).trans (l6 _ _ n4)
    have l4' : h.le h4 := fun k b e => by
      have e' := l6 _ _ (l _ _ e)
      have : k ≠ r6 := fun ek => by rw [ek] at e; exact absurd ((l _ _ e).symm.trans f6) (by simp)
      exact (s6 _ this).trans e'
    have fr6 : h r6 = none := by
      cases e : h r6 with
      | none => rfl
      | some b => exact absurd ((l _ _ e).symm.trans f6) (by simp)
    have fr4 : h r4 = none := by
      cases e : h r4 with
      | none => rfl
      | some b => exact absurd ((l2 _ _ e).symm.trans f4) (by simp)
    clear n2 n4 n6 f6 l6 l s6 l4 l2 f2 f4
    refine GO.loopI (fun n h5 a => ∃ (j : Nat) (q R : Int) (x0 x1 x3 x7 x8 x9 x10 x11 x12 x13 x14 x15 x16 x17 x18 x19 x20 x21 x22 x23 x24 x25 x26 x27 x28 x29 x30 : Value), n = g.toNat + 1 - j ∧ j ≤ g.toNat ∧ (j = 0 ∨ ¬ 9 * abI (10 * y) ≤ g * d) ∧ dgt g d y = dsc g d y (g.toNat + 1 - j) j ∧ Hid (q = s * j) ∧ Hid (R = 10 * y - s * j * d) ∧
      h.le h5 ∧ h5 r2 = some (.cells #[.int .i64 d, .int .i64 g] 69) ∧ h5 r4 = some (.cells #[.int .i64 0, .int .i64 0] 39) ∧ h5 r6 = some (.cells #[.int .i64 q, .int .i64 R] 39) ∧ a = ⟨#[x0, x1, .pointer (some ⟨r2, 0, none⟩), x3, .pointer (some ⟨r4, 0, none⟩), .int .i64 s, .pointer (some ⟨r6, 0, none⟩), x7, x8, x9, x10, x11, x12, x13, x14, x15, x16, x17, x18, x19, x20, x21, x22, x23, x24, x25, x26, x27, x28, x29, x30], []⟩) (g.toNat + 1) ?_ ?_
    · exact ⟨0, 0, 10 * y, _, _, _, _, _, _, _, _, _, _, _, _, _, _, _, _, _, _, _, _, _, _, _, _, _, _, _, rfl, Nat.zero_le _, .inl rfl, rfl, (by show (0 : Int) = _; simp), (by show 10 * y = _; simp), l4', n2', n4', m6, rfl⟩
    · clear n2' n4' l4' m6
      rintro n h5 a ⟨j, q, R, x0, x1, x3, x7, x8, x9, x10, x11, x12, x13, x14, x15, x16, x17, x18, x19, x20, x21, x22, x23, x24, x25, x26, x27, x28, x29, x30, rfl, hj, h0, he, hq, hR, l5, n2, n4, n6, rfl⟩ hrec
      replace hrec := hid hrec
      repeat (first | with_reducible refine GO.seq ?_ | with_reducible refine GO.skip ?_ | with_reducible refine GO.region (by simp only [List.size_toArray, List.length_cons, List.length_nil, Nat.reduceAdd, Nat.zero_add, List.range, List.range.loop]; exact rfl) ?_ | with_reducible refine GO.regionEnd ?_ | with_reducible refine GO.block ?_ | with_reducible refine GO.inBlock ?_ | with_reducible refine GO.label ?_ | with_reducible refine GO.ret ?_ | with_reducible refine GO.fin ?_ | with_reducible refine GO.exit (by with_unfolding_all rfl) ?_)
      refine GO.opq rfl (by rfl) (by first | assumption | decide) (fun wQ hQ KQ kQ => ?_)
      have hc := hQ.own _ _ n2
      have hc0 := gcell_of (o := 0) hc
      have hc1 := gcell_of (o := 1) hc
      have hc2 := gwarm_of (o := 0) hc
      have hc3 := gwarm_of (o := 1) hc
      clear hc
      simp only [List.getElem?_toArray, List.getElem?_cons_succ, List.getElem?_cons_zero, List.getElem?_nil] at hc0 hc1
      go_simp
      refine kQ _ _ ⟨rfl, (by have h0 := @evo_own _ _ _ _ _ _ 0 _ false hQ n2; have h1 := @evo_own _ _ _ _ _ _ 1 _ false hQ n2; first | (simp [go_sem, *]; done) | (simp [go_sem, *]; first | exact h0 | exact h1 | exact ⟨h0, h1⟩)), ?_⟩
      clear kQ KQ
      try clear hc0 hc1 hc2 hc3
      clear hQ wQ
      try walk_nrm
      refine GO.opq rfl (by rfl) (by first | assumption | decide) (fun wQ hQ KQ kQ => ?_)
      go_simp
      refine kQ _ _ ⟨rfl, (by first | (simp [go_sem, events_max2]; done) | (intro e he; exact absurd (show e ∈ (#[] : Array Event) from he) (by simp))), ?_⟩
      clear kQ KQ
      try clear hc0 hc1 hc2 hc3
      clear hQ wQ
      try walk_nrm
      refine GO.opq rfl (by rfl) (by first | assumption | decide) (fun wQ hQ KQ kQ => ?_)
      have hc := hQ.own _ _ n6
      have hc0 := gcell_of (o := 0) hc
      have hc1 := gcell_of (o := 1) hc
      have hc2 := gwarm_of (o := 0) hc
      have hc3 := gwarm_of (o := 1) hc
      clear hc
      simp only [List.getElem?_toArray, List.getElem?_cons_succ, List.getElem?_cons_zero, List.getElem?_nil] at hc0 hc1
      go_simp
      refine kQ _ _ ⟨rfl, (by have h0 := @evo_own _ _ _ _ _ _ 0 _ false hQ n6; have h1 := @evo_own _ _ _ _ _ _ 1 _ false hQ n6; first | (simp [go_sem, *]; done) | (simp [go_sem, *]; first | exact h0 | exact h1 | exact ⟨h0, h1⟩)), ?_⟩
      clear kQ KQ
      try clear hc0 hc1 hc2 hc3
      clear hQ wQ
      try walk_nrm
      have hsj : -(10 * 100000000) ≤ s * j * d ∧ s * j * d ≤ 10 * 100000000 := mulG (s * j) d 10 100000000 (by rcases hs with ⟨_, rfl⟩ | ⟨_, rfl⟩ <;> omega) (by rcases hs with ⟨_, rfl⟩ | ⟨_, rfl⟩ <;> omega) (by omega) (by omega) (by decide)
      have hRb : -10000000000 ≤ R ∧ R ≤ 10000000000 := by have := hR.out; omega
      refine GO.call (vs := #[.agg #[.int .i64 d, .int .i64 g], .int .i64 R]) rfl (by rfl) (by decide) rfl Try.func48 (by rfl) rfl (by simp [Act.eval]) ?_
      refine bounds_o d g R hd hg hRb Try.func48 rfl ?_
      intro h6 l6
      replace n2 := l6 _ _ n2
      replace n4 := l6 _ _ n4
      replace n6 := l6 _ _ n6
      replace l5 := l5.trans l6
      clear l6
      walk_nrm
      obtain ⟨t, ht⟩ : ∃ t, decide (9 * max R (-R) ≤ g * d) = t := ⟨_, rfl⟩
      simp only [ht]
      refine GO.opq rfl (by rfl) (by first | assumption | decide) (fun wQ hQ KQ kQ => ?_)
      go_simp
      refine kQ _ _ ⟨rfl, (by first | (simp [go_sem, events_max2]; done) | (intro e he; exact absurd (show e ∈ (#[] : Array Event) from he) (by simp))), ?_⟩
      clear kQ KQ
      try clear hc0 hc1 hc2 hc3
      clear hQ wQ
      try walk_nrm
      first | with_reducible refine GO.seq ?_ | with_reducible refine GO.skip ?_ | with_reducible refine GO.region (by simp only [List.size_toArray, List.length_cons, List.length_nil, Nat.reduceAdd, Nat.zero_add, List.range, List.range.loop]; exact rfl) ?_ | with_reducible refine GO.regionEnd ?_ | with_reducible refine GO.block ?_ | with_reducible refine GO.inBlock ?_ | with_reducible refine GO.label ?_ | with_reducible refine GO.ret ?_ | with_reducible refine GO.fin ?_ | with_reducible refine GO.exit (by with_unfolding_all rfl) ?_
      refine GO.cond (t := !t) rfl (fun hc => ?_) (fun hc => ?_)
      · have hw : ¬ 9 * max (10 * y - s * j * d) (-(10 * y - s * j * d)) ≤ g * d := by
          rw [← hR.out]
          intro hx
          rw [decide_eq_true hx] at ht
          rw [← ht] at hc
          cases hc
        obtain ⟨hj', he', hn'⟩ := scan_more g d y s hs (by omega) hg hy1 hy2 j hj h0 he hw
        have hqb : -10 ≤ q + s ∧ q + s ≤ 10 := by have := hq.out; rcases hs with ⟨_, rfl⟩ | ⟨_, rfl⟩ <;> omega
        have w1 : IntKind.i64.wrap (q + s) = q + s := wrG _ (by omega)
        have hsd : -(1 * 100000000) ≤ s * d ∧ s * d ≤ 1 * 100000000 := mulG s d 1 100000000 (by rcases hs with ⟨_, rfl⟩ | ⟨_, rfl⟩ <;> omega) (by rcases hs with ⟨_, rfl⟩ | ⟨_, rfl⟩ <;> omega) (by omega) (by omega) (by decide)
        have w2 : IntKind.i64.wrap (s * d) = s * d := wrG _ (by omega)
        have w3 : IntKind.i64.wrap (R - s * d) = R - s * d := wrG _ (by omega)
        clear hc ht he hw h0
        repeat (first | with_reducible refine GO.seq ?_ | with_reducible refine GO.skip ?_ | with_reducible refine GO.region (by simp only [List.size_toArray, List.length_cons, List.length_nil, Nat.reduceAdd, Nat.zero_add, List.range, List.range.loop]; exact rfl) ?_ | with_reducible refine GO.regionEnd ?_ | with_reducible refine GO.block ?_ | with_reducible refine GO.inBlock ?_ | with_reducible refine GO.label ?_ | with_reducible refine GO.ret ?_ | with_reducible refine GO.fin ?_ | with_reducible refine GO.exit (by with_unfolding_all rfl) ?_)
        refine GO.opq rfl (by rfl) (by first | assumption | decide) (fun wQ hQ KQ kQ => ?_)
        go_simp
        refine kQ _ _ ⟨rfl, (by first | (simp [go_sem, events_max2]; done) | (intro e he; exact absurd (show e ∈ (#[] : Array Event) from he) (by simp))), ?_⟩
        clear kQ KQ
        try clear hc0 hc1 hc2 hc3
        clear hQ wQ
        try walk_nrm
        refine GO.opq rfl (by rfl) (by first | assumption | decide) (fun wQ hQ KQ kQ => ?_)
        have hc := hQ.own _ _ n6
        have hc0 := gcell_of (o := 0) hc
        have hc1 := gcell_of (o := 1) hc
        have hc2 := gwarm_of (o := 0) hc
        have hc3 := gwarm_of (o := 1) hc
        clear hc
        simp only [List.getElem?_toArray, List.getElem?_cons_succ, List.getElem?_cons_zero, List.getElem?_nil] at hc0 hc1
        go_simp
        refine kQ _ _ ⟨rfl, (by have h0 := @evo_own _ _ _ _ _ _ 0 _ false hQ n6; have h1 := @evo_own _ _ _ _ _ _ 1 _ false hQ n6; first | (simp [go_sem, *]; done) | (simp [go_sem, *]; first | exact h0 | exact h1 | exact ⟨h0, h1⟩)), ?_⟩
        clear kQ KQ
        try clear hc0 hc1 hc2 hc3
        clear hQ wQ
        try walk_nrm
        refine GO.opq rfl (by rfl) (by first | assumption | decide) (fun wQ hQ KQ kQ => ?_)
        go_simp
        refine kQ _ _ ⟨rfl, (by first | (simp [go_sem, events_max2]; done) | (intro e he; exact absurd (show e ∈ (#[] : Array Event) from he) (by simp))), ?_⟩
        clear kQ KQ
        try clear hc0 hc1 hc2 hc3
        clear hQ wQ
        try walk_nrm
        refine GO.opq rfl (by rfl) (by first | assumption | decide) (fun wQ hQ KQ kQ => ?_)
        go_simp
        refine kQ _ _ ⟨rfl, (by first | (simp [go_sem, events_max2]; done) | (intro e he; exact absurd (show e ∈ (#[] : Array Event) from he) (by simp))), ?_⟩
        clear kQ KQ
        try clear hc0 hc1 hc2 hc3
        clear hQ wQ
        try walk_nrm
        refine GO.opq rfl (by rfl) (by first | assumption | decide) (fun wQ hQ KQ kQ => ?_)
        go_simp
        refine kQ _ _ ⟨rfl, (by first | (simp [go_sem, events_max2]; done) | (intro e he; exact absurd (show e ∈ (#[] : Array Event) from he) (by simp))), ?_⟩
        clear kQ KQ
        try clear hc0 hc1 hc2 hc3
        clear hQ wQ
        try walk_nrm
        refine GO.opw (ob := (.cells #[.int .i64 (q + s), .int .i64 R] 39)) n6 rfl (by rfl) (by first | assumption | decide) (fun wQ hQ KQ kQ => ?_)
        have hc := hQ.own _ _ n6
        have hc0 := gcell_of (o := 0) hc
        have hc1 := gcell_of (o := 1) hc
        have hc2 := gwarm_of (o := 0) hc
        have hc3 := gwarm_of (o := 1) hc
        simp only [List.getElem?_toArray, List.getElem?_cons_succ, List.getElem?_cons_zero, List.getElem?_nil] at hc0 hc1
        go_simp
        try (unfold stored; go_simp)
        refine kQ _ _ ⟨⟨rfl, rfl, rfl, by simp [World.setCell], (fun k hk => by first | exact put_ne _ hk | exact (put_ne _ hk).trans (put_ne _ hk)), (by first | exact put_at _ hc | exact put_at _ (put_at _ hc))⟩, ?_, fun h7 m6 s6 => ?_⟩
        · have h0 := @evo_own _ _ _ _ _ _ 0 _ true hQ n6
          have h1 := @evo_own _ _ _ _ _ _ 1 _ true hQ n6
          first | (simp [go_sem, *]; done) | (simp [go_sem, *]; first | exact h0 | exact h1 | exact ⟨h0, h1⟩) | (simp [go_sem, storedEv, *]; done) | (simp [go_sem, storedEv, *]; first | exact h0 | exact h1 | exact ⟨h0, h1⟩)
        clear kQ KQ hc hc0 hc1 hc2 hc3
        clear hQ wQ
        try walk_nrm
        have k2 := (s6 _ d26).trans n2
        repeat (first | with_reducible refine GO.seq ?_ | with_reducible refine GO.skip ?_ | with_reducible refine GO.region (by simp only [List.size_toArray, List.length_cons, List.length_nil, Nat.reduceAdd, Nat.zero_add, List.range, List.range.loop]; exact rfl) ?_ | with_reducible refine GO.regionEnd ?_ | with_reducible refine GO.block ?_ | with_reducible refine GO.inBlock ?_ | with_reducible refine GO.label ?_ | with_reducible refine GO.ret ?_ | with_reducible refine GO.fin ?_ | with_reducible refine GO.exit (by with_unfolding_all rfl) ?_)
        refine GO.opq rfl (by rfl) (by first | assumption | decide) (fun wQ hQ KQ kQ => ?_)
        go_simp
        refine kQ _ _ ⟨rfl, (by first | (simp [go_sem, events_max2]; done) | (intro e he; exact absurd (show e ∈ (#[] : Array Event) from he) (by simp))), ?_⟩
        clear kQ KQ
        try clear hc0 hc1 hc2 hc3
        clear hQ wQ
        try walk_nrm
        refine GO.opq rfl (by rfl) (by first | assumption | decide) (fun wQ hQ KQ kQ => ?_)
        have hc := hQ.own _ _ m6
        have hc0 := gcell_of (o := 0) hc
        have hc1 := gcell_of (o := 1) hc
        have hc2 := gwarm_of (o := 0) hc
        have hc3 := gwarm_of (o := 1) hc
        clear hc
        simp only [List.getElem?_toArray, List.getElem?_cons_succ, List.getElem?_cons_zero, List.getElem?_nil] at hc0 hc1
        go_simp
        refine kQ _ _ ⟨rfl, (by have h0 := @evo_own _ _ _ _ _ _ 0 _ false hQ m6; have h1 := @evo_own _ _ _ _ _ _ 1 _ false hQ m6; first | (simp [go_sem, *]; done) | (simp [go_sem, *]; first | exact h0 | exact h1 | exact ⟨h0, h1⟩)), ?_⟩
        clear kQ KQ
        try clear hc0 hc1 hc2 hc3
        clear hQ wQ
        try walk_nrm
        refine GO.opq rfl (by rfl) (by first | assumption | decide) (fun wQ hQ KQ kQ => ?_)
        go_simp
        refine kQ _ _ ⟨rfl, (by first | (simp [go_sem, events_max2]; done) | (intro e he; exact absurd (show e ∈ (#[] : Array Event) from he) (by simp))), ?_⟩
        clear kQ KQ
        try clear hc0 hc1 hc2 hc3
        clear hQ wQ
        try walk_nrm
        refine GO.opq rfl (by rfl) (by first | assumption | decide) (fun wQ hQ KQ kQ => ?_)
        go_simp
        refine kQ _ _ ⟨rfl, (by first | (simp [go_sem, events_max2]; done) | (intro e he; exact absurd (show e ∈ (#[] : Array Event) from he) (by simp))), ?_⟩
        clear kQ KQ
        try clear hc0 hc1 hc2 hc3
        clear hQ wQ
        try walk_nrm
        refine GO.opq rfl (by rfl) (by first | assumption | decide) (fun wQ hQ KQ kQ => ?_)
        have hc := hQ.own _ _ k2
        have hc0 := gcell_of (o := 0) hc
        have hc1 := gcell_of (o := 1) hc
        have hc2 := gwarm_of (o := 0) hc
        have hc3 := gwarm_of (o := 1) hc
        clear hc
        simp only [List.getElem?_toArray, List.getElem?_cons_succ, List.getElem?_cons_zero, List.getElem?_nil] at hc0 hc1
        go_simp
        refine kQ _ _ ⟨rfl, (by have h0 := @evo_own _ _ _ _ _ _ 0 _ false hQ k2; have h1 := @evo_own _ _ _ _ _ _ 1 _ false hQ k2; first | (simp [go_sem, *]; done) | (simp [go_sem, *]; first | exact h0 | exact h1 | exact ⟨h0, h1⟩)), ?_⟩
        clear kQ KQ
        try clear hc0 hc1 hc2 hc3
        clear hQ wQ
        try walk_nrm
        refine GO.opq rfl (by rfl) (by first | assumption | decide) (fun wQ hQ KQ kQ => ?_)
        go_simp
        refine kQ _ _ ⟨rfl, (by first | (simp [go_sem, events_max2]; done) | (intro e he; exact absurd (show e ∈ (#[] : Array Event) from he) (by simp))), ?_⟩
        clear kQ KQ
        try clear hc0 hc1 hc2 hc3
        clear hQ wQ
        try walk_nrm
        refine GO.opq rfl (by rfl) (by first | assumption | decide) (fun wQ hQ KQ kQ => ?_)
        go_simp
        refine kQ _ _ ⟨rfl, (by first | (simp [go_sem, events_max2]; done) | (intro e he; exact absurd (show e ∈ (#[] : Array Event) from he) (by simp))), ?_⟩
        clear kQ KQ
        try clear hc0 hc1 hc2 hc3
        clear hQ wQ
        try walk_nrm
        refine GO.opq rfl (by rfl) (by first | assumption | decide) (fun wQ hQ KQ kQ => ?_)
        go_simp
        refine kQ _ _ ⟨rfl, (by first | (simp [go_sem, events_max2]; done) | (intro e he; exact absurd (show e ∈ (#[] : Array Event) from he) (by simp))), ?_⟩
        clear kQ KQ
        try clear hc0 hc1 hc2 hc3
        clear hQ wQ
        try walk_nrm
        refine GO.opw (ob := (.cells #[.int .i64 (q + s), .int .i64 (R - s * d)] 39)) m6 rfl (by rfl) (by first | assumption | decide) (fun wQ hQ KQ kQ => ?_)
        have hc := hQ.own _ _ m6
        have hc0 := gcell_of (o := 0) hc
        have hc1 := gcell_of (o := 1) hc
        have hc2 := gwarm_of (o := 0) hc
        have hc3 := gwarm_of (o := 1) hc
        simp only [List.getElem?_toArray, List.getElem?_cons_succ, List.getElem?_cons_zero, List.getElem?_nil] at hc0 hc1
        go_simp
        try (unfold stored; go_simp)
        refine kQ _ _ ⟨⟨rfl, rfl, rfl, by simp [World.setCell], (fun k hk => by first | exact put_ne _ hk | exact (put_ne _ hk).trans (put_ne _ hk)), (by first | exact put_at _ hc | exact put_at _ (put_at _ hc))⟩, ?_, fun h8 m6' s6' => ?_⟩
        · have h0 := @evo_own _ _ _ _ _ _ 0 _ true hQ m6
          have h1 := @evo_own _ _ _ _ _ _ 1 _ true hQ m6
          first | (simp [go_sem, *]; done) | (simp [go_sem, *]; first | exact h0 | exact h1 | exact ⟨h0, h1⟩) | (simp [go_sem, storedEv, *]; done) | (simp [go_sem, storedEv, *]; first | exact h0 | exact h1 | exact ⟨h0, h1⟩)
        clear kQ KQ hc hc0 hc1 hc2 hc3
        clear hQ wQ
        try walk_nrm
        repeat (first | with_reducible refine GO.seq ?_ | with_reducible refine GO.skip ?_ | with_reducible refine GO.region (by simp only [List.size_toArray, List.length_cons, List.length_nil, Nat.reduceAdd, Nat.zero_add, List.range, List.range.loop]; exact rfl) ?_ | with_reducible refine GO.regionEnd ?_ | with_reducible refine GO.block ?_ | with_reducible refine GO.inBlock ?_ | with_reducible refine GO.label ?_ | with_reducible refine GO.ret ?_ | with_reducible refine GO.fin ?_ | with_reducible refine GO.exit (by with_unfolding_all rfl) ?_)
        refine hrec.out _ _ _ (by omega) ⟨j + 1, q + s, R - s * d, _, _, _, _, _, _, _, _, _, _, _, _, _, _, _, _, _, _, _, _, _, _, _, _, _, _, _, rfl, hj', .inr hn', he', ?_, ?_, ?_, (s6' _ d26).trans k2, (s6' _ d46).trans ((s6 _ d46).trans n4), m6', rfl⟩
        · show q + s = _
          rw [hq.out]; push_cast; rw [Int.mul_add, Int.mul_one]
        · show R - s * d = _
          rw [hR.out]; push_cast; rw [Int.mul_add, Int.mul_one, Int.add_mul]; omega
        · exact Hl.le_set (Hl.le_set l5 fr6 s6) fr6 s6'
      · have hw : 9 * max (10 * y - s * j * d) (-(10 * y - s * j * d)) ≤ g * d := by
          rw [← hR.out]
          exact of_decide_eq_true (ht.trans (by simpa using hc))
        have hdg := scan_done g d y s hs (by omega) j hj h0 he hw
        clear hc ht he hw h0
        repeat (first | with_reducible refine GO.seq ?_ | with_reducible refine GO.skip ?_ | with_reducible refine GO.region (by simp only [List.size_toArray, List.length_cons, List.length_nil, Nat.reduceAdd, Nat.zero_add, List.range, List.range.loop]; exact rfl) ?_ | with_reducible refine GO.regionEnd ?_ | with_reducible refine GO.block ?_ | with_reducible refine GO.inBlock ?_ | with_reducible refine GO.label ?_ | with_reducible refine GO.ret ?_ | with_reducible refine GO.fin ?_ | with_reducible refine GO.exit (by with_unfolding_all rfl) ?_)
        refine GO.opq rfl (by rfl) (by first | assumption | decide) (fun wQ hQ KQ kQ => ?_)
        have hc := hQ.own _ _ n6
        have hc0 := gcell_of (o := 0) hc
        have hc1 := gcell_of (o := 1) hc
        have hc2 := gwarm_of (o := 0) hc
        have hc3 := gwarm_of (o := 1) hc
        clear hc
        simp only [List.getElem?_toArray, List.getElem?_cons_succ, List.getElem?_cons_zero, List.getElem?_nil] at hc0 hc1
        go_simp
        refine kQ _ _ ⟨rfl, (by have h0 := @evo_own _ _ _ _ _ _ 0 _ false hQ n6; have h1 := @evo_own _ _ _ _ _ _ 1 _ false hQ n6; first | (simp [go_sem, *]; done) | (simp [go_sem, *]; first | exact h0 | exact h1 | exact ⟨h0, h1⟩)), ?_⟩
        clear kQ KQ
        try clear hc0 hc1 hc2 hc3
        clear hQ wQ
        try walk_nrm
        refine GO.opw (ob := (.cells #[.int .i64 q, .int .i64 R] 39)) n4 rfl (by rfl) (by first | assumption | decide) (fun wQ hQ KQ kQ => ?_)
        have hc := hQ.own _ _ n4
        have hc0 := gcell_of (o := 0) hc
        have hc1 := gcell_of (o := 1) hc
        have hc2 := gwarm_of (o := 0) hc
        have hc3 := gwarm_of (o := 1) hc
        simp only [List.getElem?_toArray, List.getElem?_cons_succ, List.getElem?_cons_zero, List.getElem?_nil] at hc0 hc1
        go_simp
        try (unfold stored; go_simp)
        refine kQ _ _ ⟨⟨rfl, rfl, rfl, by simp [World.setCell], (fun k hk => by first | exact put_ne _ hk | exact (put_ne _ hk).trans (put_ne _ hk)), (by first | exact put_at _ hc | exact put_at _ (put_at _ hc))⟩, ?_, fun h7 m4 s4 => ?_⟩
        · have h0 := @evo_own _ _ _ _ _ _ 0 _ true hQ n4
          have h1 := @evo_own _ _ _ _ _ _ 1 _ true hQ n4
          first | (simp [go_sem, *]; done) | (simp [go_sem, *]; first | exact h0 | exact h1 | exact ⟨h0, h1⟩) | (simp [go_sem, storedEv, *]; done) | (simp [go_sem, storedEv, *]; first | exact h0 | exact h1 | exact ⟨h0, h1⟩)
        clear kQ KQ hc hc0 hc1 hc2 hc3
        clear hQ wQ
        try walk_nrm
        repeat (first | with_reducible refine GO.seq ?_ | with_reducible refine GO.skip ?_ | with_reducible refine GO.region (by simp only [List.size_toArray, List.length_cons, List.length_nil, Nat.reduceAdd, Nat.zero_add, List.range, List.range.loop]; exact rfl) ?_ | with_reducible refine GO.regionEnd ?_ | with_reducible refine GO.block ?_ | with_reducible refine GO.inBlock ?_ | with_reducible refine GO.label ?_ | with_reducible refine GO.ret ?_ | with_reducible refine GO.fin ?_ | with_reducible refine GO.exit (by with_unfolding_all rfl) ?_)
        refine GO.leaveE rfl rfl hf (v := .agg #[.int .i64 q, .int .i64 R]) (fun w hS => ?_) ?_
        · exact res_o hS m4
        · have e2 : 10 * y - dgt g d y * d = R := by rw [hdg, hR.out]
          have := hnext.out h7 (Hl.le_set l5 fr4 s4)
          rw [e2, hdg, ← hq.out] at this
          exact this
  · intro hk
    replace hk := hid hk
    refine GO.cond (t := decide (y < 0)) rfl (fun ht => ?_) (fun ht => ?_)
    · repeat (first | with_reducible refine GO.seq ?_ | with_reducible refine GO.skip ?_ | with_reducible refine GO.region (by simp only [List.size_toArray, List.length_cons, List.length_nil, Nat.reduceAdd, Nat.zero_add, List.range, List.range.loop]; exact rfl) ?_ | with_reducible refine GO.regionEnd ?_ | with_reducible refine GO.block ?_ | with_reducible refine GO.inBlock ?_ | with_reducible refine GO.label ?_ | with_reducible refine GO.ret ?_ | with_reducible refine GO.fin ?_ | with_reducible refine GO.exit (by with_unfolding_all rfl) ?_)
      refine GO.opq rfl (by rfl) (by first | assumption | decide) (fun wQ hQ KQ kQ => ?_)
      go_simp
      refine kQ _ _ ⟨rfl, (by first | (simp [go_sem, events_max2]; done) | (intro e he; exact absurd (show e ∈ (#[] : Array Event) from he) (by simp))), ?_⟩
      clear kQ KQ
      try clear hc0 hc1 hc2 hc3
      clear hQ wQ
      try walk_nrm
      first | with_reducible refine GO.seq ?_ | with_reducible refine GO.skip ?_ | with_reducible refine GO.region (by simp only [List.size_toArray, List.length_cons, List.length_nil, Nat.reduceAdd, Nat.zero_add, List.range, List.range.loop]; exact rfl) ?_ | with_reducible refine GO.regionEnd ?_ | with_reducible refine GO.block ?_ | with_reducible refine GO.inBlock ?_ | with_reducible refine GO.label ?_ | with_reducible refine GO.ret ?_ | with_reducible refine GO.fin ?_ | with_reducible refine GO.exit (by with_unfolding_all rfl) ?_
      exact hk.out _ _ ⟨_, _, rfl, by rw [show s = -1 by rcases hs with ⟨h, e⟩ | ⟨h, e⟩; exact absurd (of_decide_eq_true ht) (by omega); exact e]⟩
    · first | with_reducible refine GO.seq ?_ | with_reducible refine GO.skip ?_ | with_reducible refine GO.region (by simp only [List.size_toArray, List.length_cons, List.length_nil, Nat.reduceAdd, Nat.zero_add, List.range, List.range.loop]; exact rfl) ?_ | with_reducible refine GO.regionEnd ?_ | with_reducible refine GO.block ?_ | with_reducible refine GO.inBlock ?_ | with_reducible refine GO.label ?_ | with_reducible refine GO.ret ?_ | with_reducible refine GO.fin ?_ | with_reducible refine GO.exit (by with_unfolding_all rfl) ?_
      exact hk.out _ _ ⟨_, _, rfl, by rw [show s = 1 by rcases hs with ⟨h, e⟩ | ⟨h, e⟩; exact e; exact absurd h (of_decide_eq_false ht)]⟩
end
end Go.Proofs.Ytlbkhiphnllfpac
namespace Go.Proofs.Ytlbkhiphnllfpac
open Go.Conc Go.RowKit
set_option linter.unusedVariables false
set_option maxRecDepth 100000
set_option linter.unusedSimpArgs false
def bD (f : FuncId) : Frame := { (default : Frame) with fn := f, kind := .deferred }
def botF (n : Nat) : Frame := { (default : Frame) with fn := n, defers := [], mode := .panicking [goexitEntry] }
section
variable {P : Program} {main : Bool} {c L : Nat} {w0 : World} {Stop : (Nat → Prop) → Goroutine → World → Prop} {h : Hl} {b : Frame} {a : Act} {k : List Item} {cs : List Frame} {ops : Array Oper} {i : Nat} {rest : List Nat} {o : Oper}
/-- A call of a function value. -/
theorem GO.callF {f : FuncId} {fn : Func} {cd : Code} {vs : Array Value} (ho : ops[i]? = some o) (hw : Region.wanted o (yielded ops a.tmps) = true) (hk : b.kind ≠ .early)
    (hr : ∀ w, Sat w0 c L h w → (execOp a.eval o).run P w = .ok (.enter f vs) w ∧ (execOp a.eval o).events P w #[] = #[]) (hf : P.funcs[f]? = some fn) (hb : fn.body = some cd)
    (H : GO P main c L w0 Stop h (G ((base f).at { tmps := vs ++ Array.replicate (fn.ntmps - vs.size) undef, defers := [] } [.code cd]) (b.at a (.inRegion ops (i :: rest) :: k) :: cs))) :
    GO P main c L w0 Stop h (G (b.at a (.inRegion ops (i :: rest) :: k)) cs) :=
  GO.quiet rfl fun w hS => by
    rw [stepG_enter ho hw hk (hr w hS).1, enter_at _ hf hb]
    have : listed P b.fn a o w = #[] := listed_nil (hr w hS).2
    rw [this]
    exact ⟨rfl, by simp, H⟩
/-- It stands at a send; what follows is walked on. -/
theorem GO.send {v z' : Value} {vs : List Value} (ho : ops[i]? = some o) (hw : Region.wanted o (yielded ops a.tmps) = true) (hk : b.kind ≠ .early)
    (hr : ∀ w, Sat w0 c L h w → (execOp a.eval o).run P w = .ok (.comm #[scase c v z'] true .send) w ∧ (execOp a.eval o).events P w #[] = #[])
    (H : ∀ w, Sat w0 c L h w → SendsO P c L vs h.dom (G (b.at (a.put o.dst undef) (.inRegion ops rest :: k)) cs) w) :
    GO P false c L w0 (AtS P c v (SendsO P c L vs)) h (G (b.at a (.inRegion ops (i :: rest) :: k)) cs) :=
  GO.stop fun w hS => ⟨rfl, ⟨z', by rw [stepG_comm ho hw hk (hr w hS).1, listed_nil (hr w hS).2]; rfl⟩, by
    have : Conc.served (core (G (b.at a (.inRegion ops (i :: rest) :: k)) cs)) undef = G (b.at (a.put o.dst undef) (.inRegion ops rest :: k)) cs := by
      show G ((b.at a (.inRegion ops (i :: rest) :: k)).finish undef) cs = _
      rw [Frame.finish_at, ho]; rfl
    rw [this]
    exact H w hS⟩
def StopOf (P : Program) (c L : Nat) : List Value → (Nat → Prop) → Goroutine → World → Prop
  | [] => AtC P c
  | v :: vs => AtS P c v (SendsO P c L vs)
theorem sends_of {vs : List Value} {g : Goroutine} {w : World} (H : GO P false c L w0 (StopOf P c L vs) h g) (hS : Sat w0 c L h w) : SendsO P c L vs h.dom g w := by
  cases vs <;> exact H w hS
/-- A loop whose stop turns from round to round. -/
theorem GO.loopS {cd : Code} (I : Nat → Hl → Act → Prop) (St : Nat → (Nat → Prop) → Goroutine → World → Prop) (n : Nat) (h0 : I n h a)
    (round : ∀ n h a, I n h a → (∀ n' h' a', n' < n → I n' h' a' → GO P main c L w0 (St n') h' (G (b.at a' (.inLoop cd :: k)) cs)) → GO P main c L w0 (St n) h (G (b.at a (.code cd :: .inLoop cd :: k)) cs)) :
    GO P main c L w0 (St n) h (G (b.at a (.code (.loop cd) :: k)) cs) := by
  refine GO.ctl rfl (fun _ => stepG_loop) ?_
  induction n using Nat.strongRecOn generalizing h a with
  | _ n ih => exact round n h a h0 fun n' h' a' hn hI => GO.ctl rfl (fun _ => stepG_inLoop) (ih n' hn hI)
end
/-- Behind the close it only leaves. -/
theorem quits_o (T : Array Value) (ops : Array Oper) : QuitsIn Try.prog 4 (G ((bD 71).at ⟨T, []⟩ [.inRegion ops []]) [botF Try.prog.funcs.size]) := by
  refine .inr ⟨rfl, _, fun w => stepG_region_end, ?_⟩
  refine .inr ⟨rfl, _, fun w => stepG_end, ?_⟩
  refine .inr ⟨rfl, G (botF Try.prog.funcs.size) [], fun w => ?_, ?_⟩
  · simp [G, stepG, unwind, doReturn, results, Frame.at, bD, botF, Try.func71, Try.f71, seen, GStep.after, goexitEntry]
  refine .inr ⟨rfl, { G (botF Try.prog.funcs.size) [] with status := .finished }, fun w => ?_, rfl⟩
  simp [G, stepG, unwind, botF, goexitEntry, Frame.catches]
  rfl
theorem loud_o : (Try.prog.funcs[(bD 71).fn]?).any (·.norace) = false := by kernel_rfl
section
variable {c L : Nat} {w0 : World}
/-- One turn of the function that is called, in company. -/
def TurnO (c L : Nat) (w0 : World) (F : FuncId) (rcv : Value) (y q r : Int) : Prop :=
  ∀ (h : Hl) (Stop : (Nat → Prop) → Goroutine → World → Prop) (b₀ : Frame) (a₀ : Act) (ops : Array Oper) (i : Nat) (rest : List Nat) (k : List Item) (cs : List Frame) (fn : Func) (cd : Code), Try.prog.funcs[F]? = some fn → fn.body = some cd →
    (∀ h' : Hl, h.le h' → GO Try.prog false c L w0 Stop h' (G (b₀.at (a₀.put ((ops[i]?).bind (·.dst)) (.agg #[.int .i64 q, .int .i64 r])) (.inRegion ops rest :: k)) cs)) →
    GO Try.prog false c L w0 Stop h (G ((base F).at { tmps := #[rcv, .int .i64 y] ++ Array.replicate (fn.ntmps - 2) undef, defers := [] } [.code cd]) (b₀.at a₀ (.inRegion ops (i :: rest) :: k) :: cs))
def tvs (Q R : Nat → Int) : Nat → Nat → List Value
  | _, 0 => []
  | j, m + 1 => .agg #[.int .i64 (Q j), .int .i64 (R (j + 1))] :: tvs Q R (j + 1) m
set_option maxRecDepth 100000 in
set_option maxHeartbeats 8000000 in
theorem sends_o {F : FuncId} {rcv : Value} {Fn : Func} {Cd : Code} (hF : Try.prog.funcs[F]? = some Fn) (hFb : Fn.body = some Cd) (hFn : (Fn.name == "runtime.NumGoroutine") = false) (Q R : Nat → Int) (N : Nat) (hN : N ≤ 18) (ht : ∀ j, j < N → TurnO c L w0 F rcv (R j) (Q j) (R (j + 1)))
    {bx bn bf bc : Nat} (lx : bx < L) (ln : bn < L) (lf : bf < L) (lc : bc < L) (nx : bx ≠ c) (nn : bn ≠ c) (nf : bf ≠ c) (nc : bc ≠ c)
    (ex : w0.heap[bx]? = some (.cells #[.int .i64 (R 0)] 2)) (en : w0.heap[bn]? = some (.cells #[.int .i64 (N : Int)] 2)) (ef : w0.heap[bf]? = some (.cells #[.func (.func F) #[rcv] #[]] 72)) (ec : w0.heap[bc]? = some (.cells #[.chan (some c)] 91)) (w : World) (hS : Sat w0 c L (fun _ => none) w) :
    SendsO Try.prog c L (tvs Q R 0 N) (Hl.dom fun _ => none) (born Try.prog { target := .fn (.func 71) #[.pointer (some ⟨bx, 0, none⟩), .pointer (some ⟨bn, 0, none⟩), .pointer (some ⟨bf, 0, none⟩), .pointer (some ⟨bc, 0, none⟩)], args := #[] }) w := by
  refine sends_of ?_ hS
  replace ht := hid ht
  refine GO.ctl (g' := G ((bD 71).at ⟨#[.pointer (some ⟨bx, 0, none⟩), .pointer (some ⟨bn, 0, none⟩), .pointer (some ⟨bf, 0, none⟩), .pointer (some ⟨bc, 0, none⟩), undef, undef, undef, undef, undef, undef, undef, undef, undef, undef, undef, undef, undef, undef, undef], []⟩ [.code (Try.f71.body.getD .skip)]) [botF Try.prog.funcs.size]) rfl (fun w => ?_) ?_
  · simp [born, stepG, unwind, callDeferred, invoke, callFunc, Try.func71, Try.f71, seen, GStep.after, G, Frame.enter, Frame.at, bD, botF]
  simp only [Try.f71, Option.getD_some]
  repeat (first | with_reducible refine GO.seq ?_ | with_reducible refine GO.skip ?_ | with_reducible refine GO.region (by simp only [List.size_toArray, List.length_cons, List.length_nil, Nat.reduceAdd, Nat.zero_add, List.range, List.range.loop]; exact rfl) ?_ | with_reducible refine GO.regionEnd ?_ | with_reducible refine GO.block ?_ | with_reducible refine GO.inBlock ?_ | with_reducible refine GO.label ?_ | with_reducible refine GO.ret ?_ | with_reducible refine GO.fin ?_ | with_reducible refine GO.exit (by with_unfolding_all rfl) ?_)
  refine GO.opq rfl (by rfl) (by first | assumption | decide) (fun wQ hQ KQ kQ => ?_)
  have hc := (hQ.old _ lx nx).trans ex
  have hc0 := gcell_of (o := 0) hc
  have hc1 := hc0
  have hc2 := gwarm_of (o := 0) hc
  have hc3 := hc2
  clear hc
  simp only [List.getElem?_toArray, List.getElem?_cons_succ, List.getElem?_cons_zero, List.getElem?_nil] at hc0 hc1
  go_simp
  refine kQ _ _ ⟨rfl, (by have h0 := @evo_old _ _ _ _ _ _ 0 hQ lx; first | (simp [go_sem, *]; done) | (simp [go_sem, *]; exact h0)), ?_⟩
  clear kQ KQ
  try clear hc0 hc1 hc2 hc3
  clear hQ wQ
  try walk_nrm
  refine GO.opq rfl (by rfl) (by first | assumption | decide) (fun wQ hQ KQ kQ => ?_)
  go_simp
  refine kQ _ _ ⟨rfl, (by first | (simp [go_sem, events_max2]; done) | (intro e he; exact absurd (show e ∈ (#[] : Array Event) from he) (by simp))), ?_⟩
  clear kQ KQ
  try clear hc0 hc1 hc2 hc3
  clear hQ wQ
  try walk_nrm
  repeat (first | with_reducible refine GO.seq ?_ | with_reducible refine GO.skip ?_ | with_reducible refine GO.region (by simp only [List.size_toArray, List.length_cons, List.length_nil, Nat.reduceAdd, Nat.zero_add, List.range, List.range.loop]; exact rfl) ?_ | with_reducible refine GO.regionEnd ?_ | with_reducible refine GO.block ?_ | with_reducible refine GO.inBlock ?_ | with_reducible refine GO.label ?_ | with_reducible refine GO.ret ?_ | with_reducible refine GO.fin ?_ | with_reducible refine GO.exit (by with_unfolding_all rfl) ?_)
  refine GO.opq rfl (by rfl) (by first | assumption | decide) (fun wQ hQ KQ kQ => ?_)
  have hc := (hQ.old _ ln nn).trans en
  have hc0 := gcell_of (o := 0) hc
  have hc1 := hc0
  have hc2 := gwarm_of (o := 0) hc
  have hc3 := hc2
  clear hc
  simp only [List.getElem?_toArray, List.getElem?_cons_succ, List.getElem?_cons_zero, List.getElem?_nil] at hc0 hc1
  go_simp
  refine kQ _ _ ⟨rfl, (by have h0 := @evo_old _ _ _ _ _ _ 0 hQ ln; first | (simp [go_sem, *]; done) | (simp [go_sem, *]; exact h0)), ?_⟩
  clear kQ KQ
  try clear hc0 hc1 hc2 hc3
  clear hQ wQ
  try walk_nrm
  refine GO.opq rfl (by rfl) (by first | assumption | decide) (fun wQ hQ KQ kQ => ?_)
  go_simp
  refine kQ _ _ ⟨rfl, (by first | (simp [go_sem, events_max2]; done) | (intro e he; exact absurd (show e ∈ (#[] : Array Event) from he) (by simp))), ?_⟩
  clear kQ KQ
  try clear hc0 hc1 hc2 hc3
  clear hQ wQ
  try walk_nrm
  repeat (first | with_reducible refine GO.seq ?_ | with_reducible refine GO.skip ?_ | with_reducible refine GO.region (by simp only [List.size_toArray, List.length_cons, List.length_nil, Nat.reduceAdd, Nat.zero_add, List.range, List.range.loop]; exact rfl) ?_ | with_reducible refine GO.regionEnd ?_ | with_reducible refine GO.block ?_ | with_reducible refine GO.inBlock ?_ | with_reducible refine GO.label ?_ | with_reducible refine GO.ret ?_ | with_reducible refine GO.fin ?_ | with_reducible refine GO.exit (by with_unfolding_all rfl) ?_)
  rw [show tvs Q R 0 N = tvs Q R (N - N) N by rw [Nat.sub_self]]
  refine GO.loopS (fun n h a => ∃ (j : Nat) (x5 x6 x9 x10 x11 x12 x13 x14 x15 x16 x17 x18 : Value), j + n = N ∧ a = ⟨#[.pointer (some ⟨bx, 0, none⟩), .pointer (some ⟨bn, 0, none⟩), .pointer (some ⟨bf, 0, none⟩), .pointer (some ⟨bc, 0, none⟩), .int .i64 (R j), x5, x6, .int .i64 (N : Int), .int .i64 (j : Int), x9, x10, x11, x12, x13, x14, x15, x16, x17, x18], []⟩) (fun n => StopOf Try.prog c L (tvs Q R (N - n) n)) N ?_ ?_
  · exact ⟨0, _, _, _, _, _, _, _, _, _, _, _, _, by omega, rfl⟩
  · rintro n h a ⟨j, x5, x6, x9, x10, x11, x12, x13, x14, x15, x16, x17, x18, hj, rfl⟩ hrec
    replace hrec := hid hrec
    repeat (first | with_reducible refine GO.seq ?_ | with_reducible refine GO.skip ?_ | with_reducible refine GO.region (by simp only [List.size_toArray, List.length_cons, List.length_nil, Nat.reduceAdd, Nat.zero_add, List.range, List.range.loop]; exact rfl) ?_ | with_reducible refine GO.regionEnd ?_ | with_reducible refine GO.block ?_ | with_reducible refine GO.inBlock ?_ | with_reducible refine GO.label ?_ | with_reducible refine GO.ret ?_ | with_reducible refine GO.fin ?_ | with_reducible refine GO.exit (by with_unfolding_all rfl) ?_)
    refine GO.opq rfl (by rfl) (by first | assumption | decide) (fun wQ hQ KQ kQ => ?_)
    go_simp
    refine kQ _ _ ⟨rfl, (by first | (simp [go_sem, events_max2]; done) | (intro e he; exact absurd (show e ∈ (#[] : Array Event) from he) (by simp))), ?_⟩
    clear kQ KQ
    try clear hc0 hc1 hc2 hc3
    clear hQ wQ
    try walk_nrm
    repeat (first | with_reducible refine GO.seq ?_ | with_reducible refine GO.skip ?_ | with_reducible refine GO.region (by simp only [List.size_toArray, List.length_cons, List.length_nil, Nat.reduceAdd, Nat.zero_add, List.range, List.range.loop]; exact rfl) ?_ | with_reducible refine GO.regionEnd ?_ | with_reducible refine GO.block ?_ | with_reducible refine GO.inBlock ?_ | with_reducible refine GO.label ?_ | with_reducible refine GO.ret ?_ | with_reducible refine GO.fin ?_ | with_reducible refine GO.exit (by with_unfolding_all rfl) ?_)
    refine GO.cond (t := decide (j < N)) rfl (fun hc => ?_) (fun hc => ?_)
    · have hjN : j < N := by exact of_decide_eq_true hc
      obtain ⟨m, rfl⟩ : ∃ m, n = m + 1 := ⟨n - 1, by omega⟩
      have ej : N - (m + 1) = j := by omega
      have ej2 : N - m = j + 1 := by omega
      simp only [ej, tvs, StopOf]
      repeat (first | with_reducible refine GO.seq ?_ | with_reducible refine GO.skip ?_ | with_reducible refine GO.region (by simp only [List.size_toArray, List.length_cons, List.length_nil, Nat.reduceAdd, Nat.zero_add, List.range, List.range.loop]; exact rfl) ?_ | with_reducible refine GO.regionEnd ?_ | with_reducible refine GO.block ?_ | with_reducible refine GO.inBlock ?_ | with_reducible refine GO.label ?_ | with_reducible refine GO.ret ?_ | with_reducible refine GO.fin ?_ | with_reducible refine GO.exit (by with_unfolding_all rfl) ?_)
      refine GO.opq rfl (by rfl) (by first | assumption | decide) (fun wQ hQ KQ kQ => ?_)
      have hc := (hQ.old _ lf nf).trans ef
      have hc0 := gcell_of (o := 0) hc
      have hc1 := hc0
      have hc2 := gwarm_of (o := 0) hc
      have hc3 := hc2
      clear hc
      simp only [List.getElem?_toArray, List.getElem?_cons_succ, List.getElem?_cons_zero, List.getElem?_nil] at hc0 hc1
      go_simp
      refine kQ _ _ ⟨rfl, (by have h0 := @evo_old _ _ _ _ _ _ 0 hQ lf; first | (simp [go_sem, *]; done) | (simp [go_sem, *]; exact h0)), ?_⟩
      clear kQ KQ
      try clear hc0 hc1 hc2 hc3
      clear hQ wQ
      try walk_nrm
      refine GO.opq rfl (by rfl) (by first | assumption | decide) (fun wQ hQ KQ kQ => ?_)
      go_simp
      refine kQ _ _ ⟨rfl, (by first | (simp [go_sem, events_max2]; done) | (intro e he; exact absurd (show e ∈ (#[] : Array Event) from he) (by simp))), ?_⟩
      clear kQ KQ
      try clear hc0 hc1 hc2 hc3
      clear hQ wQ
      try walk_nrm
      refine GO.callF (vs := #[rcv, .int .i64 (R j)]) rfl (by rfl) (by decide) (fun w hS => ?_) hF hFb ?_
      · have h1 : ¬ Fn.name = "runtime.NumGoroutine" := by simpa using hFn
        have h2 : ¬ Fn.body = none := by rw [hFb]; simp
        unfold execOp
        constructor <;> simp [resolve, Deferred.ofValue, invoke, callFunc, hF, h1, h2, Act.eval]
      refine ht.out j hjN _ _ _ _ _ _ _ _ _ _ _ hF hFb ?_
      intro h1 l1
      walk_nrm
      refine GO.opn rfl (by rfl) (by first | assumption | decide) (fun wQ hQ KQ kQ => ?_)
      go_simp
      refine kQ _ _ ⟨_, rfl, by simp [go_sem, events_max2], fun h2 n5 f5 L5 l5 => ?_⟩
      clear kQ KQ hQ
      try walk_nrm
      generalize wQ.heap.size = r5 at *
      clear wQ
      refine GO.opw (ob := (.cells #[.int .i64 (Q j), .int .i64 (R (j + 1))] 39)) n5 rfl (by rfl) (by first | assumption | decide) (fun wQ hQ KQ kQ => ?_)
      have hc := hQ.own _ _ n5
      have hc0 := gcell_of (o := 0) hc
      have hc1 := gcell_of (o := 1) hc
      have hc2 := gwarm_of (o := 0) hc
      have hc3 := gwarm_of (o := 1) hc
      simp only [List.getElem?_toArray, List.getElem?_cons_succ, List.getElem?_cons_zero, List.getElem?_nil] at hc0 hc1
      go_simp
      try (unfold stored; go_simp)
      refine kQ _ _ ⟨⟨rfl, rfl, rfl, by simp [World.setCell], (fun k hk => by first | exact put_ne _ hk | exact (put_ne _ hk).trans (put_ne _ hk)), (by first | exact put_at _ hc | exact put_at _ (put_at _ hc))⟩, ?_, fun h3 m5 s5 => ?_⟩
      · have h0 := @evo_own _ _ _ _ _ _ 0 _ true hQ n5
        have h1 := @evo_own _ _ _ _ _ _ 1 _ true hQ n5
        first | (simp [go_sem, *]; done) | (simp [go_sem, *]; first | exact h0 | exact h1 | exact ⟨h0, h1⟩) | (simp [go_sem, storedEv, *]; done) | (simp [go_sem, storedEv, *]; first | exact h0 | exact h1 | exact ⟨h0, h1⟩)
      clear kQ KQ hc hc0 hc1 hc2 hc3
      clear hQ wQ
      try walk_nrm
      repeat (first | with_reducible refine GO.seq ?_ | with_reducible refine GO.skip ?_ | with_reducible refine GO.region (by simp only [List.size_toArray, List.length_cons, List.length_nil, Nat.reduceAdd, Nat.zero_add, List.range, List.range.loop]; exact rfl) ?_ | with_reducible refine GO.regionEnd ?_ | with_reducible refine GO.block ?_ | with_reducible refine GO.inBlock ?_ | with_reducible refine GO.label ?_ | with_reducible refine GO.ret ?_ | with_reducible refine GO.fin ?_ | with_reducible refine GO.exit (by with_unfolding_all rfl) ?_)
      refine GO.opq rfl (by rfl) (by first | assumption | decide) (fun wQ hQ KQ kQ => ?_)
      have hc := (hQ.old _ lc nc).trans ec
      have hc0 := gcell_of (o := 0) hc
      have hc1 := hc0
      have hc2 := gwarm_of (o := 0) hc
      have hc3 := hc2
      clear hc
      simp only [List.getElem?_toArray, List.getElem?_cons_succ, List.getElem?_cons_zero, List.getElem?_nil] at hc0 hc1
      go_simp
      refine kQ _ _ ⟨rfl, (by have h0 := @evo_old _ _ _ _ _ _ 0 hQ lc; first | (simp [go_sem, *]; done) | (simp [go_sem, *]; exact h0)), ?_⟩
      clear kQ KQ
      try clear hc0 hc1 hc2 hc3
      clear hQ wQ
      try walk_nrm
      refine GO.opq rfl (by rfl) (by first | assumption | decide) (fun wQ hQ KQ kQ => ?_)
      have hc := hQ.own _ _ m5
      have hc0 := gcell_of (o := 0) hc
      have hc1 := gcell_of (o := 1) hc
      have hc2 := gwarm_of (o := 0) hc
      have hc3 := gwarm_of (o := 1) hc
      clear hc
      simp only [List.getElem?_toArray, List.getElem?_cons_succ, List.getElem?_cons_zero, List.getElem?_nil] at hc0 hc1
      go_simp
      refine kQ _ _ ⟨rfl, (by have h0 := @evo_own _ _ _ _ _ _ 0 _ false hQ m5; have h1 := @evo_own _ _ _ _ _ _ 1 _ false hQ m5; first | (simp [go_sem, *]; done) | (simp [go_sem, *]; first | exact h0 | exact h1 | exact ⟨h0, h1⟩)), ?_⟩
      clear kQ KQ
      try clear hc0 hc1 hc2 hc3
      clear hQ wQ
      try walk_nrm
      refine GO.send (z' := .tuple #[]) rfl (by rfl) (by decide) (fun w hS => ?_) (fun w hS => sends_of ?_ hS)
      · constructor
        · simp [execOp, scase, Act.eval]
        · simp [go_sem, execOp, Act.eval]
      clear hS w
      walk_nrm
      repeat (first | with_reducible refine GO.seq ?_ | with_reducible refine GO.skip ?_ | with_reducible refine GO.region (by simp only [List.size_toArray, List.length_cons, List.length_nil, Nat.reduceAdd, Nat.zero_add, List.range, List.range.loop]; exact rfl) ?_ | with_reducible refine GO.regionEnd ?_ | with_reducible refine GO.block ?_ | with_reducible refine GO.inBlock ?_ | with_reducible refine GO.label ?_ | with_reducible refine GO.ret ?_ | with_reducible refine GO.fin ?_ | with_reducible refine GO.exit (by with_unfolding_all rfl) ?_)
      refine GO.opq rfl (by rfl) (by first | assumption | decide) (fun wQ hQ KQ kQ => ?_)
      go_simp
      refine kQ _ _ ⟨rfl, (by first | (simp [go_sem, events_max2]; done) | (intro e he; exact absurd (show e ∈ (#[] : Array Event) from he) (by simp))), ?_⟩
      clear kQ KQ
      try clear hc0 hc1 hc2 hc3
      clear hQ wQ
      try walk_nrm
      refine GO.opq rfl (by rfl) (by first | assumption | decide) (fun wQ hQ KQ kQ => ?_)
      have hc := hQ.own _ _ m5
      have hc0 := gcell_of (o := 0) hc
      have hc1 := gcell_of (o := 1) hc
      have hc2 := gwarm_of (o := 0) hc
      have hc3 := gwarm_of (o := 1) hc
      clear hc
      simp only [List.getElem?_toArray, List.getElem?_cons_succ, List.getElem?_cons_zero, List.getElem?_nil] at hc0 hc1
      go_simp
      refine kQ _ _ ⟨rfl, (by have h0 := @evo_own _ _ _ _ _ _ 0 _ false hQ m5; have h1 := @evo_own _ _ _ _ _ _ 1 _ false hQ m5; first | (simp [go_sem, *]; done) | (simp [go_sem, *]; first | exact h0 | exact h1 | exact ⟨h0, h1⟩)), ?_⟩
      clear kQ KQ
      try clear hc0 hc1 hc2 hc3
      clear hQ wQ
      try walk_nrm
      refine GO.opq rfl (by rfl) (by first | assumption | decide) (fun wQ hQ KQ kQ => ?_)
      go_simp
      refine kQ _ _ ⟨rfl, (by first | (simp [go_sem, events_max2]; done) | (intro e he; exact absurd (show e ∈ (#[] : Array Event) from he) (by simp))), ?_⟩
      clear kQ KQ
      try clear hc0 hc1 hc2 hc3
      clear hQ wQ
      try walk_nrm
      repeat (first | with_reducible refine GO.seq ?_ | with_reducible refine GO.skip ?_ | with_reducible refine GO.region (by simp only [List.size_toArray, List.length_cons, List.length_nil, Nat.reduceAdd, Nat.zero_add, List.range, List.range.loop]; exact rfl) ?_ | with_reducible refine GO.regionEnd ?_ | with_reducible refine GO.block ?_ | with_reducible refine GO.inBlock ?_ | with_reducible refine GO.label ?_ | with_reducible refine GO.ret ?_ | with_reducible refine GO.fin ?_ | with_reducible refine GO.exit (by with_unfolding_all rfl) ?_)
      have w1 : IntKind.i64.wrap ((j : Int) + 1) = (j : Int) + 1 := wrG _ (by omega)
      refine GO.opq rfl (by rfl) (by first | assumption | decide) (fun wQ hQ KQ kQ => ?_)
      go_simp
      refine kQ _ _ ⟨rfl, (by first | (simp [go_sem, events_max2]; done) | (intro e he; exact absurd (show e ∈ (#[] : Array Event) from he) (by simp))), ?_⟩
      clear kQ KQ
      try clear hc0 hc1 hc2 hc3
      clear hQ wQ
      try walk_nrm
      refine GO.opq rfl (by rfl) (by first | assumption | decide) (fun wQ hQ KQ kQ => ?_)
      go_simp
      refine kQ _ _ ⟨rfl, (by first | (simp [go_sem, events_max2]; done) | (intro e he; exact absurd (show e ∈ (#[] : Array Event) from he) (by simp))), ?_⟩
      clear kQ KQ
      try clear hc0 hc1 hc2 hc3
      clear hQ wQ
      try walk_nrm
      repeat (first | with_reducible refine GO.seq ?_ | with_reducible refine GO.skip ?_ | with_reducible refine GO.region (by simp only [List.size_toArray, List.length_cons, List.length_nil, Nat.reduceAdd, Nat.zero_add, List.range, List.range.loop]; exact rfl) ?_ | with_reducible refine GO.regionEnd ?_ | with_reducible refine GO.block ?_ | with_reducible refine GO.inBlock ?_ | with_reducible refine GO.label ?_ | with_reducible refine GO.ret ?_ | with_reducible refine GO.fin ?_ | with_reducible refine GO.exit (by with_unfolding_all rfl) ?_)
      rw [show tvs Q R (j + 1) m = tvs Q R (N - m) m by rw [ej2]]
      exact hrec.out m _ _ (by omega) ⟨j + 1, _, _, _, _, _, _, _, _, _, _, _, _, by omega, rfl⟩
    · have hjN : j = N := by have := of_decide_eq_false hc; omega
      obtain rfl : n = 0 := by omega
      simp only [Nat.sub_zero, tvs, StopOf]
      repeat (first | with_reducible refine GO.seq ?_ | with_reducible refine GO.skip ?_ | with_reducible refine GO.region (by simp only [List.size_toArray, List.length_cons, List.length_nil, Nat.reduceAdd, Nat.zero_add, List.range, List.range.loop]; exact rfl) ?_ | with_reducible refine GO.regionEnd ?_ | with_reducible refine GO.block ?_ | with_reducible refine GO.inBlock ?_ | with_reducible refine GO.label ?_ | with_reducible refine GO.ret ?_ | with_reducible refine GO.fin ?_ | with_reducible refine GO.exit (by with_unfolding_all rfl) ?_)
      refine GO.opq rfl (by rfl) (by first | assumption | decide) (fun wQ hQ KQ kQ => ?_)
      have hc := (hQ.old _ lc nc).trans ec
      have hc0 := gcell_of (o := 0) hc
      have hc1 := hc0
      have hc2 := gwarm_of (o := 0) hc
      have hc3 := hc2
      clear hc
      simp only [List.getElem?_toArray, List.getElem?_cons_succ, List.getElem?_cons_zero, List.getElem?_nil] at hc0 hc1
      go_simp
      refine kQ _ _ ⟨rfl, (by have h0 := @evo_old _ _ _ _ _ _ 0 hQ lc; first | (simp [go_sem, *]; done) | (simp [go_sem, *]; exact h0)), ?_⟩
      clear kQ KQ
      try clear hc0 hc1 hc2 hc3
      clear hQ wQ
      try walk_nrm
      exact GO.stop fun w hS => ⟨rfl, by simp [mayWake, G, Frame.at], _, 4, fun s r tm hc => stepG_close rfl (by rfl) (by decide) rfl rfl hc loud_o, quits_o _ _⟩
end
end Go.Proofs.Ytlbkhiphnllfpac
namespace Go.Proofs.Ytlbkhiphnllfpac
open Go.Conc Go.RowKit
set_option linter.unusedVariables false
set_option maxRecDepth 100000
set_option linter.unusedSimpArgs false
/-- What a growing append lists: reads of the two rows; or that room was asked for. -/
theorem events_grow {P : Program} (w : World) (t ty e : TypeId) (i : TypeInfo) (z : Value) (ht : P.underlying t = some (.slice e)) (hi : P.info? e = some i) (hz : i.zero = some z)
    (b : Addr) (n cap : Nat) (olds : List Value) (hlo : olds.length = n * i.size) (holds : ∀ j v, olds[j]? = some v → w.cell? (b.add j) = some v)
    (a : Addr) (m c : Nat) (news : List Value) (hl : news.length = m * i.size) (hnews : ∀ j v, news[j]? = some v → w.cell? (a.add j) = some v)
    (hg : cap < n + m) (h63 : n + m ≤ 9223372036854775807) (hfit : Builtin.nextslicecap (n + m) cap * i.bytes ≤ 281474976710656) :
    ∀ ev ∈ (Builtin.append_ #[t, t] ty #[.slice (some b) n cap, .slice (some a) m c]).events P w #[], ev.readsIn (fun g => g = a.block ∨ g = b.block) ∨ ev = ⟨.mark .noRoom, false, true⟩ := by
  have h1 : ¬ n + m ≤ cap := by omega
  have h2 : ¬ (9223372036854775807 < ((n : Int) + (m : Int))) := by omega
  have h3 : ¬ (281474976710656 < Builtin.nextslicecap (n + m) cap * i.bytes) := by omega
  have fa := run_firstCells_some (P := P) w.drew i.size m a m c news hl (by simpa using hnews)
  have fb := run_firstCells_some (P := P) w.drew i.size n b n cap olds hlo (by simpa using holds)
  intro ev hev
  simp [Builtin.append_, run_underlying ht, sizeOf, typeInfo, zeroValue, hi, hz, Builtin.lenOf, h1, h2, h3, Question.forced, fa, fb, newRow] at hev
  rcases events_firstCells_in (P := P) (fun g => g = a.block ∨ g = b.block) _ _ _ _ _ (fun a' l' c' e => by
    cases e
    exact ⟨.inl rfl, fun j hj => isSome_of_list (w := w.drew) (by simpa using hnews) (by rw [hl]; exact hj)⟩) ev hev with h | h
  · rcases events_firstCells_in (P := P) (fun g => g = a.block ∨ g = b.block) _ _ _ _ _ (fun a' l' c' e => by
      cases e
      exact ⟨.inr rfl, fun j hj => isSome_of_list (w := w.drew) (by simpa using holds) (by rw [hlo]; exact hj)⟩) ev h with h | h
    · rcases Conc.events_askRoom _ _ _ ev h with h | ⟨m, e, hm⟩
      · simp at h
      · right; rw [e, show m = .noRoom from hm]
    · exact .inl h
  · exact .inl h
/-- The slice v holds the turns l: in a row of its own; or it has no room, in a row that was there. -/
def RowS (w0 : World) (c L B : Nat) (h : Hl) (v : Value) (l : List (Int × Int)) : Prop :=
  ∃ g cap cur, v = .slice (some ⟨g, 0, none⟩) l.length cap ∧ l.length ≤ cap ∧ cap ≤ maxLen ∧ cur.size = cap * 2 ∧ cur.toList.take (l.length * 2) = tq l ∧
    (h g = some (.cells cur 39 (0, 0)) ∨ (cap = 0 ∧ B ≤ g ∧ g < L ∧ g ≠ c ∧ w0.heap[g]? = some (.cells cur 39 (0, 0))))
section
variable {main : Bool} {c L B : Nat} {w0 : World} {Stop : (Nat → Prop) → Goroutine → World → Prop} {h : Hl} {b : Frame} {a : Act} {k : List Item} {cs : List Frame} {ops : Array Oper} {i : Nat} {rest : List Nat} {o : Oper}
theorem GO.app {s x : Operand} {v : Value} {l : List (Int × Int)} {r : Nat} {q R : Int} (ho : ops[i]? = some o) (hw : Region.wanted o (yielded ops a.tmps) = true) (hk : b.kind ≠ .early)
    (hop : o.op = .call { callee := .builtin .append, args := #[s, x], argTypes := #[35, 35] }) (hs : a.eval s = v) (hx : a.eval x = .slice (some ⟨r, 0, none⟩) 1 1) (hrow : RowS w0 c L B h v l) (hr : h r = some (.cells #[.int .i64 q, .int .i64 R] 39)) (hlen : l.length ≤ 1000)
    (hnext : ∀ h' v', RowS w0 c L B h' v' (l ++ [(q, R)]) → GO Try.prog main c L w0 Stop h' (G (b.at (a.put o.dst v') (.inRegion ops rest :: k)) cs)) : GO Try.prog main c L w0 Stop h (G (b.at a (.inRegion ops (i :: rest) :: k)) cs) := by
  obtain ⟨i0, hi, hz0, hz1, hz2⟩ := info_parts infoTurn
  obtain ⟨g, cap, cur, rfl, hlc, hcm, hcs, htk, hgg⟩ := hrow
  refine GO.step rfl fun w hS => goes_oper_k ho hw hk fun K hK => ?_
  have hcr := hS.own _ _ hr
  have hnews : ∀ j u, ([.int .i64 q, .int .i64 R] : List Value)[j]? = some u → w.cell? ((⟨r, 0, none⟩ : Addr).add j) = some u := fun j u hu => by
    rw [Addr.add_lit, gcell_of hcr, Nat.zero_add]
    simpa using hu
  have hgw : w.heap[g]? = some (.cells cur 39 (0, 0)) := by
    rcases hgg with hgg | ⟨_, _, h1, h2, h3⟩
    · exact hS.own _ _ hgg
    · exact (hS.old g h1 h2).trans h3
  have htl : (tq l).length = l.length * 2 := tq_length l
  by_cases hroom : l.length + 1 ≤ cap
  · have hgo : h g = some (.cells cur 39 (0, 0)) := hgg.resolve_right fun h => by omega
    have hrun := run_append_room (P := Try.prog) w 35 o.type 39 i0 Try.underlying35 hi g l.length cap cur hgw ⟨r, 0, none⟩ 1 1 [.int .i64 q, .int .i64 R] (by rw [hz1]; rfl) hnews (by simp [Value.oneCell']) hroom (by rw [hz1, hcs]; simp; omega)
    rw [hz1] at hrun
    have hown : w.ownsRow 0 39 2 (.slice (some ⟨g, 0, none⟩) l.length cap) l.length (tq l) := ⟨htl, .inr ⟨g, cap, cur, rfl, Nat.zero_le _, hgw, hlc, hcm, hcs, htk⟩⟩
    have hev := events_append_where (P := Try.prog) w 0 35 o.type 39 i0 _ 2 16 Try.underlying35 hi hz0 hz1 hz2 _ _ _ hown ⟨r, 0, none⟩ 1 1 [.int .i64 q, .int .i64 R] rfl hnews (by simp [Value.oneCell']) (by unfold maxLen; omega) (by omega)
    refine uponK_append s x 35 hop hs hx hrun (hK _ _ ?_)
    obtain ⟨cu, hcu⟩ : ∃ cu, (cur.toList.take (l.length * 2) ++ [Value.int .i64 q, Value.int .i64 R] ++ cur.toList.drop (l.length * 2 + [Value.int .i64 q, Value.int .i64 R].length)).toArray = cu := ⟨_, rfl⟩
    rw [hcu]
    obtain ⟨hS', hm⟩ := hS.set (w' := w.setRow g cu) (o := .cells cu 39 (0, 0)) (es := listed Try.prog b.fn a o w) hgo rfl rfl rfl (by simp [World.setRow]) (fun k hk => by simp [World.setRow, Array.getElem?_modify, Ne.symm hk]) (by simp [World.setRow, Array.getElem?_modify, hgw]) (fun e he => by
      have he' := mem_listed he
      rw [events_append_op s x 35 hop hs hx] at he'
      rcases hev e he' with ⟨ad, h1, h2⟩ | ⟨m, h1, h2⟩
      · refine .inl ⟨ad, e.write, e.sync, by rw [← h1], ?_⟩
        rcases h2 with ⟨_, h2⟩ | h2
        · rw [h2]; exact ⟨hS.lt hr, .inl ⟨_, hr⟩⟩
        · obtain rfl : ad.block = g := by simpa [Value.ownBlock] using h2
          exact ⟨hS.lt hgo, .inl ⟨_, hgo⟩⟩
      · exact .inr (by rw [h1, show m = .noRoom from h2]))
    refine ⟨_, hm, hS', hnext _ _ ⟨g, cap, cu, by simp, by simpa using hroom, hcm, ?_, ?_, .inl (Hl.up_same _ _ _)⟩⟩
    · rw [← hcu]; simp [hcs]; omega
    · rw [← hcu, tq_append, ← htk]
      have e1 : (cur.toList.take (l.length * 2)).length = l.length * 2 := by rw [htk]; exact htl
      simp only [List.length_append, List.length_cons, List.length_nil, Nat.zero_add]
      rw [List.take_append_of_le_length (by simp only [List.length_append, e1, List.length_cons, List.length_nil]; omega), List.take_of_length_le (by simp only [List.length_append, e1, List.length_cons, List.length_nil]; omega)]
      rfl
  · have holds : ∀ j u, (tq l)[j]? = some u → w.cell? ((⟨g, 0, none⟩ : Addr).add j) = some u := World.ownsRow.cells (w := w) (base := 0) (e := 39) (size := 2) (v := .slice (some ⟨g, 0, none⟩) l.length cap) (n := l.length) ⟨htl, .inr ⟨g, cap, cur, rfl, Nat.zero_le _, hgw, hlc, hcm, hcs, htk⟩⟩ rfl
    have hb : (l.length + 1) * i0.bytes ≤ 140737488355328 := by rw [hz2]; omega
    have hfit : Builtin.nextslicecap (l.length + 1) cap * i0.bytes ≤ 281474976710656 := by have := growslice_fits (need := l.length + 1) (old := cap) (bytes := i0.bytes) (by omega) hb; omega
    have hrun := run_append_grow (P := Try.prog) w 35 o.type 39 i0 _ Try.underlying35 hi hz0 ⟨g, 0, none⟩ l.length cap (tq l) (by rw [hz1]; exact htl) holds ⟨r, 0, none⟩ 1 1 [.int .i64 q, .int .i64 R] (by rw [hz1]; rfl) hnews (by omega) (by omega) hfit
    have hev := events_grow (P := Try.prog) w 35 o.type 39 i0 _ Try.underlying35 hi hz0 ⟨g, 0, none⟩ l.length cap (tq l) (by rw [hz1]; exact htl) holds ⟨r, 0, none⟩ 1 1 [.int .i64 q, .int .i64 R] (by rw [hz1]; rfl) hnews (by omega) (by omega) hfit
    refine uponK_append s x 35 hop hs hx hrun (hK _ _ ?_)
    have hge := grownCap_ge w (l.length + 1) cap 39
    have hle := grownCap_le_maxLen w (l.length + 1) cap 39 (by unfold maxLen; omega)
    obtain ⟨C, hC⟩ : ∃ C, grownCap w (l.length + 1) cap 39 = C := ⟨_, rfl⟩
    rw [hC] at hge hle ⊢
    obtain ⟨cu, hcu⟩ : ∃ cu, (tq l).toArray ++ [Value.int .i64 q, .int .i64 R].toArray ++ Builtin.zeroCells (Value.agg #[.int .i64 0, .int .i64 0]).cells (C - (l.length + 1)) = cu := ⟨_, rfl⟩
    rw [hcu]
    have hSd : Sat w0 c L h w.drew := ⟨hS.old, hS.own, hS.far, hS.size, hS.os, hS.output⟩
    obtain ⟨hS', hm⟩ := hSd.alloc (.cells cu 39)
    refine ⟨_, ⟨hm.tape, hm.os, hm.output, hm.size, hm.rest, hm.sub, hm.new, fun e he => ?_⟩, hS', hnext _ _ ⟨w.heap.size, C, cu, by simp, by simpa using hge, hle, ?_, ?_, .inl (Hl.up_same _ _ _)⟩⟩
    · have he' := mem_listed he
      rw [events_append_op s x 35 hop hs hx] at he'
      rcases hev e he' with ⟨ad, h1, h2, h3⟩ | h1
      · refine .inl ⟨ad, e.write, e.sync, by rw [← h1], ?_⟩
        rcases h3 with h3 | h3
        · have h3' : ad.block = r := h3
          rw [h3']; exact ⟨Nat.lt_of_lt_of_le (hS.lt hr) hm.size, .inl (hm.sub _ ⟨_, hr⟩)⟩
        · have h3' : ad.block = g := h3
          rw [h3']
          rcases hgg with hgg | ⟨_, _, h4, h5, h6⟩
          · exact ⟨Nat.lt_of_lt_of_le (hS.lt hgg) hm.size, .inl (hm.sub _ ⟨_, hgg⟩)⟩
          · exact ⟨Nat.lt_of_lt_of_le (Nat.lt_of_lt_of_le h4 hS.size) hm.size, .inr ⟨h2, h4⟩⟩
      · exact .inr h1
    · rw [← hcu]; simp [size_zeroCells, htl, Value.cells]; omega
    · rw [← hcu, tq_append]
      simp only [List.length_append, List.length_cons, List.length_nil, Nat.zero_add, Array.toList_append, List.toList_toArray]
      rw [List.take_append_of_le_length (by simp only [List.length_append, htl, List.length_cons, List.length_nil]; omega), List.take_of_length_le (by simp only [List.length_append, htl, List.length_cons, List.length_nil]; omega)]
      rfl
theorem RowS.has {v : Value} {l : List (Int × Int)} {w w' : World} (hrow : RowS w0 c L B h v l) (hS : Sat w0 c L h w) (hBL : B ≤ L) (hw : w'.heap = w.heap) : HasT w' B v l := by
  obtain ⟨g, cap, cur, rfl, hlc, hcm, hcs, htk, hgg⟩ := hrow
  rcases hgg with hgg | ⟨_, h0, h1, h2, h3⟩
  · exact ⟨tq_length l, .inr ⟨g, cap, cur, rfl, Nat.le_trans hBL (hS.far _ _ hgg), by rw [hw]; exact hS.own _ _ hgg, hlc, hcm, hcs, htk⟩⟩
  · exact ⟨tq_length l, .inr ⟨g, cap, cur, rfl, h0, by rw [hw]; exact (hS.old g h1 h2).trans h3, hlc, hcm, hcs, htk⟩⟩
end
end Go.Proofs.Ytlbkhiphnllfpac
namespace Go.Proofs.Ytlbkhiphnllfpac
open Go.Conc
set_option linter.unusedVariables false
set_option maxRecDepth 100000
theorem ready_mem {md : Region.Mode} {ops : Array Oper} {listed : Array Bool} {i : Nat} (h : i ∈ Region.ready md ops listed) : i < ops.size ∧ listed.getD i true = false ∧ ((ops[i]?).map (·.after.all fun e => !Region.binds md e || listed.getD e.on false)).getD false = true := by
  unfold Region.ready at h
  rw [List.mem_filter, Bool.and_eq_true] at h
  exact ⟨List.mem_range.1 h.1, by simpa using h.2.1, h.2.2⟩
theorem ready_none {md : Region.Mode} {ops : Array Oper} {listed : Array Bool} (h : Region.ready md ops listed = []) (i : Nat) (hi : i < ops.size) (hd : ((ops[i]?).map (·.after.all fun e => !Region.binds md e || listed.getD e.on false)).getD false = true) : listed.getD i true = true := by
  cases hl : listed.getD i true with
  | true => rfl
  | false =>
    have : i ∈ Region.ready md ops listed := by
      unfold Region.ready
      rw [List.mem_filter, Bool.and_eq_true]
      exact ⟨List.mem_range.2 hi, by rw [hl]; rfl, hd⟩
    rw [h] at this
    cases this
theorem listed_less {listed : Array Bool} {i : Nat} (h : listed.getD i true = false) : (listed.setIfInBounds i true).toList.count false < listed.toList.count false := by
  obtain ⟨l⟩ := listed
  have hi : i < l.length := by
    rcases Nat.lt_or_ge i l.length with g | g
    · exact g
    · simp [Array.getD, Nat.not_lt.2 g] at h
  have hg : l[i] = false := by simpa [Array.getD, hi] using h
  have hp : 0 < l.count false := List.count_pos_iff.2 (hg ▸ List.getElem_mem hi)
  simp only [List.setIfInBounds_toArray]
  rw [List.count_set hi]
  simp [hg]
  omega
section
variable {P : Program} {main : Bool} {c L : Nat} {w0 : World} {Stop : (Nat → Prop) → Goroutine → World → Prop} {h : Hl} {b : Frame} {a : Act} {k : List Item} {cs : List Frame} {ops : Array Oper}
theorem GO.anyOrder {Inv : Array Bool → Hl → Act → Prop}
    (step : ∀ listed h a i rest, Inv listed h a → i ∈ Region.ready .any ops listed → (∀ h' a', Inv (listed.setIfInBounds i true) h' a' → GO P main c L w0 Stop h' (G (b.at a' (.inRegion ops rest :: k)) cs)) → GO P main c L w0 Stop h (G (b.at a (.inRegion ops (i :: rest) :: k)) cs))
    (done : ∀ listed h a, Inv listed h a → Region.ready .any ops listed = [] → GO P main c L w0 Stop h (G (b.at a k) cs)) :
    ∀ (fuel t : Nat) (listed : Array Bool) (h : Hl) (a : Act), listed.toList.count false ≤ fuel → Inv listed h a → GO P main c L w0 Stop h (G (b.at a (.inRegion ops (Region.linearise.go .any ops fuel t listed []) :: k)) cs) := by
  intro fuel
  induction fuel with
  | zero =>
    intro t listed h a hc hI
    refine GO.regionEnd (done listed h a hI ?_)
    cases hr : Region.ready .any ops listed with
    | nil => rfl
    | cons i r =>
      have hi := ready_mem (md := .any) (ops := ops) (listed := listed) (i := i) (by rw [hr]; exact List.mem_cons_self)
      have := listed_less hi.2.1
      omega
  | succ fuel ih =>
    intro t listed h a hc hI
    simp only [Region.linearise.go]
    change GO P main c L w0 Stop h (G (b.at a (.inRegion ops (match (Region.ready .any ops listed)[t % (Region.ready .any ops listed).length]? with
      | some i => Region.linearise.go .any ops fuel (t / (Region.ready .any ops listed).length) (listed.setIfInBounds i true) [i]
      | none => [].reverse) :: k)) cs)
    cases hi : (Region.ready .any ops listed)[t % (Region.ready .any ops listed).length]? with
    | none =>
      have hnil : Region.ready .any ops listed = [] := by
        cases hr : Region.ready .any ops listed with
        | nil => rfl
        | cons x xs =>
          rw [hr] at hi
          have hlt : t % (x :: xs).length < (x :: xs).length := Nat.mod_lt _ (by simp)
          simp at hi
          simp at hlt
          omega
      exact GO.regionEnd (done listed h a hI hnil)
    | some i =>
      simp only []
      rw [linearise_go_acc, List.reverse_singleton, List.singleton_append]
      have hm := List.mem_of_getElem? hi
      have hl := listed_less (ready_mem hm).2.1
      exact step listed h a i _ hI hm fun h' a' hI' => ih _ _ _ _ (by omega) hI'
/-- THE REGION. -/
theorem GO.drawn {id : Nat} {Inv : Array Bool → Hl → Act → Prop} (hm : P.follows .mixedOrders = true) (start : Inv (Array.replicate ops.size false) h a)
    (step : ∀ listed h a i rest, Inv listed h a → i ∈ Region.ready .any ops listed → (∀ h' a', Inv (listed.setIfInBounds i true) h' a' → GO P main c L w0 Stop h' (G (b.at a' (.inRegion ops rest :: k)) cs)) → GO P main c L w0 Stop h (G (b.at a (.inRegion ops (i :: rest) :: k)) cs))
    (done : ∀ listed h a, Inv listed h a → Region.ready .any ops listed = [] → GO P main c L w0 Stop h (G (b.at a k) cs)) :
    GO P main c L w0 Stop h (G (b.at a (.code (.region id ops true) :: k)) cs) :=
  GO.step rfl fun w hS => by
    rw [stepG_region_draw]
    refine ⟨h, ⟨rfl, rfl, rfl, Nat.le_refl _, fun _ _ _ => rfl, fun _ k => k, fun _ k => .inl k, by simp⟩, ⟨hS.old, hS.own, hS.far, hS.size, hS.os, hS.output⟩, ?_⟩
    simp only [Region.schedule, hm, Bool.true_or, if_true]
    exact GO.anyOrder step done _ _ _ _ _ (by simp) start
end
end Go.Proofs.Ytlbkhiphnllfpac
namespace Go.Proofs.Ytlbkhiphnllfpac
open Go.Conc Go.RowKit
set_option linter.unusedVariables false
set_option maxRecDepth 100000
set_option linter.unusedSimpArgs false
section
variable {main : Bool} {c L : Nat} {w0 : World} {Stop : (Nat → Prop) → Goroutine → World → Prop} {h : Hl}
theorem res_p {w : World} {r : Nat} {q R : Int} {xs : Array Value} (hS : Sat w0 c L h w) (hr : h r = some (.cells #[.int .i64 q, .int .i64 R] 39)) (hx : xs[4]? = some (.pointer (some ⟨r, 0, none⟩))) :
    (results Try.f56 xs).run Try.prog w = .ok (.agg #[.int .i64 q, .int .i64 R]) w ∧ ∀ e ∈ (results Try.f56 xs).events Try.prog w #[], EvO L h.dom w.heap.size e := by
  have hc := hS.own _ _ hr
  have hc0 := gcell_of (o := 0) hc
  have hc1 := gcell_of (o := 1) hc
  simp only [List.getElem?_toArray, List.getElem?_cons_succ, List.getElem?_cons_zero, List.getElem?_nil] at hc0 hc1
  have h0 := @evo_own _ _ _ _ _ _ 0 _ false hS hr
  have h1 := @evo_own _ _ _ _ _ _ 1 _ false hS hr
  have e : (Try.f56).results = #[.cell 4 39] := rfl
  unfold results
  rw [e]
  clear hc hr hS
  constructor
  · simp [go_sem, *]
  · simp [go_sem, *]
    first | exact h0 | exact h1 | exact ⟨h0, h1⟩
set_option maxRecDepth 100000 in
set_option maxHeartbeats 8000000 in
theorem plain_o (d g y : Int) (hd : 1 ≤ d ∧ d ≤ 100000000) (hy : 0 ≤ y ∧ y < d) {b₀ : Frame} {a₀ : Act} {ops : Array Oper} {i : Nat} {rest : List Nat} {k : List Item} {cs : List Frame} {fn : Func} {cd : Code} (hf : Try.prog.funcs[56]? = some fn) (hb : fn.body = some cd)
    (hnext : ∀ h' : Hl, h.le h' → GO Try.prog main c L w0 Stop h' (G (b₀.at (a₀.put ((ops[i]?).bind (·.dst)) (.agg #[.int .i64 (10 * y / d), .int .i64 (10 * y % d)])) (.inRegion ops rest :: k)) cs)) :
    GO Try.prog main c L w0 Stop h (G ((base 56).at { tmps := #[.agg #[.int .i64 d, .int .i64 g], .int .i64 y] ++ Array.replicate (fn.ntmps - 2) undef, defers := [] } [.code cd]) (b₀.at a₀ (.inRegion ops (i :: rest) :: k) :: cs)) := by
  have e := hf.symm.trans Try.func56
  cases e
  cases hb
  simp only [Try.ntmps56, List.size_toArray, List.length_cons, List.length_nil, Nat.reduceAdd, Nat.reduceSub, Array.replicate_succ, Array.replicate_zero, List.push_toArray, List.append_toArray, List.nil_append, List.cons_append]
  replace hnext := hid hnext
  have e1 : IntKind.i64.wrap (10 * y) = 10 * y := wrG _ (by omega)
  have e2 : Int.tdiv (10 * y) d = 10 * y / d := Int.tdiv_eq_ediv_of_nonneg (by omega)
  have e3 : Int.tmod (10 * y) d = 10 * y % d := Int.tmod_eq_emod_of_nonneg (by omega)
  have e4 : 0 ≤ 10 * y / d := Int.ediv_nonneg (by omega) (by omega)
  have e5 : 10 * y / d ≤ 10 * y := Int.ediv_le_self _ (by omega)
  have e6 : 0 ≤ 10 * y % d := Int.emod_nonneg _ (by omega)
  have e7 : 10 * y % d < d := Int.emod_lt_of_pos _ (by omega)
  have e8 : IntKind.i64.wrap (10 * y / d) = 10 * y / d := wrG _ (by omega)
  have e9 : IntKind.i64.wrap (10 * y % d) = 10 * y % d := wrG _ (by omega)
  have ed : ¬ d = 0 := by omega
  repeat (first | with_reducible refine GO.seq ?_ | with_reducible refine GO.skip ?_ | with_reducible refine GO.region (by simp only [List.size_toArray, List.length_cons, List.length_nil, Nat.reduceAdd, Nat.zero_add, List.range, List.range.loop]; exact rfl) ?_ | with_reducible refine GO.regionEnd ?_ | with_reducible refine GO.block ?_ | with_reducible refine GO.inBlock ?_ | with_reducible refine GO.label ?_ | with_reducible refine GO.ret ?_ | with_reducible refine GO.fin ?_ | with_reducible refine GO.exit (by with_unfolding_all rfl) ?_)
  refine GO.opn rfl (by rfl) (by first | assumption | decide) (fun wQ hQ KQ kQ => ?_)
  go_simp
  refine kQ _ _ ⟨_, rfl, by simp [go_sem, events_max2], fun h1 n2 f2 L2 l2 => ?_⟩
  clear kQ KQ hQ
  try walk_nrm
  generalize wQ.heap.size = r2 at *
  clear wQ
  refine GO.opn rfl (by rfl) (by first | assumption | decide) (fun wQ hQ KQ kQ => ?_)
  go_simp
  refine kQ _ _ ⟨_, rfl, by simp [go_sem, events_max2], fun h2 n4 f4 L4 l4 => ?_⟩
  clear kQ KQ hQ
  try walk_nrm
  generalize wQ.heap.size = r4 at *
  clear wQ
  have n2' := l4 _ _ n2
  have n4' := n4
  have l := l2.trans l4
  have d24 : r2 ≠ r4 := fun e => by rw [e] at n2'; cases n2'.symm.trans n4
  have fr4 : h r4 = none := by
    cases e : h r4 with
    | none => rfl
    | some b => exact absurd ((l2 _ _ e).symm.trans f4) (by simp)
  clear n2 n4 l2 l4 f2 f4
  repeat (first | with_reducible refine GO.seq ?_ | with_reducible refine GO.skip ?_ | with_reducible refine GO.region (by simp only [List.size_toArray, List.length_cons, List.length_nil, Nat.reduceAdd, Nat.zero_add, List.range, List.range.loop]; exact rfl) ?_ | with_reducible refine GO.regionEnd ?_ | with_reducible refine GO.block ?_ | with_reducible refine GO.inBlock ?_ | with_reducible refine GO.label ?_ | with_reducible refine GO.ret ?_ | with_reducible refine GO.fin ?_ | with_reducible refine GO.exit (by with_unfolding_all rfl) ?_)
  refine GO.drawn (by kernel_rfl) (Inv := fun listed h' a => ∃ (l0 l1 l2 l3 l4 l5 l6 l7 l8 l9 l10 l11 : Bool) (s5 s6 s7 s8 s9 s10 s11 s12 s13 s14 s15 : Value), listed = #[l0, l1, l2, l3, l4, l5, l6, l7, l8, l9, l10, l11] ∧ a = ⟨#[.agg #[.int .i64 d, .int .i64 g], .int .i64 y, .pointer (some ⟨r2, 0, none⟩), undef, .pointer (some ⟨r4, 0, none⟩), s5, s6, s7, s8, s9, s10, s11, s12, s13, s14, s15], []⟩ ∧ Hid ((l0 = true → s5 = .int .i64 y) ∧ (l1 = true → s6 = .int .i64 (10 * y)) ∧ (l2 = true → s7 = .pointer (some ⟨r2, 0, none⟩)) ∧ (l3 = true → s8 = .int .i64 d) ∧ (l4 = true → s9 = .int .i64 (10 * y / d)) ∧ (l5 = true → s10 = .int .i64 y) ∧ (l6 = true → s11 = .int .i64 (10 * y)) ∧ (l7 = true → s12 = .pointer (some ⟨r2, 0, none⟩)) ∧ (l8 = true → s13 = .int .i64 d) ∧ (l9 = true → s14 = .int .i64 (10 * y % d)) ∧ (l10 = true → s15 = .agg #[.int .i64 (10 * y / d), .int .i64 (10 * y % d)])) ∧ ((l11 = false ∧ h' = h2) ∨ (l11 = true ∧ h' r4 = some (.cells #[.int .i64 (10 * y / d), .int .i64 (10 * y % d)] 39) ∧ ∀ k, k ≠ r4 → h' k = h2 k))) ?_ ?_ ?_
  · exact ⟨false, false, false, false, false, false, false, false, false, false, false, false, _, _, _, _, _, _, _, _, _, _, _, rfl, rfl, ⟨(fun h => by cases h), (fun h => by cases h), (fun h => by cases h), (fun h => by cases h), (fun h => by cases h), (fun h => by cases h), (fun h => by cases h), (fun h => by cases h), (fun h => by cases h), (fun h => by cases h), (fun h => by cases h)⟩, .inl ⟨rfl, rfl⟩⟩
  · rintro listed h' a i rest ⟨l0, l1, l2, l3, l4, l5, l6, l7, l8, l9, l10, l11, s5, s6, s7, s8, s9, s10, s11, s12, s13, s14, s15, rfl, rfl, E, eh⟩ hi hnx
    replace hnx := hid hnx
    obtain ⟨hlt, hnl, hdp⟩ := ready_mem hi
    have n2 : h' r2 = some (.cells #[.int .i64 d, .int .i64 g] 69) := by
      rcases eh with ⟨_, rfl⟩ | ⟨_, _, e⟩
      · exact n2'
      · rw [e _ d24]; exact n2'
    clear hi
    have hlt' : i < 12 := hlt
    rcases (show i = 0 ∨ i = 1 ∨ i = 2 ∨ i = 3 ∨ i = 4 ∨ i = 5 ∨ i = 6 ∨ i = 7 ∨ i = 8 ∨ i = 9 ∨ i = 10 ∨ i = 11 by omega) with rfl | rfl | rfl | rfl | rfl | rfl | rfl | rfl | rfl | rfl | rfl | rfl
    · clear hlt hlt'
      clear hdp hnl
      replace eh := hid eh
      refine GO.opq rfl (by rfl) (by first | assumption | decide) (fun wQ hQ KQ kQ => ?_)
      go_simp
      refine kQ _ _ ⟨rfl, (by first | (simp [go_sem, events_max2]; done) | (intro e he; exact absurd (show e ∈ (#[] : Array Event) from he) (by simp))), ?_⟩
      clear kQ KQ
      try clear hc0 hc1 hc2 hc3
      clear hQ wQ
      try walk_nrm
      exact hnx.out _ _ ⟨true, l1, l2, l3, l4, l5, l6, l7, l8, l9, l10, l11, _, _, _, _, _, _, _, _, _, _, _, rfl, rfl, ⟨fun _ => rfl, E.out.2.1, E.out.2.2.1, E.out.2.2.2.1, E.out.2.2.2.2.1, E.out.2.2.2.2.2.1, E.out.2.2.2.2.2.2.1, E.out.2.2.2.2.2.2.2.1, E.out.2.2.2.2.2.2.2.2.1, E.out.2.2.2.2.2.2.2.2.2.1, E.out.2.2.2.2.2.2.2.2.2.2⟩, eh.out⟩
    · clear hlt hlt'
      have dp : l0 = true := by simpa [Region.binds, and_assoc] using hdp
      have q0 := E.out.1 dp
      subst q0
      clear hdp hnl
      replace eh := hid eh
      refine GO.opq rfl (by rfl) (by first | assumption | decide) (fun wQ hQ KQ kQ => ?_)
      go_simp
      refine kQ _ _ ⟨rfl, (by first | (simp [go_sem, events_max2]; done) | (intro e he; exact absurd (show e ∈ (#[] : Array Event) from he) (by simp))), ?_⟩
      clear kQ KQ
      try clear hc0 hc1 hc2 hc3
      clear hQ wQ
      try walk_nrm
      exact hnx.out _ _ ⟨l0, true, l2, l3, l4, l5, l6, l7, l8, l9, l10, l11, _, _, _, _, _, _, _, _, _, _, _, rfl, rfl, ⟨E.out.1, fun _ => rfl, E.out.2.2.1, E.out.2.2.2.1, E.out.2.2.2.2.1, E.out.2.2.2.2.2.1, E.out.2.2.2.2.2.2.1, E.out.2.2.2.2.2.2.2.1, E.out.2.2.2.2.2.2.2.2.1, E.out.2.2.2.2.2.2.2.2.2.1, E.out.2.2.2.2.2.2.2.2.2.2⟩, eh.out⟩
    · clear hlt hlt'
      clear hdp hnl
      replace eh := hid eh
      refine GO.opq rfl (by rfl) (by first | assumption | decide) (fun wQ hQ KQ kQ => ?_)
      go_simp
      refine kQ _ _ ⟨rfl, (by first | (simp [go_sem, events_max2]; done) | (intro e he; exact absurd (show e ∈ (#[] : Array Event) from he) (by simp))), ?_⟩
      clear kQ KQ
      try clear hc0 hc1 hc2 hc3
      clear hQ wQ
      try walk_nrm
      exact hnx.out _ _ ⟨l0, l1, true, l3, l4, l5, l6, l7, l8, l9, l10, l11, _, _, _, _, _, _, _, _, _, _, _, rfl, rfl, ⟨E.out.1, E.out.2.1, fun _ => rfl, E.out.2.2.2.1, E.out.2.2.2.2.1, E.out.2.2.2.2.2.1, E.out.2.2.2.2.2.2.1, E.out.2.2.2.2.2.2.2.1, E.out.2.2.2.2.2.2.2.2.1, E.out.2.2.2.2.2.2.2.2.2.1, E.out.2.2.2.2.2.2.2.2.2.2⟩, eh.out⟩
    · clear hlt hlt'
      have dp : l2 = true := by simpa [Region.binds, and_assoc] using hdp
      have q2 := E.out.2.2.1 dp
      subst q2
      clear hdp hnl
      replace eh := hid eh
      refine GO.opq rfl (by rfl) (by first | assumption | decide) (fun wQ hQ KQ kQ => ?_)
      have hc := hQ.own _ _ n2
      have hc0 := gcell_of (o := 0) hc
      have hc1 := gcell_of (o := 1) hc
      have hc2 := gwarm_of (o := 0) hc
      have hc3 := gwarm_of (o := 1) hc
      clear hc
      simp only [List.getElem?_toArray, List.getElem?_cons_succ, List.getElem?_cons_zero, List.getElem?_nil] at hc0 hc1
      go_simp
      refine kQ _ _ ⟨rfl, (by have h0 := @evo_own _ _ _ _ _ _ 0 _ false hQ n2; have h1 := @evo_own _ _ _ _ _ _ 1 _ false hQ n2; first | (simp [go_sem, *]; done) | (simp [go_sem, *]; first | exact h0 | exact h1 | exact ⟨h0, h1⟩)), ?_⟩
      clear kQ KQ
      try clear hc0 hc1 hc2 hc3
      clear hQ wQ
      try walk_nrm
      exact hnx.out _ _ ⟨l0, l1, l2, true, l4, l5, l6, l7, l8, l9, l10, l11, _, _, _, _, _, _, _, _, _, _, _, rfl, rfl, ⟨E.out.1, E.out.2.1, E.out.2.2.1, fun _ => rfl, E.out.2.2.2.2.1, E.out.2.2.2.2.2.1, E.out.2.2.2.2.2.2.1, E.out.2.2.2.2.2.2.2.1, E.out.2.2.2.2.2.2.2.2.1, E.out.2.2.2.2.2.2.2.2.2.1, E.out.2.2.2.2.2.2.2.2.2.2⟩, eh.out⟩
    · clear hlt hlt'
      have dp : l1 = true ∧ l3 = true := by simpa [Region.binds, and_assoc] using hdp
      have q1 := E.out.2.1 dp.1
      subst q1
      have q3 := E.out.2.2.2.1 dp.2
      subst q3
      clear hdp hnl
      replace eh := hid eh
      refine GO.opq rfl (by rfl) (by first | assumption | decide) (fun wQ hQ KQ kQ => ?_)
      go_simp
      refine kQ _ _ ⟨rfl, (by first | (simp [go_sem, events_max2]; done) | (intro e he; exact absurd (show e ∈ (#[] : Array Event) from he) (by simp))), ?_⟩
      clear kQ KQ
      try clear hc0 hc1 hc2 hc3
      clear hQ wQ
      try walk_nrm
      exact hnx.out _ _ ⟨l0, l1, l2, l3, true, l5, l6, l7, l8, l9, l10, l11, _, _, _, _, _, _, _, _, _, _, _, rfl, rfl, ⟨E.out.1, E.out.2.1, E.out.2.2.1, E.out.2.2.2.1, fun _ => rfl, E.out.2.2.2.2.2.1, E.out.2.2.2.2.2.2.1, E.out.2.2.2.2.2.2.2.1, E.out.2.2.2.2.2.2.2.2.1, E.out.2.2.2.2.2.2.2.2.2.1, E.out.2.2.2.2.2.2.2.2.2.2⟩, eh.out⟩
    · clear hlt hlt'
      clear hdp hnl
      replace eh := hid eh
      refine GO.opq rfl (by rfl) (by first | assumption | decide) (fun wQ hQ KQ kQ => ?_)
      go_simp
      refine kQ _ _ ⟨rfl, (by first | (simp [go_sem, events_max2]; done) | (intro e he; exact absurd (show e ∈ (#[] : Array Event) from he) (by simp))), ?_⟩
      clear kQ KQ
      try clear hc0 hc1 hc2 hc3
      clear hQ wQ
      try walk_nrm
      exact hnx.out _ _ ⟨l0, l1, l2, l3, l4, true, l6, l7, l8, l9, l10, l11, _, _, _, _, _, _, _, _, _, _, _, rfl, rfl, ⟨E.out.1, E.out.2.1, E.out.2.2.1, E.out.2.2.2.1, E.out.2.2.2.2.1, fun _ => rfl, E.out.2.2.2.2.2.2.1, E.out.2.2.2.2.2.2.2.1, E.out.2.2.2.2.2.2.2.2.1, E.out.2.2.2.2.2.2.2.2.2.1, E.out.2.2.2.2.2.2.2.2.2.2⟩, eh.out⟩
    · clear hlt hlt'
      have dp : l5 = true := by simpa [Region.binds, and_assoc] using hdp
      have q5 := E.out.2.2.2.2.2.1 dp
      subst q5
      clear hdp hnl
      replace eh := hid eh
      refine GO.opq rfl (by rfl) (by first | assumption | decide) (fun wQ hQ KQ kQ => ?_)
      go_simp
      refine kQ _ _ ⟨rfl, (by first | (simp [go_sem, events_max2]; done) | (intro e he; exact absurd (show e ∈ (#[] : Array Event) from he) (by simp))), ?_⟩
      clear kQ KQ
      try clear hc0 hc1 hc2 hc3
      clear hQ wQ
      try walk_nrm
      exact hnx.out _ _ ⟨l0, l1, l2, l3, l4, l5, true, l7, l8, l9, l10, l11, _, _, _, _, _, _, _, _, _, _, _, rfl, rfl, ⟨E.out.1, E.out.2.1, E.out.2.2.1, E.out.2.2.2.1, E.out.2.2.2.2.1, E.out.2.2.2.2.2.1, fun _ => rfl, E.out.2.2.2.2.2.2.2.1, E.out.2.2.2.2.2.2.2.2.1, E.out.2.2.2.2.2.2.2.2.2.1, E.out.2.2.2.2.2.2.2.2.2.2⟩, eh.out⟩
    · clear hlt hlt'
      clear hdp hnl
      replace eh := hid eh
      refine GO.opq rfl (by rfl) (by first | assumption | decide) (fun wQ hQ KQ kQ => ?_)
      go_simp
      refine kQ _ _ ⟨rfl, (by first | (simp [go_sem, events_max2]; done) | (intro e he; exact absurd (show e ∈ (#[] : Array Event) from he) (by simp))), ?_⟩
      clear kQ KQ
      try clear hc0 hc1 hc2 hc3
      clear hQ wQ
      try walk_nrm
      exact hnx.out _ _ ⟨l0, l1, l2, l3, l4, l5, l6, true, l8, l9, l10, l11, _, _, _, _, _, _, _, _, _, _, _, rfl, rfl, ⟨E.out.1, E.out.2.1, E.out.2.2.1, E.out.2.2.2.1, E.out.2.2.2.2.1, E.out.2.2.2.2.2.1, E.out.2.2.2.2.2.2.1, fun _ => rfl, E.out.2.2.2.2.2.2.2.2.1, E.out.2.2.2.2.2.2.2.2.2.1, E.out.2.2.2.2.2.2.2.2.2.2⟩, eh.out⟩
    · clear hlt hlt'
      have dp : l7 = true := by simpa [Region.binds, and_assoc] using hdp
      have q7 := E.out.2.2.2.2.2.2.2.1 dp
      subst q7
      clear hdp hnl
      replace eh := hid eh
      refine GO.opq rfl (by rfl) (by first | assumption | decide) (fun wQ hQ KQ kQ => ?_)
      have hc := hQ.own _ _ n2
      have hc0 := gcell_of (o := 0) hc
      have hc1 := gcell_of (o := 1) hc
      have hc2 := gwarm_of (o := 0) hc
      have hc3 := gwarm_of (o := 1) hc
      clear hc
      simp only [List.getElem?_toArray, List.getElem?_cons_succ, List.getElem?_cons_zero, List.getElem?_nil] at hc0 hc1
      go_simp
      refine kQ _ _ ⟨rfl, (by have h0 := @evo_own _ _ _ _ _ _ 0 _ false hQ n2; have h1 := @evo_own _ _ _ _ _ _ 1 _ false hQ n2; first | (simp [go_sem, *]; done) | (simp [go_sem, *]; first | exact h0 | exact h1 | exact ⟨h0, h1⟩)), ?_⟩
      clear kQ KQ
      try clear hc0 hc1 hc2 hc3
      clear hQ wQ
      try walk_nrm
      exact hnx.out _ _ ⟨l0, l1, l2, l3, l4, l5, l6, l7, true, l9, l10, l11, _, _, _, _, _, _, _, _, _, _, _, rfl, rfl, ⟨E.out.1, E.out.2.1, E.out.2.2.1, E.out.2.2.2.1, E.out.2.2.2.2.1, E.out.2.2.2.2.2.1, E.out.2.2.2.2.2.2.1, E.out.2.2.2.2.2.2.2.1, fun _ => rfl, E.out.2.2.2.2.2.2.2.2.2.1, E.out.2.2.2.2.2.2.2.2.2.2⟩, eh.out⟩
    · clear hlt hlt'
      have dp : l6 = true ∧ l8 = true := by simpa [Region.binds, and_assoc] using hdp
      have q6 := E.out.2.2.2.2.2.2.1 dp.1
      subst q6
      have q8 := E.out.2.2.2.2.2.2.2.2.1 dp.2
      subst q8
      clear hdp hnl
      replace eh := hid eh
      refine GO.opq rfl (by rfl) (by first | assumption | decide) (fun wQ hQ KQ kQ => ?_)
      go_simp
      refine kQ _ _ ⟨rfl, (by first | (simp [go_sem, events_max2]; done) | (intro e he; exact absurd (show e ∈ (#[] : Array Event) from he) (by simp))), ?_⟩
      clear kQ KQ
      try clear hc0 hc1 hc2 hc3
      clear hQ wQ
      try walk_nrm
      exact hnx.out _ _ ⟨l0, l1, l2, l3, l4, l5, l6, l7, l8, true, l10, l11, _, _, _, _, _, _, _, _, _, _, _, rfl, rfl, ⟨E.out.1, E.out.2.1, E.out.2.2.1, E.out.2.2.2.1, E.out.2.2.2.2.1, E.out.2.2.2.2.2.1, E.out.2.2.2.2.2.2.1, E.out.2.2.2.2.2.2.2.1, E.out.2.2.2.2.2.2.2.2.1, fun _ => rfl, E.out.2.2.2.2.2.2.2.2.2.2⟩, eh.out⟩
    · clear hlt hlt'
      have dp : l4 = true ∧ l9 = true := by simpa [Region.binds, and_assoc] using hdp
      have q4 := E.out.2.2.2.2.1 dp.1
      subst q4
      have q9 := E.out.2.2.2.2.2.2.2.2.2.1 dp.2
      subst q9
      clear hdp hnl
      replace eh := hid eh
      refine GO.opq rfl (by rfl) (by first | assumption | decide) (fun wQ hQ KQ kQ => ?_)
      go_simp
      refine kQ _ _ ⟨rfl, (by first | (simp [go_sem, events_max2]; done) | (intro e he; exact absurd (show e ∈ (#[] : Array Event) from he) (by simp))), ?_⟩
      clear kQ KQ
      try clear hc0 hc1 hc2 hc3
      clear hQ wQ
      try walk_nrm
      exact hnx.out _ _ ⟨l0, l1, l2, l3, l4, l5, l6, l7, l8, l9, true, l11, _, _, _, _, _, _, _, _, _, _, _, rfl, rfl, ⟨E.out.1, E.out.2.1, E.out.2.2.1, E.out.2.2.2.1, E.out.2.2.2.2.1, E.out.2.2.2.2.2.1, E.out.2.2.2.2.2.2.1, E.out.2.2.2.2.2.2.2.1, E.out.2.2.2.2.2.2.2.2.1, E.out.2.2.2.2.2.2.2.2.2.1, fun _ => rfl⟩, eh.out⟩
    · clear hlt hlt'
      have dp : l10 = true := by
        have h := hdp
        simp [Region.binds, and_assoc] at h
        exact h.1
      have q10 := E.out.2.2.2.2.2.2.2.2.2.2 dp
      subst q10
      have hl11 : l11 = false := by simpa using hnl
      have eh' : h' = h2 := by
        rcases eh with ⟨_, e⟩ | ⟨e, _⟩
        · exact e
        · rw [hl11] at e; cases e
      subst eh'
      clear hdp hnl eh n2
      refine GO.opw (ob := (.cells #[.int .i64 (10 * y / d), .int .i64 (10 * y % d)] 39)) n4' rfl (by rfl) (by first | assumption | decide) (fun wQ hQ KQ kQ => ?_)
      have hc := hQ.own _ _ n4'
      have hc0 := gcell_of (o := 0) hc
      have hc1 := gcell_of (o := 1) hc
      have hc2 := gwarm_of (o := 0) hc
      have hc3 := gwarm_of (o := 1) hc
      simp only [List.getElem?_toArray, List.getElem?_cons_succ, List.getElem?_cons_zero, List.getElem?_nil] at hc0 hc1
      go_simp
      try (unfold stored; go_simp)
      refine kQ _ _ ⟨⟨rfl, rfl, rfl, by simp [World.setCell], (fun k hk => by first | exact put_ne _ hk | exact (put_ne _ hk).trans (put_ne _ hk)), (by first | exact put_at _ hc | exact put_at _ (put_at _ hc))⟩, ?_, fun h6 m6 t6 => ?_⟩
      · have h0 := @evo_own _ _ _ _ _ _ 0 _ true hQ n4'
        have h1 := @evo_own _ _ _ _ _ _ 1 _ true hQ n4'
        first | (simp [go_sem, *]; done) | (simp [go_sem, *]; first | exact h0 | exact h1 | exact ⟨h0, h1⟩) | (simp [go_sem, storedEv, *]; done) | (simp [go_sem, storedEv, *]; first | exact h0 | exact h1 | exact ⟨h0, h1⟩)
      clear kQ KQ hc hc0 hc1 hc2 hc3
      clear hQ wQ
      try walk_nrm
      exact hnx.out _ _ ⟨l0, l1, l2, l3, l4, l5, l6, l7, l8, l9, l10, true, _, _, _, _, _, _, _, _, _, _, _, rfl, rfl, E, .inr ⟨rfl, m6, t6⟩⟩
  · rintro listed h' a ⟨l0, l1, l2, l3, l4, l5, l6, l7, l8, l9, l10, l11, s5, s6, s7, s8, s9, s10, s11, s12, s13, s14, s15, rfl, rfl, E, eh⟩ hr
    have t0 : l0 = true := by
      have := ready_none hr 0 (by decide) (by simp [Region.binds])
      simpa using this
    have t1 : l1 = true := by
      have := ready_none hr 1 (by decide) (by simp [Region.binds, t0])
      simpa using this
    have t2 : l2 = true := by
      have := ready_none hr 2 (by decide) (by simp [Region.binds])
      simpa using this
    have t3 : l3 = true := by
      have := ready_none hr 3 (by decide) (by simp [Region.binds, t2])
      simpa using this
    have t4 : l4 = true := by
      have := ready_none hr 4 (by decide) (by simp [Region.binds, t1, t3])
      simpa using this
    have t5 : l5 = true := by
      have := ready_none hr 5 (by decide) (by simp [Region.binds])
      simpa using this
    have t6 : l6 = true := by
      have := ready_none hr 6 (by decide) (by simp [Region.binds, t5])
      simpa using this
    have t7 : l7 = true := by
      have := ready_none hr 7 (by decide) (by simp [Region.binds])
      simpa using this
    have t8 : l8 = true := by
      have := ready_none hr 8 (by decide) (by simp [Region.binds, t7])
      simpa using this
    have t9 : l9 = true := by
      have := ready_none hr 9 (by decide) (by simp [Region.binds, t6, t8])
      simpa using this
    have t10 : l10 = true := by
      have := ready_none hr 10 (by decide) (by simp [Region.binds, t4, t9])
      simpa using this
    have t11 : l11 = true := by
      have := ready_none hr 11 (by decide) (by simp [Region.binds, t0, t1, t2, t3, t4, t5, t6, t7, t8, t9, t10])
      simpa using this
    have eh' : h' r4 = some (.cells #[.int .i64 (10 * y / d), .int .i64 (10 * y % d)] 39) ∧ ∀ k, k ≠ r4 → h' k = h2 k := by
      rcases eh with ⟨e, _⟩ | ⟨_, e⟩
      · rw [t11] at e; cases e
      · exact e
    obtain ⟨m4, s4⟩ := eh'
    clear eh hr E t0 t1 t2 t3 t4 t5 t6 t7 t8 t9 t10 t11
    repeat (first | with_reducible refine GO.seq ?_ | with_reducible refine GO.skip ?_ | with_reducible refine GO.region (by simp only [List.size_toArray, List.length_cons, List.length_nil, Nat.reduceAdd, Nat.zero_add, List.range, List.range.loop]; exact rfl) ?_ | with_reducible refine GO.regionEnd ?_ | with_reducible refine GO.block ?_ | with_reducible refine GO.inBlock ?_ | with_reducible refine GO.label ?_ | with_reducible refine GO.ret ?_ | with_reducible refine GO.fin ?_ | with_reducible refine GO.exit (by with_unfolding_all rfl) ?_)
    refine GO.leaveE rfl rfl hf (v := .agg #[.int .i64 (10 * y / d), .int .i64 (10 * y % d)]) (fun w hS => ?_) ?_
    · exact res_p hS m4 rfl
    · exact hnext.out h' (Hl.le_set l fr4 s4)
end
end Go.Proofs.Ytlbkhiphnllfpac
namespace Go.Proofs.Ytlbkhiphnllfpac
open Go.Conc Go.RowKit
set_option linter.unusedVariables false
set_option maxRecDepth 100000
set_option linter.unusedSimpArgs false
/-- The slice v holds the numbers l: in a row of its own; or it has no room, in a row that was there. -/
def RowI (w0 : World) (c L B : Nat) (h : Hl) (v : Value) (l : List Int) : Prop :=
  ∃ g cap cur, v = .slice (some ⟨g, 0, none⟩) l.length cap ∧ l.length ≤ cap ∧ cap ≤ maxLen ∧ cur.size = cap * 1 ∧ cur.toList.take (l.length * 1) = l.map (Value.int .i64) ∧
    (h g = some (.cells cur 2 (0, 0)) ∨ (cap = 0 ∧ B ≤ g ∧ g < L ∧ g ≠ c ∧ w0.heap[g]? = some (.cells cur 2 (0, 0))))
section
variable {main : Bool} {c L B : Nat} {w0 : World} {Stop : (Nat → Prop) → Goroutine → World → Prop} {h : Hl} {b : Frame} {a : Act} {k : List Item} {cs : List Frame} {ops : Array Oper} {i : Nat} {rest : List Nat} {o : Oper}
theorem GO.appI {s x : Operand} {v : Value} {l : List Int} {r : Nat} {q : Int} (ho : ops[i]? = some o) (hw : Region.wanted o (yielded ops a.tmps) = true) (hk : b.kind ≠ .early)
    (hop : o.op = .call { callee := .builtin .append, args := #[s, x], argTypes := #[40, 40] }) (hs : a.eval s = v) (hx : a.eval x = .slice (some ⟨r, 0, none⟩) 1 1) (hrow : RowI w0 c L B h v l) (hr : h r = some (.cells #[.int .i64 q] 2)) (hlen : l.length ≤ 1000)
    (hnext : ∀ h' v', RowI w0 c L B h' v' (l ++ [q]) → (∀ k b, h k = some b → v.ownBlock ≠ some k → h' k = some b) → GO Try.prog main c L w0 Stop h' (G (b.at (a.put o.dst v') (.inRegion ops rest :: k)) cs)) : GO Try.prog main c L w0 Stop h (G (b.at a (.inRegion ops (i :: rest) :: k)) cs) := by
  obtain ⟨i0, hi, hz0, hz1, hz2⟩ := info_parts info64
  obtain ⟨g, cap, cur, rfl, hlc, hcm, hcs, htk, hgg⟩ := hrow
  refine GO.step rfl fun w hS => goes_oper_k ho hw hk fun K hK => ?_
  have hcr := hS.own _ _ hr
  have hnews : ∀ j u, ([.int .i64 q] : List Value)[j]? = some u → w.cell? ((⟨r, 0, none⟩ : Addr).add j) = some u := fun j u hu => by
    rw [Addr.add_lit, gcell_of hcr, Nat.zero_add]
    simpa using hu
  have hgw : w.heap[g]? = some (.cells cur 2 (0, 0)) := by
    rcases hgg with hgg | ⟨_, _, h1, h2, h3⟩
    · exact hS.own _ _ hgg
    · exact (hS.old g h1 h2).trans h3
  have htl : (l.map (Value.int .i64)).length = l.length * 1 := by simp
  by_cases hroom : l.length + 1 ≤ cap
  · have hgo : h g = some (.cells cur 2 (0, 0)) := hgg.resolve_right fun h => by omega
    have hrun := run_append_room (P := Try.prog) w 40 o.type 2 i0 Try.underlying40 hi g l.length cap cur hgw ⟨r, 0, none⟩ 1 1 [.int .i64 q] (by rw [hz1]; rfl) hnews (by simp [Value.oneCell']) hroom (by rw [hz1, hcs]; simp; omega)
    rw [hz1] at hrun
    have hown : w.ownsRow 0 2 1 (.slice (some ⟨g, 0, none⟩) l.length cap) l.length (l.map (Value.int .i64)) := ⟨htl, .inr ⟨g, cap, cur, rfl, Nat.zero_le _, hgw, hlc, hcm, hcs, htk⟩⟩
    have hev := events_append_where (P := Try.prog) w 0 40 o.type 2 i0 _ 1 8 Try.underlying40 hi hz0 hz1 hz2 _ _ _ hown ⟨r, 0, none⟩ 1 1 [.int .i64 q] rfl hnews (by simp [Value.oneCell']) (by unfold maxLen; omega) (by omega)
    refine uponK_append s x 40 hop hs hx hrun (hK _ _ ?_)
    obtain ⟨cu, hcu⟩ : ∃ cu, (cur.toList.take (l.length * 1) ++ [Value.int .i64 q] ++ cur.toList.drop (l.length * 1 + [Value.int .i64 q].length)).toArray = cu := ⟨_, rfl⟩
    rw [hcu]
    obtain ⟨hS', hm⟩ := hS.set (w' := w.setRow g cu) (o := .cells cu 2 (0, 0)) (es := listed Try.prog b.fn a o w) hgo rfl rfl rfl (by simp [World.setRow]) (fun k hk => by simp [World.setRow, Array.getElem?_modify, Ne.symm hk]) (by simp [World.setRow, Array.getElem?_modify, hgw]) (fun e he => by
      have he' := mem_listed he
      rw [events_append_op s x 40 hop hs hx] at he'
      rcases hev e he' with ⟨ad, h1, h2⟩ | ⟨m, h1, h2⟩
      · refine .inl ⟨ad, e.write, e.sync, by rw [← h1], ?_⟩
        rcases h2 with ⟨_, h2⟩ | h2
        · rw [h2]; exact ⟨hS.lt hr, .inl ⟨_, hr⟩⟩
        · obtain rfl : ad.block = g := by simpa [Value.ownBlock] using h2
          exact ⟨hS.lt hgo, .inl ⟨_, hgo⟩⟩
      · exact .inr (by rw [h1, show m = .noRoom from h2]))
    refine ⟨_, hm, hS', hnext _ _ ⟨g, cap, cu, by simp, by simpa using hroom, hcm, ?_, ?_, .inl (Hl.up_same _ _ _)⟩ (fun k b hk hne => by rw [Hl.up_ne _ (fun e => hne (by rw [e]; rfl))]; exact hk)⟩
    · rw [← hcu]; simp [hcs]; omega
    · rw [← hcu, List.map_append, ← htk]
      have e1 : (cur.toList.take (l.length * 1)).length = l.length * 1 := by rw [htk]; exact htl
      simp only [List.length_append, List.length_cons, List.length_nil, Nat.zero_add]
      rw [List.take_append_of_le_length (by simp only [List.length_append, e1, List.length_cons, List.length_nil]; omega), List.take_of_length_le (by simp only [List.length_append, e1, List.length_cons, List.length_nil]; omega)]
      rfl
  · have holds : ∀ j u, (l.map (Value.int .i64))[j]? = some u → w.cell? ((⟨g, 0, none⟩ : Addr).add j) = some u := World.ownsRow.cells (w := w) (base := 0) (e := 2) (size := 1) (v := .slice (some ⟨g, 0, none⟩) l.length cap) (n := l.length) ⟨htl, .inr ⟨g, cap, cur, rfl, Nat.zero_le _, hgw, hlc, hcm, hcs, htk⟩⟩ rfl
    have hb : (l.length + 1) * i0.bytes ≤ 140737488355328 := by rw [hz2]; omega
    have hfit : Builtin.nextslicecap (l.length + 1) cap * i0.bytes ≤ 281474976710656 := by have := growslice_fits (need := l.length + 1) (old := cap) (bytes := i0.bytes) (by omega) hb; omega
    have hrun := run_append_grow (P := Try.prog) w 40 o.type 2 i0 _ Try.underlying40 hi hz0 ⟨g, 0, none⟩ l.length cap (l.map (Value.int .i64)) (by rw [hz1]; exact htl) holds ⟨r, 0, none⟩ 1 1 [.int .i64 q] (by rw [hz1]; rfl) hnews (by omega) (by omega) hfit
    have hev := events_grow (P := Try.prog) w 40 o.type 2 i0 _ Try.underlying40 hi hz0 ⟨g, 0, none⟩ l.length cap (l.map (Value.int .i64)) (by rw [hz1]; exact htl) holds ⟨r, 0, none⟩ 1 1 [.int .i64 q] (by rw [hz1]; rfl) hnews (by omega) (by omega) hfit
    refine uponK_append s x 40 hop hs hx hrun (hK _ _ ?_)
    have hge := grownCap_ge w (l.length + 1) cap 2
    have hle := grownCap_le_maxLen w (l.length + 1) cap 2 (by unfold maxLen; omega)
    obtain ⟨C, hC⟩ : ∃ C, grownCap w (l.length + 1) cap 2 = C := ⟨_, rfl⟩
    rw [hC] at hge hle ⊢
    obtain ⟨cu, hcu⟩ : ∃ cu, (l.map (Value.int .i64)).toArray ++ [Value.int .i64 q].toArray ++ Builtin.zeroCells (Value.int .i64 0).cells (C - (l.length + 1)) = cu := ⟨_, rfl⟩
    rw [hcu]
    have hSd : Sat w0 c L h w.drew := ⟨hS.old, hS.own, hS.far, hS.size, hS.os, hS.output⟩
    obtain ⟨hS', hm⟩ := hSd.alloc (.cells cu 2)
    refine ⟨_, ⟨hm.tape, hm.os, hm.output, hm.size, hm.rest, hm.sub, hm.new, fun e he => ?_⟩, hS', hnext _ _ ⟨w.heap.size, C, cu, by simp, by simpa using hge, hle, ?_, ?_, .inl (Hl.up_same _ _ _)⟩ (fun k b hk _ => Hl.up_le _ hS.fresh k b hk)⟩
    · have he' := mem_listed he
      rw [events_append_op s x 40 hop hs hx] at he'
      rcases hev e he' with ⟨ad, h1, h2, h3⟩ | h1
      · refine .inl ⟨ad, e.write, e.sync, by rw [← h1], ?_⟩
        rcases h3 with h3 | h3
        · have h3' : ad.block = r := h3
          rw [h3']; exact ⟨Nat.lt_of_lt_of_le (hS.lt hr) hm.size, .inl (hm.sub _ ⟨_, hr⟩)⟩
        · have h3' : ad.block = g := h3
          rw [h3']
          rcases hgg with hgg | ⟨_, _, h4, h5, h6⟩
          · exact ⟨Nat.lt_of_lt_of_le (hS.lt hgg) hm.size, .inl (hm.sub _ ⟨_, hgg⟩)⟩
          · exact ⟨Nat.lt_of_lt_of_le (Nat.lt_of_lt_of_le h4 hS.size) hm.size, .inr ⟨h2, h4⟩⟩
      · exact .inr h1
    · rw [← hcu]; simp [size_zeroCells, htl, Value.cells]; omega
    · rw [← hcu, List.map_append]
      simp only [List.length_append, List.length_cons, List.length_nil, Nat.zero_add, Array.toList_append, List.toList_toArray]
      rw [List.take_append_of_le_length (by simp only [List.length_append, htl, List.length_cons, List.length_nil]; omega), List.take_of_length_le (by simp only [List.length_append, htl, List.length_cons, List.length_nil]; omega)]
      rfl
theorem RowI.has {v : Value} {l : List Int} {w w' : World} (hrow : RowI w0 c L B h v l) (hS : Sat w0 c L h w) (hBL : B ≤ L) (hw : w'.heap = w.heap) : Has w' B v l := by
  obtain ⟨g, cap, cur, rfl, hlc, hcm, hcs, htk, hgg⟩ := hrow
  rcases hgg with hgg | ⟨_, h0, h1, h2, h3⟩
  · exact ⟨by simp, .inr ⟨g, cap, cur, rfl, Nat.le_trans hBL (hS.far _ _ hgg), by rw [hw]; exact hS.own _ _ hgg, hlc, hcm, hcs, htk⟩⟩
  · exact ⟨by simp, .inr ⟨g, cap, cur, rfl, h0, by rw [hw]; exact (hS.old g h1 h2).trans h3, hlc, hcm, hcs, htk⟩⟩
end
end Go.Proofs.Ytlbkhiphnllfpac
