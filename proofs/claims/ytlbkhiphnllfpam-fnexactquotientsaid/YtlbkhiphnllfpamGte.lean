/-
  One step of code of the kinds that are used, whatever lies beneath it.
-/
import Derived.Test.YtlbkhiphnllfpamGtd
namespace Go.Proofs.Ytlbkhiphnllfpam
open Go.Conc
set_option linter.unusedVariables false
def okCode (P : Program) (L : FuncId → Bool) : Code → Bool
  | .skip => true
  | .region _ ops _ => ops.all (okOp P L)
  | .seq a b => okCode P L a && okCode P L b
  | .cond _ a b => okCode P L a && okCode P L b
  | .block _ c => okCode P L c
  | .loop c => okCode P L c
  | .scope c => okCode P L c
  | .exit _ => true
  | .label _ => true
  | .ret => true
  | _ => false
def okItem (P : Program) (L : FuncId → Bool) : Item → Bool
  | .code c => okCode P L c
  | .inBlock _ => true
  | .inLoop c => okCode P L c
  | .inScope c => okCode P L c
  | .inRegion ops _ => ops.all (okOp P L)
  | _ => false
/-- A frame of the local stack. -/
structure Fm where
  fn : FuncId
  x : Array Value
  t : List Item
def Fm.fr (m : Fm) : Frame := (base m.fn).at ⟨m.x, []⟩ m.t
def Fm.rt (m : Fm) : Frame := { m.fr with mode := .returning }
def Fm.put (m : Fm) (dst : Option Tmp) (v : Value) (t : List Item) : Fm := ⟨m.fn, (Act.put ⟨m.x, []⟩ dst v).tmps, t⟩
structure St where
  top : Fm
  ret : Bool
  rest : List Fm
def addK (k : List Item) (rest : List Fm) (m : Fm) : Fm := { m with t := m.t ++ (if rest.isEmpty then k else []) }
def stk (k : List Item) (cs : List Frame) : List Fm → List Frame
  | [] => cs
  | m :: r => (addK k r m).fr :: stk k cs r
def gOf (k : List Item) (cs : List Frame) (s : St) : Goroutine := G (if s.ret then (addK k s.rest s.top).rt else (addK k s.rest s.top).fr) (stk k cs s.rest)
def OkFm (P : Program) (L : FuncId → Bool) (m : Fm) : Prop := ∀ i ∈ m.t, okItem P L i = true
def Waits (m : Fm) : Prop := ∃ ops i r t, m.t = .inRegion ops (i :: r) :: t
structure OkSt (P : Program) (L : FuncId → Bool) (s : St) : Prop where
  top : OkFm P L s.top
  rest : ∀ m ∈ s.rest, OkFm P L m ∧ Waits m
/-- The programs that are served. -/
structure OkP (P : Program) (L : FuncId → Bool) : Prop where
  code : ∀ f, L f = true → ∃ fn c, P.funcs[f]? = some fn ∧ fn.body = some c ∧ okCode P L c = true
  wide : P.follows .staticDataAhead = true
  step : ∀ g, P.stepOf g = none
def kR : List Item := [.code (.refuse "")]
def trap : Frame := { (default : Frame) with defers := [{ target := .nil, args := #[] }], todo := [.code (.refuse "")], mode := .run, kind := .normal }
theorem put_eq (x : Array Value) (dst : Option Tmp) (v : Value) : Act.put ⟨x, []⟩ dst v = ⟨(Act.put ⟨x, []⟩ dst v).tmps, []⟩ := by cases dst <;> rfl
theorem exit_app {id : Nat} : ∀ {t u k : List Item}, exitTo id t = some u → exitTo id (t ++ k) = some (u ++ k)
  | [], u, k, h => by cases h
  | .inBlock i :: t, u, k, h => by
    simp only [exitTo, List.cons_append] at h ⊢
    split at h
    · rename_i e; rw [if_pos e]; cases h; rfl
    · rename_i e; rw [if_neg e]; exact exit_app h
  | .code _ :: t, u, k, h => by simp only [exitTo, List.cons_append] at h ⊢; exact exit_app h
  | .inLoop _ :: t, u, k, h => by simp only [exitTo, List.cons_append] at h ⊢; exact exit_app h
  | .inScope _ :: t, u, k, h => by simp only [exitTo, List.cons_append] at h ⊢; exact exit_app h
  | .inRegion _ _ :: t, u, k, h => by simp only [exitTo, List.cons_append] at h ⊢; exact exit_app h
  | .inRangeFunc _ :: t, u, k, h => by simp only [exitTo, List.cons_append] at h ⊢; exact exit_app h
  | .endRangeFunc _ :: t, u, k, h => by simp only [exitTo, List.cons_append] at h ⊢; exact exit_app h
  | .beginRound :: t, u, k, h => by simp only [exitTo, List.cons_append] at h ⊢; exact exit_app h
  | .call _ _ _ _ :: t, u, k, h => by simp only [exitTo, List.cons_append] at h ⊢; exact exit_app h
  | .extern _ _ :: t, u, k, h => by simp only [exitTo, List.cons_append] at h ⊢; exact exit_app h
theorem exit_none {id : Nat} {k : List Item} (hk : exitTo id k = none) : ∀ {t : List Item}, exitTo id t = none → exitTo id (t ++ k) = none
  | [], h => hk
  | .inBlock i :: t, h => by
    simp only [exitTo, List.cons_append] at h ⊢
    split at h
    · cases h
    · rename_i e; rw [if_neg e]; exact exit_none hk h
  | .code _ :: t, h => by simp only [exitTo, List.cons_append] at h ⊢; exact exit_none hk h
  | .inLoop _ :: t, h => by simp only [exitTo, List.cons_append] at h ⊢; exact exit_none hk h
  | .inScope _ :: t, h => by simp only [exitTo, List.cons_append] at h ⊢; exact exit_none hk h
  | .inRegion _ _ :: t, h => by simp only [exitTo, List.cons_append] at h ⊢; exact exit_none hk h
  | .inRangeFunc _ :: t, h => by simp only [exitTo, List.cons_append] at h ⊢; exact exit_none hk h
  | .endRangeFunc _ :: t, h => by simp only [exitTo, List.cons_append] at h ⊢; exact exit_none hk h
  | .beginRound :: t, h => by simp only [exitTo, List.cons_append] at h ⊢; exact exit_none hk h
  | .call _ _ _ _ :: t, h => by simp only [exitTo, List.cons_append] at h ⊢; exact exit_none hk h
  | .extern _ _ :: t, h => by simp only [exitTo, List.cons_append] at h ⊢; exact exit_none hk h
theorem exit_mem {id : Nat} : ∀ {t u : List Item}, exitTo id t = some u → ∀ i ∈ u, i ∈ t
  | [], u, h => by cases h
  | .inBlock j :: t, u, h => by
    simp only [exitTo] at h
    split at h
    · cases h; exact fun i hi => List.mem_cons_of_mem _ hi
    · exact fun i hi => List.mem_cons_of_mem _ (exit_mem h i hi)
  | .code _ :: t, u, h => fun i hi => List.mem_cons_of_mem _ (exit_mem (t := t) (by simpa only [exitTo] using h) i hi)
  | .inLoop _ :: t, u, h => fun i hi => List.mem_cons_of_mem _ (exit_mem (t := t) (by simpa only [exitTo] using h) i hi)
  | .inScope _ :: t, u, h => fun i hi => List.mem_cons_of_mem _ (exit_mem (t := t) (by simpa only [exitTo] using h) i hi)
  | .inRegion _ _ :: t, u, h => fun i hi => List.mem_cons_of_mem _ (exit_mem (t := t) (by simpa only [exitTo] using h) i hi)
  | .inRangeFunc _ :: t, u, h => fun i hi => List.mem_cons_of_mem _ (exit_mem (t := t) (by simpa only [exitTo] using h) i hi)
  | .endRangeFunc _ :: t, u, h => fun i hi => List.mem_cons_of_mem _ (exit_mem (t := t) (by simpa only [exitTo] using h) i hi)
  | .beginRound :: t, u, h => fun i hi => List.mem_cons_of_mem _ (exit_mem (t := t) (by simpa only [exitTo] using h) i hi)
  | .call _ _ _ _ :: t, u, h => fun i hi => List.mem_cons_of_mem _ (exit_mem (t := t) (by simpa only [exitTo] using h) i hi)
  | .extern _ _ :: t, u, h => fun i hi => List.mem_cons_of_mem _ (exit_mem (t := t) (by simpa only [exitTo] using h) i hi)
/-- What a halt comes to. -/
def Dies (P : Program) (k : List Item) (cs : List Frame) (s : St) (g : GStep) : Prop :=
  (∃ chain w es, g = .go (G ((if s.ret then (addK k s.rest s.top).rt else (addK k s.rest s.top).fr).raise chain) (stk k cs s.rest)) w es) ∨ ∃ o w es, g = .ended o w es
/-- THE STEP: a computation, and what it leads to; or, over the stand-ins, the end. -/
def LS (P : Program) (L : FuncId → Bool) (s : St) : Prop :=
  (∃ (f : FuncId) (c : Sem Next) (F : Next → St), HshG P (OkN L) c ∧ (∀ x, OkN L x → OkSt P L (F x)) ∧
    (∀ k cs w x w' es, c.runT P w #[] = (.ok x w', es) → OkN L x → stepG P true (gOf k cs s) w = .go (gOf k cs (F x)) w' (seen P f es)) ∧
    (∀ k cs w h w' es, c.runT P w #[] = (.halt h w', es) → EndOk (α := Next) (fun _ => True) (.halt h w') → Dies P k cs s (stepG P true (gOf k cs s) w))) ∨
  (∀ w, ∃ o w' es, stepG P true (gOf kR [trap] s) w = .ended o w' es)
theorem LS.ctl {P : Program} {L : FuncId → Bool} {s s' : St} (hok : OkSt P L s') (h : ∀ k cs w, stepG P true (gOf k cs s) w = .go (gOf k cs s') w) : LS P L s :=
  .inl ⟨0, .pure .skip, fun _ => s', True.intro, fun _ _ => hok, fun k cs w x w' es e _ => by
    cases e
    rw [h]
    have : seen P 0 #[] = #[] := by rw [seen_def]; rfl
    rw [this], fun k cs w h' w' es e _ => by cases e⟩
end Go.Proofs.Ytlbkhiphnllfpam
