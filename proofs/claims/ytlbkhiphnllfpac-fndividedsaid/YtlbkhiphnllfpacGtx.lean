/-
  From the walk beside others that only leave to the run that a statement asks for; what is kept, whatever the tape.
-/
import Derived.Test.YtlbkhiphnllfpacGad
import Derived.Test.YtlbkhiphnllfpacTrn
import Derived.Test.YtlbkhiphnllfpacTrnE
import Derived.Conc.LeavingOf
import Derived.Carry
import Derived.ChangeFn
namespace Go.Proofs.Ytlbkhiphnllfpac
open Go.Conc Go.RowKit
set_option linter.unusedVariables false
set_option maxRecDepth 100000
/-- Below B all is as it was, whatever the tape. -/
structure Blw (B : Nat) (w w' : World) : Prop where
  os : w'.os = w.os
  output : w'.output = w.output
  size : w.heap.size ≤ w'.heap.size
  block : ∀ k, k < B → w'.heap[k]? = w.heap[k]?
theorem Blw.below {B : Nat} {w w' : World} (h : Blw B w w') : Below B w (w'.on w.tape w.drawn) := ⟨h.os, rfl, h.output, h.size, h.block⟩
theorem Blw.of {B : Nat} {w w' : World} (h : Below B w w') : Blw B w w' := ⟨h.os, h.output, h.size, h.block⟩
theorem Blw.refl (B : Nat) (w : World) : Blw B w w := ⟨rfl, rfl, Nat.le_refl _, fun _ _ => rfl⟩
theorem Blw.trans {B B' : Nat} {w w1 w2 : World} (a : Blw B w w1) (b : Blw B' w1 w2) (h : B ≤ B') : Blw B w w2 :=
  ⟨b.os.trans a.os, b.output.trans a.output, Nat.le_trans a.size b.size, fun k hk => (b.block k (Nat.lt_of_lt_of_le hk h)).trans (a.block k hk)⟩
theorem Blw.onL {B : Nat} {w w' : World} {T : Nat → Question → Nat} {d : Nat} (a : Blw B (w.on T d) w') : Blw B w w' := ⟨a.os, a.output, a.size, a.block⟩
theorem Blw.onR {B : Nat} {w w' : World} (T : Nat → Question → Nat) (d : Nat) (a : Blw B w w') : Blw B w (w'.on T d) := ⟨a.os, a.output, a.size, a.block⟩
theorem Blw.mono {B B' : Nat} {w w' : World} (a : Blw B w w') (h : B' ≤ B) : Blw B' w w' := ⟨a.os, a.output, a.size, fun k hk => a.block k (Nat.lt_of_lt_of_le hk h)⟩
theorem Sat.blw {w0 w : World} {h : Hl} (hS : Sat w0 w0.heap.size w0.heap.size h w) : Blw w0.heap.size w0 w := ⟨hS.os, hS.output, hS.size, fun k hk => hS.old k hk (by omega)⟩
theorem HasT.blw {w w' : World} {base B : Nat} {v : Value} {l : List (Int × Int)} (h : HasT w base v l) (hb : Blw B w w') (hB : w.heap.size ≤ B) : HasT w' base v l := (HasT.below h hb.below hB : HasT (w'.on w.tape w.drawn) base v l)
theorem HasT.base {w : World} {base base' : Nat} {v : Value} {l : List (Int × Int)} (h : HasT w base v l) (hb : base' ≤ base) : HasT w base' v l := by
  obtain ⟨hl, h⟩ := h
  refine ⟨hl, ?_⟩
  rcases h with h | ⟨g, cap, cur, e, hgb, r⟩
  · exact .inl h
  · exact .inr ⟨g, cap, cur, e, Nat.le_trans hb hgb, r⟩
theorem HasT.apart {w w' : World} {base : Nat} {v : Value} {l : List (Int × Int)} {x : Option Nat} (h : HasT w base v l) (hg : w.grownBy w' x) (hd : ∀ k, v.ownBlock = some k → x ≠ some k) : HasT w' base v l := by
  obtain ⟨hl, h⟩ := h
  refine ⟨hl, ?_⟩
  rcases h with h | ⟨g, cap, cur, e, hgb, hc, q⟩
  · exact .inl h
  · have hlt := (Array.getElem?_eq_some_iff.1 hc).1
    exact .inr ⟨g, cap, cur, e, hgb, by rw [hg.block g hlt (fun e' => hd g (by rw [e]; rfl) e'.symm)]; exact hc, q⟩
theorem HasF.blw {w w' : World} {base B : Nat} {v : Value} {n : Nat} {zs : List Int} (h : HasF w base v n zs) (hb : Blw B w w') (hB : w.heap.size ≤ B) : HasF w' base v n zs := (HasF.below h hb.below hB : HasF (w'.on w.tape w.drawn) base v n zs)
theorem Blw.frame {W w' : World} (h : Blw W.heap.size W w') (may : MemPlace → Prop) : W.keptBut w' may := by
  refine ⟨h.os, h.output, fun i hi => ?_⟩
  rw [h.block i hi]
  split <;> simp_all
theorem Blw.trod {H : Type} {enc : TypeId × Value → H} {P : Program} {t : TypeId} (hl : laidOutB P = true) (hr : P.readableRec t = true) (hrow : t < P.types.size) {W W' : World} {v : Value} {d : DataW H} {ps : List MemPlace}
    (h : DataW.Trod enc P W 0 (fun _ => true) true t v d ps) (hb : Blw W.heap.size W W') (hlt : ∀ x ∈ ps, x.block < W.heap.size) : DataW.Trod enc P W' 0 (fun b => decide (b < W.heap.size)) true t v d ps :=
  DataW.Trod.of_heap (w := W'.on W.tape W.drawn) (w' := W') rfl (Below.trod hl hr hrow h hb.below hlt)
theorem Has.blw {w w' : World} {base B : Nat} {v : Value} {zs : List Int} (h : Has w base v zs) (hb : Blw B w w') (hB : w.heap.size ≤ B) : Has w' base v zs := (Has.below h hb.below hB : Has (w'.on w.tape w.drawn) base v zs)
/-- What a law's walk must tell. -/
def PostB (W : World) (v : Value) (w' : World) : Prop := v = .bool true ∧ Blw W.heap.size W w'
theorem PostB.on {W : World} (v : Value) (w' : World) (T : Nat → Question → Nat) (d : Nat) (h : PostB W v w') : PostB W v (w'.on T d) := ⟨h.1, h.2.onR T d⟩
/-- FROM THE WALK TO THE RUN. -/
theorem bw_runs {P : Program} {Post : Value → World → Prop} {f : FuncId} {args : Array Value} {fn : Func} {cd : Code} {W : World} (hf : P.funcs[f]? = some fn) (hb : fn.body = some cd)
    (h : BW P Post (G ((base f).at { tmps := args ++ Array.replicate (fn.ntmps - args.size) undef, defers := [] } [.code cd]) []) W) :
    ∃ M last o w' t', runNT P (M + 1) (solo (G (Frame.enter P f args .normal) []) W) #[] = (.ended o w', t') ∧ runN P M (solo (G (Frame.enter P f args .normal) []) W) = .next last ∧ step P last = .ended o w' ∧ Conc.Good P Post last o w' t' := by
  rw [enter_at args hf hb]
  exact h W.tape W.drawn #[_] #[] (fun _ => 0) none rfl (leavers_one P _) ⟨0, past_nil⟩
end Go.Proofs.Ytlbkhiphnllfpac
