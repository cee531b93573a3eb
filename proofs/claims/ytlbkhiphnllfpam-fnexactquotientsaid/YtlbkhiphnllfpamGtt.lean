/-
  The receiver of the turns: stops, rows, small things.
-/
import Derived.Test.YtlbkhiphnllfpamGtq
import Derived.Test.YtlbkhiphnllfpamGtn
import Derived.Test.YtlbkhiphnllfpamGto
import Derived.Conc.SmallLaws
namespace Go.Proofs.Ytlbkhiphnllfpam
open Go.Conc Go.RowKit
set_option linter.unusedVariables false
set_option linter.unusedSimpArgs false
section
variable {P : Program} {main : Bool} {c L B : Nat} {z : Value} {w0 : World} {Stop : (Nat → Prop) → Goroutine → World → Prop} {Fin : (Nat → Prop) → Goroutine → World → Prop} {h h' h'' : Hl} {b : Frame} {a : Act} {k : List Item} {cs : List Frame} {ops : Array Oper} {i : Nat} {rest : List Nat} {o : Oper}
theorem dom0 : Hl.dom (fun _ => none) = fun _ => False := by funext k; simp [Hl.dom]
theorem Sat.fresh0 (w : World) (c : Nat) : Sat w c w.heap.size (fun _ => none) w := ⟨fun _ _ _ => rfl, (fun _ _ e => by cases e), (fun _ _ e => by cases e), Nat.le_refl _, rfl, rfl⟩
def RStopOf (P : Program) (c L : Nat) (z : Value) (Fin : (Nat → Prop) → Goroutine → World → Prop) : List Value → (Nat → Prop) → Goroutine → World → Prop
  | [] => AtR P c z fun M g w => Fin M (Conc.served g (recvd true z false)) w
  | v :: vs => AtR P c z fun M g w => RecvsO P c L z Fin vs M (Conc.served g (recvd true v true)) w
theorem recvs_of {vs : List Value} {g : Goroutine} {w : World} (H : GO P true c L w0 (RStopOf P c L z Fin vs) h g) (hS : Sat w0 c L h w) : RecvsO P c L z Fin vs h.dom g w := by
  cases vs <;> exact H w hS
theorem served_o (v : Value) (ho : ops[i]? = some o) : Conc.served (core (G (b.at a (.inRegion ops (i :: rest) :: k)) cs)) v = G (b.at (a.put o.dst v) (.inRegion ops rest :: k)) cs := by
  show G ((b.at a (.inRegion ops (i :: rest) :: k)).finish v) cs = _
  rw [Frame.finish_at, ho]; rfl
/-- It stands at a receive that brings v .. -/
theorem GO.recv {v : Value} {vs : List Value} (ho : ops[i]? = some o) (hw : Region.wanted o (yielded ops a.tmps) = true) (hk : b.kind ≠ .early)
    (hr : ∀ w, Sat w0 c L h w → (execOp a.eval o).run P w = .ok (.comm #[rcase c z] true (.recv true)) w ∧ (execOp a.eval o).events P w #[] = #[])
    (H : GO P true c L w0 (RStopOf P c L z Fin vs) h (G (b.at (a.put o.dst (.tuple #[v, .bool true])) (.inRegion ops rest :: k)) cs)) :
    GO P true c L w0 (RStopOf P c L z Fin (v :: vs)) h (G (b.at a (.inRegion ops (i :: rest) :: k)) cs) :=
  GO.stop fun w hS => ⟨rfl, by rw [stepG_comm ho hw hk (hr w hS).1, listed_nil (hr w hS).2]; rfl, by
    show RecvsO P c L z Fin vs h.dom (Conc.served (core (G (b.at a (.inRegion ops (i :: rest) :: k)) cs)) (recvd true v true)) w
    rw [served_o _ ho]
    exact recvs_of H hS⟩
/-- .. or the channel's end. -/
theorem GO.recvEnd (ho : ops[i]? = some o) (hw : Region.wanted o (yielded ops a.tmps) = true) (hk : b.kind ≠ .early)
    (hr : ∀ w, Sat w0 c L h w → (execOp a.eval o).run P w = .ok (.comm #[rcase c z] true (.recv true)) w ∧ (execOp a.eval o).events P w #[] = #[])
    (H : ∀ w, Sat w0 c L h w → Fin h.dom (G (b.at (a.put o.dst (.tuple #[z, .bool false])) (.inRegion ops rest :: k)) cs) w) :
    GO P true c L w0 (RStopOf P c L z Fin []) h (G (b.at a (.inRegion ops (i :: rest) :: k)) cs) :=
  GO.stop fun w hS => ⟨rfl, by rw [stepG_comm ho hw hk (hr w hS).1, listed_nil (hr w hS).2]; rfl, by
    show Fin h.dom (Conc.served (core (G (b.at a (.inRegion ops (i :: rest) :: k)) cs)) (recvd true z false)) w
    rw [served_o _ ho]
    exact H w hS⟩
theorem GO.leave2 {fn : Func} {todo : List Item} {b₀ : Frame} {a₀ : Act} {t u : Tmp} (hn : b.kind = .normal) (hd : a.defers = []) (hf : P.funcs[b.fn]? = some fn) (hr : fn.results = #[.tmp t, .tmp u])
    (H : GO P main c L w0 Stop h (G (b₀.at (a₀.put ((ops[i]?).bind (·.dst)) (.tuple #[a.tmps.getD t undef, a.tmps.getD u undef])) (.inRegion ops rest :: k)) cs)) :
    GO P main c L w0 Stop h (G { b.at a todo with mode := .returning } (b₀.at a₀ (.inRegion ops (i :: rest) :: k) :: cs)) :=
  GO.quiet rfl fun w hS => goes_leave2 hn hd hf hr ⟨rfl, by simp, H⟩
theorem Hl.tr {r k : Nat} {b : Obj} (n : h k = some b) (f : h r = none) (l : h.le h') (s : ∀ k, k ≠ r → h'' k = h' k) : h'' k = some b := by
  have : k ≠ r := fun e => by rw [e, f] at n; cases n
  rw [s k this]; exact l _ _ n
theorem RowS.le {v : Value} {l : List (Int × Int)} (hr : RowS w0 c L B h v l) (hl : h.le h') : RowS w0 c L B h' v l := by
  obtain ⟨g, cap, cur, e1, e2, e3, e4, e5, e6⟩ := hr
  exact ⟨g, cap, cur, e1, e2, e3, e4, e5, e6.imp (hl _ _) id⟩
theorem RowS.put {v : Value} {l : List (Int × Int)} {r : Nat} (hr : RowS w0 c L B h v l) (f : h r = none) (hl : h.le h') (s : ∀ k, k ≠ r → h'' k = h' k) : RowS w0 c L B h'' v l := by
  obtain ⟨g, cap, cur, e1, e2, e3, e4, e5, e6⟩ := hr
  exact ⟨g, cap, cur, e1, e2, e3, e4, e5, e6.imp (fun n => Hl.tr n f hl s) id⟩
/-- THE go STATEMENT: a phase over a channel begins. -/
theorem BW.go {Post : Value → World → Prop} {w : World} {d : Deferred} {f : Fn} {cap : Array Value} (ho : ops[i]? = some o) (hw : Region.wanted o (yielded ops a.tmps) = true) (hk : b.kind ≠ .early)
    (hr : ∀ W, (execOp a.eval o).run P W = .ok (.spawn d) W) (hd : d.target = .fn f cap) (he : ∀ W, (execOp a.eval o).events P W #[] = #[])
    (H : ∀ T, ∃ (vs : List Value) (c L : Nat) (z : Value), c < L ∧ L ≤ w.heap.size ∧ (∃ s r tm, w.heap[c]? = some (.chan 0 #[] false s r tm)) ∧ RecvsO P c L z (fun _ g w => BW P Post g w) vs (fun _ => False) (G (b.at (a.put o.dst undef) (.inRegion ops rest :: k)) cs) (w.on T 0) ∧ SendsO P c L vs (fun _ => False) (born P d) (w.on T 0)) :
    BW P Post (G (b.at a (.inRegion ops (i :: rest) :: k)) cs) w :=
  BW.spawn rfl fun T => by
    obtain ⟨vs, c, L, z, h1, h2, h3, h4, h5⟩ := H T
    exact ⟨_, born P d, w.on T 0, vs, c, L, z, h1, h2, fun dd => by rw [stepG_spawn ho hw hk (hr _) hd, listed_nil (he _)], h3, h4, h5⟩
theorem mkch {w : World} (es : Array Event) : (Instr.makeChan 69 (.int .i64 0)).events Try.prog w es = es := by
  obtain ⟨i0, hi, hz0, hz1, hz2⟩ := info_parts infoTurn
  simpa using events_makeChan (P := Try.prog) (w := w) Try.underlying69 hi .i64 0 (by omega) (by simp) es
theorem recv_run {x : Operand} (hop : o.op = .recv 53 x true) (hx : a.eval x = .chan (some c)) (w : World) :
    (execOp a.eval o).run Try.prog w = .ok (.comm #[rcase c (.agg #[.int .i64 0, .int .i64 0])] true (.recv true)) w ∧ (execOp a.eval o).events Try.prog w #[] = #[] := by
  obtain ⟨i0, hi, hz0, hz1, hz2⟩ := info_parts infoTurn
  unfold execOp
  simp only [hop]
  constructor
  · simp [run_underlying Try.underlying53, zeroValue, typeInfo, hi, hz0, hx, rcase]
  · simp [run_underlying Try.underlying53, zeroValue, typeInfo, hi, hz0, hx, rcase, go_sem]
end
end Go.Proofs.Ytlbkhiphnllfpam
