/-
  Quotient of the program, beside others that only leave.
-/
import Derived.Test.YtlbkhiphnllfpacGad
import Derived.Test.YtlbkhiphnllfpacGac
import Derived.Test.YtlbkhiphnllfpacDiv2
namespace Go.Proofs.Ytlbkhiphnllfpac
open Go.Conc Go.RowKit
set_option linter.unusedVariables false
set_option maxRecDepth 100000
set_option linter.unusedSimpArgs false
section
variable {P : Program} {main : Bool} {c L B : Nat} {w0 : World} {Stop : (Nat → Prop) → Goroutine → World → Prop} {h h' h'' : Hl} {b : Frame} {a : Act} {k : List Item} {cs : List Frame} {ops : Array Oper} {i : Nat} {rest : List Nat}
theorem RowI.le {v : Value} {l : List Int} (hr : RowI w0 c L B h v l) (hl : h.le h') : RowI w0 c L B h' v l := by
  obtain ⟨g, cap, cur, e1, e2, e3, e4, e5, e6⟩ := hr
  exact ⟨g, cap, cur, e1, e2, e3, e4, e5, e6.imp (hl _ _) id⟩
theorem RowI.put {v : Value} {l : List Int} {r : Nat} (hr : RowI w0 c L B h v l) (f : h r = none) (hl : h.le h') (s : ∀ k, k ≠ r → h'' k = h' k) : RowI w0 c L B h'' v l := by
  obtain ⟨g, cap, cur, e1, e2, e3, e4, e5, e6⟩ := hr
  exact ⟨g, cap, cur, e1, e2, e3, e4, e5, e6.imp (fun n => Hl.tr n f hl s) id⟩
theorem RowI.apart {v : Value} {l : List Int} {r : Nat} {q R : Int} (hr : RowI w0 c L B h v l) (n : h r = some (.cells #[.int .i64 q, .int .i64 R] 39)) (hL : L ≤ r) : v.ownBlock ≠ some r := by
  obtain ⟨g, cap, cur, rfl, e2, e3, e4, e5, e6⟩ := hr
  intro e
  have hg : g = r := by simpa [Value.ownBlock] using e
  subst hg
  rcases e6 with e6 | ⟨_, _, e6, _⟩
  · rw [n] at e6
    injection e6 with e6
    injection e6 with _ e6
    exact absurd e6 (by decide)
  · omega
theorem goes_leave3 {fn : Func} {todo : List Item} {b₀ : Frame} {a₀ : Act} {t u x : Tmp} {w : World} {K : Goroutine → World → Array Event → Prop} (hn : b.kind = .normal) (hd : a.defers = []) (hf : P.funcs[b.fn]? = some fn) (hr : fn.results = #[.tmp t, .tmp u, .tmp x])
    (hK : K (G (b₀.at (a₀.put ((ops[i]?).bind (·.dst)) (.tuple #[a.tmps.getD t undef, a.tmps.getD u undef, a.tmps.getD x undef])) (.inRegion ops rest :: k)) cs) w #[]) :
    (stepG P main (G { b.at a todo with mode := .returning } (b₀.at a₀ (.inRegion ops (i :: rest) :: k) :: cs)) w).goes K := by
  have h1 : (results fn a.tmps).run P w = .ok (.tuple #[a.tmps.getD t undef, a.tmps.getD u undef, a.tmps.getD x undef]) w ∧ (results fn a.tmps).events P w #[] = #[] := by simp [results, hr]
  rw [stepG_leaveE hn hd hf h1.1, Frame.finish_at, h1.2]
  have : seen P b.fn #[] = #[] := by simp [seen]
  rw [this]
  exact hK
theorem GO.leave3 {fn : Func} {todo : List Item} {b₀ : Frame} {a₀ : Act} {t u x : Tmp} (hn : b.kind = .normal) (hd : a.defers = []) (hf : P.funcs[b.fn]? = some fn) (hr : fn.results = #[.tmp t, .tmp u, .tmp x])
    (H : GO P main c L w0 Stop h (G (b₀.at (a₀.put ((ops[i]?).bind (·.dst)) (.tuple #[a.tmps.getD t undef, a.tmps.getD u undef, a.tmps.getD x undef])) (.inRegion ops rest :: k)) cs)) :
    GO P main c L w0 Stop h (G { b.at a todo with mode := .returning } (b₀.at a₀ (.inRegion ops (i :: rest) :: k) :: cs)) :=
  GO.quiet rfl fun w hS => goes_leave3 hn hd hf hr ⟨rfl, by simp, H⟩
end
section
variable {Post : Value → World → Prop}
set_option maxRecDepth 100000 in
set_option maxHeartbeats 16000000 in
theorem quotient_y (x d : Int) (N : Nat) (hd : 1 ≤ d ∧ d ≤ 100000000) (hx : 0 ≤ x ∧ x < d) (hN : 1 ≤ N ∧ N ≤ 18) {b₀ : Frame} {a₀ : Act} {ops : Array Oper} {i : Nat} {rest : List Nat} {k : List Item} {cs : List Frame} {fn : Func} {cd : Code} (hf : Try.prog.funcs[20]? = some fn) (hb : fn.body = some cd) (w : World)
    (hnext : ∀ v w', Has w' w.heap.size v (ql d x N) → Below w.heap.size w w' → BW Try.prog Post (G (b₀.at (a₀.put ((ops[i]?).bind (·.dst)) (.tuple #[v, .int .i64 (qx d x N), .bool true])) (.inRegion ops rest :: k)) cs) w') :
    BW Try.prog Post (G ((base 20).at { tmps := #[.int .i64 x, .int .i64 d, .int .i64 (N : Int)] ++ Array.replicate (fn.ntmps - 3) undef, defers := [] } [.code cd]) (b₀.at a₀ (.inRegion ops (i :: rest) :: k) :: cs)) w := by
  refine BW.ofGO ?_ (Sat.start w)
  have e := hf.symm.trans Try.func20
  cases e
  cases hb
  simp only [Try.ntmps20, List.size_toArray, List.length_cons, List.length_nil, Nat.reduceAdd, Nat.reduceSub, Array.replicate_succ, Array.replicate_zero, List.push_toArray, List.append_toArray, List.nil_append, List.cons_append]
  replace hnext := hid hnext
  have c1 : ¬ x < 0 := by omega
  have c2 : ¬ d ≤ x := by omega
  have c3 : ¬ (N : Int) < 1 := by omega
  have c4 : ¬ 18 < (N : Int) := by omega
  have c5 : ¬ 18 < N := by omega
  have c6 : ¬ N = 0 := by omega
  have Hq : Hid (∀ j, 0 ≤ qx d x j ∧ qx d x j < d) := fun j => qx_bd d x (by omega) hx.1 hx.2 j
  repeat (first | with_reducible refine GO.seq ?_ | with_reducible refine GO.skip ?_ | with_reducible refine GO.region (by simp only [List.size_toArray, List.length_cons, List.length_nil, Nat.reduceAdd, Nat.zero_add, List.range, List.range.loop]; exact rfl) ?_ | with_reducible refine GO.regionEnd ?_ | with_reducible refine GO.block ?_ | with_reducible refine GO.inBlock ?_ | with_reducible refine GO.label ?_ | with_reducible refine GO.ret ?_ | with_reducible refine GO.fin ?_ | with_reducible refine GO.exit (by with_unfolding_all rfl) ?_)
  refine GO.opq rfl (by rfl) (by first | assumption | decide) (fun wQ hQ KQ kQ => ?_)
  go_simp
  refine kQ _ _ ⟨rfl, (by first | (simp [go_sem, events_max2, mkch]; done) | (intro e he; exact absurd (show e ∈ (#[] : Array Event) from he) (by simp))), ?_⟩
  clear kQ KQ
  try clear hc0 hc1 hc2 hc3
  clear hQ wQ
  try walk_nrm
  refine GO.opq rfl (by rfl) (by first | assumption | decide) (fun wQ hQ KQ kQ => ?_)
  go_simp
  refine kQ _ _ ⟨rfl, (by first | (simp [go_sem, events_max2, mkch]; done) | (intro e he; exact absurd (show e ∈ (#[] : Array Event) from he) (by simp))), ?_⟩
  clear kQ KQ
  try clear hc0 hc1 hc2 hc3
  clear hQ wQ
  try walk_nrm
  refine GO.opq rfl (by rfl) (by first | assumption | decide) (fun wQ hQ KQ kQ => ?_)
  go_simp
  refine kQ _ _ ⟨rfl, (by first | (simp [go_sem, events_max2, mkch]; done) | (intro e he; exact absurd (show e ∈ (#[] : Array Event) from he) (by simp))), ?_⟩
  clear kQ KQ
  try clear hc0 hc1 hc2 hc3
  clear hQ wQ
  try walk_nrm
  repeat (first | with_reducible refine GO.seq ?_ | with_reducible refine GO.skip ?_ | with_reducible refine GO.region (by simp only [List.size_toArray, List.length_cons, List.length_nil, Nat.reduceAdd, Nat.zero_add, List.range, List.range.loop]; exact rfl) ?_ | with_reducible refine GO.regionEnd ?_ | with_reducible refine GO.block ?_ | with_reducible refine GO.inBlock ?_ | with_reducible refine GO.label ?_ | with_reducible refine GO.ret ?_ | with_reducible refine GO.fin ?_ | with_reducible refine GO.exit (by with_unfolding_all rfl) ?_)
  refine GO.opq rfl (by rfl) (by first | assumption | decide) (fun wQ hQ KQ kQ => ?_)
  go_simp
  refine kQ _ _ ⟨rfl, (by first | (simp [go_sem, events_max2, mkch]; done) | (intro e he; exact absurd (show e ∈ (#[] : Array Event) from he) (by simp))), ?_⟩
  clear kQ KQ
  try clear hc0 hc1 hc2 hc3
  clear hQ wQ
  try walk_nrm
  refine GO.call (vs := #[.int .i64 d]) rfl (by rfl) (by decide) rfl Try.func47 (by rfl) rfl (by simp [Act.eval]) ?_
  simp only [Try.ntmps47, List.size_toArray, List.length_cons, List.length_nil, Nat.reduceAdd, Nat.reduceSub, Array.replicate_succ, Array.replicate_zero, List.push_toArray, List.append_toArray, List.nil_append, List.cons_append]
  repeat (first | with_reducible refine GO.seq ?_ | with_reducible refine GO.skip ?_ | with_reducible refine GO.region (by simp only [List.size_toArray, List.length_cons, List.length_nil, Nat.reduceAdd, Nat.zero_add, List.range, List.range.loop]; exact rfl) ?_ | with_reducible refine GO.regionEnd ?_ | with_reducible refine GO.block ?_ | with_reducible refine GO.inBlock ?_ | with_reducible refine GO.label ?_ | with_reducible refine GO.ret ?_ | with_reducible refine GO.fin ?_ | with_reducible refine GO.exit (by with_unfolding_all rfl) ?_ | (refine GO.opq rfl (by rfl) (by first | assumption | decide) (fun wQ hQ KQ kQ => ?_); go_simp; refine kQ _ _ ⟨rfl, (by first | (simp [go_sem, events_max2, mkch]; done) | (intro e he; exact absurd (show e ∈ (#[] : Array Event) from he) (by simp))), ?_⟩; clear kQ KQ; try clear hc0 hc1 hc2 hc3; clear hQ wQ; try walk_nrm))
  refine GO.leave1 rfl rfl Try.func47 (by rfl) ?_
  walk_nrm
  repeat (first | with_reducible refine GO.seq ?_ | with_reducible refine GO.skip ?_ | with_reducible refine GO.region (by simp only [List.size_toArray, List.length_cons, List.length_nil, Nat.reduceAdd, Nat.zero_add, List.range, List.range.loop]; exact rfl) ?_ | with_reducible refine GO.regionEnd ?_ | with_reducible refine GO.block ?_ | with_reducible refine GO.inBlock ?_ | with_reducible refine GO.label ?_ | with_reducible refine GO.ret ?_ | with_reducible refine GO.fin ?_ | with_reducible refine GO.exit (by with_unfolding_all rfl) ?_ | (refine GO.opq rfl (by rfl) (by first | assumption | decide) (fun wQ hQ KQ kQ => ?_); go_simp; refine kQ _ _ ⟨rfl, (by first | (simp [go_sem, events_max2, mkch]; done) | (intro e he; exact absurd (show e ∈ (#[] : Array Event) from he) (by simp))), ?_⟩; clear kQ KQ; try clear hc0 hc1 hc2 hc3; clear hQ wQ; try walk_nrm))
  refine GO.cond (t := false) (by simp [Act.eval]) (fun hc => by cases hc) (fun _ => ?_)
  repeat (first | with_reducible refine GO.seq ?_ | with_reducible refine GO.skip ?_ | with_reducible refine GO.region (by simp only [List.size_toArray, List.length_cons, List.length_nil, Nat.reduceAdd, Nat.zero_add, List.range, List.range.loop]; exact rfl) ?_ | with_reducible refine GO.regionEnd ?_ | with_reducible refine GO.block ?_ | with_reducible refine GO.inBlock ?_ | with_reducible refine GO.label ?_ | with_reducible refine GO.ret ?_ | with_reducible refine GO.fin ?_ | with_reducible refine GO.exit (by with_unfolding_all rfl) ?_)
  refine GO.opq rfl (by rfl) (by first | assumption | decide) (fun wQ hQ KQ kQ => ?_)
  go_simp
  refine kQ _ _ ⟨rfl, (by first | (simp [go_sem, events_max2, mkch]; done) | (intro e he; exact absurd (show e ∈ (#[] : Array Event) from he) (by simp))), ?_⟩
  clear kQ KQ
  try clear hc0 hc1 hc2 hc3
  clear hQ wQ
  try walk_nrm
  refine GO.opq rfl (by rfl) (by first | assumption | decide) (fun wQ hQ KQ kQ => ?_)
  go_simp
  refine kQ _ _ ⟨rfl, (by first | (simp [go_sem, events_max2, mkch]; done) | (intro e he; exact absurd (show e ∈ (#[] : Array Event) from he) (by simp))), ?_⟩
  clear kQ KQ
  try clear hc0 hc1 hc2 hc3
  clear hQ wQ
  try walk_nrm
  refine GO.opn rfl (by rfl) (by first | assumption | decide) (fun wQ hQ KQ kQ => ?_)
  go_simp
  refine kQ _ _ ⟨_, rfl, by simp [go_sem, events_max2, mkch], fun h1 n1 f1 L1 l1 => ?_⟩
  clear kQ KQ hQ
  try walk_nrm
  generalize wQ.heap.size = r1 at *
  clear wQ
  refine GO.opw (ob := (.cells #[.int .i64 d, .int .i64 0] 69)) n1 rfl (by rfl) (by first | assumption | decide) (fun wQ hQ KQ kQ => ?_)
  have hc := hQ.own _ _ n1
  have hc0 := gcell_of (o := 0) hc
  have hc1 := gcell_of (o := 1) hc
  have hc2 := gwarm_of (o := 0) hc
  have hc3 := gwarm_of (o := 1) hc
  simp only [List.getElem?_toArray, List.getElem?_cons_succ, List.getElem?_cons_zero, List.getElem?_nil] at hc0 hc1
  go_simp
  try (unfold stored; go_simp)
  refine kQ _ _ ⟨⟨rfl, rfl, rfl, by simp [World.setCell], (fun k hk => by first | exact put_ne _ hk | exact (put_ne _ hk).trans (put_ne _ hk)), (by first | exact put_at _ hc | exact put_at _ (put_at _ hc))⟩, ?_, fun h2 m1 s1 => ?_⟩
  · have h0 := @evo_own _ _ _ _ _ _ 0 _ true hQ n1
    have h1 := @evo_own _ _ _ _ _ _ 1 _ true hQ n1
    first | (simp [go_sem, *]; done) | (simp [go_sem, *]; first | exact h0 | exact h1 | exact ⟨h0, h1⟩) | (simp [go_sem, storedEv, *]; done) | (simp [go_sem, storedEv, *]; first | exact h0 | exact h1 | exact ⟨h0, h1⟩)
  clear kQ KQ hc hc0 hc1 hc2 hc3
  clear hQ wQ
  try walk_nrm
  clear n1 f1 l1 s1
  repeat (first | with_reducible refine GO.seq ?_ | with_reducible refine GO.skip ?_ | with_reducible refine GO.region (by simp only [List.size_toArray, List.length_cons, List.length_nil, Nat.reduceAdd, Nat.zero_add, List.range, List.range.loop]; exact rfl) ?_ | with_reducible refine GO.regionEnd ?_ | with_reducible refine GO.block ?_ | with_reducible refine GO.inBlock ?_ | with_reducible refine GO.label ?_ | with_reducible refine GO.ret ?_ | with_reducible refine GO.fin ?_ | with_reducible refine GO.exit (by with_unfolding_all rfl) ?_)
  refine GO.opn rfl (by rfl) (by first | assumption | decide) (fun wQ hQ KQ kQ => ?_)
  go_simp
  refine kQ _ _ ⟨_, rfl, by simp [go_sem, events_max2, mkch], fun h4 n4 f4 L4 l4 => ?_⟩
  clear kQ KQ hQ
  try walk_nrm
  generalize wQ.heap.size = r4 at *
  clear wQ
  replace m1 := l4 _ _ m1
  refine GO.opq rfl (by rfl) (by first | assumption | decide) (fun wQ hQ KQ kQ => ?_)
  go_simp
  refine kQ _ _ ⟨rfl, (by first | (simp [go_sem, events_max2, mkch]; done) | (intro e he; exact absurd (show e ∈ (#[] : Array Event) from he) (by simp))), ?_⟩
  clear kQ KQ
  try clear hc0 hc1 hc2 hc3
  clear hQ wQ
  try walk_nrm
  refine GO.opq rfl (by rfl) (by first | assumption | decide) (fun wQ hQ KQ kQ => ?_)
  go_simp
  refine kQ _ _ ⟨rfl, (by first | (simp [go_sem, events_max2, mkch]; done) | (intro e he; exact absurd (show e ∈ (#[] : Array Event) from he) (by simp))), ?_⟩
  clear kQ KQ
  try clear hc0 hc1 hc2 hc3
  clear hQ wQ
  try walk_nrm
  refine GO.opq rfl (by rfl) (by first | assumption | decide) (fun wQ hQ KQ kQ => ?_)
  go_simp
  refine kQ _ _ ⟨rfl, (by first | (simp [go_sem, events_max2, mkch]; done) | (intro e he; exact absurd (show e ∈ (#[] : Array Event) from he) (by simp))), ?_⟩
  clear kQ KQ
  try clear hc0 hc1 hc2 hc3
  clear hQ wQ
  try walk_nrm
  repeat (first | with_reducible refine GO.seq ?_ | with_reducible refine GO.skip ?_ | with_reducible refine GO.region (by simp only [List.size_toArray, List.length_cons, List.length_nil, Nat.reduceAdd, Nat.zero_add, List.range, List.range.loop]; exact rfl) ?_ | with_reducible refine GO.regionEnd ?_ | with_reducible refine GO.block ?_ | with_reducible refine GO.inBlock ?_ | with_reducible refine GO.label ?_ | with_reducible refine GO.ret ?_ | with_reducible refine GO.fin ?_ | with_reducible refine GO.exit (by with_unfolding_all rfl) ?_)
  refine GO.opq rfl (by rfl) (by first | assumption | decide) (fun wQ hQ KQ kQ => ?_)
  go_simp
  refine kQ _ _ ⟨rfl, (by first | (simp [go_sem, events_max2, mkch]; done) | (intro e he; exact absurd (show e ∈ (#[] : Array Event) from he) (by simp))), ?_⟩
  clear kQ KQ
  try clear hc0 hc1 hc2 hc3
  clear hQ wQ
  try walk_nrm
  refine GO.opq rfl (by rfl) (by first | assumption | decide) (fun wQ hQ KQ kQ => ?_)
  go_simp
  refine kQ _ _ ⟨rfl, (by first | (simp [go_sem, events_max2, mkch]; done) | (intro e he; exact absurd (show e ∈ (#[] : Array Event) from he) (by simp))), ?_⟩
  clear kQ KQ
  try clear hc0 hc1 hc2 hc3
  clear hQ wQ
  try walk_nrm
  refine GO.opq rfl (by rfl) (by first | assumption | decide) (fun wQ hQ KQ kQ => ?_)
  have hc := hQ.own _ _ m1
  have hc0 := gcell_of (o := 0) hc
  have hc1 := gcell_of (o := 1) hc
  have hc2 := gwarm_of (o := 0) hc
  have hc3 := gwarm_of (o := 1) hc
  clear hc
  simp only [List.getElem?_toArray, List.getElem?_cons_succ, List.getElem?_cons_zero, List.getElem?_nil] at hc0 hc1
  go_simp
  refine kQ _ _ ⟨rfl, (by have h0 := @evo_own _ _ _ _ _ _ 0 _ false hQ m1; have h1 := @evo_own _ _ _ _ _ _ 1 _ false hQ m1; first | (simp [go_sem, *]; done) | (simp [go_sem, *]; first | exact h0 | exact h1 | exact ⟨h0, h1⟩)), ?_⟩
  clear kQ KQ
  try clear hc0 hc1 hc2 hc3
  clear hQ wQ
  try walk_nrm
  refine GO.opq rfl (by rfl) (by first | assumption | decide) (fun wQ hQ KQ kQ => ?_)
  go_simp
  refine kQ _ _ ⟨rfl, (by first | (simp [go_sem, events_max2, mkch]; done) | (intro e he; exact absurd (show e ∈ (#[] : Array Event) from he) (by simp))), ?_⟩
  clear kQ KQ
  try clear hc0 hc1 hc2 hc3
  clear hQ wQ
  try walk_nrm
  refine GO.call (vs := #[.int .i64 x, .int .i64 (N : Int), .func (.func 56) #[.agg #[.int .i64 d, .int .i64 0]] #[]]) rfl (by rfl) (by decide) rfl Try.func49 (by rfl) rfl (by simp [Act.eval]) ?_
  simp only [Try.ntmps49, List.size_toArray, List.length_cons, List.length_nil, Nat.reduceAdd, Nat.reduceSub, Array.replicate_succ, Array.replicate_zero, List.push_toArray, List.append_toArray, List.nil_append, List.cons_append]
  repeat (first | with_reducible refine GO.seq ?_ | with_reducible refine GO.skip ?_ | with_reducible refine GO.region (by simp only [List.size_toArray, List.length_cons, List.length_nil, Nat.reduceAdd, Nat.zero_add, List.range, List.range.loop]; exact rfl) ?_ | with_reducible refine GO.regionEnd ?_ | with_reducible refine GO.block ?_ | with_reducible refine GO.inBlock ?_ | with_reducible refine GO.label ?_ | with_reducible refine GO.ret ?_ | with_reducible refine GO.fin ?_ | with_reducible refine GO.exit (by with_unfolding_all rfl) ?_)
  refine GO.opn rfl (by rfl) (by first | assumption | decide) (fun wQ hQ KQ kQ => ?_)
  go_simp
  refine kQ _ _ ⟨_, rfl, by simp [go_sem, events_max2, mkch], fun h5 n5 f5 L5 l5 => ?_⟩
  clear kQ KQ hQ
  try walk_nrm
  generalize wQ.heap.size = r5 at *
  clear wQ
  refine GO.opn rfl (by rfl) (by first | assumption | decide) (fun wQ hQ KQ kQ => ?_)
  go_simp
  refine kQ _ _ ⟨_, rfl, by simp [go_sem, events_max2, mkch], fun h6 n6 f6 L6 l6 => ?_⟩
  clear kQ KQ hQ
  try walk_nrm
  generalize wQ.heap.size = r6 at *
  clear wQ
  refine GO.opn rfl (by rfl) (by first | assumption | decide) (fun wQ hQ KQ kQ => ?_)
  go_simp
  refine kQ _ _ ⟨_, rfl, by simp [go_sem, events_max2, mkch], fun h7 n7 f7 L7 l7 => ?_⟩
  clear kQ KQ hQ
  try walk_nrm
  generalize wQ.heap.size = r7 at *
  clear wQ
  refine GO.opq rfl (by rfl) (by first | assumption | decide) (fun wQ hQ KQ kQ => ?_)
  go_simp
  refine kQ _ _ ⟨rfl, (by first | (simp [go_sem, events_max2, mkch]; done) | (intro e he; exact absurd (show e ∈ (#[] : Array Event) from he) (by simp))), ?_⟩
  clear kQ KQ
  try clear hc0 hc1 hc2 hc3
  clear hQ wQ
  try walk_nrm
  repeat (first | with_reducible refine GO.seq ?_ | with_reducible refine GO.skip ?_ | with_reducible refine GO.region (by simp only [List.size_toArray, List.length_cons, List.length_nil, Nat.reduceAdd, Nat.zero_add, List.range, List.range.loop]; exact rfl) ?_ | with_reducible refine GO.regionEnd ?_ | with_reducible refine GO.block ?_ | with_reducible refine GO.inBlock ?_ | with_reducible refine GO.label ?_ | with_reducible refine GO.ret ?_ | with_reducible refine GO.fin ?_ | with_reducible refine GO.exit (by with_unfolding_all rfl) ?_)
  refine GO.opn rfl (by rfl) (by first | assumption | decide) (fun wQ hQ KQ kQ => ?_)
  go_simp
  refine kQ _ _ ⟨_, rfl, by simp [go_sem, events_max2, mkch], fun h8 n8 f8 L8 l8 => ?_⟩
  clear kQ KQ hQ
  try walk_nrm
  generalize wQ.heap.size = r8 at *
  clear wQ
  refine GO.opn rfl (by rfl) (by first | assumption | decide) (fun wQ hQ KQ kQ => ?_)
  go_simp
  refine kQ _ _ ⟨_, rfl, by simp [go_sem, events_max2, mkch], fun h9 n9 f9 L9 l9 => ?_⟩
  clear kQ KQ hQ
  try walk_nrm
  generalize wQ.heap.size = r9 at *
  clear wQ
  refine GO.opw (ob := (.cells #[.chan (some r8)] 91)) n9 rfl (by rfl) (by first | assumption | decide) (fun wQ hQ KQ kQ => ?_)
  have hc := hQ.own _ _ n9
  have hc0 := gcell_of (o := 0) hc
  have hc1 := gcell_of (o := 1) hc
  have hc2 := gwarm_of (o := 0) hc
  have hc3 := gwarm_of (o := 1) hc
  simp only [List.getElem?_toArray, List.getElem?_cons_succ, List.getElem?_cons_zero, List.getElem?_nil] at hc0 hc1
  go_simp
  try (unfold stored; go_simp)
  refine kQ _ _ ⟨⟨rfl, rfl, rfl, by simp [World.setCell], (fun k hk => by first | exact put_ne _ hk | exact (put_ne _ hk).trans (put_ne _ hk)), (by first | exact put_at _ hc | exact put_at _ (put_at _ hc))⟩, ?_, fun h10 m9 s9 => ?_⟩
  · have h0 := @evo_own _ _ _ _ _ _ 0 _ true hQ n9
    have h1 := @evo_own _ _ _ _ _ _ 1 _ true hQ n9
    first | (simp [go_sem, *]; done) | (simp [go_sem, *]; first | exact h0 | exact h1 | exact ⟨h0, h1⟩) | (simp [go_sem, storedEv, *]; done) | (simp [go_sem, storedEv, *]; first | exact h0 | exact h1 | exact ⟨h0, h1⟩)
  clear kQ KQ hc hc0 hc1 hc2 hc3
  clear hQ wQ
  try walk_nrm
  replace n4 := Hl.tr (l8 _ _ (l7 _ _ (l6 _ _ (l5 _ _ n4)))) f9 l9 s9
  replace n5 := Hl.tr (l8 _ _ (l7 _ _ (l6 _ _ n5))) f9 l9 s9
  replace n6 := Hl.tr (l8 _ _ (l7 _ _ n6)) f9 l9 s9
  replace n7 := Hl.tr (l8 _ _ n7) f9 l9 s9
  replace n8 := Hl.tr n8 f9 l9 s9
  clear n9 s9 l9 f9 l8 l7 l6 l5 f8 f7 f6 f5 f4 m1 l4
  have d48 : r4 ≠ r8 := fun e => by rw [e] at n4; cases n4.symm.trans n8
  have d58 : r5 ≠ r8 := fun e => by rw [e] at n5; cases n5.symm.trans n8
  have d68 : r6 ≠ r8 := fun e => by rw [e] at n6; cases n6.symm.trans n8
  have d78 : r7 ≠ r8 := fun e => by rw [e] at n7; cases n7.symm.trans n8
  have d98 : r9 ≠ r8 := fun e => by rw [e] at m9; cases m9.symm.trans n8
  repeat (first | with_reducible refine GO.seq ?_ | with_reducible refine GO.skip ?_ | with_reducible refine GO.region (by simp only [List.size_toArray, List.length_cons, List.length_nil, Nat.reduceAdd, Nat.zero_add, List.range, List.range.loop]; exact rfl) ?_ | with_reducible refine GO.regionEnd ?_ | with_reducible refine GO.block ?_ | with_reducible refine GO.inBlock ?_ | with_reducible refine GO.label ?_ | with_reducible refine GO.ret ?_ | with_reducible refine GO.fin ?_ | with_reducible refine GO.exit (by with_unfolding_all rfl) ?_)
  refine GO.opq rfl (by rfl) (by first | assumption | decide) (fun wQ hQ KQ kQ => ?_)
  go_simp
  refine kQ _ _ ⟨rfl, (by first | (simp [go_sem, events_max2, mkch]; done) | (intro e he; exact absurd (show e ∈ (#[] : Array Event) from he) (by simp))), ?_⟩
  clear kQ KQ
  try clear hc0 hc1 hc2 hc3
  clear hQ wQ
  try walk_nrm
  refine GO.stop fun wS hS => BW.go (d := { target := .fn (.func 71) #[.pointer (some ⟨r5, 0, none⟩), .pointer (some ⟨r6, 0, none⟩), .pointer (some ⟨r7, 0, none⟩), .pointer (some ⟨r9, 0, none⟩)], args := #[] }) rfl (by rfl) (by decide) (fun W => by simp [go_sem, execOp, Act.eval]) rfl (fun W => by simp [go_sem, execOp, Act.eval]) fun T => ?_
  refine ⟨tvs (fun j => 10 * qx d x j / d) (fun j => qx d x j) 0 N, r8, (wS.on T 0).heap.size, .agg #[.int .i64 0, .int .i64 0], hS.lt n8, Nat.le_refl _, ⟨0, 0, false, hS.own _ _ n8⟩, ?_, ?_⟩
  · rw [← dom0]
    refine recvs_of ?_ (Sat.fresh0 (wS.on T 0) r8)
    have o9 : (wS.on T 0).heap[r9]? = some (.cells #[.chan (some r8)] 91) := hS.own _ _ m9
    have t9 : r9 < (wS.on T 0).heap.size := hS.lt m9
    have o4 : (wS.on T 0).heap[r4]? = some (.cells #[] 2) := hS.own _ _ n4
    have t4 : r4 < (wS.on T 0).heap.size := hS.lt n4
    have hBL : w.heap.size ≤ (wS.on T 0).heap.size := hS.size
    have hold : Hid (∀ k, k < w.heap.size → (wS.on T 0).heap[k]? = w.heap[k]?) := fun k hk => hS.old k hk (by omega)
    have hos : (wS.on T 0).os = w.os := hS.os
    have hou : (wS.on T 0).output = w.output := hS.output
    generalize wS.on T 0 = W at *
    clear hS m9 n4 n5 n6 n7 n8
    walk_nrm
    repeat (first | with_reducible refine GO.seq ?_ | with_reducible refine GO.skip ?_ | with_reducible refine GO.region (by simp only [List.size_toArray, List.length_cons, List.length_nil, Nat.reduceAdd, Nat.zero_add, List.range, List.range.loop]; exact rfl) ?_ | with_reducible refine GO.regionEnd ?_ | with_reducible refine GO.block ?_ | with_reducible refine GO.inBlock ?_ | with_reducible refine GO.label ?_ | with_reducible refine GO.ret ?_ | with_reducible refine GO.fin ?_ | with_reducible refine GO.exit (by with_unfolding_all rfl) ?_)
    refine GO.opq rfl (by rfl) (by first | assumption | decide) (fun wQ hQ KQ kQ => ?_)
    have hc := (hQ.old _ t9 d98).trans o9
    have hc0 := gcell_of (o := 0) hc
    have hc1 := hc0
    have hc2 := gwarm_of (o := 0) hc
    have hc3 := hc2
    clear hc
    simp only [List.getElem?_toArray, List.getElem?_cons_succ, List.getElem?_cons_zero, List.getElem?_nil] at hc0 hc1
    go_simp
    refine kQ _ _ ⟨rfl, (by have h0 := @evo_old _ _ _ _ _ _ 0 hQ t9; first | (simp [go_sem, *]; done) | (simp [go_sem, *]; exact h0)), ?_⟩
    clear kQ KQ
    try clear hc0 hc1 hc2 hc3
    clear hQ wQ
    try walk_nrm
    refine GO.opq rfl (by rfl) (by first | assumption | decide) (fun wQ hQ KQ kQ => ?_)
    go_simp
    refine kQ _ _ ⟨rfl, (by first | (simp [go_sem, events_max2, mkch]; done) | (intro e he; exact absurd (show e ∈ (#[] : Array Event) from he) (by simp))), ?_⟩
    clear kQ KQ
    try clear hc0 hc1 hc2 hc3
    clear hQ wQ
    try walk_nrm
    repeat (first | with_reducible refine GO.seq ?_ | with_reducible refine GO.skip ?_ | with_reducible refine GO.region (by simp only [List.size_toArray, List.length_cons, List.length_nil, Nat.reduceAdd, Nat.zero_add, List.range, List.range.loop]; exact rfl) ?_ | with_reducible refine GO.regionEnd ?_ | with_reducible refine GO.block ?_ | with_reducible refine GO.inBlock ?_ | with_reducible refine GO.label ?_ | with_reducible refine GO.ret ?_ | with_reducible refine GO.fin ?_ | with_reducible refine GO.exit (by with_unfolding_all rfl) ?_)
    refine GO.leave1 rfl rfl Try.func49 (by rfl) ?_
    walk_nrm
    repeat (first | with_reducible refine GO.seq ?_ | with_reducible refine GO.skip ?_ | with_reducible refine GO.region (by simp only [List.size_toArray, List.length_cons, List.length_nil, Nat.reduceAdd, Nat.zero_add, List.range, List.range.loop]; exact rfl) ?_ | with_reducible refine GO.regionEnd ?_ | with_reducible refine GO.block ?_ | with_reducible refine GO.inBlock ?_ | with_reducible refine GO.label ?_ | with_reducible refine GO.ret ?_ | with_reducible refine GO.fin ?_ | with_reducible refine GO.exit (by with_unfolding_all rfl) ?_)
    rw [show tvs (fun j => 10 * qx d x j / d) (fun j => qx d x j) 0 N = tvs (fun j => 10 * qx d x j / d) (fun j => qx d x j) (N - N) N by rw [Nat.sub_self]]
    refine GO.loopS (fun n h a => ∃ (j : Nat) (v : Value) (y0 y1 y2 y3 y4 y5 y6 y7 y8 y9 y12 y13 y14 y15 y16 y17 y18 y19 y20 y21 y22 y23 y24 y25 y26 y27 y28 y29 y30 y31 y32 y33 y34 y35 y36 y37 y38 y39 y40 y41 y43 y44 y45 y46 y47 y48 y49 y50 y51 y52 y53 y54 : Value), j + n = N ∧ RowI W r8 W.heap.size w.heap.size h v (ql d x j) ∧ a = ⟨#[y0, y1, y2, y3, y4, y5, y6, y7, y8, y9, v, .int .i64 (qx d x j), y12, y13, y14, y15, y16, y17, y18, y19, y20, y21, y22, y23, y24, y25, y26, y27, y28, y29, y30, y31, y32, y33, y34, y35, y36, y37, y38, y39, y40, y41, .chan (some r8), y43, y44, y45, y46, y47, y48, y49, y50, y51, y52, y53, y54], []⟩) (fun n => RStopOf Try.prog r8 W.heap.size (.agg #[.int .i64 0, .int .i64 0]) (fun _ g w => BW Try.prog Post g w) (tvs (fun j => 10 * qx d x j / d) (fun j => qx d x j) (N - n) n)) N ?_ ?_
    · exact ⟨0, _, _, _, _, _, _, _, _, _, _, _, _, _, _, _, _, _, _, _, _, _, _, _, _, _, _, _, _, _, _, _, _, _, _, _, _, _, _, _, _, _, _, _, _, _, _, _, _, _, _, _, _, _, by omega, ⟨r4, 0, #[], rfl, Nat.le_refl _, Nat.zero_le _, rfl, rfl, .inr ⟨rfl, L4, t4, d48, o4⟩⟩, rfl⟩
    · rintro n h a ⟨j, v, y0, y1, y2, y3, y4, y5, y6, y7, y8, y9, y12, y13, y14, y15, y16, y17, y18, y19, y20, y21, y22, y23, y24, y25, y26, y27, y28, y29, y30, y31, y32, y33, y34, y35, y36, y37, y38, y39, y40, y41, y43, y44, y45, y46, y47, y48, y49, y50, y51, y52, y53, y54, hj, hrow, rfl⟩ hrec
      replace hrec := hid hrec
      clear o4 o9
      repeat (first | with_reducible refine GO.seq ?_ | with_reducible refine GO.skip ?_ | with_reducible refine GO.region (by simp only [List.size_toArray, List.length_cons, List.length_nil, Nat.reduceAdd, Nat.zero_add, List.range, List.range.loop]; exact rfl) ?_ | with_reducible refine GO.regionEnd ?_ | with_reducible refine GO.block ?_ | with_reducible refine GO.inBlock ?_ | with_reducible refine GO.label ?_ | with_reducible refine GO.ret ?_ | with_reducible refine GO.fin ?_ | with_reducible refine GO.exit (by with_unfolding_all rfl) ?_)
      cases n with
      | zero =>
        obtain rfl : j = N := by omega
        simp only [Nat.sub_zero, tvs]
        refine GO.recvEnd rfl (by rfl) (by decide) (fun w hS => recv_run rfl rfl w) (fun w3 hS3 => ?_)
        refine BW.ofGO ?_ (Sat.start w3)
        walk_nrm
        refine GO.opq rfl (by rfl) (by first | assumption | decide) (fun wQ hQ KQ kQ => ?_)
        go_simp
        refine kQ _ _ ⟨rfl, (by first | (simp [go_sem, events_max2, mkch]; done) | (intro e he; exact absurd (show e ∈ (#[] : Array Event) from he) (by simp))), ?_⟩
        clear kQ KQ
        try clear hc0 hc1 hc2 hc3
        clear hQ wQ
        try walk_nrm
        repeat (first | with_reducible refine GO.seq ?_ | with_reducible refine GO.skip ?_ | with_reducible refine GO.region (by simp only [List.size_toArray, List.length_cons, List.length_nil, Nat.reduceAdd, Nat.zero_add, List.range, List.range.loop]; exact rfl) ?_ | with_reducible refine GO.regionEnd ?_ | with_reducible refine GO.block ?_ | with_reducible refine GO.inBlock ?_ | with_reducible refine GO.label ?_ | with_reducible refine GO.ret ?_ | with_reducible refine GO.fin ?_ | with_reducible refine GO.exit (by with_unfolding_all rfl) ?_)
        refine GO.cond (t := false) rfl (fun hc => by cases hc) (fun _ => ?_)
        repeat (first | with_reducible refine GO.seq ?_ | with_reducible refine GO.skip ?_ | with_reducible refine GO.region (by simp only [List.size_toArray, List.length_cons, List.length_nil, Nat.reduceAdd, Nat.zero_add, List.range, List.range.loop]; exact rfl) ?_ | with_reducible refine GO.regionEnd ?_ | with_reducible refine GO.block ?_ | with_reducible refine GO.inBlock ?_ | with_reducible refine GO.label ?_ | with_reducible refine GO.ret ?_ | with_reducible refine GO.fin ?_ | with_reducible refine GO.exit (by with_unfolding_all rfl) ?_ | (refine GO.opq rfl (by rfl) (by first | assumption | decide) (fun wQ hQ KQ kQ => ?_); go_simp; refine kQ _ _ ⟨rfl, (by first | (simp [go_sem, events_max2, mkch]; done) | (intro e he; exact absurd (show e ∈ (#[] : Array Event) from he) (by simp))), ?_⟩; clear kQ KQ; try clear hc0 hc1 hc2 hc3; clear hQ wQ; try walk_nrm))
        refine GO.leave3 rfl rfl hf (by rfl) ?_
        walk_nrm
        refine GO.stop fun w4 hS4 => ?_
        have hT3 : Has (w3.on w.tape w.drawn) w.heap.size v (ql d x j) := hrow.has hS3 hBL rfl
        have hB34 : Below w3.heap.size (w3.on w.tape w.drawn) (w4.on w.tape w.drawn) := ⟨hS4.os, rfl, hS4.output, hS4.size, fun k hk => hS4.old k hk (by omega)⟩
        have hB : Below w.heap.size w (w4.on w.tape w.drawn) := ⟨hS4.os.trans (hS3.os.trans hos), rfl, hS4.output.trans (hS3.output.trans hou), Nat.le_trans hBL (Nat.le_trans hS3.size hS4.size), fun k hk => by
          have h3 := hS3.size
          exact (hS4.old k (by omega) (by omega)).trans ((hS3.old k (by omega) (by omega)).trans (hold.out k hk))⟩
        exact fun T2 d2 => hnext.out v (w4.on w.tape w.drawn) (hT3.below hB34 (Nat.le_refl _)) hB T2 d2
      | succ m =>
        have ej : N - (m + 1) = j := by omega
        have ej2 : N - m = j + 1 := by omega
        simp only [ej, tvs]
        refine GO.recv rfl (by rfl) (by decide) (fun w hS => recv_run rfl rfl w) ?_
        walk_nrm
        have Hnx : Hid (ql d x (j + 1) = ql d x j ++ [10 * qx d x j / d]) := rfl
        obtain ⟨q, hqe⟩ : ∃ q, 10 * qx d x j / d = q := ⟨_, rfl⟩
        obtain ⟨R', hRe⟩ : ∃ R', qx d x (j + 1) = R' := ⟨_, rfl⟩
        have HQE : Hid (10 * qx d x j / d = q) := hqe
        have HRE : Hid (qx d x (j + 1) = R') := hRe
        rw [hqe, hRe]
        clear hqe hRe
        refine GO.opq rfl (by rfl) (by first | assumption | decide) (fun wQ hQ KQ kQ => ?_)
        go_simp
        refine kQ _ _ ⟨rfl, (by first | (simp [go_sem, events_max2, mkch]; done) | (intro e he; exact absurd (show e ∈ (#[] : Array Event) from he) (by simp))), ?_⟩
        clear kQ KQ
        try clear hc0 hc1 hc2 hc3
        clear hQ wQ
        try walk_nrm
        repeat (first | with_reducible refine GO.seq ?_ | with_reducible refine GO.skip ?_ | with_reducible refine GO.region (by simp only [List.size_toArray, List.length_cons, List.length_nil, Nat.reduceAdd, Nat.zero_add, List.range, List.range.loop]; exact rfl) ?_ | with_reducible refine GO.regionEnd ?_ | with_reducible refine GO.block ?_ | with_reducible refine GO.inBlock ?_ | with_reducible refine GO.label ?_ | with_reducible refine GO.ret ?_ | with_reducible refine GO.fin ?_ | with_reducible refine GO.exit (by with_unfolding_all rfl) ?_)
        refine GO.cond (t := true) rfl (fun _ => ?_) (fun hc => by cases hc)
        repeat (first | with_reducible refine GO.seq ?_ | with_reducible refine GO.skip ?_ | with_reducible refine GO.region (by simp only [List.size_toArray, List.length_cons, List.length_nil, Nat.reduceAdd, Nat.zero_add, List.range, List.range.loop]; exact rfl) ?_ | with_reducible refine GO.regionEnd ?_ | with_reducible refine GO.block ?_ | with_reducible refine GO.inBlock ?_ | with_reducible refine GO.label ?_ | with_reducible refine GO.ret ?_ | with_reducible refine GO.fin ?_ | with_reducible refine GO.exit (by with_unfolding_all rfl) ?_)
        refine GO.opq rfl (by rfl) (by first | assumption | decide) (fun wQ hQ KQ kQ => ?_)
        go_simp
        refine kQ _ _ ⟨rfl, (by first | (simp [go_sem, events_max2, mkch]; done) | (intro e he; exact absurd (show e ∈ (#[] : Array Event) from he) (by simp))), ?_⟩
        clear kQ KQ
        try clear hc0 hc1 hc2 hc3
        clear hQ wQ
        try walk_nrm
        refine GO.opn rfl (by rfl) (by first | assumption | decide) (fun wQ hQ KQ kQ => ?_)
        go_simp
        refine kQ _ _ ⟨_, rfl, by simp [go_sem, events_max2, mkch], fun h1' n12 f12 L12 l12 => ?_⟩
        clear kQ KQ hQ
        try walk_nrm
        generalize wQ.heap.size = r12 at *
        clear wQ
        refine GO.opw (ob := (.cells #[.int .i64 q, .int .i64 R'] 39)) n12 rfl (by rfl) (by first | assumption | decide) (fun wQ hQ KQ kQ => ?_)
        have hc := hQ.own _ _ n12
        have hc0 := gcell_of (o := 0) hc
        have hc1 := gcell_of (o := 1) hc
        have hc2 := gwarm_of (o := 0) hc
        have hc3 := gwarm_of (o := 1) hc
        simp only [List.getElem?_toArray, List.getElem?_cons_succ, List.getElem?_cons_zero, List.getElem?_nil] at hc0 hc1
        go_simp
        try (unfold stored; go_simp)
        refine kQ _ _ ⟨⟨rfl, rfl, rfl, by simp [World.setCell], (fun k hk => by first | exact put_ne _ hk | exact (put_ne _ hk).trans (put_ne _ hk)), (by first | exact put_at _ hc | exact put_at _ (put_at _ hc))⟩, ?_, fun h2' m12 s12 => ?_⟩
        · have h0 := @evo_own _ _ _ _ _ _ 0 _ true hQ n12
          have h1 := @evo_own _ _ _ _ _ _ 1 _ true hQ n12
          first | (simp [go_sem, *]; done) | (simp [go_sem, *]; first | exact h0 | exact h1 | exact ⟨h0, h1⟩) | (simp [go_sem, storedEv, *]; done) | (simp [go_sem, storedEv, *]; first | exact h0 | exact h1 | exact ⟨h0, h1⟩)
        clear kQ KQ hc hc0 hc1 hc2 hc3
        clear hQ wQ
        try walk_nrm
        have hrow2 := hrow.put f12 l12 s12
        clear n12 f12 l12 s12 hrow
        repeat (first | with_reducible refine GO.seq ?_ | with_reducible refine GO.skip ?_ | with_reducible refine GO.region (by simp only [List.size_toArray, List.length_cons, List.length_nil, Nat.reduceAdd, Nat.zero_add, List.range, List.range.loop]; exact rfl) ?_ | with_reducible refine GO.regionEnd ?_ | with_reducible refine GO.block ?_ | with_reducible refine GO.inBlock ?_ | with_reducible refine GO.label ?_ | with_reducible refine GO.ret ?_ | with_reducible refine GO.fin ?_ | with_reducible refine GO.exit (by with_unfolding_all rfl) ?_)
        refine GO.drawn (by kernel_rfl) (Inv := fun listed h' a => ∃ (l0 l1 l2 l3 l4 l5 l6 l7 l8 : Bool) (s46 s47 s48 s49 s50 s51 s52 s10 s11 s43 s44 s45 : Value), listed = #[l0, l1, l2, l3, l4, l5, l6, l7, l8] ∧ a = ⟨#[y0, y1, y2, y3, y4, y5, y6, y7, y8, y9, s10, s11, .pointer (some ⟨r12, 0, none⟩), y13, y14, y15, y16, y17, y18, y19, y20, y21, y22, y23, y24, y25, y26, y27, y28, y29, y30, y31, y32, y33, y34, y35, y36, y37, y38, y39, y40, y41, .chan (some r8), s43, s44, s45, s46, s47, s48, s49, s50, s51, s52, y53, y54], []⟩ ∧ Hid ((l0 = false → s10 = v) ∧ (l0 = true → s46 = v) ∧ (l1 = true → s47 = .pointer (some ⟨r12, 0, none⟩)) ∧ (l2 = true → s48 = .int .i64 q) ∧ (l3 = true → l4 = false → ∃ r13, s49 = .slice (some ⟨r13, 0, none⟩) 1 1 ∧ h' r13 = some (.cells #[.int .i64 q] 2)) ∧ (l4 = false → RowI W r8 W.heap.size w.heap.size h' v (ql d x j)) ∧ (l4 = true → RowI W r8 W.heap.size w.heap.size h' s50 (ql d x j ++ [q])) ∧ (l5 = true → s51 = .pointer (some ⟨r12, 1, none⟩)) ∧ (l6 = true → s52 = .int .i64 R') ∧ (l7 = true → l4 = true ∧ s10 = s50) ∧ (l8 = true → s11 = .int .i64 R')) ∧ h' r12 = some (.cells #[.int .i64 q, .int .i64 R'] 39)) ?_ ?_ ?_
        · exact ⟨false, false, false, false, false, false, false, false, false, _, _, _, _, _, _, _, _, _, _, _, _, rfl, rfl, ⟨(fun _ => rfl), (fun h => by cases h), (fun h => by cases h), (fun h => by cases h), (fun h => by cases h), (fun _ => hrow2), (fun h => by cases h), (fun h => by cases h), (fun h => by cases h), (fun h => by cases h), (fun h => by cases h)⟩, m12⟩
        · rintro listed h' a i rest ⟨l0, l1, l2, l3, l4, l5, l6, l7, l8, s46, s47, s48, s49, s50, s51, s52, s10, s11, s43, s44, s45, rfl, rfl, E, n12⟩ hi hnx
          replace hnx := hid hnx
          obtain ⟨hlt, hnl, hdp⟩ := ready_mem hi
          clear hi
          have hlt' : i < 9 := hlt
          rcases (show i = 0 ∨ i = 1 ∨ i = 2 ∨ i = 3 ∨ i = 4 ∨ i = 5 ∨ i = 6 ∨ i = 7 ∨ i = 8 by omega) with rfl | rfl | rfl | rfl | rfl | rfl | rfl | rfl | rfl
          · clear hlt hlt'
            have hl : l0 = false := by simpa using hnl
            have q0 := E.out.1 hl
            subst q0
            clear hdp hnl
            refine GO.opq rfl (by rfl) (by first | assumption | decide) (fun wQ hQ KQ kQ => ?_)
            go_simp
            refine kQ _ _ ⟨rfl, (by first | (simp [go_sem, events_max2, mkch]; done) | (intro e he; exact absurd (show e ∈ (#[] : Array Event) from he) (by simp))), ?_⟩
            clear kQ KQ
            try clear hc0 hc1 hc2 hc3
            clear hQ wQ
            try walk_nrm
            exact hnx.out _ _ ⟨true, l1, l2, l3, l4, l5, l6, l7, l8, _, _, _, _, _, _, _, _, _, _, _, _, rfl, rfl, ⟨(fun h => by cases h), (fun _ => rfl), E.out.2.2.1, E.out.2.2.2.1, E.out.2.2.2.2.1, E.out.2.2.2.2.2.1, E.out.2.2.2.2.2.2.1, E.out.2.2.2.2.2.2.2.1, E.out.2.2.2.2.2.2.2.2.1, E.out.2.2.2.2.2.2.2.2.2.1, E.out.2.2.2.2.2.2.2.2.2.2⟩, n12⟩
          · clear hlt hlt'
            clear hdp hnl
            refine GO.opq rfl (by rfl) (by first | assumption | decide) (fun wQ hQ KQ kQ => ?_)
            go_simp
            refine kQ _ _ ⟨rfl, (by first | (simp [go_sem, events_max2, mkch]; done) | (intro e he; exact absurd (show e ∈ (#[] : Array Event) from he) (by simp))), ?_⟩
            clear kQ KQ
            try clear hc0 hc1 hc2 hc3
            clear hQ wQ
            try walk_nrm
            exact hnx.out _ _ ⟨l0, true, l2, l3, l4, l5, l6, l7, l8, _, _, _, _, _, _, _, _, _, _, _, _, rfl, rfl, ⟨E.out.1, E.out.2.1, (fun _ => rfl), E.out.2.2.2.1, E.out.2.2.2.2.1, E.out.2.2.2.2.2.1, E.out.2.2.2.2.2.2.1, E.out.2.2.2.2.2.2.2.1, E.out.2.2.2.2.2.2.2.2.1, E.out.2.2.2.2.2.2.2.2.2.1, E.out.2.2.2.2.2.2.2.2.2.2⟩, n12⟩
          · clear hlt hlt'
            have dp : l1 = true := by simpa [Region.binds] using hdp
            have q1 := E.out.2.2.1 dp
            subst q1
            clear hdp hnl
            refine GO.opq rfl (by rfl) (by first | assumption | decide) (fun wQ hQ KQ kQ => ?_)
            have hc := hQ.own _ _ n12
            have hc0 := gcell_of (o := 0) hc
            have hc1 := gcell_of (o := 1) hc
            have hc2 := gwarm_of (o := 0) hc
            have hc3 := gwarm_of (o := 1) hc
            clear hc
            simp only [List.getElem?_toArray, List.getElem?_cons_succ, List.getElem?_cons_zero, List.getElem?_nil] at hc0 hc1
            go_simp
            refine kQ _ _ ⟨rfl, (by have h0 := @evo_own _ _ _ _ _ _ 0 _ false hQ n12; have h1 := @evo_own _ _ _ _ _ _ 1 _ false hQ n12; first | (simp [go_sem, *]; done) | (simp [go_sem, *]; first | exact h0 | exact h1 | exact ⟨h0, h1⟩)), ?_⟩
            clear kQ KQ
            try clear hc0 hc1 hc2 hc3
            clear hQ wQ
            try walk_nrm
            exact hnx.out _ _ ⟨l0, l1, true, l3, l4, l5, l6, l7, l8, _, _, _, _, _, _, _, _, _, _, _, _, rfl, rfl, ⟨E.out.1, E.out.2.1, E.out.2.2.1, (fun _ => rfl), E.out.2.2.2.2.1, E.out.2.2.2.2.2.1, E.out.2.2.2.2.2.2.1, E.out.2.2.2.2.2.2.2.1, E.out.2.2.2.2.2.2.2.2.1, E.out.2.2.2.2.2.2.2.2.2.1, E.out.2.2.2.2.2.2.2.2.2.2⟩, n12⟩
          · clear hlt hlt'
            have dp : l2 = true := by simpa [Region.binds] using hdp
            have q2 := E.out.2.2.2.1 dp
            subst q2
            clear hdp hnl
            refine GO.opn rfl (by rfl) (by first | assumption | decide) (fun wQ hQ KQ kQ => ?_)
            go_simp
            refine kQ _ _ ⟨_, rfl, by simp [go_sem, events_max2, mkch], fun h13 n13 f13 L13 l13 => ?_⟩
            clear kQ KQ hQ
            try walk_nrm
            generalize wQ.heap.size = r13 at *
            clear wQ
            exact hnx.out _ _ ⟨l0, l1, l2, true, l4, l5, l6, l7, l8, _, _, _, _, _, _, _, _, _, _, _, _, rfl, rfl, ⟨E.out.1, E.out.2.1, E.out.2.2.1, E.out.2.2.2.1, (fun _ _ => ⟨r13, rfl, n13⟩), (fun h => (E.out.2.2.2.2.2.1 h).le l13), (fun h => (E.out.2.2.2.2.2.2.1 h).le l13), E.out.2.2.2.2.2.2.2.1, E.out.2.2.2.2.2.2.2.2.1, E.out.2.2.2.2.2.2.2.2.2.1, E.out.2.2.2.2.2.2.2.2.2.2⟩, l13 _ _ n12⟩
          · clear hlt hlt'
            have dp : l0 = true ∧ l3 = true := by simpa [Region.binds] using hdp
            have hl : l4 = false := by simpa using hnl
            have q0 := E.out.2.1 dp.1
            subst q0
            obtain ⟨r13, q3, n13⟩ := E.out.2.2.2.2.1 dp.2 hl
            subst q3
            have hrw := E.out.2.2.2.2.2.1 hl
            clear hdp hnl
            refine GO.appI (l := ql d x j) rfl (by rfl) (by decide) rfl rfl rfl hrw n13 (by rw [ql_len]; omega) (fun h5 v5 hrow5 hkeep => ?_)
            walk_nrm
            exact hnx.out _ _ ⟨l0, l1, l2, l3, true, l5, l6, l7, l8, _, _, _, _, _, _, _, _, _, _, _, _, rfl, rfl, ⟨E.out.1, E.out.2.1, E.out.2.2.1, E.out.2.2.2.1, (fun _ h => by cases h), (fun h => by cases h), (fun _ => hrow5), E.out.2.2.2.2.2.2.2.1, E.out.2.2.2.2.2.2.2.2.1, (fun h => by have := (E.out.2.2.2.2.2.2.2.2.2.1 h).1; rw [hl] at this; cases this), E.out.2.2.2.2.2.2.2.2.2.2⟩, hkeep _ _ n12 (hrw.apart n12 L12)⟩
          · clear hlt hlt'
            clear hdp hnl
            refine GO.opq rfl (by rfl) (by first | assumption | decide) (fun wQ hQ KQ kQ => ?_)
            go_simp
            refine kQ _ _ ⟨rfl, (by first | (simp [go_sem, events_max2, mkch]; done) | (intro e he; exact absurd (show e ∈ (#[] : Array Event) from he) (by simp))), ?_⟩
            clear kQ KQ
            try clear hc0 hc1 hc2 hc3
            clear hQ wQ
            try walk_nrm
            exact hnx.out _ _ ⟨l0, l1, l2, l3, l4, true, l6, l7, l8, _, _, _, _, _, _, _, _, _, _, _, _, rfl, rfl, ⟨E.out.1, E.out.2.1, E.out.2.2.1, E.out.2.2.2.1, E.out.2.2.2.2.1, E.out.2.2.2.2.2.1, E.out.2.2.2.2.2.2.1, (fun _ => rfl), E.out.2.2.2.2.2.2.2.2.1, E.out.2.2.2.2.2.2.2.2.2.1, E.out.2.2.2.2.2.2.2.2.2.2⟩, n12⟩
          · clear hlt hlt'
            have dp : l5 = true := by simpa [Region.binds] using hdp
            have q5 := E.out.2.2.2.2.2.2.2.1 dp
            subst q5
            clear hdp hnl
            refine GO.opq rfl (by rfl) (by first | assumption | decide) (fun wQ hQ KQ kQ => ?_)
            have hc := hQ.own _ _ n12
            have hc0 := gcell_of (o := 0) hc
            have hc1 := gcell_of (o := 1) hc
            have hc2 := gwarm_of (o := 0) hc
            have hc3 := gwarm_of (o := 1) hc
            clear hc
            simp only [List.getElem?_toArray, List.getElem?_cons_succ, List.getElem?_cons_zero, List.getElem?_nil] at hc0 hc1
            go_simp
            refine kQ _ _ ⟨rfl, (by have h0 := @evo_own _ _ _ _ _ _ 0 _ false hQ n12; have h1 := @evo_own _ _ _ _ _ _ 1 _ false hQ n12; first | (simp [go_sem, *]; done) | (simp [go_sem, *]; first | exact h0 | exact h1 | exact ⟨h0, h1⟩)), ?_⟩
            clear kQ KQ
            try clear hc0 hc1 hc2 hc3
            clear hQ wQ
            try walk_nrm
            exact hnx.out _ _ ⟨l0, l1, l2, l3, l4, l5, true, l7, l8, _, _, _, _, _, _, _, _, _, _, _, _, rfl, rfl, ⟨E.out.1, E.out.2.1, E.out.2.2.1, E.out.2.2.2.1, E.out.2.2.2.2.1, E.out.2.2.2.2.2.1, E.out.2.2.2.2.2.2.1, E.out.2.2.2.2.2.2.2.1, (fun _ => rfl), E.out.2.2.2.2.2.2.2.2.2.1, E.out.2.2.2.2.2.2.2.2.2.2⟩, n12⟩
          · clear hlt hlt'
            have dp : l4 = true ∧ l0 = true := by
              have h := hdp
              simp [Region.binds, and_assoc] at h
              exact ⟨h.1, h.2.1⟩
            clear hdp hnl
            refine GO.opq rfl (by rfl) (by first | assumption | decide) (fun wQ hQ KQ kQ => ?_)
            go_simp
            refine kQ _ _ ⟨rfl, (by first | (simp [go_sem, events_max2, mkch]; done) | (intro e he; exact absurd (show e ∈ (#[] : Array Event) from he) (by simp))), ?_⟩
            clear kQ KQ
            try clear hc0 hc1 hc2 hc3
            clear hQ wQ
            try walk_nrm
            exact hnx.out _ _ ⟨l0, l1, l2, l3, l4, l5, l6, true, l8, _, _, _, _, _, _, _, _, _, _, _, _, rfl, rfl, ⟨(fun h => by rw [dp.2] at h; cases h), E.out.2.1, E.out.2.2.1, E.out.2.2.2.1, E.out.2.2.2.2.1, E.out.2.2.2.2.2.1, E.out.2.2.2.2.2.2.1, E.out.2.2.2.2.2.2.2.1, E.out.2.2.2.2.2.2.2.2.1, (fun _ => ⟨dp.1, rfl⟩), E.out.2.2.2.2.2.2.2.2.2.2⟩, n12⟩
          · clear hlt hlt'
            have dp : l6 = true := by
              have h := hdp
              simp [Region.binds, and_assoc] at h
              exact h.1
            have q6 := E.out.2.2.2.2.2.2.2.2.1 dp
            subst q6
            clear hdp hnl
            refine GO.opq rfl (by rfl) (by first | assumption | decide) (fun wQ hQ KQ kQ => ?_)
            go_simp
            refine kQ _ _ ⟨rfl, (by first | (simp [go_sem, events_max2, mkch]; done) | (intro e he; exact absurd (show e ∈ (#[] : Array Event) from he) (by simp))), ?_⟩
            clear kQ KQ
            try clear hc0 hc1 hc2 hc3
            clear hQ wQ
            try walk_nrm
            exact hnx.out _ _ ⟨l0, l1, l2, l3, l4, l5, l6, l7, true, _, _, _, _, _, _, _, _, _, _, _, _, rfl, rfl, ⟨E.out.1, E.out.2.1, E.out.2.2.1, E.out.2.2.2.1, E.out.2.2.2.2.1, E.out.2.2.2.2.2.1, E.out.2.2.2.2.2.2.1, E.out.2.2.2.2.2.2.2.1, E.out.2.2.2.2.2.2.2.2.1, E.out.2.2.2.2.2.2.2.2.2.1, (fun _ => rfl)⟩, n12⟩
        · rintro listed h' a ⟨l0, l1, l2, l3, l4, l5, l6, l7, l8, s46, s47, s48, s49, s50, s51, s52, s10, s11, s43, s44, s45, rfl, rfl, E, n12⟩ hr
          have t0 : l0 = true := by
            have := ready_none hr 0 (by decide) (by simp [Region.binds])
            simpa using this
          have t1 : l1 = true := by
            have := ready_none hr 1 (by decide) (by simp [Region.binds])
            simpa using this
          have t2 : l2 = true := by
            have := ready_none hr 2 (by decide) (by simp [Region.binds, t1])
            simpa using this
          have t3 : l3 = true := by
            have := ready_none hr 3 (by decide) (by simp [Region.binds, t2])
            simpa using this
          have t4 : l4 = true := by
            have := ready_none hr 4 (by decide) (by simp [Region.binds, t0, t3])
            simpa using this
          have t5 : l5 = true := by
            have := ready_none hr 5 (by decide) (by simp [Region.binds])
            simpa using this
          have t6 : l6 = true := by
            have := ready_none hr 6 (by decide) (by simp [Region.binds, t5])
            simpa using this
          have t7 : l7 = true := by
            have := ready_none hr 7 (by decide) (by simp [Region.binds, t0, t1, t2, t3, t4])
            simpa using this
          have t8 : l8 = true := by
            have := ready_none hr 8 (by decide) (by simp [Region.binds, t0, t1, t2, t3, t4, t5, t6, t7])
            simpa using this
          have hrow6 := E.out.2.2.2.2.2.2.1 t4
          have e10 := (E.out.2.2.2.2.2.2.2.2.2.1 t7).2
          have e11 := E.out.2.2.2.2.2.2.2.2.2.2 t8
          subst e10 e11
          clear E hr n12 t0 t1 t2 t3 t4 t5 t6 t7 t8
          repeat (first | with_reducible refine GO.seq ?_ | with_reducible refine GO.skip ?_ | with_reducible refine GO.region (by simp only [List.size_toArray, List.length_cons, List.length_nil, Nat.reduceAdd, Nat.zero_add, List.range, List.range.loop]; exact rfl) ?_ | with_reducible refine GO.regionEnd ?_ | with_reducible refine GO.block ?_ | with_reducible refine GO.inBlock ?_ | with_reducible refine GO.label ?_ | with_reducible refine GO.ret ?_ | with_reducible refine GO.fin ?_ | with_reducible refine GO.exit (by with_unfolding_all rfl) ?_)
          rw [show tvs (fun j => 10 * qx d x j / d) (fun j => qx d x j) (j + 1) m = tvs (fun j => 10 * qx d x j / d) (fun j => qx d x j) (N - m) m by rw [ej2]]
          rw [HQE.out] at Hnx
          rw [← Hnx.out] at hrow6
          rw [← HRE.out]
          exact hrec.out m _ _ (by omega) ⟨j + 1, _, _, _, _, _, _, _, _, _, _, _, _, _, _, _, _, _, _, _, _, _, _, _, _, _, _, _, _, _, _, _, _, _, _, _, _, _, _, _, _, _, _, _, _, _, _, _, _, _, _, _, _, _, by omega, hrow6, rfl⟩
  · rw [← dom0]
    refine sends_o (c := r8) (L := (wS.on T 0).heap.size) (w0 := wS.on T 0) (R := fun j => qx d x j) (Q := fun j => 10 * qx d x j / d) Try.func56 rfl (by rfl) N hN.2 (fun j hj => ?_) (hS.lt n5) (hS.lt n6) (hS.lt n7) (hS.lt m9) d58 d68 d78 d98 (hS.own _ _ n5) (hS.own _ _ n6) (hS.own _ _ n7) (hS.own _ _ m9) _ (Sat.fresh0 _ _)
    intro h Stop b₀ a₀ ops i rest k cs fn cd hf hb hn
    exact plain_o d 0 (qx d x j) hd (Hq.out j) hf hb hn
end
end Go.Proofs.Ytlbkhiphnllfpac
