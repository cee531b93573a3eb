/-
  Divide of the program, beside others that only leave.
-/
import Derived.Test.YtlbkhiphnllfpacGad
import Derived.Test.YtlbkhiphnllfpacGac
namespace Go.Proofs.Ytlbkhiphnllfpac
open Go.Conc Go.RowKit
set_option linter.unusedVariables false
set_option maxRecDepth 100000
set_option linter.unusedSimpArgs false
section
variable {Post : Value → World → Prop}
set_option maxRecDepth 100000 in
set_option maxHeartbeats 8000000 in
theorem divide_y (x d g : Int) (N : Nat) (hd : 1 ≤ d ∧ d ≤ 100000000) (hx : 0 ≤ x ∧ x ≤ 100000000) (hg : 5 ≤ g ∧ g ≤ 9) (hs : 9 * x ≤ g * d) (hN : N ≤ 18) {b₀ : Frame} {a₀ : Act} {ops : Array Oper} {i : Nat} {rest : List Nat} {k : List Item} {cs : List Frame} {fn : Func} {cd : Code} (hf : Try.prog.funcs[17]? = some fn) (hb : fn.body = some cd) (w : World)
    (hnext : ∀ v w', HasT w' w.heap.size v (tl g d x N) → Below w.heap.size w w' → BW Try.prog Post (G (b₀.at (a₀.put ((ops[i]?).bind (·.dst)) (.tuple #[v, .bool true])) (.inRegion ops rest :: k)) cs) w') :
    BW Try.prog Post (G ((base 17).at { tmps := #[.int .i64 x, .int .i64 d, .int .i64 g, .int .i64 (N : Int)] ++ Array.replicate (fn.ntmps - 4) undef, defers := [] } [.code cd]) (b₀.at a₀ (.inRegion ops (i :: rest) :: k) :: cs)) w := by
  refine BW.ofGO ?_ (Sat.start w)
  have e := hf.symm.trans Try.func17
  cases e
  cases hb
  simp only [Try.ntmps17, List.size_toArray, List.length_cons, List.length_nil, Nat.reduceAdd, Nat.reduceSub, Array.replicate_succ, Array.replicate_zero, List.push_toArray, List.append_toArray, List.nil_append, List.cons_append]
  replace hnext := hid hnext
  have c1 : ¬ x < 0 := by omega
  have c2 : ¬ 100000000 < x := by omega
  have c3 : ¬ (N : Int) < 0 := by omega
  have c4 : ¬ 18 < (N : Int) := by omega
  have c5 : ¬ 18 < N := by omega
  repeat (first | with_reducible refine GO.seq ?_ | with_reducible refine GO.skip ?_ | with_reducible refine GO.region (by simp only [List.size_toArray, List.length_cons, List.length_nil, Nat.reduceAdd, Nat.zero_add, List.range, List.range.loop]; exact rfl) ?_ | with_reducible refine GO.regionEnd ?_ | with_reducible refine GO.block ?_ | with_reducible refine GO.inBlock ?_ | with_reducible refine GO.label ?_ | with_reducible refine GO.ret ?_ | with_reducible refine GO.fin ?_ | with_reducible refine GO.exit (by with_unfolding_all rfl) ?_)
  refine GO.opq rfl (by rfl) (by first | assumption | decide) (fun wQ hQ KQ kQ => ?_)
  go_simp
  refine kQ _ _ ⟨rfl, (by first | (simp [go_sem, events_max2, mkch]; done) | (intro e he; exact absurd (show e ∈ (#[] : Array Event) from he) (by simp))), ?_⟩
  clear kQ KQ
  try clear hc0 hc1 hc2 hc3
  clear hQ wQ
  try walk_nrm
  refine GO.opq rfl (by rfl) (by first | assumption | decide) (fun wQ hQ KQ kQ => ?_)
  go_simp
  refine kQ _ _ ⟨rfl, (by first | (simp [go_sem, events_max2, mkch]; done) | (intro e he; exact absurd (show e ∈ (#[] : Array Event) from he) (by simp))), ?_⟩
  clear kQ KQ
  try clear hc0 hc1 hc2 hc3
  clear hQ wQ
  try walk_nrm
  repeat (first | with_reducible refine GO.seq ?_ | with_reducible refine GO.skip ?_ | with_reducible refine GO.region (by simp only [List.size_toArray, List.length_cons, List.length_nil, Nat.reduceAdd, Nat.zero_add, List.range, List.range.loop]; exact rfl) ?_ | with_reducible refine GO.regionEnd ?_ | with_reducible refine GO.block ?_ | with_reducible refine GO.inBlock ?_ | with_reducible refine GO.label ?_ | with_reducible refine GO.ret ?_ | with_reducible refine GO.fin ?_ | with_reducible refine GO.exit (by with_unfolding_all rfl) ?_)
  refine GO.opq rfl (by rfl) (by first | assumption | decide) (fun wQ hQ KQ kQ => ?_)
  go_simp
  refine kQ _ _ ⟨rfl, (by first | (simp [go_sem, events_max2, mkch]; done) | (intro e he; exact absurd (show e ∈ (#[] : Array Event) from he) (by simp))), ?_⟩
  clear kQ KQ
  try clear hc0 hc1 hc2 hc3
  clear hQ wQ
  try walk_nrm
  refine GO.opq rfl (by rfl) (by first | assumption | decide) (fun wQ hQ KQ kQ => ?_)
  go_simp
  refine kQ _ _ ⟨rfl, (by first | (simp [go_sem, events_max2, mkch]; done) | (intro e he; exact absurd (show e ∈ (#[] : Array Event) from he) (by simp))), ?_⟩
  clear kQ KQ
  try clear hc0 hc1 hc2 hc3
  clear hQ wQ
  try walk_nrm
  refine GO.opq rfl (by rfl) (by first | assumption | decide) (fun wQ hQ KQ kQ => ?_)
  go_simp
  refine kQ _ _ ⟨rfl, (by first | (simp [go_sem, events_max2, mkch]; done) | (intro e he; exact absurd (show e ∈ (#[] : Array Event) from he) (by simp))), ?_⟩
  clear kQ KQ
  try clear hc0 hc1 hc2 hc3
  clear hQ wQ
  try walk_nrm
  refine GO.opn rfl (by rfl) (by first | assumption | decide) (fun wQ hQ KQ kQ => ?_)
  go_simp
  refine kQ _ _ ⟨_, rfl, by simp [go_sem, events_max2, mkch], fun h1 n1 f1 L1 l1 => ?_⟩
  clear kQ KQ hQ
  try walk_nrm
  generalize wQ.heap.size = r1 at *
  clear wQ
  refine GO.opw (ob := (.cells #[.int .i64 d, .int .i64 g] 69)) n1 rfl (by rfl) (by first | assumption | decide) (fun wQ hQ KQ kQ => ?_)
  have hc := hQ.own _ _ n1
  have hc0 := gcell_of (o := 0) hc
  have hc1 := gcell_of (o := 1) hc
  have hc2 := gwarm_of (o := 0) hc
  have hc3 := gwarm_of (o := 1) hc
  simp only [List.getElem?_toArray, List.getElem?_cons_succ, List.getElem?_cons_zero, List.getElem?_nil] at hc0 hc1
  go_simp
  try (unfold stored; go_simp)
  refine kQ _ _ ⟨⟨rfl, rfl, rfl, by simp [World.setCell], (fun k hk => by first | exact put_ne _ hk | exact (put_ne _ hk).trans (put_ne _ hk)), (by first | exact put_at _ hc | exact put_at _ (put_at _ hc))⟩, ?_, fun h2 m1 s1 => ?_⟩
  · have h0 := @evo_own _ _ _ _ _ _ 0 _ true hQ n1
    have h1 := @evo_own _ _ _ _ _ _ 1 _ true hQ n1
    first | (simp [go_sem, *]; done) | (simp [go_sem, *]; first | exact h0 | exact h1 | exact ⟨h0, h1⟩) | (simp [go_sem, storedEv, *]; done) | (simp [go_sem, storedEv, *]; first | exact h0 | exact h1 | exact ⟨h0, h1⟩)
  clear kQ KQ hc hc0 hc1 hc2 hc3
  clear hQ wQ
  try walk_nrm
  clear n1 f1 l1 s1
  repeat (first | with_reducible refine GO.seq ?_ | with_reducible refine GO.skip ?_ | with_reducible refine GO.region (by simp only [List.size_toArray, List.length_cons, List.length_nil, Nat.reduceAdd, Nat.zero_add, List.range, List.range.loop]; exact rfl) ?_ | with_reducible refine GO.regionEnd ?_ | with_reducible refine GO.block ?_ | with_reducible refine GO.inBlock ?_ | with_reducible refine GO.label ?_ | with_reducible refine GO.ret ?_ | with_reducible refine GO.fin ?_ | with_reducible refine GO.exit (by with_unfolding_all rfl) ?_)
  refine GO.opq rfl (by rfl) (by first | assumption | decide) (fun wQ hQ KQ kQ => ?_)
  go_simp
  refine kQ _ _ ⟨rfl, (by first | (simp [go_sem, events_max2, mkch]; done) | (intro e he; exact absurd (show e ∈ (#[] : Array Event) from he) (by simp))), ?_⟩
  clear kQ KQ
  try clear hc0 hc1 hc2 hc3
  clear hQ wQ
  try walk_nrm
  refine GO.call (vs := #[.int .i64 g]) rfl (by rfl) (by decide) rfl Try.func46 (by rfl) rfl (by simp [Act.eval]) ?_
  simp only [Try.ntmps46, List.size_toArray, List.length_cons, List.length_nil, Nat.reduceAdd, Nat.reduceSub, Array.replicate_succ, Array.replicate_zero, List.push_toArray, List.append_toArray, List.nil_append, List.cons_append]
  repeat (first | with_reducible refine GO.seq ?_ | with_reducible refine GO.skip ?_ | with_reducible refine GO.region (by simp only [List.size_toArray, List.length_cons, List.length_nil, Nat.reduceAdd, Nat.zero_add, List.range, List.range.loop]; exact rfl) ?_ | with_reducible refine GO.regionEnd ?_ | with_reducible refine GO.block ?_ | with_reducible refine GO.inBlock ?_ | with_reducible refine GO.label ?_ | with_reducible refine GO.ret ?_ | with_reducible refine GO.fin ?_ | with_reducible refine GO.exit (by with_unfolding_all rfl) ?_ | (refine GO.opq rfl (by rfl) (by first | assumption | decide) (fun wQ hQ KQ kQ => ?_); go_simp; refine kQ _ _ ⟨rfl, (by first | (simp [go_sem, events_max2, mkch]; done) | (intro e he; exact absurd (show e ∈ (#[] : Array Event) from he) (by simp))), ?_⟩; clear kQ KQ; try clear hc0 hc1 hc2 hc3; clear hQ wQ; try walk_nrm))
  refine GO.leave1 rfl rfl Try.func46 (by rfl) ?_
  walk_nrm
  refine GO.opq rfl (by rfl) (by first | assumption | decide) (fun wQ hQ KQ kQ => ?_)
  go_simp
  refine kQ _ _ ⟨rfl, (by first | (simp [go_sem, events_max2, mkch]; done) | (intro e he; exact absurd (show e ∈ (#[] : Array Event) from he) (by simp))), ?_⟩
  clear kQ KQ
  try clear hc0 hc1 hc2 hc3
  clear hQ wQ
  try walk_nrm
  refine GO.opq rfl (by rfl) (by first | assumption | decide) (fun wQ hQ KQ kQ => ?_)
  go_simp
  refine kQ _ _ ⟨rfl, (by first | (simp [go_sem, events_max2, mkch]; done) | (intro e he; exact absurd (show e ∈ (#[] : Array Event) from he) (by simp))), ?_⟩
  clear kQ KQ
  try clear hc0 hc1 hc2 hc3
  clear hQ wQ
  try walk_nrm
  refine GO.opq rfl (by rfl) (by first | assumption | decide) (fun wQ hQ KQ kQ => ?_)
  go_simp
  refine kQ _ _ ⟨rfl, (by first | (simp [go_sem, events_max2, mkch]; done) | (intro e he; exact absurd (show e ∈ (#[] : Array Event) from he) (by simp))), ?_⟩
  clear kQ KQ
  try clear hc0 hc1 hc2 hc3
  clear hQ wQ
  try walk_nrm
  refine GO.call (vs := #[.int .i64 d]) rfl (by rfl) (by decide) rfl Try.func47 (by rfl) rfl (by simp [Act.eval]) ?_
  simp only [Try.ntmps47, List.size_toArray, List.length_cons, List.length_nil, Nat.reduceAdd, Nat.reduceSub, Array.replicate_succ, Array.replicate_zero, List.push_toArray, List.append_toArray, List.nil_append, List.cons_append]
  repeat (first | with_reducible refine GO.seq ?_ | with_reducible refine GO.skip ?_ | with_reducible refine GO.region (by simp only [List.size_toArray, List.length_cons, List.length_nil, Nat.reduceAdd, Nat.zero_add, List.range, List.range.loop]; exact rfl) ?_ | with_reducible refine GO.regionEnd ?_ | with_reducible refine GO.block ?_ | with_reducible refine GO.inBlock ?_ | with_reducible refine GO.label ?_ | with_reducible refine GO.ret ?_ | with_reducible refine GO.fin ?_ | with_reducible refine GO.exit (by with_unfolding_all rfl) ?_ | (refine GO.opq rfl (by rfl) (by first | assumption | decide) (fun wQ hQ KQ kQ => ?_); go_simp; refine kQ _ _ ⟨rfl, (by first | (simp [go_sem, events_max2, mkch]; done) | (intro e he; exact absurd (show e ∈ (#[] : Array Event) from he) (by simp))), ?_⟩; clear kQ KQ; try clear hc0 hc1 hc2 hc3; clear hQ wQ; try walk_nrm))
  refine GO.leave1 rfl rfl Try.func47 (by rfl) ?_
  walk_nrm
  repeat (first | with_reducible refine GO.seq ?_ | with_reducible refine GO.skip ?_ | with_reducible refine GO.region (by simp only [List.size_toArray, List.length_cons, List.length_nil, Nat.reduceAdd, Nat.zero_add, List.range, List.range.loop]; exact rfl) ?_ | with_reducible refine GO.regionEnd ?_ | with_reducible refine GO.block ?_ | with_reducible refine GO.inBlock ?_ | with_reducible refine GO.label ?_ | with_reducible refine GO.ret ?_ | with_reducible refine GO.fin ?_ | with_reducible refine GO.exit (by with_unfolding_all rfl) ?_ | (refine GO.opq rfl (by rfl) (by first | assumption | decide) (fun wQ hQ KQ kQ => ?_); go_simp; refine kQ _ _ ⟨rfl, (by first | (simp [go_sem, events_max2, mkch]; done) | (intro e he; exact absurd (show e ∈ (#[] : Array Event) from he) (by simp))), ?_⟩; clear kQ KQ; try clear hc0 hc1 hc2 hc3; clear hQ wQ; try walk_nrm))
  refine GO.opq rfl (by rfl) (by first | assumption | decide) (fun wQ hQ KQ kQ => ?_)
  have hc := hQ.own _ _ m1
  have hc0 := gcell_of (o := 0) hc
  have hc1 := gcell_of (o := 1) hc
  have hc2 := gwarm_of (o := 0) hc
  have hc3 := gwarm_of (o := 1) hc
  clear hc
  simp only [List.getElem?_toArray, List.getElem?_cons_succ, List.getElem?_cons_zero, List.getElem?_nil] at hc0 hc1
  go_simp
  refine kQ _ _ ⟨rfl, (by have h0 := @evo_own _ _ _ _ _ _ 0 _ false hQ m1; have h1 := @evo_own _ _ _ _ _ _ 1 _ false hQ m1; first | (simp [go_sem, *]; done) | (simp [go_sem, *]; first | exact h0 | exact h1 | exact ⟨h0, h1⟩)), ?_⟩
  clear kQ KQ
  try clear hc0 hc1 hc2 hc3
  clear hQ wQ
  try walk_nrm
  refine GO.opq rfl (by rfl) (by first | assumption | decide) (fun wQ hQ KQ kQ => ?_)
  go_simp
  refine kQ _ _ ⟨rfl, (by first | (simp [go_sem, events_max2, mkch]; done) | (intro e he; exact absurd (show e ∈ (#[] : Array Event) from he) (by simp))), ?_⟩
  clear kQ KQ
  try clear hc0 hc1 hc2 hc3
  clear hQ wQ
  try walk_nrm
  refine GO.call (vs := #[.agg #[.int .i64 d, .int .i64 g], .int .i64 x]) rfl (by rfl) (by decide) rfl Try.func48 (by rfl) rfl (by simp [Act.eval]) ?_
  refine bounds_o d g x hd hg (by omega) Try.func48 rfl ?_
  intro h3 l3
  replace m1 := l3 _ _ m1
  clear l3
  have hbd : decide (9 * max x (-x) ≤ g * d) = true := decide_eq_true (by omega)
  rw [hbd]
  clear hbd
  walk_nrm
  refine GO.opq rfl (by rfl) (by first | assumption | decide) (fun wQ hQ KQ kQ => ?_)
  go_simp
  refine kQ _ _ ⟨rfl, (by first | (simp [go_sem, events_max2, mkch]; done) | (intro e he; exact absurd (show e ∈ (#[] : Array Event) from he) (by simp))), ?_⟩
  clear kQ KQ
  try clear hc0 hc1 hc2 hc3
  clear hQ wQ
  try walk_nrm
  refine GO.opq rfl (by rfl) (by first | assumption | decide) (fun wQ hQ KQ kQ => ?_)
  go_simp
  refine kQ _ _ ⟨rfl, (by first | (simp [go_sem, events_max2, mkch]; done) | (intro e he; exact absurd (show e ∈ (#[] : Array Event) from he) (by simp))), ?_⟩
  clear kQ KQ
  try clear hc0 hc1 hc2 hc3
  clear hQ wQ
  try walk_nrm
  first | with_reducible refine GO.seq ?_ | with_reducible refine GO.skip ?_ | with_reducible refine GO.region (by simp only [List.size_toArray, List.length_cons, List.length_nil, Nat.reduceAdd, Nat.zero_add, List.range, List.range.loop]; exact rfl) ?_ | with_reducible refine GO.regionEnd ?_ | with_reducible refine GO.block ?_ | with_reducible refine GO.inBlock ?_ | with_reducible refine GO.label ?_ | with_reducible refine GO.ret ?_ | with_reducible refine GO.fin ?_ | with_reducible refine GO.exit (by with_unfolding_all rfl) ?_
  refine GO.cond (t := false) rfl (fun hc => by cases hc) (fun _ => ?_)
  repeat (first | with_reducible refine GO.seq ?_ | with_reducible refine GO.skip ?_ | with_reducible refine GO.region (by simp only [List.size_toArray, List.length_cons, List.length_nil, Nat.reduceAdd, Nat.zero_add, List.range, List.range.loop]; exact rfl) ?_ | with_reducible refine GO.regionEnd ?_ | with_reducible refine GO.block ?_ | with_reducible refine GO.inBlock ?_ | with_reducible refine GO.label ?_ | with_reducible refine GO.ret ?_ | with_reducible refine GO.fin ?_ | with_reducible refine GO.exit (by with_unfolding_all rfl) ?_)
  refine GO.opn rfl (by rfl) (by first | assumption | decide) (fun wQ hQ KQ kQ => ?_)
  go_simp
  refine kQ _ _ ⟨_, rfl, by simp [go_sem, events_max2, mkch], fun h4 n4 f4 L4 l4 => ?_⟩
  clear kQ KQ hQ
  try walk_nrm
  generalize wQ.heap.size = r4 at *
  clear wQ
  replace m1 := l4 _ _ m1
  refine GO.opq rfl (by rfl) (by first | assumption | decide) (fun wQ hQ KQ kQ => ?_)
  go_simp
  refine kQ _ _ ⟨rfl, (by first | (simp [go_sem, events_max2, mkch]; done) | (intro e he; exact absurd (show e ∈ (#[] : Array Event) from he) (by simp))), ?_⟩
  clear kQ KQ
  try clear hc0 hc1 hc2 hc3
  clear hQ wQ
  try walk_nrm
  repeat (first | with_reducible refine GO.seq ?_ | with_reducible refine GO.skip ?_ | with_reducible refine GO.region (by simp only [List.size_toArray, List.length_cons, List.length_nil, Nat.reduceAdd, Nat.zero_add, List.range, List.range.loop]; exact rfl) ?_ | with_reducible refine GO.regionEnd ?_ | with_reducible refine GO.block ?_ | with_reducible refine GO.inBlock ?_ | with_reducible refine GO.label ?_ | with_reducible refine GO.ret ?_ | with_reducible refine GO.fin ?_ | with_reducible refine GO.exit (by with_unfolding_all rfl) ?_)
  refine GO.opq rfl (by rfl) (by first | assumption | decide) (fun wQ hQ KQ kQ => ?_)
  go_simp
  refine kQ _ _ ⟨rfl, (by first | (simp [go_sem, events_max2, mkch]; done) | (intro e he; exact absurd (show e ∈ (#[] : Array Event) from he) (by simp))), ?_⟩
  clear kQ KQ
  try clear hc0 hc1 hc2 hc3
  clear hQ wQ
  try walk_nrm
  refine GO.opq rfl (by rfl) (by first | assumption | decide) (fun wQ hQ KQ kQ => ?_)
  go_simp
  refine kQ _ _ ⟨rfl, (by first | (simp [go_sem, events_max2, mkch]; done) | (intro e he; exact absurd (show e ∈ (#[] : Array Event) from he) (by simp))), ?_⟩
  clear kQ KQ
  try clear hc0 hc1 hc2 hc3
  clear hQ wQ
  try walk_nrm
  refine GO.opq rfl (by rfl) (by first | assumption | decide) (fun wQ hQ KQ kQ => ?_)
  have hc := hQ.own _ _ m1
  have hc0 := gcell_of (o := 0) hc
  have hc1 := gcell_of (o := 1) hc
  have hc2 := gwarm_of (o := 0) hc
  have hc3 := gwarm_of (o := 1) hc
  clear hc
  simp only [List.getElem?_toArray, List.getElem?_cons_succ, List.getElem?_cons_zero, List.getElem?_nil] at hc0 hc1
  go_simp
  refine kQ _ _ ⟨rfl, (by have h0 := @evo_own _ _ _ _ _ _ 0 _ false hQ m1; have h1 := @evo_own _ _ _ _ _ _ 1 _ false hQ m1; first | (simp [go_sem, *]; done) | (simp [go_sem, *]; first | exact h0 | exact h1 | exact ⟨h0, h1⟩)), ?_⟩
  clear kQ KQ
  try clear hc0 hc1 hc2 hc3
  clear hQ wQ
  try walk_nrm
  refine GO.opq rfl (by rfl) (by first | assumption | decide) (fun wQ hQ KQ kQ => ?_)
  go_simp
  refine kQ _ _ ⟨rfl, (by first | (simp [go_sem, events_max2, mkch]; done) | (intro e he; exact absurd (show e ∈ (#[] : Array Event) from he) (by simp))), ?_⟩
  clear kQ KQ
  try clear hc0 hc1 hc2 hc3
  clear hQ wQ
  try walk_nrm
  refine GO.call (vs := #[.int .i64 x, .int .i64 (N : Int), .func (.func 50) #[.agg #[.int .i64 d, .int .i64 g]] #[]]) rfl (by rfl) (by decide) rfl Try.func49 (by rfl) rfl (by simp [Act.eval]) ?_
  simp only [Try.ntmps49, List.size_toArray, List.length_cons, List.length_nil, Nat.reduceAdd, Nat.reduceSub, Array.replicate_succ, Array.replicate_zero, List.push_toArray, List.append_toArray, List.nil_append, List.cons_append]
  repeat (first | with_reducible refine GO.seq ?_ | with_reducible refine GO.skip ?_ | with_reducible refine GO.region (by simp only [List.size_toArray, List.length_cons, List.length_nil, Nat.reduceAdd, Nat.zero_add, List.range, List.range.loop]; exact rfl) ?_ | with_reducible refine GO.regionEnd ?_ | with_reducible refine GO.block ?_ | with_reducible refine GO.inBlock ?_ | with_reducible refine GO.label ?_ | with_reducible refine GO.ret ?_ | with_reducible refine GO.fin ?_ | with_reducible refine GO.exit (by with_unfolding_all rfl) ?_)
  refine GO.opn rfl (by rfl) (by first | assumption | decide) (fun wQ hQ KQ kQ => ?_)
  go_simp
  refine kQ _ _ ⟨_, rfl, by simp [go_sem, events_max2, mkch], fun h5 n5 f5 L5 l5 => ?_⟩
  clear kQ KQ hQ
  try walk_nrm
  generalize wQ.heap.size = r5 at *
  clear wQ
  refine GO.opn rfl (by rfl) (by first | assumption | decide) (fun wQ hQ KQ kQ => ?_)
  go_simp
  refine kQ _ _ ⟨_, rfl, by simp [go_sem, events_max2, mkch], fun h6 n6 f6 L6 l6 => ?_⟩
  clear kQ KQ hQ
  try walk_nrm
  generalize wQ.heap.size = r6 at *
  clear wQ
  refine GO.opn rfl (by rfl) (by first | assumption | decide) (fun wQ hQ KQ kQ => ?_)
  go_simp
  refine kQ _ _ ⟨_, rfl, by simp [go_sem, events_max2, mkch], fun h7 n7 f7 L7 l7 => ?_⟩
  clear kQ KQ hQ
  try walk_nrm
  generalize wQ.heap.size = r7 at *
  clear wQ
  refine GO.opq rfl (by rfl) (by first | assumption | decide) (fun wQ hQ KQ kQ => ?_)
  go_simp
  refine kQ _ _ ⟨rfl, (by first | (simp [go_sem, events_max2, mkch]; done) | (intro e he; exact absurd (show e ∈ (#[] : Array Event) from he) (by simp))), ?_⟩
  clear kQ KQ
  try clear hc0 hc1 hc2 hc3
  clear hQ wQ
  try walk_nrm
  repeat (first | with_reducible refine GO.seq ?_ | with_reducible refine GO.skip ?_ | with_reducible refine GO.region (by simp only [List.size_toArray, List.length_cons, List.length_nil, Nat.reduceAdd, Nat.zero_add, List.range, List.range.loop]; exact rfl) ?_ | with_reducible refine GO.regionEnd ?_ | with_reducible refine GO.block ?_ | with_reducible refine GO.inBlock ?_ | with_reducible refine GO.label ?_ | with_reducible refine GO.ret ?_ | with_reducible refine GO.fin ?_ | with_reducible refine GO.exit (by with_unfolding_all rfl) ?_)
  refine GO.opn rfl (by rfl) (by first | assumption | decide) (fun wQ hQ KQ kQ => ?_)
  go_simp
  refine kQ _ _ ⟨_, rfl, by simp [go_sem, events_max2, mkch], fun h8 n8 f8 L8 l8 => ?_⟩
  clear kQ KQ hQ
  try walk_nrm
  generalize wQ.heap.size = r8 at *
  clear wQ
  refine GO.opn rfl (by rfl) (by first | assumption | decide) (fun wQ hQ KQ kQ => ?_)
  go_simp
  refine kQ _ _ ⟨_, rfl, by simp [go_sem, events_max2, mkch], fun h9 n9 f9 L9 l9 => ?_⟩
  clear kQ KQ hQ
  try walk_nrm
  generalize wQ.heap.size = r9 at *
  clear wQ
  refine GO.opw (ob := (.cells #[.chan (some r8)] 91)) n9 rfl (by rfl) (by first | assumption | decide) (fun wQ hQ KQ kQ => ?_)
  have hc := hQ.own _ _ n9
  have hc0 := gcell_of (o := 0) hc
  have hc1 := gcell_of (o := 1) hc
  have hc2 := gwarm_of (o := 0) hc
  have hc3 := gwarm_of (o := 1) hc
  simp only [List.getElem?_toArray, List.getElem?_cons_succ, List.getElem?_cons_zero, List.getElem?_nil] at hc0 hc1
  go_simp
  try (unfold stored; go_simp)
  refine kQ _ _ ⟨⟨rfl, rfl, rfl, by simp [World.setCell], (fun k hk => by first | exact put_ne _ hk | exact (put_ne _ hk).trans (put_ne _ hk)), (by first | exact put_at _ hc | exact put_at _ (put_at _ hc))⟩, ?_, fun h10 m9 s9 => ?_⟩
  · have h0 := @evo_own _ _ _ _ _ _ 0 _ true hQ n9
    have h1 := @evo_own _ _ _ _ _ _ 1 _ true hQ n9
    first | (simp [go_sem, *]; done) | (simp [go_sem, *]; first | exact h0 | exact h1 | exact ⟨h0, h1⟩) | (simp [go_sem, storedEv, *]; done) | (simp [go_sem, storedEv, *]; first | exact h0 | exact h1 | exact ⟨h0, h1⟩)
  clear kQ KQ hc hc0 hc1 hc2 hc3
  clear hQ wQ
  try walk_nrm
  replace n4 := Hl.tr (l8 _ _ (l7 _ _ (l6 _ _ (l5 _ _ n4)))) f9 l9 s9
  replace n5 := Hl.tr (l8 _ _ (l7 _ _ (l6 _ _ n5))) f9 l9 s9
  replace n6 := Hl.tr (l8 _ _ (l7 _ _ n6)) f9 l9 s9
  replace n7 := Hl.tr (l8 _ _ n7) f9 l9 s9
  replace n8 := Hl.tr n8 f9 l9 s9
  clear n9 s9 l9 f9 l8 l7 l6 l5 f8 f7 f6 f5 f4 m1 l4
  have d48 : r4 ≠ r8 := fun e => by rw [e] at n4; cases n4.symm.trans n8
  have d58 : r5 ≠ r8 := fun e => by rw [e] at n5; cases n5.symm.trans n8
  have d68 : r6 ≠ r8 := fun e => by rw [e] at n6; cases n6.symm.trans n8
  have d78 : r7 ≠ r8 := fun e => by rw [e] at n7; cases n7.symm.trans n8
  have d98 : r9 ≠ r8 := fun e => by rw [e] at m9; cases m9.symm.trans n8
  repeat (first | with_reducible refine GO.seq ?_ | with_reducible refine GO.skip ?_ | with_reducible refine GO.region (by simp only [List.size_toArray, List.length_cons, List.length_nil, Nat.reduceAdd, Nat.zero_add, List.range, List.range.loop]; exact rfl) ?_ | with_reducible refine GO.regionEnd ?_ | with_reducible refine GO.block ?_ | with_reducible refine GO.inBlock ?_ | with_reducible refine GO.label ?_ | with_reducible refine GO.ret ?_ | with_reducible refine GO.fin ?_ | with_reducible refine GO.exit (by with_unfolding_all rfl) ?_)
  refine GO.opq rfl (by rfl) (by first | assumption | decide) (fun wQ hQ KQ kQ => ?_)
  go_simp
  refine kQ _ _ ⟨rfl, (by first | (simp [go_sem, events_max2, mkch]; done) | (intro e he; exact absurd (show e ∈ (#[] : Array Event) from he) (by simp))), ?_⟩
  clear kQ KQ
  try clear hc0 hc1 hc2 hc3
  clear hQ wQ
  try walk_nrm
  refine GO.stop fun wS hS => BW.go (d := { target := .fn (.func 71) #[.pointer (some ⟨r5, 0, none⟩), .pointer (some ⟨r6, 0, none⟩), .pointer (some ⟨r7, 0, none⟩), .pointer (some ⟨r9, 0, none⟩)], args := #[] }) rfl (by rfl) (by decide) (fun W => by simp [go_sem, execOp, Act.eval]) rfl (fun W => by simp [go_sem, execOp, Act.eval]) fun T => ?_
  refine ⟨tvs (fun j => dgt g d (ws g d x j)) (fun j => ws g d x j) 0 N, r8, (wS.on T 0).heap.size, .agg #[.int .i64 0, .int .i64 0], hS.lt n8, Nat.le_refl _, ⟨0, 0, false, hS.own _ _ n8⟩, ?_, ?_⟩
  · rw [← dom0]
    refine recvs_of ?_ (Sat.fresh0 (wS.on T 0) r8)
    have o9 : (wS.on T 0).heap[r9]? = some (.cells #[.chan (some r8)] 91) := hS.own _ _ m9
    have t9 : r9 < (wS.on T 0).heap.size := hS.lt m9
    have o4 : (wS.on T 0).heap[r4]? = some (.cells #[] 39) := hS.own _ _ n4
    have t4 : r4 < (wS.on T 0).heap.size := hS.lt n4
    have hBL : w.heap.size ≤ (wS.on T 0).heap.size := hS.size
    have hold : ∀ k, k < w.heap.size → (wS.on T 0).heap[k]? = w.heap[k]? := fun k hk => hS.old k hk (by omega)
    have hos : (wS.on T 0).os = w.os := hS.os
    have hou : (wS.on T 0).output = w.output := hS.output
    generalize wS.on T 0 = W at *
    clear hS m9 n4 n5 n6 n7 n8
    walk_nrm
    repeat (first | with_reducible refine GO.seq ?_ | with_reducible refine GO.skip ?_ | with_reducible refine GO.region (by simp only [List.size_toArray, List.length_cons, List.length_nil, Nat.reduceAdd, Nat.zero_add, List.range, List.range.loop]; exact rfl) ?_ | with_reducible refine GO.regionEnd ?_ | with_reducible refine GO.block ?_ | with_reducible refine GO.inBlock ?_ | with_reducible refine GO.label ?_ | with_reducible refine GO.ret ?_ | with_reducible refine GO.fin ?_ | with_reducible refine GO.exit (by with_unfolding_all rfl) ?_)
    refine GO.opq rfl (by rfl) (by first | assumption | decide) (fun wQ hQ KQ kQ => ?_)
    have hc := (hQ.old _ t9 d98).trans o9
    have hc0 := gcell_of (o := 0) hc
    have hc1 := hc0
    have hc2 := gwarm_of (o := 0) hc
    have hc3 := hc2
    clear hc
    simp only [List.getElem?_toArray, List.getElem?_cons_succ, List.getElem?_cons_zero, List.getElem?_nil] at hc0 hc1
    go_simp
    refine kQ _ _ ⟨rfl, (by have h0 := @evo_old _ _ _ _ _ _ 0 hQ t9; first | (simp [go_sem, *]; done) | (simp [go_sem, *]; exact h0)), ?_⟩
    clear kQ KQ
    try clear hc0 hc1 hc2 hc3
    clear hQ wQ
    try walk_nrm
    refine GO.opq rfl (by rfl) (by first | assumption | decide) (fun wQ hQ KQ kQ => ?_)
    go_simp
    refine kQ _ _ ⟨rfl, (by first | (simp [go_sem, events_max2, mkch]; done) | (intro e he; exact absurd (show e ∈ (#[] : Array Event) from he) (by simp))), ?_⟩
    clear kQ KQ
    try clear hc0 hc1 hc2 hc3
    clear hQ wQ
    try walk_nrm
    repeat (first | with_reducible refine GO.seq ?_ | with_reducible refine GO.skip ?_ | with_reducible refine GO.region (by simp only [List.size_toArray, List.length_cons, List.length_nil, Nat.reduceAdd, Nat.zero_add, List.range, List.range.loop]; exact rfl) ?_ | with_reducible refine GO.regionEnd ?_ | with_reducible refine GO.block ?_ | with_reducible refine GO.inBlock ?_ | with_reducible refine GO.label ?_ | with_reducible refine GO.ret ?_ | with_reducible refine GO.fin ?_ | with_reducible refine GO.exit (by with_unfolding_all rfl) ?_)
    refine GO.leave1 rfl rfl Try.func49 (by rfl) ?_
    walk_nrm
    repeat (first | with_reducible refine GO.seq ?_ | with_reducible refine GO.skip ?_ | with_reducible refine GO.region (by simp only [List.size_toArray, List.length_cons, List.length_nil, Nat.reduceAdd, Nat.zero_add, List.range, List.range.loop]; exact rfl) ?_ | with_reducible refine GO.regionEnd ?_ | with_reducible refine GO.block ?_ | with_reducible refine GO.inBlock ?_ | with_reducible refine GO.label ?_ | with_reducible refine GO.ret ?_ | with_reducible refine GO.fin ?_ | with_reducible refine GO.exit (by with_unfolding_all rfl) ?_)
    rw [show tvs (fun j => dgt g d (ws g d x j)) (fun j => ws g d x j) 0 N = tvs (fun j => dgt g d (ws g d x j)) (fun j => ws g d x j) (N - N) N by rw [Nat.sub_self]]
    refine GO.loopS (fun n h a => ∃ (j : Nat) (v : Value) (y0 y1 y2 y3 y4 y5 y6 y7 y8 y9 y10 y12 y13 y14 y15 y16 y17 y18 y19 y20 y21 y22 y23 y24 y25 y26 y27 y28 y29 y30 y31 y32 y33 y34 y35 y36 y37 y38 y39 y40 y41 y42 y43 y44 y45 y46 y47 y48 y49 y50 y51 y53 y54 y55 y56 y57 y58 y59 y60 : Value), j + n = N ∧ RowS W r8 W.heap.size w.heap.size h v (tl g d x j) ∧ a = ⟨#[y0, y1, y2, y3, y4, y5, y6, y7, y8, y9, y10, v, y12, y13, y14, y15, y16, y17, y18, y19, y20, y21, y22, y23, y24, y25, y26, y27, y28, y29, y30, y31, y32, y33, y34, y35, y36, y37, y38, y39, y40, y41, y42, y43, y44, y45, y46, y47, y48, y49, y50, y51, .chan (some r8), y53, y54, y55, y56, y57, y58, y59, y60], []⟩) (fun n => RStopOf Try.prog r8 W.heap.size (.agg #[.int .i64 0, .int .i64 0]) (fun _ g w => BW Try.prog Post g w) (tvs (fun j => dgt g d (ws g d x j)) (fun j => ws g d x j) (N - n) n)) N ?_ ?_
    · exact ⟨0, _, _, _, _, _, _, _, _, _, _, _, _, _, _, _, _, _, _, _, _, _, _, _, _, _, _, _, _, _, _, _, _, _, _, _, _, _, _, _, _, _, _, _, _, _, _, _, _, _, _, _, _, _, _, _, _, _, _, _, _, by omega, ⟨r4, 0, #[], rfl, Nat.le_refl _, Nat.zero_le _, rfl, rfl, .inr ⟨rfl, L4, t4, d48, o4⟩⟩, rfl⟩
    · rintro n h a ⟨j, v, y0, y1, y2, y3, y4, y5, y6, y7, y8, y9, y10, y12, y13, y14, y15, y16, y17, y18, y19, y20, y21, y22, y23, y24, y25, y26, y27, y28, y29, y30, y31, y32, y33, y34, y35, y36, y37, y38, y39, y40, y41, y42, y43, y44, y45, y46, y47, y48, y49, y50, y51, y53, y54, y55, y56, y57, y58, y59, y60, hj, hrow, rfl⟩ hrec
      replace hrec := hid hrec
      repeat (first | with_reducible refine GO.seq ?_ | with_reducible refine GO.skip ?_ | with_reducible refine GO.region (by simp only [List.size_toArray, List.length_cons, List.length_nil, Nat.reduceAdd, Nat.zero_add, List.range, List.range.loop]; exact rfl) ?_ | with_reducible refine GO.regionEnd ?_ | with_reducible refine GO.block ?_ | with_reducible refine GO.inBlock ?_ | with_reducible refine GO.label ?_ | with_reducible refine GO.ret ?_ | with_reducible refine GO.fin ?_ | with_reducible refine GO.exit (by with_unfolding_all rfl) ?_)
      cases n with
      | zero =>
        obtain rfl : j = N := by omega
        simp only [Nat.sub_zero, tvs]
        refine GO.recvEnd rfl (by rfl) (by decide) (fun w hS => recv_run rfl rfl w) (fun w3 hS3 => ?_)
        refine BW.ofGO ?_ (Sat.start w3)
        walk_nrm
        refine GO.opq rfl (by rfl) (by first | assumption | decide) (fun wQ hQ KQ kQ => ?_)
        go_simp
        refine kQ _ _ ⟨rfl, (by first | (simp [go_sem, events_max2, mkch]; done) | (intro e he; exact absurd (show e ∈ (#[] : Array Event) from he) (by simp))), ?_⟩
        clear kQ KQ
        try clear hc0 hc1 hc2 hc3
        clear hQ wQ
        try walk_nrm
        repeat (first | with_reducible refine GO.seq ?_ | with_reducible refine GO.skip ?_ | with_reducible refine GO.region (by simp only [List.size_toArray, List.length_cons, List.length_nil, Nat.reduceAdd, Nat.zero_add, List.range, List.range.loop]; exact rfl) ?_ | with_reducible refine GO.regionEnd ?_ | with_reducible refine GO.block ?_ | with_reducible refine GO.inBlock ?_ | with_reducible refine GO.label ?_ | with_reducible refine GO.ret ?_ | with_reducible refine GO.fin ?_ | with_reducible refine GO.exit (by with_unfolding_all rfl) ?_)
        refine GO.cond (t := false) rfl (fun hc => by cases hc) (fun _ => ?_)
        repeat (first | with_reducible refine GO.seq ?_ | with_reducible refine GO.skip ?_ | with_reducible refine GO.region (by simp only [List.size_toArray, List.length_cons, List.length_nil, Nat.reduceAdd, Nat.zero_add, List.range, List.range.loop]; exact rfl) ?_ | with_reducible refine GO.regionEnd ?_ | with_reducible refine GO.block ?_ | with_reducible refine GO.inBlock ?_ | with_reducible refine GO.label ?_ | with_reducible refine GO.ret ?_ | with_reducible refine GO.fin ?_ | with_reducible refine GO.exit (by with_unfolding_all rfl) ?_ | (refine GO.opq rfl (by rfl) (by first | assumption | decide) (fun wQ hQ KQ kQ => ?_); go_simp; refine kQ _ _ ⟨rfl, (by first | (simp [go_sem, events_max2, mkch]; done) | (intro e he; exact absurd (show e ∈ (#[] : Array Event) from he) (by simp))), ?_⟩; clear kQ KQ; try clear hc0 hc1 hc2 hc3; clear hQ wQ; try walk_nrm))
        refine GO.leave2 rfl rfl hf (by rfl) ?_
        walk_nrm
        refine GO.stop fun w4 hS4 => ?_
        have hT3 : HasT (w3.on w.tape w.drawn) w.heap.size v (tl g d x j) := hrow.has hS3 hBL rfl
        have hB34 : Below w3.heap.size (w3.on w.tape w.drawn) (w4.on w.tape w.drawn) := ⟨hS4.os, rfl, hS4.output, hS4.size, fun k hk => hS4.old k hk (by omega)⟩
        have hB : Below w.heap.size w (w4.on w.tape w.drawn) := ⟨hS4.os.trans (hS3.os.trans hos), rfl, hS4.output.trans (hS3.output.trans hou), Nat.le_trans hBL (Nat.le_trans hS3.size hS4.size), fun k hk => by
          have h3 := hS3.size
          exact (hS4.old k (by omega) (by omega)).trans ((hS3.old k (by omega) (by omega)).trans (hold k hk))⟩
        exact fun T2 d2 => hnext.out v (w4.on w.tape w.drawn) (hT3.below hB34 (Nat.le_refl _)) hB T2 d2
      | succ m =>
        have ej : N - (m + 1) = j := by omega
        have ej2 : N - m = j + 1 := by omega
        simp only [ej, tvs]
        refine GO.recv rfl (by rfl) (by decide) (fun w hS => recv_run rfl rfl w) ?_
        walk_nrm
        refine GO.opq rfl (by rfl) (by first | assumption | decide) (fun wQ hQ KQ kQ => ?_)
        go_simp
        refine kQ _ _ ⟨rfl, (by first | (simp [go_sem, events_max2, mkch]; done) | (intro e he; exact absurd (show e ∈ (#[] : Array Event) from he) (by simp))), ?_⟩
        clear kQ KQ
        try clear hc0 hc1 hc2 hc3
        clear hQ wQ
        try walk_nrm
        repeat (first | with_reducible refine GO.seq ?_ | with_reducible refine GO.skip ?_ | with_reducible refine GO.region (by simp only [List.size_toArray, List.length_cons, List.length_nil, Nat.reduceAdd, Nat.zero_add, List.range, List.range.loop]; exact rfl) ?_ | with_reducible refine GO.regionEnd ?_ | with_reducible refine GO.block ?_ | with_reducible refine GO.inBlock ?_ | with_reducible refine GO.label ?_ | with_reducible refine GO.ret ?_ | with_reducible refine GO.fin ?_ | with_reducible refine GO.exit (by with_unfolding_all rfl) ?_)
        refine GO.cond (t := true) rfl (fun _ => ?_) (fun hc => by cases hc)
        repeat (first | with_reducible refine GO.seq ?_ | with_reducible refine GO.skip ?_ | with_reducible refine GO.region (by simp only [List.size_toArray, List.length_cons, List.length_nil, Nat.reduceAdd, Nat.zero_add, List.range, List.range.loop]; exact rfl) ?_ | with_reducible refine GO.regionEnd ?_ | with_reducible refine GO.block ?_ | with_reducible refine GO.inBlock ?_ | with_reducible refine GO.label ?_ | with_reducible refine GO.ret ?_ | with_reducible refine GO.fin ?_ | with_reducible refine GO.exit (by with_unfolding_all rfl) ?_)
        refine GO.opq rfl (by rfl) (by first | assumption | decide) (fun wQ hQ KQ kQ => ?_)
        go_simp
        refine kQ _ _ ⟨rfl, (by first | (simp [go_sem, events_max2, mkch]; done) | (intro e he; exact absurd (show e ∈ (#[] : Array Event) from he) (by simp))), ?_⟩
        clear kQ KQ
        try clear hc0 hc1 hc2 hc3
        clear hQ wQ
        try walk_nrm
        refine GO.opn rfl (by rfl) (by first | assumption | decide) (fun wQ hQ KQ kQ => ?_)
        go_simp
        refine kQ _ _ ⟨_, rfl, by simp [go_sem, events_max2, mkch], fun h1' n12 f12 L12 l12 => ?_⟩
        clear kQ KQ hQ
        try walk_nrm
        generalize wQ.heap.size = r12 at *
        clear wQ
        refine GO.opw (ob := (.cells #[.int .i64 (dgt g d (ws g d x j)), .int .i64 (ws g d x (j + 1))] 39)) n12 rfl (by rfl) (by first | assumption | decide) (fun wQ hQ KQ kQ => ?_)
        have hc := hQ.own _ _ n12
        have hc0 := gcell_of (o := 0) hc
        have hc1 := gcell_of (o := 1) hc
        have hc2 := gwarm_of (o := 0) hc
        have hc3 := gwarm_of (o := 1) hc
        simp only [List.getElem?_toArray, List.getElem?_cons_succ, List.getElem?_cons_zero, List.getElem?_nil] at hc0 hc1
        go_simp
        try (unfold stored; go_simp)
        refine kQ _ _ ⟨⟨rfl, rfl, rfl, by simp [World.setCell], (fun k hk => by first | exact put_ne _ hk | exact (put_ne _ hk).trans (put_ne _ hk)), (by first | exact put_at _ hc | exact put_at _ (put_at _ hc))⟩, ?_, fun h2' m12 s12 => ?_⟩
        · have h0 := @evo_own _ _ _ _ _ _ 0 _ true hQ n12
          have h1 := @evo_own _ _ _ _ _ _ 1 _ true hQ n12
          first | (simp [go_sem, *]; done) | (simp [go_sem, *]; first | exact h0 | exact h1 | exact ⟨h0, h1⟩) | (simp [go_sem, storedEv, *]; done) | (simp [go_sem, storedEv, *]; first | exact h0 | exact h1 | exact ⟨h0, h1⟩)
        clear kQ KQ hc hc0 hc1 hc2 hc3
        clear hQ wQ
        try walk_nrm
        have hrow2 := hrow.put f12 l12 s12
        repeat (first | with_reducible refine GO.seq ?_ | with_reducible refine GO.skip ?_ | with_reducible refine GO.region (by simp only [List.size_toArray, List.length_cons, List.length_nil, Nat.reduceAdd, Nat.zero_add, List.range, List.range.loop]; exact rfl) ?_ | with_reducible refine GO.regionEnd ?_ | with_reducible refine GO.block ?_ | with_reducible refine GO.inBlock ?_ | with_reducible refine GO.label ?_ | with_reducible refine GO.ret ?_ | with_reducible refine GO.fin ?_ | with_reducible refine GO.exit (by with_unfolding_all rfl) ?_)
        refine GO.opq rfl (by rfl) (by first | assumption | decide) (fun wQ hQ KQ kQ => ?_)
        go_simp
        refine kQ _ _ ⟨rfl, (by first | (simp [go_sem, events_max2, mkch]; done) | (intro e he; exact absurd (show e ∈ (#[] : Array Event) from he) (by simp))), ?_⟩
        clear kQ KQ
        try clear hc0 hc1 hc2 hc3
        clear hQ wQ
        try walk_nrm
        refine GO.opq rfl (by rfl) (by first | assumption | decide) (fun wQ hQ KQ kQ => ?_)
        have hc := hQ.own _ _ m12
        have hc0 := gcell_of (o := 0) hc
        have hc1 := gcell_of (o := 1) hc
        have hc2 := gwarm_of (o := 0) hc
        have hc3 := gwarm_of (o := 1) hc
        clear hc
        simp only [List.getElem?_toArray, List.getElem?_cons_succ, List.getElem?_cons_zero, List.getElem?_nil] at hc0 hc1
        go_simp
        refine kQ _ _ ⟨rfl, (by have h0 := @evo_own _ _ _ _ _ _ 0 _ false hQ m12; have h1 := @evo_own _ _ _ _ _ _ 1 _ false hQ m12; first | (simp [go_sem, *]; done) | (simp [go_sem, *]; first | exact h0 | exact h1 | exact ⟨h0, h1⟩)), ?_⟩
        clear kQ KQ
        try clear hc0 hc1 hc2 hc3
        clear hQ wQ
        try walk_nrm
        refine GO.opn rfl (by rfl) (by first | assumption | decide) (fun wQ hQ KQ kQ => ?_)
        go_simp
        refine kQ _ _ ⟨_, rfl, by simp [go_sem, events_max2, mkch], fun h3' n13 f13 L13 l13 => ?_⟩
        clear kQ KQ hQ
        try walk_nrm
        generalize wQ.heap.size = r13 at *
        clear wQ
        refine GO.app (l := tl g d x j) rfl (by rfl) (by decide) rfl rfl rfl (hrow2.le l13) n13 (by rw [tl_len]; omega) (fun h5' v' hrow5 => ?_)
        walk_nrm
        refine GO.opq rfl (by rfl) (by first | assumption | decide) (fun wQ hQ KQ kQ => ?_)
        go_simp
        refine kQ _ _ ⟨rfl, (by first | (simp [go_sem, events_max2, mkch]; done) | (intro e he; exact absurd (show e ∈ (#[] : Array Event) from he) (by simp))), ?_⟩
        clear kQ KQ
        try clear hc0 hc1 hc2 hc3
        clear hQ wQ
        try walk_nrm
        repeat (first | with_reducible refine GO.seq ?_ | with_reducible refine GO.skip ?_ | with_reducible refine GO.region (by simp only [List.size_toArray, List.length_cons, List.length_nil, Nat.reduceAdd, Nat.zero_add, List.range, List.range.loop]; exact rfl) ?_ | with_reducible refine GO.regionEnd ?_ | with_reducible refine GO.block ?_ | with_reducible refine GO.inBlock ?_ | with_reducible refine GO.label ?_ | with_reducible refine GO.ret ?_ | with_reducible refine GO.fin ?_ | with_reducible refine GO.exit (by with_unfolding_all rfl) ?_)
        rw [show tvs (fun j => dgt g d (ws g d x j)) (fun j => ws g d x j) (j + 1) m = tvs (fun j => dgt g d (ws g d x j)) (fun j => ws g d x j) (N - m) m by rw [ej2]]
        exact hrec.out m _ _ (by omega) ⟨j + 1, v', _, _, _, _, _, _, _, _, _, _, _, _, _, _, _, _, _, _, _, _, _, _, _, _, _, _, _, _, _, _, _, _, _, _, _, _, _, _, _, _, _, _, _, _, _, _, _, _, _, _, _, _, _, _, _, _, _, _, _, by omega, hrow5, rfl⟩
  · rw [← dom0]
    refine sends_o (c := r8) (L := (wS.on T 0).heap.size) (w0 := wS.on T 0) (R := fun j => ws g d x j) (Q := fun j => dgt g d (ws g d x j)) Try.func50 rfl (by rfl) N hN (fun j hj => ?_) (hS.lt n5) (hS.lt n6) (hS.lt n7) (hS.lt m9) d58 d68 d78 d98 (hS.own _ _ n5) (hS.own _ _ n6) (hS.own _ _ n7) (hS.own _ _ m9) _ (Sat.fresh0 _ _)
    intro h Stop b₀ a₀ ops i rest k cs fn cd hf hb hn
    have hsm := ws_small g d x (by omega) hg.1 hg.2 hx.1 hs j
    exact signed_o d g (ws g d x j) hd hg hsm.1 hsm.2 hf hb hn
end
end Go.Proofs.Ytlbkhiphnllfpac
