/-
  A plain turn of the program, in company.
-/
import Derived.Test.YtlbkhiphnllfpamGtl
import Derived.Test.YtlbkhiphnllfpamGty
namespace Go.Proofs.Ytlbkhiphnllfpam
open Go.Conc Go.RowKit
set_option linter.unusedVariables false
set_option linter.unusedSimpArgs false
section
variable {main : Bool} {c L : Nat} {w0 : World} {Stop : (Nat → Prop) → Goroutine → World → Prop} {h : Hl}
theorem res_p {w : World} {r : Nat} {q R : Int} {xs : Array Value} (hS : Sat w0 c L h w) (hr : h r = some (.cells #[.int .i64 q, .int .i64 R] 50)) (hx : xs[4]? = some (.pointer (some ⟨r, 0, none⟩))) :
    (results Try.f43 xs).run Try.prog w = .ok (.agg #[.int .i64 q, .int .i64 R]) w ∧ ∀ e ∈ (results Try.f43 xs).events Try.prog w #[], EvO L h.dom w.heap.size e := by
  have hc := hS.own _ _ hr
  have hc0 := gcell_of (o := 0) hc
  have hc1 := gcell_of (o := 1) hc
  simp only [List.getElem?_toArray, List.getElem?_cons_succ, List.getElem?_cons_zero, List.getElem?_nil] at hc0 hc1
  have h0 := @evo_own _ _ _ _ _ _ 0 _ false hS hr
  have h1 := @evo_own _ _ _ _ _ _ 1 _ false hS hr
  have e : (Try.f43).results = #[.cell 4 50] := rfl
  unfold results
  rw [e]
  clear hc hr hS
  constructor
  · simp [go_sem, *]
  · simp [go_sem, *]
    first | exact h0 | exact h1 | exact ⟨h0, h1⟩
set_option maxRecDepth 100000 in
set_option maxHeartbeats 8000000 in
theorem plain_o (d g y : Int) (hd : 1 ≤ d ∧ d ≤ 100000000) (hy : 0 ≤ y ∧ y < d) {b₀ : Frame} {a₀ : Act} {ops : Array Oper} {i : Nat} {rest : List Nat} {k : List Item} {cs : List Frame} {fn : Func} {cd : Code} (hf : Try.prog.funcs[43]? = some fn) (hb : fn.body = some cd)
    (hnext : ∀ h' : Hl, h.le h' → GO Try.prog main c L w0 Stop h' (G (b₀.at (a₀.put ((ops[i]?).bind (·.dst)) (.agg #[.int .i64 (10 * y / d), .int .i64 (10 * y % d)])) (.inRegion ops rest :: k)) cs)) :
    GO Try.prog main c L w0 Stop h (G ((base 43).at { tmps := #[.agg #[.int .i64 d, .int .i64 g], .int .i64 y] ++ Array.replicate (fn.ntmps - 2) undef, defers := [] } [.code cd]) (b₀.at a₀ (.inRegion ops (i :: rest) :: k) :: cs)) := by
  have e := hf.symm.trans Try.func43
  cases e
  cases hb
  simp only [Try.ntmps43, List.size_toArray, List.length_cons, List.length_nil, Nat.reduceAdd, Nat.reduceSub, Array.replicate_succ, Array.replicate_zero, List.push_toArray, List.append_toArray, List.nil_append, List.cons_append]
  replace hnext := hid hnext
  have e1 : IntKind.i64.wrap (10 * y) = 10 * y := wrG _ (by omega)
  have e2 : Int.tdiv (10 * y) d = 10 * y / d := Int.tdiv_eq_ediv_of_nonneg (by omega)
  have e3 : Int.tmod (10 * y) d = 10 * y % d := Int.tmod_eq_emod_of_nonneg (by omega)
  have e4 : 0 ≤ 10 * y / d := Int.ediv_nonneg (by omega) (by omega)
  have e5 : 10 * y / d ≤ 10 * y := Int.ediv_le_self _ (by omega)
  have e6 : 0 ≤ 10 * y % d := Int.emod_nonneg _ (by omega)
  have e7 : 10 * y % d < d := Int.emod_lt_of_pos _ (by omega)
  have e8 : IntKind.i64.wrap (10 * y / d) = 10 * y / d := wrG _ (by omega)
  have e9 : IntKind.i64.wrap (10 * y % d) = 10 * y % d := wrG _ (by omega)
  have ed : ¬ d = 0 := by omega
  repeat (first | with_reducible refine GO.seq ?_ | with_reducible refine GO.skip ?_ | with_reducible refine GO.region (by simp only [List.size_toArray, List.length_cons, List.length_nil, Nat.reduceAdd, Nat.zero_add, List.range, List.range.loop]; exact rfl) ?_ | with_reducible refine GO.regionEnd ?_ | with_reducible refine GO.block ?_ | with_reducible refine GO.inBlock ?_ | with_reducible refine GO.label ?_ | with_reducible refine GO.ret ?_ | with_reducible refine GO.fin ?_ | with_reducible refine GO.exit (by with_unfolding_all rfl) ?_)
  refine GO.opn rfl (by rfl) (by first | assumption | decide) (fun wQ hQ KQ kQ => ?_)
  go_simp
  refine kQ _ _ ⟨_, rfl, by simp [go_sem, events_max2], fun h1 n2 f2 L2 l2 => ?_⟩
  clear kQ KQ hQ
  try walk_nrm
  generalize wQ.heap.size = r2 at *
  clear wQ
  refine GO.opn rfl (by rfl) (by first | assumption | decide) (fun wQ hQ KQ kQ => ?_)
  go_simp
  refine kQ _ _ ⟨_, rfl, by simp [go_sem, events_max2], fun h2 n4 f4 L4 l4 => ?_⟩
  clear kQ KQ hQ
  try walk_nrm
  generalize wQ.heap.size = r4 at *
  clear wQ
  have n2' := l4 _ _ n2
  have n4' := n4
  have l := l2.trans l4
  have d24 : r2 ≠ r4 := fun e => by rw [e] at n2'; cases n2'.symm.trans n4
  have fr4 : h r4 = none := by
    cases e : h r4 with
    | none => rfl
    | some b => exact absurd ((l2 _ _ e).symm.trans f4) (by simp)
  clear n2 n4 l2 l4 f2 f4
  repeat (first | with_reducible refine GO.seq ?_ | with_reducible refine GO.skip ?_ | with_reducible refine GO.region (by simp only [List.size_toArray, List.length_cons, List.length_nil, Nat.reduceAdd, Nat.zero_add, List.range, List.range.loop]; exact rfl) ?_ | with_reducible refine GO.regionEnd ?_ | with_reducible refine GO.block ?_ | with_reducible refine GO.inBlock ?_ | with_reducible refine GO.label ?_ | with_reducible refine GO.ret ?_ | with_reducible refine GO.fin ?_ | with_reducible refine GO.exit (by with_unfolding_all rfl) ?_)
  refine GO.drawn (by kernel_rfl) (Inv := fun listed h' a => ∃ (l0 l1 l2 l3 l4 l5 l6 l7 l8 l9 l10 l11 : Bool) (s5 s6 s7 s8 s9 s10 s11 s12 s13 s14 s15 : Value), listed = #[l0, l1, l2, l3, l4, l5, l6, l7, l8, l9, l10, l11] ∧ a = ⟨#[.agg #[.int .i64 d, .int .i64 g], .int .i64 y, .pointer (some ⟨r2, 0, none⟩), undef, .pointer (some ⟨r4, 0, none⟩), s5, s6, s7, s8, s9, s10, s11, s12, s13, s14, s15], []⟩ ∧ Hid ((l0 = true → s5 = .int .i64 y) ∧ (l1 = true → s6 = .int .i64 (10 * y)) ∧ (l2 = true → s7 = .pointer (some ⟨r2, 0, none⟩)) ∧ (l3 = true → s8 = .int .i64 d) ∧ (l4 = true → s9 = .int .i64 (10 * y / d)) ∧ (l5 = true → s10 = .int .i64 y) ∧ (l6 = true → s11 = .int .i64 (10 * y)) ∧ (l7 = true → s12 = .pointer (some ⟨r2, 0, none⟩)) ∧ (l8 = true → s13 = .int .i64 d) ∧ (l9 = true → s14 = .int .i64 (10 * y % d)) ∧ (l10 = true → s15 = .agg #[.int .i64 (10 * y / d), .int .i64 (10 * y % d)])) ∧ ((l11 = false ∧ h' = h2) ∨ (l11 = true ∧ h' r4 = some (.cells #[.int .i64 (10 * y / d), .int .i64 (10 * y % d)] 50) ∧ ∀ k, k ≠ r4 → h' k = h2 k))) ?_ ?_ ?_
  · exact ⟨false, false, false, false, false, false, false, false, false, false, false, false, _, _, _, _, _, _, _, _, _, _, _, rfl, rfl, ⟨(fun h => by cases h), (fun h => by cases h), (fun h => by cases h), (fun h => by cases h), (fun h => by cases h), (fun h => by cases h), (fun h => by cases h), (fun h => by cases h), (fun h => by cases h), (fun h => by cases h), (fun h => by cases h)⟩, .inl ⟨rfl, rfl⟩⟩
  · rintro listed h' a i rest ⟨l0, l1, l2, l3, l4, l5, l6, l7, l8, l9, l10, l11, s5, s6, s7, s8, s9, s10, s11, s12, s13, s14, s15, rfl, rfl, E, eh⟩ hi hnx
    replace hnx := hid hnx
    obtain ⟨hlt, hnl, hdp⟩ := ready_mem hi
    have n2 : h' r2 = some (.cells #[.int .i64 d, .int .i64 g] 52) := by
      rcases eh with ⟨_, rfl⟩ | ⟨_, _, e⟩
      · exact n2'
      · rw [e _ d24]; exact n2'
    clear hi
    have hlt' : i < 12 := hlt
    rcases (show i = 0 ∨ i = 1 ∨ i = 2 ∨ i = 3 ∨ i = 4 ∨ i = 5 ∨ i = 6 ∨ i = 7 ∨ i = 8 ∨ i = 9 ∨ i = 10 ∨ i = 11 by omega) with rfl | rfl | rfl | rfl | rfl | rfl | rfl | rfl | rfl | rfl | rfl | rfl
    · clear hlt hlt'
      clear hdp hnl
      replace eh := hid eh
      refine GO.opq rfl (by rfl) (by first | assumption | decide) (fun wQ hQ KQ kQ => ?_)
      go_simp
      refine kQ _ _ ⟨rfl, (by first | (simp [go_sem, events_max2]; done) | (intro e he; exact absurd (show e ∈ (#[] : Array Event) from he) (by simp))), ?_⟩
      clear kQ KQ
      try clear hc0 hc1 hc2 hc3
      clear hQ wQ
      try walk_nrm
      exact hnx.out _ _ ⟨true, l1, l2, l3, l4, l5, l6, l7, l8, l9, l10, l11, _, _, _, _, _, _, _, _, _, _, _, rfl, rfl, ⟨fun _ => rfl, E.out.2.1, E.out.2.2.1, E.out.2.2.2.1, E.out.2.2.2.2.1, E.out.2.2.2.2.2.1, E.out.2.2.2.2.2.2.1, E.out.2.2.2.2.2.2.2.1, E.out.2.2.2.2.2.2.2.2.1, E.out.2.2.2.2.2.2.2.2.2.1, E.out.2.2.2.2.2.2.2.2.2.2⟩, eh.out⟩
    · clear hlt hlt'
      have dp : l0 = true := by simpa [Region.binds, and_assoc] using hdp
      have q0 := E.out.1 dp
      subst q0
      clear hdp hnl
      replace eh := hid eh
      refine GO.opq rfl (by rfl) (by first | assumption | decide) (fun wQ hQ KQ kQ => ?_)
      go_simp
      refine kQ _ _ ⟨rfl, (by first | (simp [go_sem, events_max2]; done) | (intro e he; exact absurd (show e ∈ (#[] : Array Event) from he) (by simp))), ?_⟩
      clear kQ KQ
      try clear hc0 hc1 hc2 hc3
      clear hQ wQ
      try walk_nrm
      exact hnx.out _ _ ⟨l0, true, l2, l3, l4, l5, l6, l7, l8, l9, l10, l11, _, _, _, _, _, _, _, _, _, _, _, rfl, rfl, ⟨E.out.1, fun _ => rfl, E.out.2.2.1, E.out.2.2.2.1, E.out.2.2.2.2.1, E.out.2.2.2.2.2.1, E.out.2.2.2.2.2.2.1, E.out.2.2.2.2.2.2.2.1, E.out.2.2.2.2.2.2.2.2.1, E.out.2.2.2.2.2.2.2.2.2.1, E.out.2.2.2.2.2.2.2.2.2.2⟩, eh.out⟩
    · clear hlt hlt'
      clear hdp hnl
      replace eh := hid eh
      refine GO.opq rfl (by rfl) (by first | assumption | decide) (fun wQ hQ KQ kQ => ?_)
      go_simp
      refine kQ _ _ ⟨rfl, (by first | (simp [go_sem, events_max2]; done) | (intro e he; exact absurd (show e ∈ (#[] : Array Event) from he) (by simp))), ?_⟩
      clear kQ KQ
      try clear hc0 hc1 hc2 hc3
      clear hQ wQ
      try walk_nrm
      exact hnx.out _ _ ⟨l0, l1, true, l3, l4, l5, l6, l7, l8, l9, l10, l11, _, _, _, _, _, _, _, _, _, _, _, rfl, rfl, ⟨E.out.1, E.out.2.1, fun _ => rfl, E.out.2.2.2.1, E.out.2.2.2.2.1, E.out.2.2.2.2.2.1, E.out.2.2.2.2.2.2.1, E.out.2.2.2.2.2.2.2.1, E.out.2.2.2.2.2.2.2.2.1, E.out.2.2.2.2.2.2.2.2.2.1, E.out.2.2.2.2.2.2.2.2.2.2⟩, eh.out⟩
    · clear hlt hlt'
      have dp : l2 = true := by simpa [Region.binds, and_assoc] using hdp
      have q2 := E.out.2.2.1 dp
      subst q2
      clear hdp hnl
      replace eh := hid eh
      refine GO.opq rfl (by rfl) (by first | assumption | decide) (fun wQ hQ KQ kQ => ?_)
      have hc := hQ.own _ _ n2
      have hc0 := gcell_of (o := 0) hc
      have hc1 := gcell_of (o := 1) hc
      have hc2 := gwarm_of (o := 0) hc
      have hc3 := gwarm_of (o := 1) hc
      clear hc
      simp only [List.getElem?_toArray, List.getElem?_cons_succ, List.getElem?_cons_zero, List.getElem?_nil] at hc0 hc1
      go_simp
      refine kQ _ _ ⟨rfl, (by have h0 := @evo_own _ _ _ _ _ _ 0 _ false hQ n2; have h1 := @evo_own _ _ _ _ _ _ 1 _ false hQ n2; first | (simp [go_sem, *]; done) | (simp [go_sem, *]; first | exact h0 | exact h1 | exact ⟨h0, h1⟩)), ?_⟩
      clear kQ KQ
      try clear hc0 hc1 hc2 hc3
      clear hQ wQ
      try walk_nrm
      exact hnx.out _ _ ⟨l0, l1, l2, true, l4, l5, l6, l7, l8, l9, l10, l11, _, _, _, _, _, _, _, _, _, _, _, rfl, rfl, ⟨E.out.1, E.out.2.1, E.out.2.2.1, fun _ => rfl, E.out.2.2.2.2.1, E.out.2.2.2.2.2.1, E.out.2.2.2.2.2.2.1, E.out.2.2.2.2.2.2.2.1, E.out.2.2.2.2.2.2.2.2.1, E.out.2.2.2.2.2.2.2.2.2.1, E.out.2.2.2.2.2.2.2.2.2.2⟩, eh.out⟩
    · clear hlt hlt'
      have dp : l1 = true ∧ l3 = true := by simpa [Region.binds, and_assoc] using hdp
      have q1 := E.out.2.1 dp.1
      subst q1
      have q3 := E.out.2.2.2.1 dp.2
      subst q3
      clear hdp hnl
      replace eh := hid eh
      refine GO.opq rfl (by rfl) (by first | assumption | decide) (fun wQ hQ KQ kQ => ?_)
      go_simp
      refine kQ _ _ ⟨rfl, (by first | (simp [go_sem, events_max2]; done) | (intro e he; exact absurd (show e ∈ (#[] : Array Event) from he) (by simp))), ?_⟩
      clear kQ KQ
      try clear hc0 hc1 hc2 hc3
      clear hQ wQ
      try walk_nrm
      exact hnx.out _ _ ⟨l0, l1, l2, l3, true, l5, l6, l7, l8, l9, l10, l11, _, _, _, _, _, _, _, _, _, _, _, rfl, rfl, ⟨E.out.1, E.out.2.1, E.out.2.2.1, E.out.2.2.2.1, fun _ => rfl, E.out.2.2.2.2.2.1, E.out.2.2.2.2.2.2.1, E.out.2.2.2.2.2.2.2.1, E.out.2.2.2.2.2.2.2.2.1, E.out.2.2.2.2.2.2.2.2.2.1, E.out.2.2.2.2.2.2.2.2.2.2⟩, eh.out⟩
    · clear hlt hlt'
      clear hdp hnl
      replace eh := hid eh
      refine GO.opq rfl (by rfl) (by first | assumption | decide) (fun wQ hQ KQ kQ => ?_)
      go_simp
      refine kQ _ _ ⟨rfl, (by first | (simp [go_sem, events_max2]; done) | (intro e he; exact absurd (show e ∈ (#[] : Array Event) from he) (by simp))), ?_⟩
      clear kQ KQ
      try clear hc0 hc1 hc2 hc3
      clear hQ wQ
      try walk_nrm
      exact hnx.out _ _ ⟨l0, l1, l2, l3, l4, true, l6, l7, l8, l9, l10, l11, _, _, _, _, _, _, _, _, _, _, _, rfl, rfl, ⟨E.out.1, E.out.2.1, E.out.2.2.1, E.out.2.2.2.1, E.out.2.2.2.2.1, fun _ => rfl, E.out.2.2.2.2.2.2.1, E.out.2.2.2.2.2.2.2.1, E.out.2.2.2.2.2.2.2.2.1, E.out.2.2.2.2.2.2.2.2.2.1, E.out.2.2.2.2.2.2.2.2.2.2⟩, eh.out⟩
    · clear hlt hlt'
      have dp : l5 = true := by simpa [Region.binds, and_assoc] using hdp
      have q5 := E.out.2.2.2.2.2.1 dp
      subst q5
      clear hdp hnl
      replace eh := hid eh
      refine GO.opq rfl (by rfl) (by first | assumption | decide) (fun wQ hQ KQ kQ => ?_)
      go_simp
      refine kQ _ _ ⟨rfl, (by first | (simp [go_sem, events_max2]; done) | (intro e he; exact absurd (show e ∈ (#[] : Array Event) from he) (by simp))), ?_⟩
      clear kQ KQ
      try clear hc0 hc1 hc2 hc3
      clear hQ wQ
      try walk_nrm
      exact hnx.out _ _ ⟨l0, l1, l2, l3, l4, l5, true, l7, l8, l9, l10, l11, _, _, _, _, _, _, _, _, _, _, _, rfl, rfl, ⟨E.out.1, E.out.2.1, E.out.2.2.1, E.out.2.2.2.1, E.out.2.2.2.2.1, E.out.2.2.2.2.2.1, fun _ => rfl, E.out.2.2.2.2.2.2.2.1, E.out.2.2.2.2.2.2.2.2.1, E.out.2.2.2.2.2.2.2.2.2.1, E.out.2.2.2.2.2.2.2.2.2.2⟩, eh.out⟩
    · clear hlt hlt'
      clear hdp hnl
      replace eh := hid eh
      refine GO.opq rfl (by rfl) (by first | assumption | decide) (fun wQ hQ KQ kQ => ?_)
      go_simp
      refine kQ _ _ ⟨rfl, (by first | (simp [go_sem, events_max2]; done) | (intro e he; exact absurd (show e ∈ (#[] : Array Event) from he) (by simp))), ?_⟩
      clear kQ KQ
      try clear hc0 hc1 hc2 hc3
      clear hQ wQ
      try walk_nrm
      exact hnx.out _ _ ⟨l0, l1, l2, l3, l4, l5, l6, true, l8, l9, l10, l11, _, _, _, _, _, _, _, _, _, _, _, rfl, rfl, ⟨E.out.1, E.out.2.1, E.out.2.2.1, E.out.2.2.2.1, E.out.2.2.2.2.1, E.out.2.2.2.2.2.1, E.out.2.2.2.2.2.2.1, fun _ => rfl, E.out.2.2.2.2.2.2.2.2.1, E.out.2.2.2.2.2.2.2.2.2.1, E.out.2.2.2.2.2.2.2.2.2.2⟩, eh.out⟩
    · clear hlt hlt'
      have dp : l7 = true := by simpa [Region.binds, and_assoc] using hdp
      have q7 := E.out.2.2.2.2.2.2.2.1 dp
      subst q7
      clear hdp hnl
      replace eh := hid eh
      refine GO.opq rfl (by rfl) (by first | assumption | decide) (fun wQ hQ KQ kQ => ?_)
      have hc := hQ.own _ _ n2
      have hc0 := gcell_of (o := 0) hc
      have hc1 := gcell_of (o := 1) hc
      have hc2 := gwarm_of (o := 0) hc
      have hc3 := gwarm_of (o := 1) hc
      clear hc
      simp only [List.getElem?_toArray, List.getElem?_cons_succ, List.getElem?_cons_zero, List.getElem?_nil] at hc0 hc1
      go_simp
      refine kQ _ _ ⟨rfl, (by have h0 := @evo_own _ _ _ _ _ _ 0 _ false hQ n2; have h1 := @evo_own _ _ _ _ _ _ 1 _ false hQ n2; first | (simp [go_sem, *]; done) | (simp [go_sem, *]; first | exact h0 | exact h1 | exact ⟨h0, h1⟩)), ?_⟩
      clear kQ KQ
      try clear hc0 hc1 hc2 hc3
      clear hQ wQ
      try walk_nrm
      exact hnx.out _ _ ⟨l0, l1, l2, l3, l4, l5, l6, l7, true, l9, l10, l11, _, _, _, _, _, _, _, _, _, _, _, rfl, rfl, ⟨E.out.1, E.out.2.1, E.out.2.2.1, E.out.2.2.2.1, E.out.2.2.2.2.1, E.out.2.2.2.2.2.1, E.out.2.2.2.2.2.2.1, E.out.2.2.2.2.2.2.2.1, fun _ => rfl, E.out.2.2.2.2.2.2.2.2.2.1, E.out.2.2.2.2.2.2.2.2.2.2⟩, eh.out⟩
    · clear hlt hlt'
      have dp : l6 = true ∧ l8 = true := by simpa [Region.binds, and_assoc] using hdp
      have q6 := E.out.2.2.2.2.2.2.1 dp.1
      subst q6
      have q8 := E.out.2.2.2.2.2.2.2.2.1 dp.2
      subst q8
      clear hdp hnl
      replace eh := hid eh
      refine GO.opq rfl (by rfl) (by first | assumption | decide) (fun wQ hQ KQ kQ => ?_)
      go_simp
      refine kQ _ _ ⟨rfl, (by first | (simp [go_sem, events_max2]; done) | (intro e he; exact absurd (show e ∈ (#[] : Array Event) from he) (by simp))), ?_⟩
      clear kQ KQ
      try clear hc0 hc1 hc2 hc3
      clear hQ wQ
      try walk_nrm
      exact hnx.out _ _ ⟨l0, l1, l2, l3, l4, l5, l6, l7, l8, true, l10, l11, _, _, _, _, _, _, _, _, _, _, _, rfl, rfl, ⟨E.out.1, E.out.2.1, E.out.2.2.1, E.out.2.2.2.1, E.out.2.2.2.2.1, E.out.2.2.2.2.2.1, E.out.2.2.2.2.2.2.1, E.out.2.2.2.2.2.2.2.1, E.out.2.2.2.2.2.2.2.2.1, fun _ => rfl, E.out.2.2.2.2.2.2.2.2.2.2⟩, eh.out⟩
    · clear hlt hlt'
      have dp : l4 = true ∧ l9 = true := by simpa [Region.binds, and_assoc] using hdp
      have q4 := E.out.2.2.2.2.1 dp.1
      subst q4
      have q9 := E.out.2.2.2.2.2.2.2.2.2.1 dp.2
      subst q9
      clear hdp hnl
      replace eh := hid eh
      refine GO.opq rfl (by rfl) (by first | assumption | decide) (fun wQ hQ KQ kQ => ?_)
      go_simp
      refine kQ _ _ ⟨rfl, (by first | (simp [go_sem, events_max2]; done) | (intro e he; exact absurd (show e ∈ (#[] : Array Event) from he) (by simp))), ?_⟩
      clear kQ KQ
      try clear hc0 hc1 hc2 hc3
      clear hQ wQ
      try walk_nrm
      exact hnx.out _ _ ⟨l0, l1, l2, l3, l4, l5, l6, l7, l8, l9, true, l11, _, _, _, _, _, _, _, _, _, _, _, rfl, rfl, ⟨E.out.1, E.out.2.1, E.out.2.2.1, E.out.2.2.2.1, E.out.2.2.2.2.1, E.out.2.2.2.2.2.1, E.out.2.2.2.2.2.2.1, E.out.2.2.2.2.2.2.2.1, E.out.2.2.2.2.2.2.2.2.1, E.out.2.2.2.2.2.2.2.2.2.1, fun _ => rfl⟩, eh.out⟩
    · clear hlt hlt'
      have dp : l10 = true := by
        have h := hdp
        simp [Region.binds, and_assoc] at h
        exact h.1
      have q10 := E.out.2.2.2.2.2.2.2.2.2.2 dp
      subst q10
      have hl11 : l11 = false := by simpa using hnl
      have eh' : h' = h2 := by
        rcases eh with ⟨_, e⟩ | ⟨e, _⟩
        · exact e
        · rw [hl11] at e; cases e
      subst eh'
      clear hdp hnl eh n2
      refine GO.opw (ob := (.cells #[.int .i64 (10 * y / d), .int .i64 (10 * y % d)] 50)) n4' rfl (by rfl) (by first | assumption | decide) (fun wQ hQ KQ kQ => ?_)
      have hc := hQ.own _ _ n4'
      have hc0 := gcell_of (o := 0) hc
      have hc1 := gcell_of (o := 1) hc
      have hc2 := gwarm_of (o := 0) hc
      have hc3 := gwarm_of (o := 1) hc
      simp only [List.getElem?_toArray, List.getElem?_cons_succ, List.getElem?_cons_zero, List.getElem?_nil] at hc0 hc1
      go_simp
      try (unfold stored; go_simp)
      refine kQ _ _ ⟨⟨rfl, rfl, rfl, by simp [World.setCell], (fun k hk => by first | exact put_ne _ hk | exact (put_ne _ hk).trans (put_ne _ hk)), (by first | exact put_at _ hc | exact put_at _ (put_at _ hc))⟩, ?_, fun h6 m6 t6 => ?_⟩
      · have h0 := @evo_own _ _ _ _ _ _ 0 _ true hQ n4'
        have h1 := @evo_own _ _ _ _ _ _ 1 _ true hQ n4'
        first | (simp [go_sem, *]; done) | (simp [go_sem, *]; first | exact h0 | exact h1 | exact ⟨h0, h1⟩) | (simp [go_sem, storedEv, *]; done) | (simp [go_sem, storedEv, *]; first | exact h0 | exact h1 | exact ⟨h0, h1⟩)
      clear kQ KQ hc hc0 hc1 hc2 hc3
      clear hQ wQ
      try walk_nrm
      exact hnx.out _ _ ⟨l0, l1, l2, l3, l4, l5, l6, l7, l8, l9, l10, true, _, _, _, _, _, _, _, _, _, _, _, rfl, rfl, E, .inr ⟨rfl, m6, t6⟩⟩
  · rintro listed h' a ⟨l0, l1, l2, l3, l4, l5, l6, l7, l8, l9, l10, l11, s5, s6, s7, s8, s9, s10, s11, s12, s13, s14, s15, rfl, rfl, E, eh⟩ hr
    have t0 : l0 = true := by
      have := ready_none hr 0 (by decide) (by simp [Region.binds])
      simpa using this
    have t1 : l1 = true := by
      have := ready_none hr 1 (by decide) (by simp [Region.binds, t0])
      simpa using this
    have t2 : l2 = true := by
      have := ready_none hr 2 (by decide) (by simp [Region.binds])
      simpa using this
    have t3 : l3 = true := by
      have := ready_none hr 3 (by decide) (by simp [Region.binds, t2])
      simpa using this
    have t4 : l4 = true := by
      have := ready_none hr 4 (by decide) (by simp [Region.binds, t1, t3])
      simpa using this
    have t5 : l5 = true := by
      have := ready_none hr 5 (by decide) (by simp [Region.binds])
      simpa using this
    have t6 : l6 = true := by
      have := ready_none hr 6 (by decide) (by simp [Region.binds, t5])
      simpa using this
    have t7 : l7 = true := by
      have := ready_none hr 7 (by decide) (by simp [Region.binds])
      simpa using this
    have t8 : l8 = true := by
      have := ready_none hr 8 (by decide) (by simp [Region.binds, t7])
      simpa using this
    have t9 : l9 = true := by
      have := ready_none hr 9 (by decide) (by simp [Region.binds, t6, t8])
      simpa using this
    have t10 : l10 = true := by
      have := ready_none hr 10 (by decide) (by simp [Region.binds, t4, t9])
      simpa using this
    have t11 : l11 = true := by
      have := ready_none hr 11 (by decide) (by simp [Region.binds, t0, t1, t2, t3, t4, t5, t6, t7, t8, t9, t10])
      simpa using this
    have eh' : h' r4 = some (.cells #[.int .i64 (10 * y / d), .int .i64 (10 * y % d)] 50) ∧ ∀ k, k ≠ r4 → h' k = h2 k := by
      rcases eh with ⟨e, _⟩ | ⟨_, e⟩
      · rw [t11] at e; cases e
      · exact e
    obtain ⟨m4, s4⟩ := eh'
    clear eh hr E t0 t1 t2 t3 t4 t5 t6 t7 t8 t9 t10 t11
    repeat (first | with_reducible refine GO.seq ?_ | with_reducible refine GO.skip ?_ | with_reducible refine GO.region (by simp only [List.size_toArray, List.length_cons, List.length_nil, Nat.reduceAdd, Nat.zero_add, List.range, List.range.loop]; exact rfl) ?_ | with_reducible refine GO.regionEnd ?_ | with_reducible refine GO.block ?_ | with_reducible refine GO.inBlock ?_ | with_reducible refine GO.label ?_ | with_reducible refine GO.ret ?_ | with_reducible refine GO.fin ?_ | with_reducible refine GO.exit (by with_unfolding_all rfl) ?_)
    refine GO.leaveE rfl rfl hf (v := .agg #[.int .i64 (10 * y / d), .int .i64 (10 * y % d)]) (fun w hS => ?_) ?_
    · exact res_p hS m4 rfl
    · exact hnext.out h' (Hl.le_set l fr4 s4)
end
end Go.Proofs.Ytlbkhiphnllfpam
