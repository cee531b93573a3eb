/-
  A signed turn of the program, in company.
-/
import Derived.Test.YtlbkhiphnllfpamGtk
import Derived.Test.YtlbkhiphnllfpamDivP
namespace Go.Proofs.Ytlbkhiphnllfpam
open Go.Conc Go.RowKit
set_option linter.unusedVariables false
set_option linter.unusedSimpArgs false
theorem scan_step (a d y s : Int) (hs : (0 ≤ y ∧ s = 1) ∨ (y < 0 ∧ s = -1)) (hd : 0 < d) (f j : Nat) (h0 : j = 0 ∨ ¬ 9 * abI (10 * y) ≤ a * d) :
    dsc a d y (f + 1) j = if 9 * max (10 * y - s * j * d) (-(10 * y - s * j * d)) ≤ a * d then s * j else dsc a d y f (j + 1) := by
  have hJ : 0 ≤ (j : Int) * d := Int.mul_nonneg (by omega) (by omega)
  have hz : j = 0 → (j : Int) * d = 0 := fun e => by rw [e]; simp
  have e1 : (1 : Int) * j * d = j * d := by rw [Int.one_mul]
  have e2 : (-1 : Int) * j * d = -(j * d) := by rw [Int.neg_mul, Int.neg_mul, Int.one_mul]
  conv => lhs; unfold dsc
  generalize a * d = A at *
  unfold abI at *
  rcases hs with ⟨hy, rfl⟩ | ⟨hy, rfl⟩
  · rw [e1]
    generalize (j : Int) * d = J at *
    by_cases hc : 9 * (if 10 * y - J < 0 then -(10 * y - J) else 10 * y - J) ≤ A
    · rw [if_pos hc, if_pos (by split at hc <;> omega), Int.one_mul]
    · have hc2 : ¬ 9 * (if 10 * y + J < 0 then -(10 * y + J) else 10 * y + J) ≤ A := by
        intro hc2
        rcases h0 with h0 | h0
        · have := hz h0; split at hc <;> split at hc2 <;> omega
        · split at h0 <;> split at hc2 <;> omega
      have hc3 : ¬ 9 * max (10 * y - J) (-(10 * y - J)) ≤ A := by split at hc <;> omega
      rw [if_neg hc, if_neg hc2, if_neg hc3]
  · rw [e2]
    generalize (j : Int) * d = J at *
    by_cases hc : 9 * (if 10 * y - J < 0 then -(10 * y - J) else 10 * y - J) ≤ A
    · rw [if_pos hc]
      rcases h0 with h0 | h0
      · have := hz h0
        rw [if_pos (by split at hc <;> omega), h0]; rfl
      · exfalso; split at hc <;> split at h0 <;> omega
    · rw [if_neg hc]
      by_cases hc2 : 9 * (if 10 * y + J < 0 then -(10 * y + J) else 10 * y + J) ≤ A
      · rw [if_pos hc2, if_pos (by split at hc2 <;> omega)]; omega
      · rw [if_neg hc2, if_neg (by split at hc2 <;> omega)]
theorem scan_done (g d y s : Int) (hs : (0 ≤ y ∧ s = 1) ∨ (y < 0 ∧ s = -1)) (hd : 0 < d) (j : Nat) (hj : j ≤ g.toNat) (h0 : j = 0 ∨ ¬ 9 * abI (10 * y) ≤ g * d) (he : dgt g d y = dsc g d y (g.toNat + 1 - j) j)
    (hw : 9 * max (10 * y - s * j * d) (-(10 * y - s * j * d)) ≤ g * d) : dgt g d y = s * j := by
  rw [he, show g.toNat + 1 - j = (g.toNat - j) + 1 by omega, scan_step g d y s hs hd _ _ h0, if_pos hw]
theorem scan_more (g d y s : Int) (hs : (0 ≤ y ∧ s = 1) ∨ (y < 0 ∧ s = -1)) (hd : 0 < d) (hg : 5 ≤ g ∧ g ≤ 9) (hy1 : 9 * y ≤ g * d) (hy2 : -(g * d) ≤ 9 * y) (j : Nat) (hj : j ≤ g.toNat) (h0 : j = 0 ∨ ¬ 9 * abI (10 * y) ≤ g * d) (he : dgt g d y = dsc g d y (g.toNat + 1 - j) j)
    (hw : ¬ 9 * max (10 * y - s * j * d) (-(10 * y - s * j * d)) ≤ g * d) : j + 1 ≤ g.toNat ∧ dgt g d y = dsc g d y (g.toNat + 1 - (j + 1)) (j + 1) ∧ ¬ 9 * abI (10 * y) ≤ g * d := by
  have hn : ¬ 9 * abI (10 * y) ≤ g * d := by
    rcases h0 with rfl | h0
    · intro hc
      apply hw
      have := (abI_small _ _).1 hc
      simp only [Int.natCast_zero, Int.mul_zero, Int.zero_mul, Int.sub_zero]
      omega
    · exact h0
  have e := scan_step g d y s hs hd (g.toNat - j) j h0
  rw [if_neg hw] at e
  rw [show g.toNat + 1 - j = (g.toNat - j) + 1 by omega, e] at he
  refine ⟨?_, by rw [he]; congr 1; omega, hn⟩
  rcases Nat.lt_or_ge j g.toNat with h | h
  · omega
  · exfalso
    have hz : dgt g d y = 0 := by rw [he, show g.toNat - j = 0 by omega]; rfl
    have hf := (dgt_fits g d y hd hg.1 hg.2 hy1 hy2).1
    rw [hz] at hf
    unfold Fits at hf
    rw [Int.zero_mul, Int.sub_zero] at hf
    exact hn ((abI_small _ _).2 hf)
section
variable {main : Bool} {c L : Nat} {w0 : World} {Stop : (Nat → Prop) → Goroutine → World → Prop} {h : Hl}
theorem Hl.le_set {h h1 h2 : Hl} {r : Nat} (l : h.le h1) (f : h r = none) (e : ∀ k, k ≠ r → h2 k = h1 k) : h.le h2 := fun k b hk => by
  have : k ≠ r := fun ek => by rw [ek, f] at hk; cases hk
  rw [e k this]; exact l k b hk
theorem res_o {w : World} {r : Nat} {q R : Int} {xs : Array Value} (hS : Sat w0 c L h w) (hr : h r = some (.cells #[.int .i64 q, .int .i64 R] 50)) (hx : xs[4]? = some (.pointer (some ⟨r, 0, none⟩)) := by rfl) :
    (results Try.f41 xs).run Try.prog w = .ok (.agg #[.int .i64 q, .int .i64 R]) w ∧ ∀ e ∈ (results Try.f41 xs).events Try.prog w #[], EvO L h.dom w.heap.size e := by
  have hc := hS.own _ _ hr
  have hc0 := gcell_of (o := 0) hc
  have hc1 := gcell_of (o := 1) hc
  simp only [List.getElem?_toArray, List.getElem?_cons_succ, List.getElem?_cons_zero, List.getElem?_nil] at hc0 hc1
  have h0 := @evo_own _ _ _ _ _ _ 0 _ false hS hr
  have h1 := @evo_own _ _ _ _ _ _ 1 _ false hS hr
  have e : (Try.f41).results = #[.cell 4 50] := rfl
  unfold results
  rw [e]
  clear hc hr hS
  constructor
  · simp [go_sem, *]
  · simp [go_sem, *]
    first | exact h0 | exact h1 | exact ⟨h0, h1⟩
set_option maxRecDepth 100000 in
set_option maxHeartbeats 8000000 in
theorem signed_o (d g y : Int) (hd : 1 ≤ d ∧ d ≤ 100000000) (hg : 5 ≤ g ∧ g ≤ 9) (hy1 : 9 * y ≤ g * d) (hy2 : -(g * d) ≤ 9 * y) {b₀ : Frame} {a₀ : Act} {ops : Array Oper} {i : Nat} {rest : List Nat} {k : List Item} {cs : List Frame} {fn : Func} {cd : Code} (hf : Try.prog.funcs[41]? = some fn) (hb : fn.body = some cd)
    (hnext : ∀ h' : Hl, h.le h' → GO Try.prog main c L w0 Stop h' (G (b₀.at (a₀.put ((ops[i]?).bind (·.dst)) (.agg #[.int .i64 (dgt g d y), .int .i64 (10 * y - dgt g d y * d)])) (.inRegion ops rest :: k)) cs)) :
    GO Try.prog main c L w0 Stop h (G ((base 41).at { tmps := #[.agg #[.int .i64 d, .int .i64 g], .int .i64 y] ++ Array.replicate (fn.ntmps - 2) undef, defers := [] } [.code cd]) (b₀.at a₀ (.inRegion ops (i :: rest) :: k) :: cs)) := by
  have e := hf.symm.trans Try.func41
  cases e
  cases hb
  simp only [Try.ntmps41, List.size_toArray, List.length_cons, List.length_nil, Nat.reduceAdd, Nat.reduceSub, Array.replicate_succ, Array.replicate_zero, List.push_toArray, List.append_toArray, List.nil_append, List.cons_append]
  replace hnext := hid hnext
  have m0 := mulG g d 9 100000000 (by omega) (by omega) (by omega) (by omega) (by decide)
  have hyb : -100000000 ≤ y ∧ y ≤ 100000000 := by omega
  have e1 : IntKind.i64.wrap (10 * y) = 10 * y := wrG _ (by omega)
  obtain ⟨s, hs⟩ : ∃ s : Int, (0 ≤ y ∧ s = 1) ∨ (y < 0 ∧ s = -1) := by
    rcases Int.lt_or_le y 0 with h | h
    · exact ⟨-1, .inr ⟨h, rfl⟩⟩
    · exact ⟨1, .inl ⟨h, rfl⟩⟩
  repeat (first | with_reducible refine GO.seq ?_ | with_reducible refine GO.skip ?_ | with_reducible refine GO.region (by simp only [List.size_toArray, List.length_cons, List.length_nil, Nat.reduceAdd, Nat.zero_add, List.range, List.range.loop]; exact rfl) ?_ | with_reducible refine GO.regionEnd ?_ | with_reducible refine GO.block ?_ | with_reducible refine GO.inBlock ?_ | with_reducible refine GO.label ?_ | with_reducible refine GO.ret ?_ | with_reducible refine GO.fin ?_ | with_reducible refine GO.exit (by with_unfolding_all rfl) ?_)
  refine GO.opn rfl (by rfl) (by first | assumption | decide) (fun wQ hQ KQ kQ => ?_)
  go_simp
  refine kQ _ _ ⟨_, rfl, by simp [go_sem], fun h1 n2 f2 L2 l2 => ?_⟩
  clear kQ KQ hQ
  try walk_nrm
  generalize wQ.heap.size = r2 at *
  clear wQ
  refine GO.opn rfl (by rfl) (by first | assumption | decide) (fun wQ hQ KQ kQ => ?_)
  go_simp
  refine kQ _ _ ⟨_, rfl, by simp [go_sem], fun h2 n4 f4 L4 l4 => ?_⟩
  clear kQ KQ hQ
  try walk_nrm
  generalize wQ.heap.size = r4 at *
  clear wQ
  replace n2 := l4 _ _ n2
  have l := l2.trans l4
  have d24 : r2 ≠ r4 := fun e => by rw [e] at n2; cases n2.symm.trans n4
  repeat (first | with_reducible refine GO.seq ?_ | with_reducible refine GO.skip ?_ | with_reducible refine GO.region (by simp only [List.size_toArray, List.length_cons, List.length_nil, Nat.reduceAdd, Nat.zero_add, List.range, List.range.loop]; exact rfl) ?_ | with_reducible refine GO.regionEnd ?_ | with_reducible refine GO.block ?_ | with_reducible refine GO.inBlock ?_ | with_reducible refine GO.label ?_ | with_reducible refine GO.ret ?_ | with_reducible refine GO.fin ?_ | with_reducible refine GO.exit (by with_unfolding_all rfl) ?_)
  refine GO.opq rfl (by rfl) (by first | assumption | decide) (fun wQ hQ KQ kQ => ?_)
  go_simp
  refine kQ _ _ ⟨rfl, (by first | (simp [go_sem]; done) | (intro e he; exact absurd (show e ∈ (#[] : Array Event) from he) (by simp))), ?_⟩
  clear kQ KQ
  try clear hc0 hc1 hc2 hc3
  clear hQ wQ
  try walk_nrm
  repeat (first | with_reducible refine GO.seq ?_ | with_reducible refine GO.skip ?_ | with_reducible refine GO.region (by simp only [List.size_toArray, List.length_cons, List.length_nil, Nat.reduceAdd, Nat.zero_add, List.range, List.range.loop]; exact rfl) ?_ | with_reducible refine GO.regionEnd ?_ | with_reducible refine GO.block ?_ | with_reducible refine GO.inBlock ?_ | with_reducible refine GO.label ?_ | with_reducible refine GO.ret ?_ | with_reducible refine GO.fin ?_ | with_reducible refine GO.exit (by with_unfolding_all rfl) ?_)
  refine GO.opq rfl (by rfl) (by first | assumption | decide) (fun wQ hQ KQ kQ => ?_)
  go_simp
  refine kQ _ _ ⟨rfl, (by first | (simp [go_sem]; done) | (intro e he; exact absurd (show e ∈ (#[] : Array Event) from he) (by simp))), ?_⟩
  clear kQ KQ
  try clear hc0 hc1 hc2 hc3
  clear hQ wQ
  try walk_nrm
  refine GO.opq rfl (by rfl) (by first | assumption | decide) (fun wQ hQ KQ kQ => ?_)
  go_simp
  refine kQ _ _ ⟨rfl, (by first | (simp [go_sem]; done) | (intro e he; exact absurd (show e ∈ (#[] : Array Event) from he) (by simp))), ?_⟩
  clear kQ KQ
  try clear hc0 hc1 hc2 hc3
  clear hQ wQ
  try walk_nrm
  first | with_reducible refine GO.seq ?_ | with_reducible refine GO.skip ?_ | with_reducible refine GO.region (by simp only [List.size_toArray, List.length_cons, List.length_nil, Nat.reduceAdd, Nat.zero_add, List.range, List.range.loop]; exact rfl) ?_ | with_reducible refine GO.regionEnd ?_ | with_reducible refine GO.block ?_ | with_reducible refine GO.inBlock ?_ | with_reducible refine GO.label ?_ | with_reducible refine GO.ret ?_ | with_reducible refine GO.fin ?_ | with_reducible refine GO.exit (by with_unfolding_all rfl) ?_
  refine GO.cut (fun h' a => ∃ x7 x8, h' = h2 ∧ a = ⟨#[.agg #[.int .i64 d, .int .i64 g], .int .i64 y, .pointer (some ⟨r2, 0, none⟩), undef, .pointer (some ⟨r4, 0, none⟩), .int .i64 s, undef, x7, x8, undef, undef, undef, undef, undef, undef, undef, undef, undef, undef, undef, undef, undef, undef, undef, undef, undef, undef, undef, undef, undef, undef], []⟩) ?_ ?_
  · rintro _ _ ⟨x7, x8, rfl, rfl⟩
    repeat (first | with_reducible refine GO.seq ?_ | with_reducible refine GO.skip ?_ | with_reducible refine GO.region (by simp only [List.size_toArray, List.length_cons, List.length_nil, Nat.reduceAdd, Nat.zero_add, List.range, List.range.loop]; exact rfl) ?_ | with_reducible refine GO.regionEnd ?_ | with_reducible refine GO.block ?_ | with_reducible refine GO.inBlock ?_ | with_reducible refine GO.label ?_ | with_reducible refine GO.ret ?_ | with_reducible refine GO.fin ?_ | with_reducible refine GO.exit (by with_unfolding_all rfl) ?_)
    refine GO.opq rfl (by rfl) (by first | assumption | decide) (fun wQ hQ KQ kQ => ?_)
    go_simp
    refine kQ _ _ ⟨rfl, (by first | (simp [go_sem]; done) | (intro e he; exact absurd (show e ∈ (#[] : Array Event) from he) (by simp))), ?_⟩
    clear kQ KQ
    try clear hc0 hc1 hc2 hc3
    clear hQ wQ
    try walk_nrm
    refine GO.opq rfl (by rfl) (by first | assumption | decide) (fun wQ hQ KQ kQ => ?_)
    go_simp
    refine kQ _ _ ⟨rfl, (by first | (simp [go_sem]; done) | (intro e he; exact absurd (show e ∈ (#[] : Array Event) from he) (by simp))), ?_⟩
    clear kQ KQ
    try clear hc0 hc1 hc2 hc3
    clear hQ wQ
    try walk_nrm
    refine GO.opq rfl (by rfl) (by first | assumption | decide) (fun wQ hQ KQ kQ => ?_)
    go_simp
    refine kQ _ _ ⟨rfl, (by first | (simp [go_sem]; done) | (intro e he; exact absurd (show e ∈ (#[] : Array Event) from he) (by simp))), ?_⟩
    clear kQ KQ
    try clear hc0 hc1 hc2 hc3
    clear hQ wQ
    try walk_nrm
    refine GO.opn rfl (by rfl) (by first | assumption | decide) (fun wQ hQ KQ kQ => ?_)
    go_simp
    refine kQ _ _ ⟨_, rfl, by simp [go_sem], fun h3 n6 f6 L6 l6 => ?_⟩
    clear kQ KQ hQ
    try walk_nrm
    generalize wQ.heap.size = r6 at *
    clear wQ
    refine GO.opw (ob := (.cells #[.int .i64 0, .int .i64 (10 * y)] 50)) n6 rfl (by rfl) (by first | assumption | decide) (fun wQ hQ KQ kQ => ?_)
    have hc := hQ.own _ _ n6
    have hc0 := gcell_of (o := 0) hc
    have hc1 := gcell_of (o := 1) hc
    have hc2 := gwarm_of (o := 0) hc
    have hc3 := gwarm_of (o := 1) hc
    simp only [List.getElem?_toArray, List.getElem?_cons_succ, List.getElem?_cons_zero, List.getElem?_nil] at hc0 hc1
    go_simp
    try (unfold stored; go_simp)
    refine kQ _ _ ⟨⟨rfl, rfl, rfl, by simp [World.setCell], (fun k hk => by first | exact put_ne _ hk | exact (put_ne _ hk).trans (put_ne _ hk)), (by first | exact put_at _ hc | exact put_at _ (put_at _ hc))⟩, ?_, fun h4 m6 s6 => ?_⟩
    · have h0 := @evo_own _ _ _ _ _ _ 0 _ true hQ n6
      have h1 := @evo_own _ _ _ _ _ _ 1 _ true hQ n6
      first | (simp [go_sem, *]; done) | (simp [go_sem, *]; first | exact h0 | exact h1 | exact ⟨h0, h1⟩) | (simp [go_sem, storedEv, *]; done) | (simp [go_sem, storedEv, *]; first | exact h0 | exact h1 | exact ⟨h0, h1⟩)
    clear kQ KQ hc hc0 hc1 hc2 hc3
    clear hQ wQ
    try walk_nrm
    repeat (first | with_reducible refine GO.seq ?_ | with_reducible refine GO.skip ?_ | with_reducible refine GO.region (by simp only [List.size_toArray, List.length_cons, List.length_nil, Nat.reduceAdd, Nat.zero_add, List.range, List.range.loop]; exact rfl) ?_ | with_reducible refine GO.regionEnd ?_ | with_reducible refine GO.block ?_ | with_reducible refine GO.inBlock ?_ | with_reducible refine GO.label ?_ | with_reducible refine GO.ret ?_ | with_reducible refine GO.fin ?_ | with_reducible refine GO.exit (by with_unfolding_all rfl) ?_)
    have d26 : r2 ≠ r6 := fun e => by rw [e] at n2; exact absurd (n2.symm.trans f6) (by simp)
    have d46 : r4 ≠ r6 := fun e => by rw [e] at n4; exact absurd (n4.symm.trans f6) (by simp)
    have n2' : h4 r2 = some (.cells #[.int .i64 d, .int .i64 g] 52) := (s6 _ d26).trans (l6 _ _ n2)
    have n4' : h4 r4 = some (.cells #[.int .i64 0, .int .i64 0] 50) := (s6 _ d46).trans (l6 _ _ n4)
    have l4' : h.le h4 := fun k b e => by
      have e' := l6 _ _ (l _ _ e)
      have : k ≠ r6 := fun ek => by rw [ek] at e; exact absurd ((l _ _ e).symm.trans f6) (by simp)
      exact (s6 _ this).trans e'
    have fr6 : h r6 = none := by
      cases e : h r6 with
      | none => rfl
      | some b => exact absurd ((l _ _ e).symm.trans f6) (by simp)
    have fr4 : h r4 = none := by
      cases e : h r4 with
      | none => rfl
      | some b => exact absurd ((l2 _ _ e).symm.trans f4) (by simp)
    clear n2 n4 n6 f6 l6 l s6 l4 l2 f2 f4
    refine GO.loopI (fun n h5 a => ∃ (j : Nat) (q R : Int) (x0 x1 x3 x7 x8 x9 x10 x11 x12 x13 x14 x15 x16 x17 x18 x19 x20 x21 x22 x23 x24 x25 x26 x27 x28 x29 x30 : Value), n = g.toNat + 1 - j ∧ j ≤ g.toNat ∧ (j = 0 ∨ ¬ 9 * abI (10 * y) ≤ g * d) ∧ dgt g d y = dsc g d y (g.toNat + 1 - j) j ∧ Hid (q = s * j) ∧ Hid (R = 10 * y - s * j * d) ∧
      h.le h5 ∧ h5 r2 = some (.cells #[.int .i64 d, .int .i64 g] 52) ∧ h5 r4 = some (.cells #[.int .i64 0, .int .i64 0] 50) ∧ h5 r6 = some (.cells #[.int .i64 q, .int .i64 R] 50) ∧ a = ⟨#[x0, x1, .pointer (some ⟨r2, 0, none⟩), x3, .pointer (some ⟨r4, 0, none⟩), .int .i64 s, .pointer (some ⟨r6, 0, none⟩), x7, x8, x9, x10, x11, x12, x13, x14, x15, x16, x17, x18, x19, x20, x21, x22, x23, x24, x25, x26, x27, x28, x29, x30], []⟩) (g.toNat + 1) ?_ ?_
    · exact ⟨0, 0, 10 * y, _, _, _, _, _, _, _, _, _, _, _, _, _, _, _, _, _, _, _, _, _, _, _, _, _, _, _, rfl, Nat.zero_le _, .inl rfl, rfl, (by show (0 : Int) = _; simp), (by show 10 * y = _; simp), l4', n2', n4', m6, rfl⟩
    · clear n2' n4' l4' m6
      rintro n h5 a ⟨j, q, R, x0, x1, x3, x7, x8, x9, x10, x11, x12, x13, x14, x15, x16, x17, x18, x19, x20, x21, x22, x23, x24, x25, x26, x27, x28, x29, x30, rfl, hj, h0, he, hq, hR, l5, n2, n4, n6, rfl⟩ hrec
      replace hrec := hid hrec
      repeat (first | with_reducible refine GO.seq ?_ | with_reducible refine GO.skip ?_ | with_reducible refine GO.region (by simp only [List.size_toArray, List.length_cons, List.length_nil, Nat.reduceAdd, Nat.zero_add, List.range, List.range.loop]; exact rfl) ?_ | with_reducible refine GO.regionEnd ?_ | with_reducible refine GO.block ?_ | with_reducible refine GO.inBlock ?_ | with_reducible refine GO.label ?_ | with_reducible refine GO.ret ?_ | with_reducible refine GO.fin ?_ | with_reducible refine GO.exit (by with_unfolding_all rfl) ?_)
      refine GO.opq rfl (by rfl) (by first | assumption | decide) (fun wQ hQ KQ kQ => ?_)
      have hc := hQ.own _ _ n2
      have hc0 := gcell_of (o := 0) hc
      have hc1 := gcell_of (o := 1) hc
      have hc2 := gwarm_of (o := 0) hc
      have hc3 := gwarm_of (o := 1) hc
      clear hc
      simp only [List.getElem?_toArray, List.getElem?_cons_succ, List.getElem?_cons_zero, List.getElem?_nil] at hc0 hc1
      go_simp
      refine kQ _ _ ⟨rfl, (by have h0 := @evo_own _ _ _ _ _ _ 0 _ false hQ n2; have h1 := @evo_own _ _ _ _ _ _ 1 _ false hQ n2; first | (simp [go_sem, *]; done) | (simp [go_sem, *]; first | exact h0 | exact h1 | exact ⟨h0, h1⟩)), ?_⟩
      clear kQ KQ
      try clear hc0 hc1 hc2 hc3
      clear hQ wQ
      try walk_nrm
      refine GO.opq rfl (by rfl) (by first | assumption | decide) (fun wQ hQ KQ kQ => ?_)
      go_simp
      refine kQ _ _ ⟨rfl, (by first | (simp [go_sem]; done) | (intro e he; exact absurd (show e ∈ (#[] : Array Event) from he) (by simp))), ?_⟩
      clear kQ KQ
      try clear hc0 hc1 hc2 hc3
      clear hQ wQ
      try walk_nrm
      refine GO.opq rfl (by rfl) (by first | assumption | decide) (fun wQ hQ KQ kQ => ?_)
      have hc := hQ.own _ _ n6
      have hc0 := gcell_of (o := 0) hc
      have hc1 := gcell_of (o := 1) hc
      have hc2 := gwarm_of (o := 0) hc
      have hc3 := gwarm_of (o := 1) hc
      clear hc
      simp only [List.getElem?_toArray, List.getElem?_cons_succ, List.getElem?_cons_zero, List.getElem?_nil] at hc0 hc1
      go_simp
      refine kQ _ _ ⟨rfl, (by have h0 := @evo_own _ _ _ _ _ _ 0 _ false hQ n6; have h1 := @evo_own _ _ _ _ _ _ 1 _ false hQ n6; first | (simp [go_sem, *]; done) | (simp [go_sem, *]; first | exact h0 | exact h1 | exact ⟨h0, h1⟩)), ?_⟩
      clear kQ KQ
      try clear hc0 hc1 hc2 hc3
      clear hQ wQ
      try walk_nrm
      have hsj : -(10 * 100000000) ≤ s * j * d ∧ s * j * d ≤ 10 * 100000000 := mulG (s * j) d 10 100000000 (by rcases hs with ⟨_, rfl⟩ | ⟨_, rfl⟩ <;> omega) (by rcases hs with ⟨_, rfl⟩ | ⟨_, rfl⟩ <;> omega) (by omega) (by omega) (by decide)
      have hRb : -10000000000 ≤ R ∧ R ≤ 10000000000 := by have := hR.out; omega
      refine GO.call (vs := #[.agg #[.int .i64 d, .int .i64 g], .int .i64 R]) rfl (by rfl) (by decide) rfl Try.func39 (by rfl) rfl (by simp [Act.eval]) ?_
      refine bounds_o d g R hd hg hRb Try.func39 rfl ?_
      intro h6 l6
      replace n2 := l6 _ _ n2
      replace n4 := l6 _ _ n4
      replace n6 := l6 _ _ n6
      replace l5 := l5.trans l6
      clear l6
      walk_nrm
      obtain ⟨t, ht⟩ : ∃ t, decide (9 * max R (-R) ≤ g * d) = t := ⟨_, rfl⟩
      simp only [ht]
      refine GO.opq rfl (by rfl) (by first | assumption | decide) (fun wQ hQ KQ kQ => ?_)
      go_simp
      refine kQ _ _ ⟨rfl, (by first | (simp [go_sem]; done) | (intro e he; exact absurd (show e ∈ (#[] : Array Event) from he) (by simp))), ?_⟩
      clear kQ KQ
      try clear hc0 hc1 hc2 hc3
      clear hQ wQ
      try walk_nrm
      first | with_reducible refine GO.seq ?_ | with_reducible refine GO.skip ?_ | with_reducible refine GO.region (by simp only [List.size_toArray, List.length_cons, List.length_nil, Nat.reduceAdd, Nat.zero_add, List.range, List.range.loop]; exact rfl) ?_ | with_reducible refine GO.regionEnd ?_ | with_reducible refine GO.block ?_ | with_reducible refine GO.inBlock ?_ | with_reducible refine GO.label ?_ | with_reducible refine GO.ret ?_ | with_reducible refine GO.fin ?_ | with_reducible refine GO.exit (by with_unfolding_all rfl) ?_
      refine GO.cond (t := !t) rfl (fun hc => ?_) (fun hc => ?_)
      · have hw : ¬ 9 * max (10 * y - s * j * d) (-(10 * y - s * j * d)) ≤ g * d := by
          rw [← hR.out]
          intro hx
          rw [decide_eq_true hx] at ht
          rw [← ht] at hc
          cases hc
        obtain ⟨hj', he', hn'⟩ := scan_more g d y s hs (by omega) hg hy1 hy2 j hj h0 he hw
        have hqb : -10 ≤ q + s ∧ q + s ≤ 10 := by have := hq.out; rcases hs with ⟨_, rfl⟩ | ⟨_, rfl⟩ <;> omega
        have w1 : IntKind.i64.wrap (q + s) = q + s := wrG _ (by omega)
        have hsd : -(1 * 100000000) ≤ s * d ∧ s * d ≤ 1 * 100000000 := mulG s d 1 100000000 (by rcases hs with ⟨_, rfl⟩ | ⟨_, rfl⟩ <;> omega) (by rcases hs with ⟨_, rfl⟩ | ⟨_, rfl⟩ <;> omega) (by omega) (by omega) (by decide)
        have w2 : IntKind.i64.wrap (s * d) = s * d := wrG _ (by omega)
        have w3 : IntKind.i64.wrap (R - s * d) = R - s * d := wrG _ (by omega)
        clear hc ht he hw h0
        repeat (first | with_reducible refine GO.seq ?_ | with_reducible refine GO.skip ?_ | with_reducible refine GO.region (by simp only [List.size_toArray, List.length_cons, List.length_nil, Nat.reduceAdd, Nat.zero_add, List.range, List.range.loop]; exact rfl) ?_ | with_reducible refine GO.regionEnd ?_ | with_reducible refine GO.block ?_ | with_reducible refine GO.inBlock ?_ | with_reducible refine GO.label ?_ | with_reducible refine GO.ret ?_ | with_reducible refine GO.fin ?_ | with_reducible refine GO.exit (by with_unfolding_all rfl) ?_)
        refine GO.opq rfl (by rfl) (by first | assumption | decide) (fun wQ hQ KQ kQ => ?_)
        go_simp
        refine kQ _ _ ⟨rfl, (by first | (simp [go_sem]; done) | (intro e he; exact absurd (show e ∈ (#[] : Array Event) from he) (by simp))), ?_⟩
        clear kQ KQ
        try clear hc0 hc1 hc2 hc3
        clear hQ wQ
        try walk_nrm
        refine GO.opq rfl (by rfl) (by first | assumption | decide) (fun wQ hQ KQ kQ => ?_)
        have hc := hQ.own _ _ n6
        have hc0 := gcell_of (o := 0) hc
        have hc1 := gcell_of (o := 1) hc
        have hc2 := gwarm_of (o := 0) hc
        have hc3 := gwarm_of (o := 1) hc
        clear hc
        simp only [List.getElem?_toArray, List.getElem?_cons_succ, List.getElem?_cons_zero, List.getElem?_nil] at hc0 hc1
        go_simp
        refine kQ _ _ ⟨rfl, (by have h0 := @evo_own _ _ _ _ _ _ 0 _ false hQ n6; have h1 := @evo_own _ _ _ _ _ _ 1 _ false hQ n6; first | (simp [go_sem, *]; done) | (simp [go_sem, *]; first | exact h0 | exact h1 | exact ⟨h0, h1⟩)), ?_⟩
        clear kQ KQ
        try clear hc0 hc1 hc2 hc3
        clear hQ wQ
        try walk_nrm
        refine GO.opq rfl (by rfl) (by first | assumption | decide) (fun wQ hQ KQ kQ => ?_)
        go_simp
        refine kQ _ _ ⟨rfl, (by first | (simp [go_sem]; done) | (intro e he; exact absurd (show e ∈ (#[] : Array Event) from he) (by simp))), ?_⟩
        clear kQ KQ
        try clear hc0 hc1 hc2 hc3
        clear hQ wQ
        try walk_nrm
        refine GO.opq rfl (by rfl) (by first | assumption | decide) (fun wQ hQ KQ kQ => ?_)
        go_simp
        refine kQ _ _ ⟨rfl, (by first | (simp [go_sem]; done) | (intro e he; exact absurd (show e ∈ (#[] : Array Event) from he) (by simp))), ?_⟩
        clear kQ KQ
        try clear hc0 hc1 hc2 hc3
        clear hQ wQ
        try walk_nrm
        refine GO.opq rfl (by rfl) (by first | assumption | decide) (fun wQ hQ KQ kQ => ?_)
        go_simp
        refine kQ _ _ ⟨rfl, (by first | (simp [go_sem]; done) | (intro e he; exact absurd (show e ∈ (#[] : Array Event) from he) (by simp))), ?_⟩
        clear kQ KQ
        try clear hc0 hc1 hc2 hc3
        clear hQ wQ
        try walk_nrm
        refine GO.opw (ob := (.cells #[.int .i64 (q + s), .int .i64 R] 50)) n6 rfl (by rfl) (by first | assumption | decide) (fun wQ hQ KQ kQ => ?_)
        have hc := hQ.own _ _ n6
        have hc0 := gcell_of (o := 0) hc
        have hc1 := gcell_of (o := 1) hc
        have hc2 := gwarm_of (o := 0) hc
        have hc3 := gwarm_of (o := 1) hc
        simp only [List.getElem?_toArray, List.getElem?_cons_succ, List.getElem?_cons_zero, List.getElem?_nil] at hc0 hc1
        go_simp
        try (unfold stored; go_simp)
        refine kQ _ _ ⟨⟨rfl, rfl, rfl, by simp [World.setCell], (fun k hk => by first | exact put_ne _ hk | exact (put_ne _ hk).trans (put_ne _ hk)), (by first | exact put_at _ hc | exact put_at _ (put_at _ hc))⟩, ?_, fun h7 m6 s6 => ?_⟩
        · have h0 := @evo_own _ _ _ _ _ _ 0 _ true hQ n6
          have h1 := @evo_own _ _ _ _ _ _ 1 _ true hQ n6
          first | (simp [go_sem, *]; done) | (simp [go_sem, *]; first | exact h0 | exact h1 | exact ⟨h0, h1⟩) | (simp [go_sem, storedEv, *]; done) | (simp [go_sem, storedEv, *]; first | exact h0 | exact h1 | exact ⟨h0, h1⟩)
        clear kQ KQ hc hc0 hc1 hc2 hc3
        clear hQ wQ
        try walk_nrm
        have k2 := (s6 _ d26).trans n2
        repeat (first | with_reducible refine GO.seq ?_ | with_reducible refine GO.skip ?_ | with_reducible refine GO.region (by simp only [List.size_toArray, List.length_cons, List.length_nil, Nat.reduceAdd, Nat.zero_add, List.range, List.range.loop]; exact rfl) ?_ | with_reducible refine GO.regionEnd ?_ | with_reducible refine GO.block ?_ | with_reducible refine GO.inBlock ?_ | with_reducible refine GO.label ?_ | with_reducible refine GO.ret ?_ | with_reducible refine GO.fin ?_ | with_reducible refine GO.exit (by with_unfolding_all rfl) ?_)
        refine GO.opq rfl (by rfl) (by first | assumption | decide) (fun wQ hQ KQ kQ => ?_)
        go_simp
        refine kQ _ _ ⟨rfl, (by first | (simp [go_sem]; done) | (intro e he; exact absurd (show e ∈ (#[] : Array Event) from he) (by simp))), ?_⟩
        clear kQ KQ
        try clear hc0 hc1 hc2 hc3
        clear hQ wQ
        try walk_nrm
        refine GO.opq rfl (by rfl) (by first | assumption | decide) (fun wQ hQ KQ kQ => ?_)
        have hc := hQ.own _ _ m6
        have hc0 := gcell_of (o := 0) hc
        have hc1 := gcell_of (o := 1) hc
        have hc2 := gwarm_of (o := 0) hc
        have hc3 := gwarm_of (o := 1) hc
        clear hc
        simp only [List.getElem?_toArray, List.getElem?_cons_succ, List.getElem?_cons_zero, List.getElem?_nil] at hc0 hc1
        go_simp
        refine kQ _ _ ⟨rfl, (by have h0 := @evo_own _ _ _ _ _ _ 0 _ false hQ m6; have h1 := @evo_own _ _ _ _ _ _ 1 _ false hQ m6; first | (simp [go_sem, *]; done) | (simp [go_sem, *]; first | exact h0 | exact h1 | exact ⟨h0, h1⟩)), ?_⟩
        clear kQ KQ
        try clear hc0 hc1 hc2 hc3
        clear hQ wQ
        try walk_nrm
        refine GO.opq rfl (by rfl) (by first | assumption | decide) (fun wQ hQ KQ kQ => ?_)
        go_simp
        refine kQ _ _ ⟨rfl, (by first | (simp [go_sem]; done) | (intro e he; exact absurd (show e ∈ (#[] : Array Event) from he) (by simp))), ?_⟩
        clear kQ KQ
        try clear hc0 hc1 hc2 hc3
        clear hQ wQ
        try walk_nrm
        refine GO.opq rfl (by rfl) (by first | assumption | decide) (fun wQ hQ KQ kQ => ?_)
        go_simp
        refine kQ _ _ ⟨rfl, (by first | (simp [go_sem]; done) | (intro e he; exact absurd (show e ∈ (#[] : Array Event) from he) (by simp))), ?_⟩
        clear kQ KQ
        try clear hc0 hc1 hc2 hc3
        clear hQ wQ
        try walk_nrm
        refine GO.opq rfl (by rfl) (by first | assumption | decide) (fun wQ hQ KQ kQ => ?_)
        have hc := hQ.own _ _ k2
        have hc0 := gcell_of (o := 0) hc
        have hc1 := gcell_of (o := 1) hc
        have hc2 := gwarm_of (o := 0) hc
        have hc3 := gwarm_of (o := 1) hc
        clear hc
        simp only [List.getElem?_toArray, List.getElem?_cons_succ, List.getElem?_cons_zero, List.getElem?_nil] at hc0 hc1
        go_simp
        refine kQ _ _ ⟨rfl, (by have h0 := @evo_own _ _ _ _ _ _ 0 _ false hQ k2; have h1 := @evo_own _ _ _ _ _ _ 1 _ false hQ k2; first | (simp [go_sem, *]; done) | (simp [go_sem, *]; first | exact h0 | exact h1 | exact ⟨h0, h1⟩)), ?_⟩
        clear kQ KQ
        try clear hc0 hc1 hc2 hc3
        clear hQ wQ
        try walk_nrm
        refine GO.opq rfl (by rfl) (by first | assumption | decide) (fun wQ hQ KQ kQ => ?_)
        go_simp
        refine kQ _ _ ⟨rfl, (by first | (simp [go_sem]; done) | (intro e he; exact absurd (show e ∈ (#[] : Array Event) from he) (by simp))), ?_⟩
        clear kQ KQ
        try clear hc0 hc1 hc2 hc3
        clear hQ wQ
        try walk_nrm
        refine GO.opq rfl (by rfl) (by first | assumption | decide) (fun wQ hQ KQ kQ => ?_)
        go_simp
        refine kQ _ _ ⟨rfl, (by first | (simp [go_sem]; done) | (intro e he; exact absurd (show e ∈ (#[] : Array Event) from he) (by simp))), ?_⟩
        clear kQ KQ
        try clear hc0 hc1 hc2 hc3
        clear hQ wQ
        try walk_nrm
        refine GO.opq rfl (by rfl) (by first | assumption | decide) (fun wQ hQ KQ kQ => ?_)
        go_simp
        refine kQ _ _ ⟨rfl, (by first | (simp [go_sem]; done) | (intro e he; exact absurd (show e ∈ (#[] : Array Event) from he) (by simp))), ?_⟩
        clear kQ KQ
        try clear hc0 hc1 hc2 hc3
        clear hQ wQ
        try walk_nrm
        refine GO.opw (ob := (.cells #[.int .i64 (q + s), .int .i64 (R - s * d)] 50)) m6 rfl (by rfl) (by first | assumption | decide) (fun wQ hQ KQ kQ => ?_)
        have hc := hQ.own _ _ m6
        have hc0 := gcell_of (o := 0) hc
        have hc1 := gcell_of (o := 1) hc
        have hc2 := gwarm_of (o := 0) hc
        have hc3 := gwarm_of (o := 1) hc
        simp only [List.getElem?_toArray, List.getElem?_cons_succ, List.getElem?_cons_zero, List.getElem?_nil] at hc0 hc1
        go_simp
        try (unfold stored; go_simp)
        refine kQ _ _ ⟨⟨rfl, rfl, rfl, by simp [World.setCell], (fun k hk => by first | exact put_ne _ hk | exact (put_ne _ hk).trans (put_ne _ hk)), (by first | exact put_at _ hc | exact put_at _ (put_at _ hc))⟩, ?_, fun h8 m6' s6' => ?_⟩
        · have h0 := @evo_own _ _ _ _ _ _ 0 _ true hQ m6
          have h1 := @evo_own _ _ _ _ _ _ 1 _ true hQ m6
          first | (simp [go_sem, *]; done) | (simp [go_sem, *]; first | exact h0 | exact h1 | exact ⟨h0, h1⟩) | (simp [go_sem, storedEv, *]; done) | (simp [go_sem, storedEv, *]; first | exact h0 | exact h1 | exact ⟨h0, h1⟩)
        clear kQ KQ hc hc0 hc1 hc2 hc3
        clear hQ wQ
        try walk_nrm
        repeat (first | with_reducible refine GO.seq ?_ | with_reducible refine GO.skip ?_ | with_reducible refine GO.region (by simp only [List.size_toArray, List.length_cons, List.length_nil, Nat.reduceAdd, Nat.zero_add, List.range, List.range.loop]; exact rfl) ?_ | with_reducible refine GO.regionEnd ?_ | with_reducible refine GO.block ?_ | with_reducible refine GO.inBlock ?_ | with_reducible refine GO.label ?_ | with_reducible refine GO.ret ?_ | with_reducible refine GO.fin ?_ | with_reducible refine GO.exit (by with_unfolding_all rfl) ?_)
        refine hrec.out _ _ _ (by omega) ⟨j + 1, q + s, R - s * d, _, _, _, _, _, _, _, _, _, _, _, _, _, _, _, _, _, _, _, _, _, _, _, _, _, _, _, rfl, hj', .inr hn', he', ?_, ?_, ?_, (s6' _ d26).trans k2, (s6' _ d46).trans ((s6 _ d46).trans n4), m6', rfl⟩
        · show q + s = _
          rw [hq.out]; push_cast; rw [Int.mul_add, Int.mul_one]
        · show R - s * d = _
          rw [hR.out]; push_cast; rw [Int.mul_add, Int.mul_one, Int.add_mul]; omega
        · exact Hl.le_set (Hl.le_set l5 fr6 s6) fr6 s6'
      · have hw : 9 * max (10 * y - s * j * d) (-(10 * y - s * j * d)) ≤ g * d := by
          rw [← hR.out]
          exact of_decide_eq_true (ht.trans (by simpa using hc))
        have hdg := scan_done g d y s hs (by omega) j hj h0 he hw
        clear hc ht he hw h0
        repeat (first | with_reducible refine GO.seq ?_ | with_reducible refine GO.skip ?_ | with_reducible refine GO.region (by simp only [List.size_toArray, List.length_cons, List.length_nil, Nat.reduceAdd, Nat.zero_add, List.range, List.range.loop]; exact rfl) ?_ | with_reducible refine GO.regionEnd ?_ | with_reducible refine GO.block ?_ | with_reducible refine GO.inBlock ?_ | with_reducible refine GO.label ?_ | with_reducible refine GO.ret ?_ | with_reducible refine GO.fin ?_ | with_reducible refine GO.exit (by with_unfolding_all rfl) ?_)
        refine GO.opq rfl (by rfl) (by first | assumption | decide) (fun wQ hQ KQ kQ => ?_)
        have hc := hQ.own _ _ n6
        have hc0 := gcell_of (o := 0) hc
        have hc1 := gcell_of (o := 1) hc
        have hc2 := gwarm_of (o := 0) hc
        have hc3 := gwarm_of (o := 1) hc
        clear hc
        simp only [List.getElem?_toArray, List.getElem?_cons_succ, List.getElem?_cons_zero, List.getElem?_nil] at hc0 hc1
        go_simp
        refine kQ _ _ ⟨rfl, (by have h0 := @evo_own _ _ _ _ _ _ 0 _ false hQ n6; have h1 := @evo_own _ _ _ _ _ _ 1 _ false hQ n6; first | (simp [go_sem, *]; done) | (simp [go_sem, *]; first | exact h0 | exact h1 | exact ⟨h0, h1⟩)), ?_⟩
        clear kQ KQ
        try clear hc0 hc1 hc2 hc3
        clear hQ wQ
        try walk_nrm
        refine GO.opw (ob := (.cells #[.int .i64 q, .int .i64 R] 50)) n4 rfl (by rfl) (by first | assumption | decide) (fun wQ hQ KQ kQ => ?_)
        have hc := hQ.own _ _ n4
        have hc0 := gcell_of (o := 0) hc
        have hc1 := gcell_of (o := 1) hc
        have hc2 := gwarm_of (o := 0) hc
        have hc3 := gwarm_of (o := 1) hc
        simp only [List.getElem?_toArray, List.getElem?_cons_succ, List.getElem?_cons_zero, List.getElem?_nil] at hc0 hc1
        go_simp
        try (unfold stored; go_simp)
        refine kQ _ _ ⟨⟨rfl, rfl, rfl, by simp [World.setCell], (fun k hk => by first | exact put_ne _ hk | exact (put_ne _ hk).trans (put_ne _ hk)), (by first | exact put_at _ hc | exact put_at _ (put_at _ hc))⟩, ?_, fun h7 m4 s4 => ?_⟩
        · have h0 := @evo_own _ _ _ _ _ _ 0 _ true hQ n4
          have h1 := @evo_own _ _ _ _ _ _ 1 _ true hQ n4
          first | (simp [go_sem, *]; done) | (simp [go_sem, *]; first | exact h0 | exact h1 | exact ⟨h0, h1⟩) | (simp [go_sem, storedEv, *]; done) | (simp [go_sem, storedEv, *]; first | exact h0 | exact h1 | exact ⟨h0, h1⟩)
        clear kQ KQ hc hc0 hc1 hc2 hc3
        clear hQ wQ
        try walk_nrm
        repeat (first | with_reducible refine GO.seq ?_ | with_reducible refine GO.skip ?_ | with_reducible refine GO.region (by simp only [List.size_toArray, List.length_cons, List.length_nil, Nat.reduceAdd, Nat.zero_add, List.range, List.range.loop]; exact rfl) ?_ | with_reducible refine GO.regionEnd ?_ | with_reducible refine GO.block ?_ | with_reducible refine GO.inBlock ?_ | with_reducible refine GO.label ?_ | with_reducible refine GO.ret ?_ | with_reducible refine GO.fin ?_ | with_reducible refine GO.exit (by with_unfolding_all rfl) ?_)
        refine GO.leaveE rfl rfl hf (v := .agg #[.int .i64 q, .int .i64 R]) (fun w hS => ?_) ?_
        · exact res_o hS m4
        · have e2 : 10 * y - dgt g d y * d = R := by rw [hdg, hR.out]
          have := hnext.out h7 (Hl.le_set l5 fr4 s4)
          rw [e2, hdg, ← hq.out] at this
          exact this
  · intro hk
    replace hk := hid hk
    refine GO.cond (t := decide (y < 0)) rfl (fun ht => ?_) (fun ht => ?_)
    · repeat (first | with_reducible refine GO.seq ?_ | with_reducible refine GO.skip ?_ | with_reducible refine GO.region (by simp only [List.size_toArray, List.length_cons, List.length_nil, Nat.reduceAdd, Nat.zero_add, List.range, List.range.loop]; exact rfl) ?_ | with_reducible refine GO.regionEnd ?_ | with_reducible refine GO.block ?_ | with_reducible refine GO.inBlock ?_ | with_reducible refine GO.label ?_ | with_reducible refine GO.ret ?_ | with_reducible refine GO.fin ?_ | with_reducible refine GO.exit (by with_unfolding_all rfl) ?_)
      refine GO.opq rfl (by rfl) (by first | assumption | decide) (fun wQ hQ KQ kQ => ?_)
      go_simp
      refine kQ _ _ ⟨rfl, (by first | (simp [go_sem]; done) | (intro e he; exact absurd (show e ∈ (#[] : Array Event) from he) (by simp))), ?_⟩
      clear kQ KQ
      try clear hc0 hc1 hc2 hc3
      clear hQ wQ
      try walk_nrm
      first | with_reducible refine GO.seq ?_ | with_reducible refine GO.skip ?_ | with_reducible refine GO.region (by simp only [List.size_toArray, List.length_cons, List.length_nil, Nat.reduceAdd, Nat.zero_add, List.range, List.range.loop]; exact rfl) ?_ | with_reducible refine GO.regionEnd ?_ | with_reducible refine GO.block ?_ | with_reducible refine GO.inBlock ?_ | with_reducible refine GO.label ?_ | with_reducible refine GO.ret ?_ | with_reducible refine GO.fin ?_ | with_reducible refine GO.exit (by with_unfolding_all rfl) ?_
      exact hk.out _ _ ⟨_, _, rfl, by rw [show s = -1 by rcases hs with ⟨h, e⟩ | ⟨h, e⟩; exact absurd (of_decide_eq_true ht) (by omega); exact e]⟩
    · first | with_reducible refine GO.seq ?_ | with_reducible refine GO.skip ?_ | with_reducible refine GO.region (by simp only [List.size_toArray, List.length_cons, List.length_nil, Nat.reduceAdd, Nat.zero_add, List.range, List.range.loop]; exact rfl) ?_ | with_reducible refine GO.regionEnd ?_ | with_reducible refine GO.block ?_ | with_reducible refine GO.inBlock ?_ | with_reducible refine GO.label ?_ | with_reducible refine GO.ret ?_ | with_reducible refine GO.fin ?_ | with_reducible refine GO.exit (by with_unfolding_all rfl) ?_
      exact hk.out _ _ ⟨_, _, rfl, by rw [show s = 1 by rcases hs with ⟨h, e⟩ | ⟨h, e⟩; exact e; exact absurd h (of_decide_eq_false ht)]⟩
end
end Go.Proofs.Ytlbkhiphnllfpam
