/-
  Divide of the program where it refuses, beside others that only leave; and its contract in company, whatever the numbers.
-/
import Derived.Test.YtlbkhiphnllfpacGts
import Derived.Test.YtlbkhiphnllfpacGad
import Derived.Test.YtlbkhiphnllfpacPrt
import Derived.Test.YtlbkhiphnllfpacCep
import Derived.Test.YtlbkhiphnllfpacDiv
namespace Go.Proofs.Ytlbkhiphnllfpac
open Go.Conc Go.RowKit
set_option linter.unusedVariables false
set_option maxRecDepth 100000
set_option linter.unusedSimpArgs false
theorem wp_op {P : Program} {c : Code} {Q : Exit → Act → World → Prop} {a : Act} {w : World} (h : ∀ QQ : Exit → Act → World → Prop, (∀ e a' w', Q e a' w' → QQ e a' w') → c.wp P QQ a w) : c.wp P Q a w := h Q fun _ _ _ h => h
set_option maxHeartbeats 1000000 in
theorem bounds_any (d g y : Int) (w : World) (hd : 1 ≤ d ∧ d ≤ 100000000) (hg : 5 ≤ g ∧ g ≤ 9) (hy : -10000000000 ≤ y ∧ y ≤ 10000000000) :
    Calls Try.prog 48 #[.agg #[.int .i64 d, .int .i64 g], .int .i64 y] w fun e w' => e = .returned (.bool (decide (9 * max y (-y) ≤ g * d))) ∧ Below w.heap.size w w' := by
  have HB : Hid (∀ o, Below w.heap.size w (w.alloc o)) := fun o => (Below.refl _ _).alloc (Nat.le_refl _) _
  obtain ⟨M, hM⟩ : ∃ M, max y (-y) = M := ⟨_, rfl⟩
  have hMb : 0 ≤ M ∧ M ≤ 10000000000 := by omega
  obtain ⟨D, hD⟩ : ∃ D, g * d = D := ⟨_, rfl⟩
  have m0 := mulG g d 9 100000000 (by omega) (by omega) (by omega) (by omega) (by decide)
  have e4 : (if -y > y then -y else y) = M := by rw [← hM]; split <;> omega
  rw [hM, hD]
  clear hM
  go_enter Try.func48, Try.ntmps48
  go_wp2
  go_ret
  exact ⟨rfl, HB.out _⟩
section
variable {Post : Value → World → Prop}
set_option maxRecDepth 100000 in
set_option maxHeartbeats 8000000 in
theorem divide_n (x d g n : Int) (hno : dvo x d g n = false) {b₀ : Frame} {a₀ : Act} {ops : Array Oper} {i : Nat} {rest : List Nat} {k : List Item} {cs : List Frame} {fn : Func} {cd : Code} (hf : Try.prog.funcs[17]? = some fn) (hb : fn.body = some cd) (w : World)
    (hnext : ∀ v w', HasT w' w.heap.size v [] → Below w.heap.size w w' → BW Try.prog Post (G (b₀.at (a₀.put ((ops[i]?).bind (·.dst)) (.tuple #[v, .bool false])) (.inRegion ops rest :: k)) cs) w') :
    BW Try.prog Post (G ((base 17).at { tmps := #[.int .i64 x, .int .i64 d, .int .i64 g, .int .i64 n] ++ Array.replicate (fn.ntmps - 4) undef, defers := [] } [.code cd]) (b₀.at a₀ (.inRegion ops (i :: rest) :: k) :: cs)) w := by
  refine BW.ofGO ?_ (Sat.start w)
  have e := hf.symm.trans Try.func17
  cases e
  cases hb
  simp only [Try.ntmps17, List.size_toArray, List.length_cons, List.length_nil, Nat.reduceAdd, Nat.reduceSub, Array.replicate_succ, Array.replicate_zero, List.push_toArray, List.append_toArray, List.nil_append, List.cons_append]
  replace hnext := hid hnext
  repeat (first | with_reducible refine GO.seq ?_ | with_reducible refine GO.skip ?_ | with_reducible refine GO.region (by simp only [List.size_toArray, List.length_cons, List.length_nil, Nat.reduceAdd, Nat.zero_add, List.range, List.range.loop]; exact rfl) ?_ | with_reducible refine GO.regionEnd ?_ | with_reducible refine GO.block ?_ | with_reducible refine GO.inBlock ?_ | with_reducible refine GO.label ?_ | with_reducible refine GO.ret ?_ | with_reducible refine GO.fin ?_ | with_reducible refine GO.exit (by with_unfolding_all rfl) ?_)
  refine GO.opq rfl (by rfl) (by first | assumption | decide) (fun wQ hQ KQ kQ => ?_)
  go_simp
  refine kQ _ _ ⟨rfl, (by first | (simp [go_sem, events_max2, mkch]; done) | (intro e he; exact absurd (show e ∈ (#[] : Array Event) from he) (by simp))), ?_⟩
  clear kQ KQ
  try clear hc0 hc1 hc2 hc3
  clear hQ wQ
  try walk_nrm
  refine GO.opq rfl (by rfl) (by first | assumption | decide) (fun wQ hQ KQ kQ => ?_)
  go_simp
  refine kQ _ _ ⟨rfl, (by first | (simp [go_sem, events_max2, mkch]; done) | (intro e he; exact absurd (show e ∈ (#[] : Array Event) from he) (by simp))), ?_⟩
  clear kQ KQ
  try clear hc0 hc1 hc2 hc3
  clear hQ wQ
  try walk_nrm
  repeat (first | with_reducible refine GO.seq ?_ | with_reducible refine GO.skip ?_ | with_reducible refine GO.region (by simp only [List.size_toArray, List.length_cons, List.length_nil, Nat.reduceAdd, Nat.zero_add, List.range, List.range.loop]; exact rfl) ?_ | with_reducible refine GO.regionEnd ?_ | with_reducible refine GO.block ?_ | with_reducible refine GO.inBlock ?_ | with_reducible refine GO.label ?_ | with_reducible refine GO.ret ?_ | with_reducible refine GO.fin ?_ | with_reducible refine GO.exit (by with_unfolding_all rfl) ?_)
  refine GO.opq rfl (by rfl) (by first | assumption | decide) (fun wQ hQ KQ kQ => ?_)
  go_simp
  refine kQ _ _ ⟨rfl, (by first | (simp [go_sem, events_max2, mkch]; done) | (intro e he; exact absurd (show e ∈ (#[] : Array Event) from he) (by simp))), ?_⟩
  clear kQ KQ
  try clear hc0 hc1 hc2 hc3
  clear hQ wQ
  try walk_nrm
  refine GO.opq rfl (by rfl) (by first | assumption | decide) (fun wQ hQ KQ kQ => ?_)
  go_simp
  refine kQ _ _ ⟨rfl, (by first | (simp [go_sem, events_max2, mkch]; done) | (intro e he; exact absurd (show e ∈ (#[] : Array Event) from he) (by simp))), ?_⟩
  clear kQ KQ
  try clear hc0 hc1 hc2 hc3
  clear hQ wQ
  try walk_nrm
  refine GO.opq rfl (by rfl) (by first | assumption | decide) (fun wQ hQ KQ kQ => ?_)
  go_simp
  refine kQ _ _ ⟨rfl, (by first | (simp [go_sem, events_max2, mkch]; done) | (intro e he; exact absurd (show e ∈ (#[] : Array Event) from he) (by simp))), ?_⟩
  clear kQ KQ
  try clear hc0 hc1 hc2 hc3
  clear hQ wQ
  try walk_nrm
  refine GO.opn rfl (by rfl) (by first | assumption | decide) (fun wQ hQ KQ kQ => ?_)
  go_simp
  refine kQ _ _ ⟨_, rfl, by simp [go_sem, events_max2, mkch], fun h1 n1 f1 L1 l1 => ?_⟩
  clear kQ KQ hQ
  try walk_nrm
  generalize wQ.heap.size = r1 at *
  clear wQ
  refine GO.opw (ob := (.cells #[.int .i64 d, .int .i64 g] 69)) n1 rfl (by rfl) (by first | assumption | decide) (fun wQ hQ KQ kQ => ?_)
  have hc := hQ.own _ _ n1
  have hc0 := gcell_of (o := 0) hc
  have hc1 := gcell_of (o := 1) hc
  have hc2 := gwarm_of (o := 0) hc
  have hc3 := gwarm_of (o := 1) hc
  simp only [List.getElem?_toArray, List.getElem?_cons_succ, List.getElem?_cons_zero, List.getElem?_nil] at hc0 hc1
  go_simp
  try (unfold stored; go_simp)
  refine kQ _ _ ⟨⟨rfl, rfl, rfl, by simp [World.setCell], (fun k hk => by first | exact put_ne _ hk | exact (put_ne _ hk).trans (put_ne _ hk)), (by first | exact put_at _ hc | exact put_at _ (put_at _ hc))⟩, ?_, fun h2 m1 s1 => ?_⟩
  · have h0 := @evo_own _ _ _ _ _ _ 0 _ true hQ n1
    have h1 := @evo_own _ _ _ _ _ _ 1 _ true hQ n1
    first | (simp [go_sem, *]; done) | (simp [go_sem, *]; first | exact h0 | exact h1 | exact ⟨h0, h1⟩) | (simp [go_sem, storedEv, *]; done) | (simp [go_sem, storedEv, *]; first | exact h0 | exact h1 | exact ⟨h0, h1⟩)
  clear kQ KQ hc hc0 hc1 hc2 hc3
  clear hQ wQ
  try walk_nrm
  clear n1 f1 l1 s1
  refine GO.regionEnd ?_
  refine GO.seq ?_
  refine GO.stop fun wS hS => ?_
  have o1 := hS.own _ _ m1
  have t1 := hS.lt m1
  have hold : Hid (Below w.heap.size (w.on wS.tape wS.drawn) wS) := ⟨hS.os, rfl, hS.output, hS.size, fun k hk => hS.old k hk (by omega)⟩
  clear hS m1
  refine BW.code lone_ok (by kernel_rfl) (Q := fun W e a' w' => e = .ret ∧ a'.defers = [] ∧ Below W.heap.size W w' ∧ ∃ v, a'.tmps.getD 8 undef = v ∧ a'.tmps.getD 9 undef = .bool false ∧ HasT w' W.heap.size v []) (fun T dd => ?_) (fun W e a' w' h => ⟨.inr h.1, h.2.1⟩) (fun T dd y w' h => by cases h.1) (fun T dd y w' todo h => ?_)
  · have c0 : (wS.on T dd).cell? ⟨r1, 0, none⟩ = some (.int .i64 d) := by show wS.cell? _ = _; have := gcell_of (o := 0) o1; simpa using this
    have c1 : (wS.on T dd).cell? ⟨r1, 1, none⟩ = some (.int .i64 g) := by show wS.cell? _ = _; have := gcell_of (o := 1) o1; simpa using this
    have hn : ¬ ((1 ≤ d ∧ d ≤ 100000000) ∧ (0 ≤ x ∧ x ≤ 100000000) ∧ (5 ≤ g ∧ g ≤ 9) ∧ 9 * x ≤ g * d ∧ (0 ≤ n ∧ n ≤ 18)) := of_decide_eq_false hno
    generalize wS.on T dd = W at *
    clear hno o1 hold hnext t1
    have H0 : Hid (∀ W1, Below W.heap.size W W1 → HasT (W1.alloc (.cells #[] 39)) W.heap.size (.slice (some ⟨W1.heap.size, 0, none⟩) 0 0) [] ∧ Below W.heap.size W (W1.alloc (.cells #[] 39))) := fun W1 hb => ⟨World.ownsRow_made (e := 39) (size := 2) (base := W.heap.size) W1 #[] 0 hb.size (Nat.zero_le _) rfl, hb.alloc hb.size _⟩
    have HG : Hid (∀ W, Calls Try.prog 46 #[.int .i64 g] W fun e w' => e = .returned (.bool (decide (5 ≤ g ∧ g ≤ 9))) ∧ w' = W) := fun W => isGreatest_any g W
    have HP : Hid (∀ W, Calls Try.prog 47 #[.int .i64 d] W fun e w' => e = .returned (.bool (prt d)) ∧ w' = W) := fun W => isPart_any d W
    by_cases hg : 5 ≤ g ∧ g ≤ 9
    · rw [decide_eq_true hg] at HG
      by_cases hd : 1 ≤ d ∧ d ≤ 100000000
      · rw [show prt d = true from decide_eq_true hd] at HP
        by_cases h3 : n < 0
        · clear hn
          go_wp2_with fail
          refine (HG.out _).mono ?_
          rintro e w' ⟨rfl, hw⟩
          obtain rfl := hw.symm
          go_wp2_with fail
          refine (HP.out _).mono ?_
          rintro e w' ⟨rfl, hw⟩
          obtain rfl := hw.symm
          go_wp2
          exact ⟨(H0.out _ (Below.refl _ _)).2, (H0.out _ (Below.refl _ _)).1⟩
        by_cases h4 : 18 < n
        · clear hn
          go_wp2_with fail
          refine (HG.out _).mono ?_
          rintro e w' ⟨rfl, hw⟩
          obtain rfl := hw.symm
          go_wp2_with fail
          refine (HP.out _).mono ?_
          rintro e w' ⟨rfl, hw⟩
          obtain rfl := hw.symm
          go_wp2
          exact ⟨(H0.out _ (Below.refl _ _)).2, (H0.out _ (Below.refl _ _)).1⟩
        by_cases h5 : x < 0
        · clear hn
          go_wp2_with fail
          refine (HG.out _).mono ?_
          rintro e w' ⟨rfl, hw⟩
          obtain rfl := hw.symm
          go_wp2_with fail
          refine (HP.out _).mono ?_
          rintro e w' ⟨rfl, hw⟩
          obtain rfl := hw.symm
          go_wp2
          exact ⟨(H0.out _ (Below.refl _ _)).2, (H0.out _ (Below.refl _ _)).1⟩
        by_cases h6 : 100000000 < x
        · clear hn
          go_wp2_with fail
          refine (HG.out _).mono ?_
          rintro e w' ⟨rfl, hw⟩
          obtain rfl := hw.symm
          go_wp2_with fail
          refine (HP.out _).mono ?_
          rintro e w' ⟨rfl, hw⟩
          obtain rfl := hw.symm
          go_wp2
          exact ⟨(H0.out _ (Below.refl _ _)).2, (H0.out _ (Below.refl _ _)).1⟩
        have HBn : Hid (∀ W, Calls Try.prog 48 #[.agg #[.int .i64 d, .int .i64 g], .int .i64 x] W fun e w' => e = .returned (.bool false) ∧ Below W.heap.size W w') := fun W => by
          have := bounds_any d g x W hd hg (by omega)
          rw [decide_eq_false (by omega)] at this
          exact this
        clear hn
        go_wp2_with fail
        refine (HG.out _).mono ?_
        rintro e w' ⟨rfl, hw⟩
        obtain rfl := hw.symm
        go_wp2_with fail
        refine (HP.out _).mono ?_
        rintro e w' ⟨rfl, hw⟩
        obtain rfl := hw.symm
        go_wp2_with fail
        refine (HBn.out _).mono ?_
        rintro e w' ⟨rfl, hb⟩
        go_wp2
        exact ⟨(H0.out _ hb).2, (H0.out _ hb).1⟩
      · rw [show prt d = false from decide_eq_false hd] at HP
        clear hn
        go_wp2_with fail
        refine (HG.out _).mono ?_
        rintro e w' ⟨rfl, hw⟩
        obtain rfl := hw.symm
        go_wp2_with fail
        refine (HP.out _).mono ?_
        rintro e w' ⟨rfl, hw⟩
        obtain rfl := hw.symm
        go_wp2
        exact ⟨(H0.out _ (Below.refl _ _)).2, (H0.out _ (Below.refl _ _)).1⟩
    · rw [decide_eq_false hg] at HG
      clear hn
      go_wp2_with fail
      refine (HG.out _).mono ?_
      rintro e w' ⟨rfl, hw⟩
      obtain rfl := hw.symm
      go_wp2
      exact ⟨(H0.out _ (Below.refl _ _)).2, (H0.out _ (Below.refl _ _)).1⟩
  · obtain ⟨-, -, hB, v, e8, e9, hT⟩ := h
    have h1 := hold.out
    have h2 : w.heap.size ≤ wS.heap.size := h1.size
    have hB' : Below w.heap.size w (w'.on w.tape w.drawn) := ⟨hB.os.trans h1.os, rfl, hB.output.trans h1.output, Nat.le_trans h2 hB.size, fun k hk => (hB.block k (Nat.lt_of_lt_of_le hk h2)).trans (h1.block k hk)⟩
    have hT' : HasT (w'.on w.tape w.drawn) w.heap.size v [] := by
      obtain ⟨hl, h⟩ := hT
      refine ⟨hl, ?_⟩
      rcases h with h | ⟨g, cap, cur, e, hgb, r⟩
      · exact .inl h
      · exact .inr ⟨g, cap, cur, e, Nat.le_trans h2 hgb, r⟩
    refine BW.ofGO ?_ (Sat.start w')
    refine GO.leave2 rfl rfl hf (by rfl) ?_
    have ev : (Act.mk y []).tmps.getD 8 undef = v := e8
    have ew : (Act.mk y []).tmps.getD 9 undef = .bool false := e9
    rw [ev, ew]
    refine GO.stop fun w4 hS4 => ?_
    have hB4 : Below w'.heap.size (w'.on w.tape w.drawn) (w4.on w.tape w.drawn) := ⟨hS4.os, rfl, hS4.output, hS4.size, fun k hk => hS4.old k hk (by omega)⟩
    exact fun T2 d2 => hnext.out v (w4.on w.tape w.drawn) (hT'.below hB4 (Nat.le_refl _)) (hB'.trans (hB4.mono (Nat.le_trans h2 hB.size))) T2 d2
end
section
variable {Post : Value → World → Prop}
/-- Divide of the program in company. -/
theorem divide_c (x d g n : Int) {b₀ : Frame} {a₀ : Act} {ops : Array Oper} {i : Nat} {rest : List Nat} {k : List Item} {cs : List Frame} {fn : Func} {cd : Code} (hf : Try.prog.funcs[17]? = some fn) (hb : fn.body = some cd) (w : World)
    (hnext : ∀ v w', HasT w' w.heap.size v (dvL x d g n) → Below w.heap.size w w' → BW Try.prog Post (G (b₀.at (a₀.put ((ops[i]?).bind (·.dst)) (.tuple #[v, .bool (dvo x d g n)])) (.inRegion ops rest :: k)) cs) w') :
    BW Try.prog Post (G ((base 17).at { tmps := #[.int .i64 x, .int .i64 d, .int .i64 g, .int .i64 n] ++ Array.replicate (fn.ntmps - 4) undef, defers := [] } [.code cd]) (b₀.at a₀ (.inRegion ops (i :: rest) :: k) :: cs)) w := by
  cases h : dvo x d g n with
  | false =>
    rw [h, show dvL x d g n = [] by unfold dvL; rw [h]; rfl] at hnext
    exact divide_n x d g n h hf hb w hnext
  | true =>
    obtain ⟨hd, hx, hg, hs, hn⟩ := of_decide_eq_true h
    obtain ⟨N, hN⟩ := Int.eq_ofNat_of_zero_le hn.1
    subst hN
    rw [h, show dvL x d g (N : Int) = tl g d x N by unfold dvL; rw [h, Int.toNat_natCast]; rfl] at hnext
    exact divide_y x d g N hd hx hg hs (by omega) hf hb w hnext
end
end Go.Proofs.Ytlbkhiphnllfpac
