/-
  Quotient of the program where it refuses, beside others that only leave; and its contract in company, whatever the numbers.
-/
import Derived.Test.YtlbkhiphnllfpacGqt
import Derived.Test.YtlbkhiphnllfpacGad
import Derived.Test.YtlbkhiphnllfpacPrt
namespace Go.Proofs.Ytlbkhiphnllfpac
open Go.Conc Go.RowKit
set_option linter.unusedVariables false
set_option maxRecDepth 100000
set_option linter.unusedSimpArgs false
theorem Has.down {w : World} {base base' : Nat} {v : Value} {zs : List Int} (h : Has w base v zs) (hb : base' ≤ base) : Has w base' v zs := by
  obtain ⟨hl, h⟩ := h
  refine ⟨hl, ?_⟩
  rcases h with h | ⟨g, cap, cur, e, hgb, r⟩
  · exact .inl h
  · exact .inr ⟨g, cap, cur, e, Nat.le_trans hb hgb, r⟩
section
variable {Post : Value → World → Prop}
set_option maxRecDepth 100000 in
set_option maxHeartbeats 8000000 in
theorem quotient_n (x d n : Int) (hno : quo x d n = false) {b₀ : Frame} {a₀ : Act} {ops : Array Oper} {i : Nat} {rest : List Nat} {k : List Item} {cs : List Frame} {fn : Func} {cd : Code} (hf : Try.prog.funcs[20]? = some fn) (hb : fn.body = some cd) (w : World)
    (hnext : ∀ v w', Has w' w.heap.size v [] → Below w.heap.size w w' → BW Try.prog Post (G (b₀.at (a₀.put ((ops[i]?).bind (·.dst)) (.tuple #[v, .int .i64 0, .bool false])) (.inRegion ops rest :: k)) cs) w') :
    BW Try.prog Post (G ((base 20).at { tmps := #[.int .i64 x, .int .i64 d, .int .i64 n] ++ Array.replicate (fn.ntmps - 3) undef, defers := [] } [.code cd]) (b₀.at a₀ (.inRegion ops (i :: rest) :: k) :: cs)) w := by
  refine BW.ofGO ?_ (Sat.start w)
  have e := hf.symm.trans Try.func20
  cases e
  cases hb
  simp only [Try.ntmps20, List.size_toArray, List.length_cons, List.length_nil, Nat.reduceAdd, Nat.reduceSub, Array.replicate_succ, Array.replicate_zero, List.push_toArray, List.append_toArray, List.nil_append, List.cons_append]
  replace hnext := hid hnext
  repeat (first | with_reducible refine GO.seq ?_ | with_reducible refine GO.skip ?_ | with_reducible refine GO.region (by simp only [List.size_toArray, List.length_cons, List.length_nil, Nat.reduceAdd, Nat.zero_add, List.range, List.range.loop]; exact rfl) ?_ | with_reducible refine GO.regionEnd ?_ | with_reducible refine GO.block ?_ | with_reducible refine GO.inBlock ?_ | with_reducible refine GO.label ?_ | with_reducible refine GO.ret ?_ | with_reducible refine GO.fin ?_ | with_reducible refine GO.exit (by with_unfolding_all rfl) ?_)
  refine GO.opq rfl (by rfl) (by first | assumption | decide) (fun wQ hQ KQ kQ => ?_)
  go_simp
  refine kQ _ _ ⟨rfl, (by first | (simp [go_sem, events_max2, mkch]; done) | (intro e he; exact absurd (show e ∈ (#[] : Array Event) from he) (by simp))), ?_⟩
  clear kQ KQ
  try clear hc0 hc1 hc2 hc3
  clear hQ wQ
  try walk_nrm
  refine GO.opq rfl (by rfl) (by first | assumption | decide) (fun wQ hQ KQ kQ => ?_)
  go_simp
  refine kQ _ _ ⟨rfl, (by first | (simp [go_sem, events_max2, mkch]; done) | (intro e he; exact absurd (show e ∈ (#[] : Array Event) from he) (by simp))), ?_⟩
  clear kQ KQ
  try clear hc0 hc1 hc2 hc3
  clear hQ wQ
  try walk_nrm
  refine GO.opq rfl (by rfl) (by first | assumption | decide) (fun wQ hQ KQ kQ => ?_)
  go_simp
  refine kQ _ _ ⟨rfl, (by first | (simp [go_sem, events_max2, mkch]; done) | (intro e he; exact absurd (show e ∈ (#[] : Array Event) from he) (by simp))), ?_⟩
  clear kQ KQ
  try clear hc0 hc1 hc2 hc3
  clear hQ wQ
  try walk_nrm
  refine GO.regionEnd ?_
  refine GO.seq ?_
  refine GO.stop fun wS hS => ?_
  have hold : Hid (Below w.heap.size (w.on wS.tape wS.drawn) wS) := ⟨hS.os, rfl, hS.output, hS.size, fun k hk => hS.old k hk (by omega)⟩
  clear hS
  refine BW.code lone_ok (by kernel_rfl) (Q := fun W e a' w' => e = .ret ∧ a'.defers = [] ∧ Below W.heap.size W w' ∧ ∃ v, a'.tmps.getD 6 undef = v ∧ a'.tmps.getD 7 undef = .int .i64 0 ∧ a'.tmps.getD 8 undef = .bool false ∧ Has w' W.heap.size v []) (fun T dd => ?_) (fun W e a' w' h => ⟨.inr h.1, h.2.1⟩) (fun T dd y w' h => by cases h.1) (fun T dd y w' todo h => ?_)
  · have hn : ¬ ((1 ≤ d ∧ d ≤ 100000000) ∧ (0 ≤ x ∧ x ≤ d - 1) ∧ (1 ≤ n ∧ n ≤ 18)) := of_decide_eq_false hno
    generalize wS.on T dd = W at *
    clear hno hold hnext
    have H0 : Hid (∀ W1, Below W.heap.size W W1 → Has (W1.alloc (.cells #[] 2)) W.heap.size (.slice (some ⟨W1.heap.size, 0, none⟩) 0 0) [] ∧ Below W.heap.size W (W1.alloc (.cells #[] 2))) := fun W1 hb => ⟨(none_own W1).down hb.size, hb.alloc hb.size _⟩
    have HP : Hid (∀ W, Calls Try.prog 47 #[.int .i64 d] W fun e w' => e = .returned (.bool (prt d)) ∧ w' = W) := fun W => isPart_any d W
    by_cases hd : 1 ≤ d ∧ d ≤ 100000000
    · rw [show prt d = true from decide_eq_true hd] at HP
      by_cases h1 : x < 0
      · clear hn
        go_wp2_with fail
        refine (HP.out _).mono ?_
        rintro e w' ⟨rfl, hw⟩
        obtain rfl := hw.symm
        go_wp2
        exact ⟨(H0.out _ (Below.refl _ _)).2, (H0.out _ (Below.refl _ _)).1⟩
      by_cases h2 : d ≤ x
      · clear hn
        go_wp2_with fail
        refine (HP.out _).mono ?_
        rintro e w' ⟨rfl, hw⟩
        obtain rfl := hw.symm
        go_wp2
        exact ⟨(H0.out _ (Below.refl _ _)).2, (H0.out _ (Below.refl _ _)).1⟩
      by_cases h3 : n < 1
      · clear hn
        go_wp2_with fail
        refine (HP.out _).mono ?_
        rintro e w' ⟨rfl, hw⟩
        obtain rfl := hw.symm
        go_wp2
        exact ⟨(H0.out _ (Below.refl _ _)).2, (H0.out _ (Below.refl _ _)).1⟩
      have h4 : 18 < n := by omega
      clear hn
      go_wp2_with fail
      refine (HP.out _).mono ?_
      rintro e w' ⟨rfl, hw⟩
      obtain rfl := hw.symm
      go_wp2
      exact ⟨(H0.out _ (Below.refl _ _)).2, (H0.out _ (Below.refl _ _)).1⟩
    · rw [show prt d = false from decide_eq_false hd] at HP
      clear hn
      go_wp2_with fail
      refine (HP.out _).mono ?_
      rintro e w' ⟨rfl, hw⟩
      obtain rfl := hw.symm
      go_wp2
      exact ⟨(H0.out _ (Below.refl _ _)).2, (H0.out _ (Below.refl _ _)).1⟩
  · obtain ⟨-, -, hB, v, e8, e9, e10, hT⟩ := h
    have h1 := hold.out
    have h2 : w.heap.size ≤ wS.heap.size := h1.size
    have hB' : Below w.heap.size w (w'.on w.tape w.drawn) := ⟨hB.os.trans h1.os, rfl, hB.output.trans h1.output, Nat.le_trans h2 hB.size, fun k hk => (hB.block k (Nat.lt_of_lt_of_le hk h2)).trans (h1.block k hk)⟩
    have hT' : Has (w'.on w.tape w.drawn) w.heap.size v [] := hT.down h2
    refine BW.ofGO ?_ (Sat.start w')
    refine GO.leave3 rfl rfl hf (by rfl) ?_
    have ev : (Act.mk y []).tmps.getD 6 undef = v := e8
    have ew : (Act.mk y []).tmps.getD 7 undef = .int .i64 0 := e9
    have ex : (Act.mk y []).tmps.getD 8 undef = .bool false := e10
    rw [ev, ew, ex]
    refine GO.stop fun w4 hS4 => ?_
    have hB4 : Below w'.heap.size (w'.on w.tape w.drawn) (w4.on w.tape w.drawn) := ⟨hS4.os, rfl, hS4.output, hS4.size, fun k hk => hS4.old k hk (by omega)⟩
    exact fun T2 d2 => hnext.out v (w4.on w.tape w.drawn) (hT'.below hB4 (Nat.le_refl _)) (hB'.trans (hB4.mono (Nat.le_trans h2 hB.size))) T2 d2
/-- Quotient of the program in company. -/
theorem quotient_c (x d n : Int) {b₀ : Frame} {a₀ : Act} {ops : Array Oper} {i : Nat} {rest : List Nat} {k : List Item} {cs : List Frame} {fn : Func} {cd : Code} (hf : Try.prog.funcs[20]? = some fn) (hb : fn.body = some cd) (w : World)
    (hnext : ∀ v w', Has w' w.heap.size v (quL x d n) → Below w.heap.size w w' → BW Try.prog Post (G (b₀.at (a₀.put ((ops[i]?).bind (·.dst)) (.tuple #[v, .int .i64 (quR x d n), .bool (quo x d n)])) (.inRegion ops rest :: k)) cs) w') :
    BW Try.prog Post (G ((base 20).at { tmps := #[.int .i64 x, .int .i64 d, .int .i64 n] ++ Array.replicate (fn.ntmps - 3) undef, defers := [] } [.code cd]) (b₀.at a₀ (.inRegion ops (i :: rest) :: k) :: cs)) w := by
  cases h : quo x d n with
  | false =>
    rw [h, show quL x d n = [] by unfold quL; rw [h]; rfl, show quR x d n = 0 by unfold quR; rw [h]; rfl] at hnext
    exact quotient_n x d n h hf hb w hnext
  | true =>
    obtain ⟨hd, hx, hn⟩ := of_decide_eq_true h
    obtain ⟨N, hN⟩ := Int.eq_ofNat_of_zero_le (show 0 ≤ n by omega)
    subst hN
    rw [h, show quL x d (N : Int) = ql d x N by unfold quL; rw [h, Int.toNat_natCast]; rfl, show quR x d (N : Int) = qx d x N by unfold quR; rw [h, Int.toNat_natCast]; rfl] at hnext
    exact quotient_y x d N hd ⟨hx.1, by omega⟩ ⟨by omega, by omega⟩ hf hb w hnext
end
end Go.Proofs.Ytlbkhiphnllfpac
