/-
  FnQuotient, walked beside goroutines that only leave.
-/
import Derived.Test.YtlbkhiphnllfpacGtx
import Derived.Test.YtlbkhiphnllfpacGqu
import Derived.Test.YtlbkhiphnllfpacDrawD
import Derived.Test.YtlbkhiphnllfpacTxtC
import Derived.Test.YtlbkhiphnllfpacBytB
namespace Go.Proofs.Ytlbkhiphnllfpac
open Go.Conc Go.RowKit
set_option linter.unusedVariables false
set_option maxRecDepth 100000
set_option linter.unusedSimpArgs false
theorem vl_grow (ds : List Int) (k : Nat) (h : k < ds.length) : vl (ds.take (k + 1)) = vl (ds.take k) * 10 + ds.getD k 0 := by
  rw [List.take_succ_eq_append_getElem h, vl_snoc]
  simp [List.getD, h]
theorem vl_part (ds : List Int) (k : Nat) (h : Dec ds) (hl : ds.length ≤ 18) : 0 ≤ vl (ds.take k) ∧ vl (ds.take k) < 1000000000000000000 := by
  have b := vl_bd (ds.take k) (fun x hx => h x (List.mem_of_mem_take hx))
  have m := pow_mono (ds.take k).length 18 (by rw [List.length_take]; omega)
  have e : (10 : Int) ^ 18 = 1000000000000000000 := by decide
  omega
set_option maxRecDepth 100000 in
set_option maxHeartbeats 16000000 in
theorem quotient_bw (a0 : Option Addr) (len0 cap0 : Nat) (W : World) (hBy : Bytes W.heap.size W a0 len0) {fn : Func} {cd : Code} (hf : Try.prog.funcs[6]? = some fn) (hb : fn.body = some cd) :
    BW Try.prog (PostB W) (G ((base 6).at { tmps := #[.slice a0 len0 cap0] ++ Array.replicate (fn.ntmps - 1) undef, defers := [] } [.code cd]) []) W := by
  have e := hf.symm.trans Try.func6
  cases e
  cases hb
  simp only [Try.ntmps6, List.size_toArray, List.length_cons, List.length_nil, Nat.reduceAdd, Nat.reduceSub, Array.replicate_succ, Array.replicate_zero, List.push_toArray, List.append_toArray, List.nil_append, List.cons_append]
  have HBy : Hid (Bytes W.heap.size W a0 len0) := hBy
  clear hBy
  refine BW.ofGO ?_ (Sat.start W)
  repeat (first | with_reducible refine GO.seq ?_ | with_reducible refine GO.skip ?_ | with_reducible refine GO.region (by simp only [List.size_toArray, List.length_cons, List.length_nil, Nat.reduceAdd, Nat.zero_add, List.range, List.range.loop]; exact rfl) ?_ | with_reducible refine GO.regionEnd ?_ | with_reducible refine GO.block ?_ | with_reducible refine GO.inBlock ?_ | with_reducible refine GO.label ?_ | with_reducible refine GO.ret ?_ | with_reducible refine GO.fin ?_ | with_reducible refine GO.exit (by with_unfolding_all rfl) ?_)
  refine GO.opq rfl (by rfl) (by first | assumption | decide) (fun wQ hQ KQ kQ => ?_)
  go_simp
  refine kQ _ _ ⟨rfl, (by first | (simp [go_sem]; done) | (intro e he; exact absurd (show e ∈ (#[] : Array Event) from he) (by simp))), ?_⟩
  clear kQ KQ
  try clear hc0 hc1 hc2 hc3
  clear hQ wQ
  try walk_nrm
  repeat (first | with_reducible refine GO.seq ?_ | with_reducible refine GO.skip ?_ | with_reducible refine GO.region (by simp only [List.size_toArray, List.length_cons, List.length_nil, Nat.reduceAdd, Nat.zero_add, List.range, List.range.loop]; exact rfl) ?_ | with_reducible refine GO.regionEnd ?_ | with_reducible refine GO.block ?_ | with_reducible refine GO.inBlock ?_ | with_reducible refine GO.label ?_ | with_reducible refine GO.ret ?_ | with_reducible refine GO.fin ?_ | with_reducible refine GO.exit (by with_unfolding_all rfl) ?_)
  refine GO.opq rfl (by rfl) (by first | assumption | decide) (fun wQ hQ KQ kQ => ?_)
  go_simp
  refine kQ _ _ ⟨rfl, (by first | (simp [go_sem]; done) | (intro e he; exact absurd (show e ∈ (#[] : Array Event) from he) (by simp))), ?_⟩
  clear kQ KQ
  try clear hc0 hc1 hc2 hc3
  clear hQ wQ
  try walk_nrm
  by_cases hbig : 4096 < len0
  · refine GO.lone lone_ok (vs := #[.slice a0 len0 cap0]) rfl (by rfl) rfl Try.func7 (by kernel_rfl) rfl (by simp [Act.eval]) (by kernel_rfl) (by kernel_rfl) (fun w hS => big_yes a0 len0 cap0 w hbig) (fun W e w' h => ⟨_, h.1⟩) (fun w v w1 hS hR => ?_)
    obtain ⟨hr, rfl⟩ := hR
    cases hr
    have hB1 : Blw W.heap.size W w1 := hS.blw
    clear hS
    walk_nrm
    refine BW.ofGO ?_ (Sat.start w1)
    repeat (first | with_reducible refine GO.seq ?_ | with_reducible refine GO.skip ?_ | with_reducible refine GO.region (by simp only [List.size_toArray, List.length_cons, List.length_nil, Nat.reduceAdd, Nat.zero_add, List.range, List.range.loop]; exact rfl) ?_ | with_reducible refine GO.regionEnd ?_ | with_reducible refine GO.block ?_ | with_reducible refine GO.inBlock ?_ | with_reducible refine GO.label ?_ | with_reducible refine GO.ret ?_ | with_reducible refine GO.fin ?_ | with_reducible refine GO.exit (by with_unfolding_all rfl) ?_)
    refine GO.cond (t := true) rfl (fun _ => ?_) (fun hc => by cases hc)
    repeat (first | with_reducible refine GO.seq ?_ | with_reducible refine GO.skip ?_ | with_reducible refine GO.region (by simp only [List.size_toArray, List.length_cons, List.length_nil, Nat.reduceAdd, Nat.zero_add, List.range, List.range.loop]; exact rfl) ?_ | with_reducible refine GO.regionEnd ?_ | with_reducible refine GO.block ?_ | with_reducible refine GO.inBlock ?_ | with_reducible refine GO.label ?_ | with_reducible refine GO.ret ?_ | with_reducible refine GO.fin ?_ | with_reducible refine GO.exit (by with_unfolding_all rfl) ?_)
    refine GO.opq rfl (by rfl) (by first | assumption | decide) (fun wQ hQ KQ kQ => ?_)
    go_simp
    refine kQ _ _ ⟨rfl, (by first | (simp [go_sem]; done) | (intro e he; exact absurd (show e ∈ (#[] : Array Event) from he) (by simp))), ?_⟩
    clear kQ KQ
    try clear hc0 hc1 hc2 hc3
    clear hQ wQ
    try walk_nrm
    repeat (first | with_reducible refine GO.seq ?_ | with_reducible refine GO.skip ?_ | with_reducible refine GO.region (by simp only [List.size_toArray, List.length_cons, List.length_nil, Nat.reduceAdd, Nat.zero_add, List.range, List.range.loop]; exact rfl) ?_ | with_reducible refine GO.regionEnd ?_ | with_reducible refine GO.block ?_ | with_reducible refine GO.inBlock ?_ | with_reducible refine GO.label ?_ | with_reducible refine GO.ret ?_ | with_reducible refine GO.fin ?_ | with_reducible refine GO.exit (by with_unfolding_all rfl) ?_)
    refine GO.stop fun w hS => BW.ret1 Try.func6 (by kernel_rfl) rfl (fun v W' T d h => h.on v W' T d) ⟨rfl, hB1.trans hS.blw hB1.size⟩
  refine GO.lone lone_ok (vs := #[.slice a0 len0 cap0]) rfl (by rfl) rfl Try.func7 (by kernel_rfl) rfl (by simp [Act.eval]) (by kernel_rfl) (by kernel_rfl) (fun w hS => big_no a0 len0 cap0 w hbig) (fun W e w' h => ⟨_, h.1⟩) (fun w v w1 hS hR => ?_)
  obtain ⟨hr, rfl⟩ := hR
  cases hr
  have hB1 : Blw W.heap.size W w1 := hS.blw
  clear hS
  walk_nrm
  refine BW.ofGO ?_ (Sat.start w1)
  repeat (first | with_reducible refine GO.seq ?_ | with_reducible refine GO.skip ?_ | with_reducible refine GO.region (by simp only [List.size_toArray, List.length_cons, List.length_nil, Nat.reduceAdd, Nat.zero_add, List.range, List.range.loop]; exact rfl) ?_ | with_reducible refine GO.regionEnd ?_ | with_reducible refine GO.block ?_ | with_reducible refine GO.inBlock ?_ | with_reducible refine GO.label ?_ | with_reducible refine GO.ret ?_ | with_reducible refine GO.fin ?_ | with_reducible refine GO.exit (by with_unfolding_all rfl) ?_)
  refine GO.cond (t := false) rfl (fun hc => by cases hc) (fun _ => ?_)
  repeat (first | with_reducible refine GO.seq ?_ | with_reducible refine GO.skip ?_ | with_reducible refine GO.region (by simp only [List.size_toArray, List.length_cons, List.length_nil, Nat.reduceAdd, Nat.zero_add, List.range, List.range.loop]; exact rfl) ?_ | with_reducible refine GO.regionEnd ?_ | with_reducible refine GO.block ?_ | with_reducible refine GO.inBlock ?_ | with_reducible refine GO.label ?_ | with_reducible refine GO.ret ?_ | with_reducible refine GO.fin ?_ | with_reducible refine GO.exit (by with_unfolding_all rfl) ?_)
  refine GO.opq rfl (by rfl) (by first | assumption | decide) (fun wQ hQ KQ kQ => ?_)
  go_simp
  refine kQ _ _ ⟨rfl, (by first | (simp [go_sem]; done) | (intro e he; exact absurd (show e ∈ (#[] : Array Event) from he) (by simp))), ?_⟩
  clear kQ KQ
  try clear hc0 hc1 hc2 hc3
  clear hQ wQ
  try walk_nrm
  refine GO.lone lone_ok (vs := #[.slice a0 len0 cap0]) rfl (by rfl) rfl Try.func22 (by kernel_rfl) rfl (by simp [Act.eval]) (by kernel_rfl) (by kernel_rfl) (fun w hS => DrawQuotient_any a0 len0 cap0 w (by omega) (HBy.out.blw (hB1.trans hS.blw hB1.size))) (fun W e w' ⟨_, _, _, h, _⟩ => ⟨_, h⟩) (fun w v w2 hS hR => ?_)
  obtain ⟨x, d, n, hr, ⟨i1, i2, i3⟩, hb2⟩ := hR
  cases hr
  have hB2 : Blw W.heap.size W w2 := (hB1.trans hS.blw hB1.size).trans (Blw.of hb2) (Nat.le_trans hB1.size hS.size)
  clear hS hb2 hB1 HBy hbig w
  walk_nrm
  refine BW.ofGO ?_ (Sat.start w2)
  refine GO.opq rfl (by rfl) (by first | assumption | decide) (fun wQ hQ KQ kQ => ?_)
  go_simp
  refine kQ _ _ ⟨rfl, (by first | (simp [go_sem]; done) | (intro e he; exact absurd (show e ∈ (#[] : Array Event) from he) (by simp))), ?_⟩
  clear kQ KQ
  try clear hc0 hc1 hc2 hc3
  clear hQ wQ
  try walk_nrm
  refine GO.opq rfl (by rfl) (by first | assumption | decide) (fun wQ hQ KQ kQ => ?_)
  go_simp
  refine kQ _ _ ⟨rfl, (by first | (simp [go_sem]; done) | (intro e he; exact absurd (show e ∈ (#[] : Array Event) from he) (by simp))), ?_⟩
  clear kQ KQ
  try clear hc0 hc1 hc2 hc3
  clear hQ wQ
  try walk_nrm
  refine GO.opq rfl (by rfl) (by first | assumption | decide) (fun wQ hQ KQ kQ => ?_)
  go_simp
  refine kQ _ _ ⟨rfl, (by first | (simp [go_sem]; done) | (intro e he; exact absurd (show e ∈ (#[] : Array Event) from he) (by simp))), ?_⟩
  clear kQ KQ
  try clear hc0 hc1 hc2 hc3
  clear hQ wQ
  try walk_nrm
  refine GO.opq rfl (by rfl) (by first | assumption | decide) (fun wQ hQ KQ kQ => ?_)
  go_simp
  refine kQ _ _ ⟨rfl, (by first | (simp [go_sem]; done) | (intro e he; exact absurd (show e ∈ (#[] : Array Event) from he) (by simp))), ?_⟩
  clear kQ KQ
  try clear hc0 hc1 hc2 hc3
  clear hQ wQ
  try walk_nrm
  refine GO.opq rfl (by rfl) (by first | assumption | decide) (fun wQ hQ KQ kQ => ?_)
  go_simp
  refine kQ _ _ ⟨rfl, (by first | (simp [go_sem]; done) | (intro e he; exact absurd (show e ∈ (#[] : Array Event) from he) (by simp))), ?_⟩
  clear kQ KQ
  try clear hc0 hc1 hc2 hc3
  clear hQ wQ
  try walk_nrm
  refine GO.opq rfl (by rfl) (by first | assumption | decide) (fun wQ hQ KQ kQ => ?_)
  go_simp
  refine kQ _ _ ⟨rfl, (by first | (simp [go_sem]; done) | (intro e he; exact absurd (show e ∈ (#[] : Array Event) from he) (by simp))), ?_⟩
  clear kQ KQ
  try clear hc0 hc1 hc2 hc3
  clear hQ wQ
  try walk_nrm
  refine GO.opq rfl (by rfl) (by first | assumption | decide) (fun wQ hQ KQ kQ => ?_)
  go_simp
  refine kQ _ _ ⟨rfl, (by first | (simp [go_sem]; done) | (intro e he; exact absurd (show e ∈ (#[] : Array Event) from he) (by simp))), ?_⟩
  clear kQ KQ
  try clear hc0 hc1 hc2 hc3
  clear hQ wQ
  try walk_nrm
  repeat (first | with_reducible refine GO.seq ?_ | with_reducible refine GO.skip ?_ | with_reducible refine GO.region (by simp only [List.size_toArray, List.length_cons, List.length_nil, Nat.reduceAdd, Nat.zero_add, List.range, List.range.loop]; exact rfl) ?_ | with_reducible refine GO.regionEnd ?_ | with_reducible refine GO.block ?_ | with_reducible refine GO.inBlock ?_ | with_reducible refine GO.label ?_ | with_reducible refine GO.ret ?_ | with_reducible refine GO.fin ?_ | with_reducible refine GO.exit (by with_unfolding_all rfl) ?_)
  refine GO.opq rfl (by rfl) (by first | assumption | decide) (fun wQ hQ KQ kQ => ?_)
  go_simp
  refine kQ _ _ ⟨rfl, (by first | (simp [go_sem]; done) | (intro e he; exact absurd (show e ∈ (#[] : Array Event) from he) (by simp))), ?_⟩
  clear kQ KQ
  try clear hc0 hc1 hc2 hc3
  clear hQ wQ
  try walk_nrm
  refine GO.opq rfl (by rfl) (by first | assumption | decide) (fun wQ hQ KQ kQ => ?_)
  go_simp
  refine kQ _ _ ⟨rfl, (by first | (simp [go_sem]; done) | (intro e he; exact absurd (show e ∈ (#[] : Array Event) from he) (by simp))), ?_⟩
  clear kQ KQ
  try clear hc0 hc1 hc2 hc3
  clear hQ wQ
  try walk_nrm
  refine GO.opq rfl (by rfl) (by first | assumption | decide) (fun wQ hQ KQ kQ => ?_)
  go_simp
  refine kQ _ _ ⟨rfl, (by first | (simp [go_sem]; done) | (intro e he; exact absurd (show e ∈ (#[] : Array Event) from he) (by simp))), ?_⟩
  clear kQ KQ
  try clear hc0 hc1 hc2 hc3
  clear hQ wQ
  try walk_nrm
  refine GO.call (vs := #[.int .i64 x, .int .i64 d, .int .i64 n]) rfl (by rfl) (by decide) rfl Try.func20 (by kernel_rfl) rfl (by simp [Act.eval]) ?_
  refine GO.stop fun w hS => quotient_c x d n Try.func20 rfl w (fun v w3 hv3 hb3 => ?_)
  have hB3 : Blw W.heap.size W w3 := (hB2.trans hS.blw hB2.size).trans (Blw.of hb3) (Nat.le_trans hB2.size hS.size)
  replace hv3 := hid (hv3.down (Nat.zero_le _))
  clear hS hb3 hB2 w
  walk_nrm
  refine BW.ofGO ?_ (Sat.start w3)
  refine GO.opq rfl (by rfl) (by first | assumption | decide) (fun wQ hQ KQ kQ => ?_)
  go_simp
  refine kQ _ _ ⟨rfl, (by first | (simp [go_sem]; done) | (intro e he; exact absurd (show e ∈ (#[] : Array Event) from he) (by simp))), ?_⟩
  clear kQ KQ
  try clear hc0 hc1 hc2 hc3
  clear hQ wQ
  try walk_nrm
  refine GO.opq rfl (by rfl) (by first | assumption | decide) (fun wQ hQ KQ kQ => ?_)
  go_simp
  refine kQ _ _ ⟨rfl, (by first | (simp [go_sem]; done) | (intro e he; exact absurd (show e ∈ (#[] : Array Event) from he) (by simp))), ?_⟩
  clear kQ KQ
  try clear hc0 hc1 hc2 hc3
  clear hQ wQ
  try walk_nrm
  refine GO.opq rfl (by rfl) (by first | assumption | decide) (fun wQ hQ KQ kQ => ?_)
  go_simp
  refine kQ _ _ ⟨rfl, (by first | (simp [go_sem]; done) | (intro e he; exact absurd (show e ∈ (#[] : Array Event) from he) (by simp))), ?_⟩
  clear kQ KQ
  try clear hc0 hc1 hc2 hc3
  clear hQ wQ
  try walk_nrm
  refine GO.opq rfl (by rfl) (by first | assumption | decide) (fun wQ hQ KQ kQ => ?_)
  go_simp
  refine kQ _ _ ⟨rfl, (by first | (simp [go_sem]; done) | (intro e he; exact absurd (show e ∈ (#[] : Array Event) from he) (by simp))), ?_⟩
  clear kQ KQ
  try clear hc0 hc1 hc2 hc3
  clear hQ wQ
  try walk_nrm
  refine GO.opq rfl (by rfl) (by first | assumption | decide) (fun wQ hQ KQ kQ => ?_)
  go_simp
  refine kQ _ _ ⟨rfl, (by first | (simp [go_sem]; done) | (intro e he; exact absurd (show e ∈ (#[] : Array Event) from he) (by simp))), ?_⟩
  clear kQ KQ
  try clear hc0 hc1 hc2 hc3
  clear hQ wQ
  try walk_nrm
  refine GO.opq rfl (by rfl) (by first | assumption | decide) (fun wQ hQ KQ kQ => ?_)
  go_simp
  refine kQ _ _ ⟨rfl, (by first | (simp [go_sem]; done) | (intro e he; exact absurd (show e ∈ (#[] : Array Event) from he) (by simp))), ?_⟩
  clear kQ KQ
  try clear hc0 hc1 hc2 hc3
  clear hQ wQ
  try walk_nrm
  refine GO.opq rfl (by rfl) (by first | assumption | decide) (fun wQ hQ KQ kQ => ?_)
  go_simp
  refine kQ _ _ ⟨rfl, (by first | (simp [go_sem]; done) | (intro e he; exact absurd (show e ∈ (#[] : Array Event) from he) (by simp))), ?_⟩
  clear kQ KQ
  try clear hc0 hc1 hc2 hc3
  clear hQ wQ
  try walk_nrm
  refine GO.regionEnd ?_
  refine GO.stop fun w hS => BW.tail1 lone_ok Try.func6 (by kernel_rfl) rfl (by kernel_rfl) (fun T dd => ?_) (fun v W' T d h => h.on v W' T d)
  have hB4 : Hid (Blw W.heap.size W (w.on T dd)) := (hB3.trans hS.blw hB3.size).onR T dd
  have hv4 : Hid (Has (w.on T dd) 0 v (quL x d n)) := (hv3.out.blw hS.blw (Nat.le_refl _)).blw ((Blw.refl _ _).onR T dd) (Nat.le_refl _)
  clear hS hv3 hB3
  generalize w.on T dd = w4 at *
  clear w
  go_wp2_with fail
  refine (sQuotient_any x d n _).mono ?_
  rintro e w5 ⟨v2, rfl, hv2, hb5⟩
  have hs5 := hb5.size
  have hv5 := hv4.out.below hb5 (Nat.le_refl _)
  have hB5 : Hid (Blw W.heap.size W w5) := hB4.out.trans (Blw.of hb5) hB4.out.size
  clear hv4 hb5 hB4
  go_wp2_with fail
  refine (like_same _ _ (quL x d n) _ _ _ hv5 hv2).mono ?_
  rintro e w6 ⟨rfl, hb6⟩
  have hs6 := hb6.size
  have HV6 := hv5.below hb6 (Nat.le_refl _)
  have HB6 : Hid (Blw W.heap.size W w6) := hB5.out.trans (Blw.of hb6) hB5.out.size
  clear hv5 hv2 hb6 hB5
  cases hk : quo x d n with
  | false =>
    have e1 : quR x d n = 0 := by unfold quR; rw [hk]; rfl
    have e2 : quL x d n = [] := by unfold quL; rw [hk]; rfl
    rw [e2] at HV6
    rw [e1]
    obtain ⟨ad, ca, rfl, -⟩ := HV6.len
    clear HV6 e1 e2 hk
    simp only [List.length_nil]
    go_wp2
    go_ret
    exact ⟨_, rfl, rfl, HB6.out⟩
  | true =>
    obtain ⟨hd, hx, hn⟩ := of_decide_eq_true hk
    obtain ⟨N, hN⟩ := Int.eq_ofNat_of_zero_le (show 0 ≤ n by omega)
    subst hN
    have e1 : quR x d (N : Int) = qx d x N := by unfold quR; rw [hk, Int.toNat_natCast]; rfl
    have e2 : quL x d (N : Int) = ql d x N := by unfold quL; rw [hk, Int.toNat_natCast]; rfl
    rw [e2] at HV6
    rw [e1]
    have hlen : (ql d x N).length = N := ql_len d x N
    have hdec : Dec (ql d x N) := ql_dec d x (by omega) hx.1 (by omega) N
    have hval := ql_vl d x (by omega) hx.1 (by omega) N
    have hqb := qx_bd d x (by omega) hx.1 (by omega) N
    rcases HV6.form with ⟨-, hz⟩ | ⟨g, cap, rfl, -, hgl, -, hcell, -⟩
    · rw [hz] at hlen; simp at hlen; omega
    rw [hlen] at hcell ⊢
    have Hc : Hid (∀ i, i < N → w6.cell? ⟨g, i, none⟩ = some (.int .i64 ((ql d x N).getD i 0))) := hcell
    have HP : Hid (∀ k, 0 ≤ vl ((ql d x N).take k) ∧ vl ((ql d x N).take k) < 1000000000000000000) := fun k => vl_part _ k hdec (by omega)
    have HG : Hid (∀ k, k < N → vl ((ql d x N).take (k + 1)) = vl ((ql d x N).take k) * 10 + (ql d x N).getD k 0 ∧ 0 ≤ (ql d x N).getD k 0 ∧ (ql d x N).getD k 0 ≤ 9) := fun k hk' => ⟨vl_grow _ k (by omega), dec_at _ hdec k⟩
    have HE : Hid (vl ((ql d x N).take N) * d + qx d x N = x * 10 ^ N) := by rw [List.take_of_length_le (by omega)]; exact hval
    have H0 : Hid (vl ((ql d x N).take 0) = 0) := rfl
    have HZ : Hid (({ data := #[48] } : ByteArray) = tx (cn 0)) := cn_zero
    have HT : Hid (({ data := #[49, 48] } : ByteArray) = tx (cn 10)) := cn_ten
    clear hk e1 e2 hlen hdec hval hcell HV6
    obtain ⟨VV, hVV⟩ : ∃ f : Nat → Int, f = fun k => vl ((ql d x N).take k) := ⟨_, rfl⟩
    obtain ⟨QQ, hQQ⟩ : ∃ f : Nat → Int, f = fun k => (ql d x N).getD k 0 := ⟨_, rfl⟩
    have Hc' : Hid (∀ i, i < N → w6.cell? ⟨g, i, none⟩ = some (.int .i64 (QQ i))) := by rw [hQQ]; exact Hc.out
    have HP' : Hid (∀ k, 0 ≤ VV k ∧ VV k < 1000000000000000000) := by rw [hVV]; exact HP.out
    have HG' : Hid (∀ k, k < N → VV (k + 1) = VV k * 10 + QQ k ∧ 0 ≤ QQ k ∧ QQ k ≤ 9) := by rw [hVV, hQQ]; exact HG.out
    have HE' : Hid (VV N * d + qx d x N = x * 10 ^ N) := by rw [hVV]; exact HE.out
    have H0' : Hid (VV 0 = 0) := by rw [hVV]; exact H0.out
    clear Hc HP HG HE H0 hVV hQQ
    generalize qx d x N = R at *
    go_wp2
    go_loopw [12, 13] (fun s i wr => ∃ k : Nat, k ≤ N ∧ s = .string (tx (cn (VV k))) ∧ i = .int .i64 (k : Int) ∧ Hid (Below w6.heap.size w6 wr)) (fun _ i _ => N - (intOf i).toNat)
    case atStart => exact ⟨0, Nat.zero_le _, by rw [HZ.out, H0'.out], rfl, Below.refl _ _⟩
    case round =>
      obtain ⟨k, hkN, rfl, rfl, hbel⟩ := hrel
      have hsz := hbel.out.size
      have hV := HP'.out k
      by_cases hlt : k < N
      · have hlt' : (k : Int) < (N : Int) := by omega
        obtain ⟨hg1, hg2, hg3⟩ := HG'.out k hlt
        have hcw : wr.cell? ⟨g, k, none⟩ = some (.int .i64 (QQ k)) := (hbel.out.cell (p := ⟨g, k, none⟩) hgl).trans (Hc'.out k hlt)
        have HM : Hid (∀ X, Calls Try.prog 25 #[.string (tx (cn (VV k))), .string { data := #[49, 48] }] X fun e w' => e = .returned (.string (tx (cn (VV k * 10)))) ∧ Below X.heap.size X w') := fun X => by
          rw [HT.out]; exact NatMul_cn (VV k) 10 X hV.1 (by omega) (by decide) (by decide)
        have HD : Hid (∀ X, Calls Try.prog 26 #[.int .i64 (QQ k)] X fun e w' => e = .returned (.string (tx (cn (QQ k)))) ∧ Below X.heap.size X w') := fun X => digits_cn (QQ k) X hg2 (by omega)
        have HA : Hid (∀ X, Calls Try.prog 24 #[.string (tx (cn (VV k * 10))), .string (tx (cn (QQ k)))] X fun e w' => e = .returned (.string (tx (cn (VV k * 10 + QQ k)))) ∧ Below X.heap.size X w') := fun X => NatAdd_cn (VV k * 10) (QQ k) X (by omega) (by omega) hg2 (by omega)
        have HN : Hid (cn (VV (k + 1)) = cn (VV k * 10 + QQ k)) := by show _ = _; rw [hg1]
        clear hg1
        generalize cn (VV k * 10 + QQ k) = t3 at *
        generalize cn (VV k * 10) = t1 at *
        generalize cn (QQ k) = t2 at *
        generalize tx (cn (VV k)) = tv at *
        generalize QQ k = qk at *
        have hX0 : Below wr.heap.size wr wr.drew := (Below.refl _ _).drew
        have HC : Hid (∀ wx, Below wr.heap.size wr wx → wx.cell? ⟨g, k, none⟩ = some (.int .i64 qk)) := fun wx hb => (hb.cell (p := ⟨g, k, none⟩) (Nat.lt_of_lt_of_le hgl hsz)).trans hcw
        clear hcw
        go_upto_region 14 with fail
        refine wp_region_class (C := fun wx => Below wr.heap.size wr wx) (by kernel_rfl) (by kernel_rfl) hX0 ?_
        repeat (refine wpQuiet_step (fun K hK => ?_); go_simp; apply Exists.intro; refine ⟨fun wx hC => ?_, hK _ ?_⟩; (first | exact rfl | exact Calls.class_of (HM.out wx) (fun w' hb => hC.trans (hb.mono hC.size)) | exact Calls.class_of (HD.out wx) (fun w' hb => hC.trans (hb.mono hC.size)) | exact Calls.class_of (HA.out wx) (fun w' hb => hC.trans (hb.mono hC.size)) | (have q0 := HC.out wx hC; go_simp; exact rfl)); clear hK K)
        refine wpQuiet_nil ?_
        intro w7 hX7
        have HB7 : Hid (Below w6.heap.size w6 w7) := hbel.out.trans (hX7.mono hsz)
        clear hX7 hX0 HM HD HA HC
        go_wp2
        go_roundw
        case rel => exact ⟨k + 1, by omega, by rw [HN.out], by go_num, HB7⟩
        case measure => simp [intOf]; omega
      · obtain rfl : k = N := by omega
        have hnl : ¬ ((k : Int) < (k : Int)) := by omega
        have hR1 : ¬ R < 0 := by omega
        have hR2 : R < d := hqb.2
        have hm0 : 0 ≤ VV k * d := Int.mul_nonneg hV.1 (by omega)
        have hm1 : VV k * d ≤ 1000000000000000000 * 100000000 := Int.mul_le_mul (by omega) hd.2 (by omega) (by decide)
        have HD1 : Hid (∀ X, Calls Try.prog 26 #[.int .i64 d] X fun e w' => e = .returned (.string (tx (cn d))) ∧ Below X.heap.size X w') := fun X => digits_cn d X (by omega) (by omega)
        have HM1 : Hid (∀ X, Calls Try.prog 25 #[.string (tx (cn (VV k))), .string (tx (cn d))] X fun e w' => e = .returned (.string (tx (cn (VV k * d)))) ∧ Below X.heap.size X w') := fun X => NatMul_cn (VV k) d X hV.1 (by omega) (by omega) (by omega)
        have HD2 : Hid (∀ X, Calls Try.prog 26 #[.int .i64 R] X fun e w' => e = .returned (.string (tx (cn R))) ∧ Below X.heap.size X w') := fun X => digits_cn R X (by omega) (by omega)
        have HA1 : Hid (∀ X, Calls Try.prog 24 #[.string (tx (cn (VV k * d))), .string (tx (cn R))] X fun e w' => e = .returned (.string (tx (cn (x * 10 ^ k)))) ∧ Below X.heap.size X w') := fun X => by
          rw [← HE'.out]; exact NatAdd_cn (VV k * d) R X hm0 (by omega) (by omega) (by omega)
        have HD3 : Hid (∀ X, Calls Try.prog 26 #[.int .i64 x] X fun e w' => e = .returned (.string (tx (cn x))) ∧ Below X.heap.size X w') := fun X => digits_cn x X (by omega) (by omega)
        have HS1 : Hid (∀ X, Calls Try.prog 27 #[.string (tx (cn x)), .int .i64 (k : Int)] X fun e w' => e = .returned (.string (tx (cn (x * 10 ^ k)))) ∧ Below X.heap.size X w') := fun X => NatShift_cn x k X (by omega) (by omega) (by omega) (by rw [← HE'.out]; omega)
        clear HE' HP' HG' H0' hm0 hm1 Hc'
        generalize tx (cn (x * 10 ^ k)) = s1 at *
        generalize tx (cn (VV k * d)) = s2 at *
        generalize tx (cn (VV k)) = s3 at *
        generalize tx (cn d) = s4 at *
        generalize tx (cn R) = s5 at *
        generalize tx (cn x) = s6 at *
        go_wp2_with fail
        refine (HD1.out _).mono ?_
        rintro e w7 ⟨rfl, hb7⟩
        have hB7 : Below w6.heap.size w6 w7 := hbel.out.trans (hb7.mono hsz)
        clear hb7 HD1
        go_wp2_with fail
        refine (HM1.out _).mono ?_
        rintro e w8 ⟨rfl, hb8⟩
        have hB8 : Below w6.heap.size w6 w8 := hB7.trans (hb8.mono hB7.size)
        clear hb8 HM1 hB7
        go_wp2_with fail
        refine (HD2.out _).mono ?_
        rintro e w9 ⟨rfl, hb9⟩
        have hB9 : Below w6.heap.size w6 w9 := hB8.trans (hb9.mono hB8.size)
        clear hb9 HD2 hB8
        go_wp2_with fail
        refine (HA1.out _).mono ?_
        rintro e w10 ⟨rfl, hb10⟩
        have hB10 : Below w6.heap.size w6 w10 := hB9.trans (hb10.mono hB9.size)
        clear hb10 HA1 hB9
        go_wp2_with fail
        refine (HD3.out _).mono ?_
        rintro e w11 ⟨rfl, hb11⟩
        have hB11 : Below w6.heap.size w6 w11 := hB10.trans (hb11.mono hB10.size)
        clear hb11 HD3 hB10
        go_wp2_with fail
        refine (HS1.out _).mono ?_
        rintro e w12 ⟨rfl, hb12⟩
        have hB12 : Below w6.heap.size w6 w12 := hB11.trans (hb12.mono hB11.size)
        have HB12 : Hid (Blw W.heap.size W w12) := HB6.out.trans (Blw.of hB12) HB6.out.size
        clear hb12 HS1 hB11 hB12
        go_wp2
        go_ret
        exact ⟨_, rfl, rfl, HB12.out⟩
end Go.Proofs.Ytlbkhiphnllfpac
