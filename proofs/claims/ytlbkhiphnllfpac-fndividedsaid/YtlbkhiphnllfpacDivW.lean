/-
  FnDivided, walked beside goroutines that only leave.
-/
import Derived.Test.YtlbkhiphnllfpacGtx
import Derived.Test.YtlbkhiphnllfpacGtw
import Derived.Test.YtlbkhiphnllfpacGqu
import Derived.Test.YtlbkhiphnllfpacMnd
import Derived.Test.YtlbkhiphnllfpacDivL
import Derived.Test.YtlbkhiphnllfpacDrawD
import Derived.Test.YtlbkhiphnllfpacBytB
namespace Go.Proofs.Ytlbkhiphnllfpac
open Go.Conc Go.RowKit
set_option linter.unusedVariables false
set_option maxRecDepth 100000
set_option linter.unusedSimpArgs false
theorem keepF {y : Array Value} {F : (Nat → Value) → Array Value} (h : y = F (fun i => y.getD i undef)) : ∃ f, (⟨y, []⟩ : Act) = ⟨F f, []⟩ := ⟨_, congrArg (fun z => (⟨z, []⟩ : Act)) h⟩
/-- What stands behind the law's loop. -/
def dvQ (x d : Int) (N : Nat) (v : Value) (s : Int) (W : World) (e : Exit) (a' : Act) (w' : World) : Prop := e = .normal ∧ w' = W ∧ ∃ f : Nat → Value, a' = ⟨#[f 0, f 1, f 2, .int .i64 x, .int .i64 d, f 5, .int .i64 (N : Int), v, f 8, f 9, f 10, .int .i64 s, f 12, f 13, f 14, f 15, f 16, f 17, f 18, f 19, f 20, f 21, f 22, f 23, f 24, f 25, f 26, f 27, f 28, f 29, f 30, f 31, f 32, f 33, f 34, f 35, f 36, f 37, f 38, f 39, f 40, f 41, f 42, f 43, f 44, f 45, f 46, f 47, f 48, f 49, f 50, f 51, f 52, f 53, f 54, f 55, f 56, f 57, f 58, f 59, f 60, f 61, f 62, f 63, f 64, f 65, f 66, f 67, f 68, f 69, f 70, f 71, f 72, f 73, f 74, f 75, f 76, f 77, f 78, f 79, f 80, f 81, f 82, f 83, f 84, f 85, f 86, f 87, f 88, f 89, f 90, f 91, f 92, f 93, f 94, f 95, f 96, f 97, f 98, f 99, f 100, f 101, f 102, f 103, f 104, f 105, f 106, f 107, f 108, f 109, f 110, f 111, f 112, f 113, f 114, f 115, f 116, f 117, f 118, f 119, f 120, f 121, f 122, f 123, f 124, f 125, f 126, f 127, f 128, f 129, f 130, f 131, f 132, f 133, f 134, f 135, f 136, f 137, f 138, f 139, f 140, f 141, f 142, f 143, f 144, f 145, f 146, f 147, f 148, f 149, f 150, f 151, f 152, f 153, f 154, f 155, f 156], []⟩
/-- What the law asks of each turn. -/
theorem turn_told (a d x : Int) (N j : Nat) (hd : 1 ≤ d ∧ d ≤ 100000000) (ha : 5 ≤ a ∧ a ≤ 9) (hx : 0 ≤ x) (hs : 9 * x ≤ a * d) :
    (-100000000 ≤ ws a d x j ∧ ws a d x j ≤ 100000000) ∧ (-a ≤ dgt a d (ws a d x j) ∧ dgt a d (ws a d x j) ≤ a) ∧ 10 * ws a d x j - dgt a d (ws a d x j) * d = ws a d x (j + 1) ∧ (9 * ws a d x (j + 1) ≤ a * d ∧ -(a * d) ≤ 9 * ws a d x (j + 1)) ∧ (-900000000 ≤ dgt a d (ws a d x j) * d ∧ dgt a d (ws a d x j) * d ≤ 900000000) ∧ (0 ≤ a * d ∧ a * d ≤ 900000000) := by
  have h0 := ws_small a d x (by omega) ha.1 ha.2 hx hs j
  have h1 := ws_small a d x (by omega) ha.1 ha.2 hx hs (j + 1)
  have hf := dgt_fits a d (ws a d x j) (by omega) ha.1 ha.2 h0.1 h0.2
  have m0 := mulG a d 9 100000000 (by omega) (by omega) (by omega) (by omega) (by decide)
  have m1 := mulG (dgt a d (ws a d x j)) d 9 100000000 (by omega) (by omega) (by omega) (by omega) (by decide)
  have m2 := Int.mul_nonneg (show 0 ≤ a by omega) (show 0 ≤ d by omega)
  exact ⟨⟨by omega, by omega⟩, ⟨hf.2.1, hf.2.2⟩, rfl, h1, ⟨by omega, by omega⟩, ⟨by omega, by omega⟩⟩
set_option maxRecDepth 100000 in
set_option maxHeartbeats 16000000 in
theorem divided_bw (a0 : Option Addr) (len0 cap0 : Nat) (W : World) (hBy : Bytes W.heap.size W a0 len0) {fn : Func} {cd : Code} (hf : Try.prog.funcs[5]? = some fn) (hb : fn.body = some cd) :
    BW Try.prog (PostB W) (G ((base 5).at { tmps := #[.slice a0 len0 cap0] ++ Array.replicate (fn.ntmps - 1) undef, defers := [] } [.code cd]) []) W := by
  have e := hf.symm.trans Try.func5
  cases e
  cases hb
  simp only [Try.ntmps5, List.size_toArray, List.length_cons, List.length_nil, Nat.reduceAdd, Nat.reduceSub, Array.replicate_succ, Array.replicate_zero, List.push_toArray, List.append_toArray, List.nil_append, List.cons_append]
  have HBy : Hid (Bytes W.heap.size W a0 len0) := hBy
  clear hBy
  refine BW.ofGO ?_ (Sat.start W)
  repeat (first | with_reducible refine GO.seq ?_ | with_reducible refine GO.skip ?_ | with_reducible refine GO.region (by simp only [List.size_toArray, List.length_cons, List.length_nil, Nat.reduceAdd, Nat.zero_add, List.range, List.range.loop]; exact rfl) ?_ | with_reducible refine GO.regionEnd ?_ | with_reducible refine GO.block ?_ | with_reducible refine GO.inBlock ?_ | with_reducible refine GO.label ?_ | with_reducible refine GO.ret ?_ | with_reducible refine GO.fin ?_ | with_reducible refine GO.exit (by with_unfolding_all rfl) ?_)
  refine GO.opq rfl (by rfl) (by first | assumption | decide) (fun wQ hQ KQ kQ => ?_)
  go_simp
  refine kQ _ _ ⟨rfl, (by first | (simp [go_sem]; done) | (intro e he; exact absurd (show e ∈ (#[] : Array Event) from he) (by simp))), ?_⟩
  clear kQ KQ
  try clear hc0 hc1 hc2 hc3
  clear hQ wQ
  try walk_nrm
  repeat (first | with_reducible refine GO.seq ?_ | with_reducible refine GO.skip ?_ | with_reducible refine GO.region (by simp only [List.size_toArray, List.length_cons, List.length_nil, Nat.reduceAdd, Nat.zero_add, List.range, List.range.loop]; exact rfl) ?_ | with_reducible refine GO.regionEnd ?_ | with_reducible refine GO.block ?_ | with_reducible refine GO.inBlock ?_ | with_reducible refine GO.label ?_ | with_reducible refine GO.ret ?_ | with_reducible refine GO.fin ?_ | with_reducible refine GO.exit (by with_unfolding_all rfl) ?_)
  refine GO.opq rfl (by rfl) (by first | assumption | decide) (fun wQ hQ KQ kQ => ?_)
  go_simp
  refine kQ _ _ ⟨rfl, (by first | (simp [go_sem]; done) | (intro e he; exact absurd (show e ∈ (#[] : Array Event) from he) (by simp))), ?_⟩
  clear kQ KQ
  try clear hc0 hc1 hc2 hc3
  clear hQ wQ
  try walk_nrm
  by_cases hbig : 4096 < len0
  · refine GO.lone lone_ok (vs := #[.slice a0 len0 cap0]) rfl (by rfl) rfl Try.func7 (by kernel_rfl) rfl (by simp [Act.eval]) (by kernel_rfl) (by kernel_rfl) (fun w hS => big_yes a0 len0 cap0 w hbig) (fun W e w' h => ⟨_, h.1⟩) (fun w v w1 hS hR => ?_)
    obtain ⟨hr, rfl⟩ := hR
    cases hr
    have hB1 : Blw W.heap.size W w1 := hS.blw
    clear hS
    walk_nrm
    refine BW.ofGO ?_ (Sat.start w1)
    repeat (first | with_reducible refine GO.seq ?_ | with_reducible refine GO.skip ?_ | with_reducible refine GO.region (by simp only [List.size_toArray, List.length_cons, List.length_nil, Nat.reduceAdd, Nat.zero_add, List.range, List.range.loop]; exact rfl) ?_ | with_reducible refine GO.regionEnd ?_ | with_reducible refine GO.block ?_ | with_reducible refine GO.inBlock ?_ | with_reducible refine GO.label ?_ | with_reducible refine GO.ret ?_ | with_reducible refine GO.fin ?_ | with_reducible refine GO.exit (by with_unfolding_all rfl) ?_)
    refine GO.cond (t := true) rfl (fun _ => ?_) (fun hc => by cases hc)
    repeat (first | with_reducible refine GO.seq ?_ | with_reducible refine GO.skip ?_ | with_reducible refine GO.region (by simp only [List.size_toArray, List.length_cons, List.length_nil, Nat.reduceAdd, Nat.zero_add, List.range, List.range.loop]; exact rfl) ?_ | with_reducible refine GO.regionEnd ?_ | with_reducible refine GO.block ?_ | with_reducible refine GO.inBlock ?_ | with_reducible refine GO.label ?_ | with_reducible refine GO.ret ?_ | with_reducible refine GO.fin ?_ | with_reducible refine GO.exit (by with_unfolding_all rfl) ?_)
    refine GO.opq rfl (by rfl) (by first | assumption | decide) (fun wQ hQ KQ kQ => ?_)
    go_simp
    refine kQ _ _ ⟨rfl, (by first | (simp [go_sem]; done) | (intro e he; exact absurd (show e ∈ (#[] : Array Event) from he) (by simp))), ?_⟩
    clear kQ KQ
    try clear hc0 hc1 hc2 hc3
    clear hQ wQ
    try walk_nrm
    repeat (first | with_reducible refine GO.seq ?_ | with_reducible refine GO.skip ?_ | with_reducible refine GO.region (by simp only [List.size_toArray, List.length_cons, List.length_nil, Nat.reduceAdd, Nat.zero_add, List.range, List.range.loop]; exact rfl) ?_ | with_reducible refine GO.regionEnd ?_ | with_reducible refine GO.block ?_ | with_reducible refine GO.inBlock ?_ | with_reducible refine GO.label ?_ | with_reducible refine GO.ret ?_ | with_reducible refine GO.fin ?_ | with_reducible refine GO.exit (by with_unfolding_all rfl) ?_)
    refine GO.stop fun w hS => BW.ret1 Try.func5 (by kernel_rfl) rfl (fun v W' T d h => h.on v W' T d) ⟨rfl, hB1.trans hS.blw hB1.size⟩
  refine GO.lone lone_ok (vs := #[.slice a0 len0 cap0]) rfl (by rfl) rfl Try.func7 (by kernel_rfl) rfl (by simp [Act.eval]) (by kernel_rfl) (by kernel_rfl) (fun w hS => big_no a0 len0 cap0 w hbig) (fun W e w' h => ⟨_, h.1⟩) (fun w v w1 hS hR => ?_)
  obtain ⟨hr, rfl⟩ := hR
  cases hr
  have hB1 : Blw W.heap.size W w1 := hS.blw
  clear hS
  walk_nrm
  refine BW.ofGO ?_ (Sat.start w1)
  repeat (first | with_reducible refine GO.seq ?_ | with_reducible refine GO.skip ?_ | with_reducible refine GO.region (by simp only [List.size_toArray, List.length_cons, List.length_nil, Nat.reduceAdd, Nat.zero_add, List.range, List.range.loop]; exact rfl) ?_ | with_reducible refine GO.regionEnd ?_ | with_reducible refine GO.block ?_ | with_reducible refine GO.inBlock ?_ | with_reducible refine GO.label ?_ | with_reducible refine GO.ret ?_ | with_reducible refine GO.fin ?_ | with_reducible refine GO.exit (by with_unfolding_all rfl) ?_)
  refine GO.cond (t := false) rfl (fun hc => by cases hc) (fun _ => ?_)
  repeat (first | with_reducible refine GO.seq ?_ | with_reducible refine GO.skip ?_ | with_reducible refine GO.region (by simp only [List.size_toArray, List.length_cons, List.length_nil, Nat.reduceAdd, Nat.zero_add, List.range, List.range.loop]; exact rfl) ?_ | with_reducible refine GO.regionEnd ?_ | with_reducible refine GO.block ?_ | with_reducible refine GO.inBlock ?_ | with_reducible refine GO.label ?_ | with_reducible refine GO.ret ?_ | with_reducible refine GO.fin ?_ | with_reducible refine GO.exit (by with_unfolding_all rfl) ?_)
  refine GO.opq rfl (by rfl) (by first | assumption | decide) (fun wQ hQ KQ kQ => ?_)
  go_simp
  refine kQ _ _ ⟨rfl, (by first | (simp [go_sem]; done) | (intro e he; exact absurd (show e ∈ (#[] : Array Event) from he) (by simp))), ?_⟩
  clear kQ KQ
  try clear hc0 hc1 hc2 hc3
  clear hQ wQ
  try walk_nrm
  refine GO.lone lone_ok (vs := #[.slice a0 len0 cap0]) rfl (by rfl) rfl Try.func16 (by kernel_rfl) rfl (by simp [Act.eval]) (by kernel_rfl) (by kernel_rfl) (fun w hS => DrawDivide_any a0 len0 cap0 w (by omega) (HBy.out.blw (hB1.trans hS.blw hB1.size))) (fun W e w' ⟨_, _, _, _, h, _⟩ => ⟨_, h⟩) (fun w v w2 hS hR => ?_)
  obtain ⟨x, d, a, n, hr, ⟨i1, i2, i3, i4⟩, hb2⟩ := hR
  cases hr
  have hB2 : Blw W.heap.size W w2 := (hB1.trans hS.blw hB1.size).trans (Blw.of hb2) (Nat.le_trans hB1.size hS.size)
  clear hS hb2 hB1 HBy hbig w
  walk_nrm
  refine BW.ofGO ?_ (Sat.start w2)
  refine GO.opq rfl (by rfl) (by first | assumption | decide) (fun wQ hQ KQ kQ => ?_)
  go_simp
  refine kQ _ _ ⟨rfl, (by first | (simp [go_sem]; done) | (intro e he; exact absurd (show e ∈ (#[] : Array Event) from he) (by simp))), ?_⟩
  clear kQ KQ
  try clear hc0 hc1 hc2 hc3
  clear hQ wQ
  try walk_nrm
  refine GO.opq rfl (by rfl) (by first | assumption | decide) (fun wQ hQ KQ kQ => ?_)
  go_simp
  refine kQ _ _ ⟨rfl, (by first | (simp [go_sem]; done) | (intro e he; exact absurd (show e ∈ (#[] : Array Event) from he) (by simp))), ?_⟩
  clear kQ KQ
  try clear hc0 hc1 hc2 hc3
  clear hQ wQ
  try walk_nrm
  refine GO.opq rfl (by rfl) (by first | assumption | decide) (fun wQ hQ KQ kQ => ?_)
  go_simp
  refine kQ _ _ ⟨rfl, (by first | (simp [go_sem]; done) | (intro e he; exact absurd (show e ∈ (#[] : Array Event) from he) (by simp))), ?_⟩
  clear kQ KQ
  try clear hc0 hc1 hc2 hc3
  clear hQ wQ
  try walk_nrm
  refine GO.opq rfl (by rfl) (by first | assumption | decide) (fun wQ hQ KQ kQ => ?_)
  go_simp
  refine kQ _ _ ⟨rfl, (by first | (simp [go_sem]; done) | (intro e he; exact absurd (show e ∈ (#[] : Array Event) from he) (by simp))), ?_⟩
  clear kQ KQ
  try clear hc0 hc1 hc2 hc3
  clear hQ wQ
  try walk_nrm
  refine GO.opq rfl (by rfl) (by first | assumption | decide) (fun wQ hQ KQ kQ => ?_)
  go_simp
  refine kQ _ _ ⟨rfl, (by first | (simp [go_sem]; done) | (intro e he; exact absurd (show e ∈ (#[] : Array Event) from he) (by simp))), ?_⟩
  clear kQ KQ
  try clear hc0 hc1 hc2 hc3
  clear hQ wQ
  try walk_nrm
  refine GO.opq rfl (by rfl) (by first | assumption | decide) (fun wQ hQ KQ kQ => ?_)
  go_simp
  refine kQ _ _ ⟨rfl, (by first | (simp [go_sem]; done) | (intro e he; exact absurd (show e ∈ (#[] : Array Event) from he) (by simp))), ?_⟩
  clear kQ KQ
  try clear hc0 hc1 hc2 hc3
  clear hQ wQ
  try walk_nrm
  refine GO.opq rfl (by rfl) (by first | assumption | decide) (fun wQ hQ KQ kQ => ?_)
  go_simp
  refine kQ _ _ ⟨rfl, (by first | (simp [go_sem]; done) | (intro e he; exact absurd (show e ∈ (#[] : Array Event) from he) (by simp))), ?_⟩
  clear kQ KQ
  try clear hc0 hc1 hc2 hc3
  clear hQ wQ
  try walk_nrm
  refine GO.opq rfl (by rfl) (by first | assumption | decide) (fun wQ hQ KQ kQ => ?_)
  go_simp
  refine kQ _ _ ⟨rfl, (by first | (simp [go_sem]; done) | (intro e he; exact absurd (show e ∈ (#[] : Array Event) from he) (by simp))), ?_⟩
  clear kQ KQ
  try clear hc0 hc1 hc2 hc3
  clear hQ wQ
  try walk_nrm
  refine GO.opq rfl (by rfl) (by first | assumption | decide) (fun wQ hQ KQ kQ => ?_)
  go_simp
  refine kQ _ _ ⟨rfl, (by first | (simp [go_sem]; done) | (intro e he; exact absurd (show e ∈ (#[] : Array Event) from he) (by simp))), ?_⟩
  clear kQ KQ
  try clear hc0 hc1 hc2 hc3
  clear hQ wQ
  try walk_nrm
  repeat (first | with_reducible refine GO.seq ?_ | with_reducible refine GO.skip ?_ | with_reducible refine GO.region (by simp only [List.size_toArray, List.length_cons, List.length_nil, Nat.reduceAdd, Nat.zero_add, List.range, List.range.loop]; exact rfl) ?_ | with_reducible refine GO.regionEnd ?_ | with_reducible refine GO.block ?_ | with_reducible refine GO.inBlock ?_ | with_reducible refine GO.label ?_ | with_reducible refine GO.ret ?_ | with_reducible refine GO.fin ?_ | with_reducible refine GO.exit (by with_unfolding_all rfl) ?_)
  refine GO.opq rfl (by rfl) (by first | assumption | decide) (fun wQ hQ KQ kQ => ?_)
  go_simp
  refine kQ _ _ ⟨rfl, (by first | (simp [go_sem]; done) | (intro e he; exact absurd (show e ∈ (#[] : Array Event) from he) (by simp))), ?_⟩
  clear kQ KQ
  try clear hc0 hc1 hc2 hc3
  clear hQ wQ
  try walk_nrm
  refine GO.opq rfl (by rfl) (by first | assumption | decide) (fun wQ hQ KQ kQ => ?_)
  go_simp
  refine kQ _ _ ⟨rfl, (by first | (simp [go_sem]; done) | (intro e he; exact absurd (show e ∈ (#[] : Array Event) from he) (by simp))), ?_⟩
  clear kQ KQ
  try clear hc0 hc1 hc2 hc3
  clear hQ wQ
  try walk_nrm
  refine GO.opq rfl (by rfl) (by first | assumption | decide) (fun wQ hQ KQ kQ => ?_)
  go_simp
  refine kQ _ _ ⟨rfl, (by first | (simp [go_sem]; done) | (intro e he; exact absurd (show e ∈ (#[] : Array Event) from he) (by simp))), ?_⟩
  clear kQ KQ
  try clear hc0 hc1 hc2 hc3
  clear hQ wQ
  try walk_nrm
  refine GO.opq rfl (by rfl) (by first | assumption | decide) (fun wQ hQ KQ kQ => ?_)
  go_simp
  refine kQ _ _ ⟨rfl, (by first | (simp [go_sem]; done) | (intro e he; exact absurd (show e ∈ (#[] : Array Event) from he) (by simp))), ?_⟩
  clear kQ KQ
  try clear hc0 hc1 hc2 hc3
  clear hQ wQ
  try walk_nrm
  refine GO.call (vs := #[.int .i64 x, .int .i64 d, .int .i64 a, .int .i64 n]) rfl (by rfl) (by decide) rfl Try.func17 (by kernel_rfl) rfl (by simp [Act.eval]) ?_
  refine GO.stop fun w hS => divide_c x d a n Try.func17 rfl w (fun v w3 hv3 hb3 => ?_)
  have hB3 : Blw W.heap.size W w3 := (hB2.trans hS.blw hB2.size).trans (Blw.of hb3) (Nat.le_trans hB2.size hS.size)
  replace hv3 := hid (hv3.base (Nat.zero_le _))
  clear hS hb3 hB2 w
  walk_nrm
  refine BW.ofGO ?_ (Sat.start w3)
  refine GO.opq rfl (by rfl) (by first | assumption | decide) (fun wQ hQ KQ kQ => ?_)
  go_simp
  refine kQ _ _ ⟨rfl, (by first | (simp [go_sem]; done) | (intro e he; exact absurd (show e ∈ (#[] : Array Event) from he) (by simp))), ?_⟩
  clear kQ KQ
  try clear hc0 hc1 hc2 hc3
  clear hQ wQ
  try walk_nrm
  refine GO.opq rfl (by rfl) (by first | assumption | decide) (fun wQ hQ KQ kQ => ?_)
  go_simp
  refine kQ _ _ ⟨rfl, (by first | (simp [go_sem]; done) | (intro e he; exact absurd (show e ∈ (#[] : Array Event) from he) (by simp))), ?_⟩
  clear kQ KQ
  try clear hc0 hc1 hc2 hc3
  clear hQ wQ
  try walk_nrm
  refine GO.opq rfl (by rfl) (by first | assumption | decide) (fun wQ hQ KQ kQ => ?_)
  go_simp
  refine kQ _ _ ⟨rfl, (by first | (simp [go_sem]; done) | (intro e he; exact absurd (show e ∈ (#[] : Array Event) from he) (by simp))), ?_⟩
  clear kQ KQ
  try clear hc0 hc1 hc2 hc3
  clear hQ wQ
  try walk_nrm
  refine GO.opq rfl (by rfl) (by first | assumption | decide) (fun wQ hQ KQ kQ => ?_)
  go_simp
  refine kQ _ _ ⟨rfl, (by first | (simp [go_sem]; done) | (intro e he; exact absurd (show e ∈ (#[] : Array Event) from he) (by simp))), ?_⟩
  clear kQ KQ
  try clear hc0 hc1 hc2 hc3
  clear hQ wQ
  try walk_nrm
  refine GO.opq rfl (by rfl) (by first | assumption | decide) (fun wQ hQ KQ kQ => ?_)
  go_simp
  refine kQ _ _ ⟨rfl, (by first | (simp [go_sem]; done) | (intro e he; exact absurd (show e ∈ (#[] : Array Event) from he) (by simp))), ?_⟩
  clear kQ KQ
  try clear hc0 hc1 hc2 hc3
  clear hQ wQ
  try walk_nrm
  repeat (first | with_reducible refine GO.seq ?_ | with_reducible refine GO.skip ?_ | with_reducible refine GO.region (by simp only [List.size_toArray, List.length_cons, List.length_nil, Nat.reduceAdd, Nat.zero_add, List.range, List.range.loop]; exact rfl) ?_ | with_reducible refine GO.regionEnd ?_ | with_reducible refine GO.block ?_ | with_reducible refine GO.inBlock ?_ | with_reducible refine GO.label ?_ | with_reducible refine GO.ret ?_ | with_reducible refine GO.fin ?_ | with_reducible refine GO.exit (by with_unfolding_all rfl) ?_)
  refine GO.opq rfl (by rfl) (by first | assumption | decide) (fun wQ hQ KQ kQ => ?_)
  go_simp
  refine kQ _ _ ⟨rfl, (by first | (simp [go_sem]; done) | (intro e he; exact absurd (show e ∈ (#[] : Array Event) from he) (by simp))), ?_⟩
  clear kQ KQ
  try clear hc0 hc1 hc2 hc3
  clear hQ wQ
  try walk_nrm
  refine GO.opq rfl (by rfl) (by first | assumption | decide) (fun wQ hQ KQ kQ => ?_)
  go_simp
  refine kQ _ _ ⟨rfl, (by first | (simp [go_sem]; done) | (intro e he; exact absurd (show e ∈ (#[] : Array Event) from he) (by simp))), ?_⟩
  clear kQ KQ
  try clear hc0 hc1 hc2 hc3
  clear hQ wQ
  try walk_nrm
  refine GO.opq rfl (by rfl) (by first | assumption | decide) (fun wQ hQ KQ kQ => ?_)
  go_simp
  refine kQ _ _ ⟨rfl, (by first | (simp [go_sem]; done) | (intro e he; exact absurd (show e ∈ (#[] : Array Event) from he) (by simp))), ?_⟩
  clear kQ KQ
  try clear hc0 hc1 hc2 hc3
  clear hQ wQ
  try walk_nrm
  refine GO.opq rfl (by rfl) (by first | assumption | decide) (fun wQ hQ KQ kQ => ?_)
  go_simp
  refine kQ _ _ ⟨rfl, (by first | (simp [go_sem]; done) | (intro e he; exact absurd (show e ∈ (#[] : Array Event) from he) (by simp))), ?_⟩
  clear kQ KQ
  try clear hc0 hc1 hc2 hc3
  clear hQ wQ
  try walk_nrm
  refine GO.lone lone_ok (vs := #[.int .i64 x, .int .i64 d, .int .i64 a, .int .i64 n]) rfl (by rfl) rfl Try.func18 (by kernel_rfl) rfl (by simp [Act.eval]) (by kernel_rfl) (by kernel_rfl) (fun w hS => sDivide_any x d a n w) (fun W e w' ⟨v, h, _⟩ => ⟨_, h⟩) (fun w r w4 hS hR => ?_)
  obtain ⟨u, hr, hu4, hb4⟩ := hR
  have hB4 : Blw W.heap.size W w4 := (hB3.trans hS.blw hB3.size).trans (Blw.of hb4) (Nat.le_trans hB3.size hS.size)
  have hv4 : Hid (HasT w4 0 v (dvL x d a n)) := (hv3.out.blw hS.blw (Nat.le_refl _)).blw (Blw.of hb4) (Nat.le_refl _)
  cases hr
  clear hS hb4 hB3 hv3 hu4 w
  walk_nrm
  cases hk : dvo x d a n with
  | false =>
    rw [show dvL x d a n = [] by unfold dvL; rw [hk]; rfl] at hv4
    obtain ⟨ad, ca, rfl, -⟩ := hv4.out.form
    clear hv4 hk
    simp only [List.length_nil]
    refine BW.ofGO ?_ (Sat.start w4)
    refine GO.opq rfl (by rfl) (by first | assumption | decide) (fun wQ hQ KQ kQ => ?_)
    go_simp
    refine kQ _ _ ⟨rfl, (by first | (simp [go_sem]; done) | (intro e he; exact absurd (show e ∈ (#[] : Array Event) from he) (by simp))), ?_⟩
    clear kQ KQ
    try clear hc0 hc1 hc2 hc3
    clear hQ wQ
    try walk_nrm
    refine GO.opq rfl (by rfl) (by first | assumption | decide) (fun wQ hQ KQ kQ => ?_)
    go_simp
    refine kQ _ _ ⟨rfl, (by first | (simp [go_sem]; done) | (intro e he; exact absurd (show e ∈ (#[] : Array Event) from he) (by simp))), ?_⟩
    clear kQ KQ
    try clear hc0 hc1 hc2 hc3
    clear hQ wQ
    try walk_nrm
    refine GO.opq rfl (by rfl) (by first | assumption | decide) (fun wQ hQ KQ kQ => ?_)
    go_simp
    refine kQ _ _ ⟨rfl, (by first | (simp [go_sem]; done) | (intro e he; exact absurd (show e ∈ (#[] : Array Event) from he) (by simp))), ?_⟩
    clear kQ KQ
    try clear hc0 hc1 hc2 hc3
    clear hQ wQ
    try walk_nrm
    refine GO.opq rfl (by rfl) (by first | assumption | decide) (fun wQ hQ KQ kQ => ?_)
    go_simp
    refine kQ _ _ ⟨rfl, (by first | (simp [go_sem]; done) | (intro e he; exact absurd (show e ∈ (#[] : Array Event) from he) (by simp))), ?_⟩
    clear kQ KQ
    try clear hc0 hc1 hc2 hc3
    clear hQ wQ
    try walk_nrm
    refine GO.opq rfl (by rfl) (by first | assumption | decide) (fun wQ hQ KQ kQ => ?_)
    go_simp
    refine kQ _ _ ⟨rfl, (by first | (simp [go_sem]; done) | (intro e he; exact absurd (show e ∈ (#[] : Array Event) from he) (by simp))), ?_⟩
    clear kQ KQ
    try clear hc0 hc1 hc2 hc3
    clear hQ wQ
    try walk_nrm
    repeat (first | with_reducible refine GO.seq ?_ | with_reducible refine GO.skip ?_ | with_reducible refine GO.region (by simp only [List.size_toArray, List.length_cons, List.length_nil, Nat.reduceAdd, Nat.zero_add, List.range, List.range.loop]; exact rfl) ?_ | with_reducible refine GO.regionEnd ?_ | with_reducible refine GO.block ?_ | with_reducible refine GO.inBlock ?_ | with_reducible refine GO.label ?_ | with_reducible refine GO.ret ?_ | with_reducible refine GO.fin ?_ | with_reducible refine GO.exit (by with_unfolding_all rfl) ?_)
    refine GO.opq rfl (by rfl) (by first | assumption | decide) (fun wQ hQ KQ kQ => ?_)
    go_simp
    refine kQ _ _ ⟨rfl, (by first | (simp [go_sem]; done) | (intro e he; exact absurd (show e ∈ (#[] : Array Event) from he) (by simp))), ?_⟩
    clear kQ KQ
    try clear hc0 hc1 hc2 hc3
    clear hQ wQ
    try walk_nrm
    refine GO.opq rfl (by rfl) (by first | assumption | decide) (fun wQ hQ KQ kQ => ?_)
    go_simp
    refine kQ _ _ ⟨rfl, (by first | (simp [go_sem]; done) | (intro e he; exact absurd (show e ∈ (#[] : Array Event) from he) (by simp))), ?_⟩
    clear kQ KQ
    try clear hc0 hc1 hc2 hc3
    clear hQ wQ
    try walk_nrm
    refine GO.opq rfl (by rfl) (by first | assumption | decide) (fun wQ hQ KQ kQ => ?_)
    go_simp
    refine kQ _ _ ⟨rfl, (by first | (simp [go_sem]; done) | (intro e he; exact absurd (show e ∈ (#[] : Array Event) from he) (by simp))), ?_⟩
    clear kQ KQ
    try clear hc0 hc1 hc2 hc3
    clear hQ wQ
    try walk_nrm
    repeat (first | with_reducible refine GO.seq ?_ | with_reducible refine GO.skip ?_ | with_reducible refine GO.region (by simp only [List.size_toArray, List.length_cons, List.length_nil, Nat.reduceAdd, Nat.zero_add, List.range, List.range.loop]; exact rfl) ?_ | with_reducible refine GO.regionEnd ?_ | with_reducible refine GO.block ?_ | with_reducible refine GO.inBlock ?_ | with_reducible refine GO.label ?_ | with_reducible refine GO.ret ?_ | with_reducible refine GO.fin ?_ | with_reducible refine GO.exit (by with_unfolding_all rfl) ?_)
    refine GO.cond (t := false) (by simp [Act.eval]) (fun hc => by cases hc) (fun _ => ?_)
    repeat (first | with_reducible refine GO.seq ?_ | with_reducible refine GO.skip ?_ | with_reducible refine GO.region (by simp only [List.size_toArray, List.length_cons, List.length_nil, Nat.reduceAdd, Nat.zero_add, List.range, List.range.loop]; exact rfl) ?_ | with_reducible refine GO.regionEnd ?_ | with_reducible refine GO.block ?_ | with_reducible refine GO.inBlock ?_ | with_reducible refine GO.label ?_ | with_reducible refine GO.ret ?_ | with_reducible refine GO.fin ?_ | with_reducible refine GO.exit (by with_unfolding_all rfl) ?_)
    refine GO.opq rfl (by rfl) (by first | assumption | decide) (fun wQ hQ KQ kQ => ?_)
    go_simp
    refine kQ _ _ ⟨rfl, (by first | (simp [go_sem]; done) | (intro e he; exact absurd (show e ∈ (#[] : Array Event) from he) (by simp))), ?_⟩
    clear kQ KQ
    try clear hc0 hc1 hc2 hc3
    clear hQ wQ
    try walk_nrm
    refine GO.opq rfl (by rfl) (by first | assumption | decide) (fun wQ hQ KQ kQ => ?_)
    go_simp
    refine kQ _ _ ⟨rfl, (by first | (simp [go_sem]; done) | (intro e he; exact absurd (show e ∈ (#[] : Array Event) from he) (by simp))), ?_⟩
    clear kQ KQ
    try clear hc0 hc1 hc2 hc3
    clear hQ wQ
    try walk_nrm
    repeat (first | with_reducible refine GO.seq ?_ | with_reducible refine GO.skip ?_ | with_reducible refine GO.region (by simp only [List.size_toArray, List.length_cons, List.length_nil, Nat.reduceAdd, Nat.zero_add, List.range, List.range.loop]; exact rfl) ?_ | with_reducible refine GO.regionEnd ?_ | with_reducible refine GO.block ?_ | with_reducible refine GO.inBlock ?_ | with_reducible refine GO.label ?_ | with_reducible refine GO.ret ?_ | with_reducible refine GO.fin ?_ | with_reducible refine GO.exit (by with_unfolding_all rfl) ?_)
    refine GO.cond (t := true) (by simp [Act.eval]) (fun _ => ?_) (fun hc => by cases hc)
    repeat (first | with_reducible refine GO.seq ?_ | with_reducible refine GO.skip ?_ | with_reducible refine GO.region (by simp only [List.size_toArray, List.length_cons, List.length_nil, Nat.reduceAdd, Nat.zero_add, List.range, List.range.loop]; exact rfl) ?_ | with_reducible refine GO.regionEnd ?_ | with_reducible refine GO.block ?_ | with_reducible refine GO.inBlock ?_ | with_reducible refine GO.label ?_ | with_reducible refine GO.ret ?_ | with_reducible refine GO.fin ?_ | with_reducible refine GO.exit (by with_unfolding_all rfl) ?_)
    refine GO.opq rfl (by rfl) (by first | assumption | decide) (fun wQ hQ KQ kQ => ?_)
    go_simp
    refine kQ _ _ ⟨rfl, (by first | (simp [go_sem]; done) | (intro e he; exact absurd (show e ∈ (#[] : Array Event) from he) (by simp))), ?_⟩
    clear kQ KQ
    try clear hc0 hc1 hc2 hc3
    clear hQ wQ
    try walk_nrm
    refine GO.opq rfl (by rfl) (by first | assumption | decide) (fun wQ hQ KQ kQ => ?_)
    go_simp
    refine kQ _ _ ⟨rfl, (by first | (simp [go_sem]; done) | (intro e he; exact absurd (show e ∈ (#[] : Array Event) from he) (by simp))), ?_⟩
    clear kQ KQ
    try clear hc0 hc1 hc2 hc3
    clear hQ wQ
    try walk_nrm
    refine GO.opq rfl (by rfl) (by first | assumption | decide) (fun wQ hQ KQ kQ => ?_)
    go_simp
    refine kQ _ _ ⟨rfl, (by first | (simp [go_sem]; done) | (intro e he; exact absurd (show e ∈ (#[] : Array Event) from he) (by simp))), ?_⟩
    clear kQ KQ
    try clear hc0 hc1 hc2 hc3
    clear hQ wQ
    try walk_nrm
    refine GO.opq rfl (by rfl) (by first | assumption | decide) (fun wQ hQ KQ kQ => ?_)
    go_simp
    refine kQ _ _ ⟨rfl, (by first | (simp [go_sem]; done) | (intro e he; exact absurd (show e ∈ (#[] : Array Event) from he) (by simp))), ?_⟩
    clear kQ KQ
    try clear hc0 hc1 hc2 hc3
    clear hQ wQ
    try walk_nrm
    repeat (first | with_reducible refine GO.seq ?_ | with_reducible refine GO.skip ?_ | with_reducible refine GO.region (by simp only [List.size_toArray, List.length_cons, List.length_nil, Nat.reduceAdd, Nat.zero_add, List.range, List.range.loop]; exact rfl) ?_ | with_reducible refine GO.regionEnd ?_ | with_reducible refine GO.block ?_ | with_reducible refine GO.inBlock ?_ | with_reducible refine GO.label ?_ | with_reducible refine GO.ret ?_ | with_reducible refine GO.fin ?_ | with_reducible refine GO.exit (by with_unfolding_all rfl) ?_)
    refine GO.stop fun w hS => BW.ret1 Try.func5 (by kernel_rfl) rfl (fun v W' T d h => h.on v W' T d) ⟨rfl, hB4.trans hS.blw hB4.size⟩
  | true =>
    obtain ⟨hd, hx, ha, hs, hn⟩ := of_decide_eq_true hk
    obtain ⟨N, hN⟩ := Int.eq_ofNat_of_zero_le (show 0 ≤ n by omega)
    subst hN
    rw [show dvL x d a (N : Int) = tl a d x N by unfold dvL; rw [hk, Int.toNat_natCast]; rfl] at hv4
    clear hk
    refine BW.ofGO ?_ (Sat.start w4)
    refine GO.opq rfl (by rfl) (by first | assumption | decide) (fun wQ hQ KQ kQ => ?_)
    go_simp
    refine kQ _ _ ⟨rfl, (by first | (simp [go_sem]; done) | (intro e he; exact absurd (show e ∈ (#[] : Array Event) from he) (by simp))), ?_⟩
    clear kQ KQ
    try clear hc0 hc1 hc2 hc3
    clear hQ wQ
    try walk_nrm
    refine GO.opq rfl (by rfl) (by first | assumption | decide) (fun wQ hQ KQ kQ => ?_)
    go_simp
    refine kQ _ _ ⟨rfl, (by first | (simp [go_sem]; done) | (intro e he; exact absurd (show e ∈ (#[] : Array Event) from he) (by simp))), ?_⟩
    clear kQ KQ
    try clear hc0 hc1 hc2 hc3
    clear hQ wQ
    try walk_nrm
    refine GO.opq rfl (by rfl) (by first | assumption | decide) (fun wQ hQ KQ kQ => ?_)
    go_simp
    refine kQ _ _ ⟨rfl, (by first | (simp [go_sem]; done) | (intro e he; exact absurd (show e ∈ (#[] : Array Event) from he) (by simp))), ?_⟩
    clear kQ KQ
    try clear hc0 hc1 hc2 hc3
    clear hQ wQ
    try walk_nrm
    refine GO.opq rfl (by rfl) (by first | assumption | decide) (fun wQ hQ KQ kQ => ?_)
    go_simp
    refine kQ _ _ ⟨rfl, (by first | (simp [go_sem]; done) | (intro e he; exact absurd (show e ∈ (#[] : Array Event) from he) (by simp))), ?_⟩
    clear kQ KQ
    try clear hc0 hc1 hc2 hc3
    clear hQ wQ
    try walk_nrm
    refine GO.opq rfl (by rfl) (by first | assumption | decide) (fun wQ hQ KQ kQ => ?_)
    go_simp
    refine kQ _ _ ⟨rfl, (by first | (simp [go_sem]; done) | (intro e he; exact absurd (show e ∈ (#[] : Array Event) from he) (by simp))), ?_⟩
    clear kQ KQ
    try clear hc0 hc1 hc2 hc3
    clear hQ wQ
    try walk_nrm
    repeat (first | with_reducible refine GO.seq ?_ | with_reducible refine GO.skip ?_ | with_reducible refine GO.region (by simp only [List.size_toArray, List.length_cons, List.length_nil, Nat.reduceAdd, Nat.zero_add, List.range, List.range.loop]; exact rfl) ?_ | with_reducible refine GO.regionEnd ?_ | with_reducible refine GO.block ?_ | with_reducible refine GO.inBlock ?_ | with_reducible refine GO.label ?_ | with_reducible refine GO.ret ?_ | with_reducible refine GO.fin ?_ | with_reducible refine GO.exit (by with_unfolding_all rfl) ?_)
    refine GO.opq rfl (by rfl) (by first | assumption | decide) (fun wQ hQ KQ kQ => ?_)
    go_simp
    refine kQ _ _ ⟨rfl, (by first | (simp [go_sem]; done) | (intro e he; exact absurd (show e ∈ (#[] : Array Event) from he) (by simp))), ?_⟩
    clear kQ KQ
    try clear hc0 hc1 hc2 hc3
    clear hQ wQ
    try walk_nrm
    refine GO.opq rfl (by rfl) (by first | assumption | decide) (fun wQ hQ KQ kQ => ?_)
    go_simp
    refine kQ _ _ ⟨rfl, (by first | (simp [go_sem]; done) | (intro e he; exact absurd (show e ∈ (#[] : Array Event) from he) (by simp))), ?_⟩
    clear kQ KQ
    try clear hc0 hc1 hc2 hc3
    clear hQ wQ
    try walk_nrm
    refine GO.opq rfl (by rfl) (by first | assumption | decide) (fun wQ hQ KQ kQ => ?_)
    go_simp
    refine kQ _ _ ⟨rfl, (by first | (simp [go_sem]; done) | (intro e he; exact absurd (show e ∈ (#[] : Array Event) from he) (by simp))), ?_⟩
    clear kQ KQ
    try clear hc0 hc1 hc2 hc3
    clear hQ wQ
    try walk_nrm
    repeat (first | with_reducible refine GO.seq ?_ | with_reducible refine GO.skip ?_ | with_reducible refine GO.region (by simp only [List.size_toArray, List.length_cons, List.length_nil, Nat.reduceAdd, Nat.zero_add, List.range, List.range.loop]; exact rfl) ?_ | with_reducible refine GO.regionEnd ?_ | with_reducible refine GO.block ?_ | with_reducible refine GO.inBlock ?_ | with_reducible refine GO.label ?_ | with_reducible refine GO.ret ?_ | with_reducible refine GO.fin ?_ | with_reducible refine GO.exit (by with_unfolding_all rfl) ?_)
    refine GO.cond (t := false) (by simp [Act.eval]) (fun hc => by cases hc) (fun _ => ?_)
    repeat (first | with_reducible refine GO.seq ?_ | with_reducible refine GO.skip ?_ | with_reducible refine GO.region (by simp only [List.size_toArray, List.length_cons, List.length_nil, Nat.reduceAdd, Nat.zero_add, List.range, List.range.loop]; exact rfl) ?_ | with_reducible refine GO.regionEnd ?_ | with_reducible refine GO.block ?_ | with_reducible refine GO.inBlock ?_ | with_reducible refine GO.label ?_ | with_reducible refine GO.ret ?_ | with_reducible refine GO.fin ?_ | with_reducible refine GO.exit (by with_unfolding_all rfl) ?_)
    refine GO.opq rfl (by rfl) (by first | assumption | decide) (fun wQ hQ KQ kQ => ?_)
    go_simp
    refine kQ _ _ ⟨rfl, (by first | (simp [go_sem]; done) | (intro e he; exact absurd (show e ∈ (#[] : Array Event) from he) (by simp))), ?_⟩
    clear kQ KQ
    try clear hc0 hc1 hc2 hc3
    clear hQ wQ
    try walk_nrm
    refine GO.opq rfl (by rfl) (by first | assumption | decide) (fun wQ hQ KQ kQ => ?_)
    go_simp
    refine kQ _ _ ⟨rfl, (by first | (simp [go_sem]; done) | (intro e he; exact absurd (show e ∈ (#[] : Array Event) from he) (by simp))), ?_⟩
    clear kQ KQ
    try clear hc0 hc1 hc2 hc3
    clear hQ wQ
    try walk_nrm
    repeat (first | with_reducible refine GO.seq ?_ | with_reducible refine GO.skip ?_ | with_reducible refine GO.region (by simp only [List.size_toArray, List.length_cons, List.length_nil, Nat.reduceAdd, Nat.zero_add, List.range, List.range.loop]; exact rfl) ?_ | with_reducible refine GO.regionEnd ?_ | with_reducible refine GO.block ?_ | with_reducible refine GO.inBlock ?_ | with_reducible refine GO.label ?_ | with_reducible refine GO.ret ?_ | with_reducible refine GO.fin ?_ | with_reducible refine GO.exit (by with_unfolding_all rfl) ?_)
    refine GO.cond (t := false) (by simp [Act.eval]) (fun hc => by cases hc) (fun _ => ?_)
    repeat (first | with_reducible refine GO.seq ?_ | with_reducible refine GO.skip ?_ | with_reducible refine GO.region (by simp only [List.size_toArray, List.length_cons, List.length_nil, Nat.reduceAdd, Nat.zero_add, List.range, List.range.loop]; exact rfl) ?_ | with_reducible refine GO.regionEnd ?_ | with_reducible refine GO.block ?_ | with_reducible refine GO.inBlock ?_ | with_reducible refine GO.label ?_ | with_reducible refine GO.ret ?_ | with_reducible refine GO.fin ?_ | with_reducible refine GO.exit (by with_unfolding_all rfl) ?_)
    refine GO.opq rfl (by rfl) (by first | assumption | decide) (fun wQ hQ KQ kQ => ?_)
    go_simp
    refine kQ _ _ ⟨rfl, (by first | (simp [go_sem]; done) | (intro e he; exact absurd (show e ∈ (#[] : Array Event) from he) (by simp))), ?_⟩
    clear kQ KQ
    try clear hc0 hc1 hc2 hc3
    clear hQ wQ
    try walk_nrm
    refine GO.opq rfl (by rfl) (by first | assumption | decide) (fun wQ hQ KQ kQ => ?_)
    go_simp
    refine kQ _ _ ⟨rfl, (by first | (simp [go_sem]; done) | (intro e he; exact absurd (show e ∈ (#[] : Array Event) from he) (by simp))), ?_⟩
    clear kQ KQ
    try clear hc0 hc1 hc2 hc3
    clear hQ wQ
    try walk_nrm
    refine GO.regionEnd ?_
    refine GO.seq ?_
    refine GO.stop fun w hS => ?_
    have hB5 : Blw W.heap.size W w := hB4.trans hS.blw hB4.size
    have hv5 : Hid (HasT w 0 v (tl a d x N)) := hv4.out.blw hS.blw (Nat.le_refl _)
    clear hS hv4 hB4
    refine BW.code lone_ok (by kernel_rfl) (Q := dvQ x d N v (ws a d x N)) (fun T dd => ?_) (fun W e a' w' h => ⟨.inl h.1, by obtain ⟨-, -, _, rfl⟩ := h; rfl⟩) (fun T dd y w' h => ?_) (fun T dd y w' todo h => by cases h.1)
    · have hv6 : HasT (w.on T dd) 0 v (tl a d x N) := hv5.out.blw ((Blw.refl _ _).onR T dd) (Nat.le_refl _)
      generalize w.on T dd = w6 at *
      obtain ⟨aa, ca, rfl, hg⟩ := hv6.form
      have hlen : (tl a d x N).length = N := tl_len a d x N
      rw [hlen] at hg ⊢
      have HG : Hid (0 < N → ∃ g, aa = some ⟨g, 0, none⟩ ∧ g < w6.heap.size ∧ (∀ i p, (tl a d x N)[i]? = some p → w6.cell? ⟨g, i * 2, none⟩ = some (.int .i64 p.1) ∧ w6.cell? ⟨g, i * 2 + 1, none⟩ = some (.int .i64 p.2))) := hg
      have HA : Hid (∀ j, j < N → (tl a d x N)[j]? = some (dgt a d (ws a d x j), ws a d x (j + 1))) := fun j hj => tl_at a d x N j hj
      have HT : Hid (∀ j, (-100000000 ≤ ws a d x j ∧ ws a d x j ≤ 100000000) ∧ (-a ≤ dgt a d (ws a d x j) ∧ dgt a d (ws a d x j) ≤ a) ∧ 10 * ws a d x j - dgt a d (ws a d x j) * d = ws a d x (j + 1) ∧ (9 * ws a d x (j + 1) ≤ a * d ∧ -(a * d) ≤ 9 * ws a d x (j + 1)) ∧ (-900000000 ≤ dgt a d (ws a d x j) * d ∧ dgt a d (ws a d x j) * d ≤ 900000000) ∧ (0 ≤ a * d ∧ a * d ≤ 900000000)) := fun j => turn_told a d x N j hd ha hx.1 hs
      have H0 : Hid (ws a d x 0 = x) := rfl
      clear hv6 hv5 hg hlen hB5
      go_wp2
      go_loop [11, 12] (fun s i => ∃ j : Nat, j ≤ N ∧ s = .int .i64 (ws a d x j) ∧ i = .int .i64 (j : Int)) (fun _ i => N - (intOf i).toNat)
      case atStart => exact ⟨0, Nat.zero_le _, Ln.val_int H0.out.symm, rfl⟩
      case round =>
        obtain ⟨j, hj, rfl, rfl⟩ := hrel
        by_cases hlt : j < N
        · have hlt' : (j : Int) < (N : Int) := by omega
          obtain ⟨g, rfl, hgl, hc0⟩ := HG.out (by omega)
          have hca := (hc0 j _ (HA.out j hlt)).1
          have hcb := (hc0 j _ (HA.out j hlt)).2
          obtain ⟨b1, b2, b3, b4, b5, b6⟩ := HT.out j
          dsimp only at hca hcb
          obtain ⟨M, hM⟩ : ∃ M, a * d = M := ⟨_, rfl⟩
          obtain ⟨q, hq⟩ : ∃ q, dgt a d (ws a d x j) = q := ⟨_, rfl⟩
          obtain ⟨s', hs'⟩ : ∃ s', ws a d x (j + 1) = s' := ⟨_, rfl⟩
          rw [hq] at hca b2 b3 b5
          rw [hs'] at hcb b3 b4
          rw [hM] at b4 b6
          have HS' : Hid (ws a d x (j + 1) = s') := hs'
          clear hs' hq hc0
          generalize ws a d x j = s at *
          obtain ⟨m, hm⟩ : ∃ m, q * d = m := ⟨_, rfl⟩
          rw [hm] at b3 b5
          have c1 : ¬ a < q := by omega
          have c2 : ¬ q < -a := by omega
          by_cases hneg : s' < 0
          · have c3 : ¬ M < 9 * (-s') := by omega
            go_wp2
            go_round
            case rel => exact ⟨j + 1, by omega, Ln.val_int HS'.out.symm, by go_num⟩
            case measure => simp [intOf]; omega
          · have c3 : ¬ M < 9 * s' := by omega
            go_wp2
            go_round
            case rel => exact ⟨j + 1, by omega, Ln.val_int HS'.out.symm, by go_num⟩
            case measure => simp [intOf]; omega
        · obtain rfl : j = N := by omega
          have hnl : ¬ ((j : Int) < (j : Int)) := by omega
          go_wp2
          exact ⟨rfl, rfl, keepF (by kernel_rfl)⟩
    · obtain ⟨-, hw, f, e⟩ := h
      injection e with e
      subst e
      obtain rfl := hw
      have hB6 : Blw W.heap.size W (w.on T dd) := hB5.onR T dd
      have hv6 : Hid (HasT (w.on T dd) 0 v (tl a d x N)) := hv5.out.blw ((Blw.refl _ _).onR T dd) (Nat.le_refl _)
      clear hv5 hB5
      generalize w.on T dd = w6 at *
      clear w
      obtain ⟨aa, ca, rfl, -⟩ := hv6.out.form
      rw [tl_len] at hv6 ⊢
      have HW : Hid (1 ≤ N → x < d → (mok (tl a d x N) d = true → mdL (tl a d x N) d = ql d x N ∧ mdR (tl a d x N) d = qx d x N) ∧ (mok (tl a d x N) d = false → ws a d x N = d ∨ ws a d x N = -d)) := fun h1 h2 => md_same a d x N ⟨h1, by omega⟩ hd ha.1 ha.2 hx.1 hs h2
      have HQ : Hid (1 ≤ N → x < d → quo x d (N : Int) = true) := fun h1 h2 => decide_eq_true ⟨hd, ⟨hx.1, by omega⟩, by omega⟩
      clear hs
      generalize ws a d x N = s at *
      refine BW.ofGO ?_ (Sat.start w6)
      repeat (first | with_reducible refine GO.seq ?_ | with_reducible refine GO.skip ?_ | with_reducible refine GO.region (by simp only [List.size_toArray, List.length_cons, List.length_nil, Nat.reduceAdd, Nat.zero_add, List.range, List.range.loop]; exact rfl) ?_ | with_reducible refine GO.regionEnd ?_ | with_reducible refine GO.block ?_ | with_reducible refine GO.inBlock ?_ | with_reducible refine GO.label ?_ | with_reducible refine GO.ret ?_ | with_reducible refine GO.fin ?_ | with_reducible refine GO.exit (by with_unfolding_all rfl) ?_)
      refine GO.opq rfl (by rfl) (by first | assumption | decide) (fun wQ hQ KQ kQ => ?_)
      go_simp
      refine kQ _ _ ⟨rfl, (by first | (simp [go_sem]; done) | (intro e he; exact absurd (show e ∈ (#[] : Array Event) from he) (by simp))), ?_⟩
      clear kQ KQ
      try clear hc0 hc1 hc2 hc3
      clear hQ wQ
      try walk_nrm
      refine GO.opq rfl (by rfl) (by first | assumption | decide) (fun wQ hQ KQ kQ => ?_)
      go_simp
      refine kQ _ _ ⟨rfl, (by first | (simp [go_sem]; done) | (intro e he; exact absurd (show e ∈ (#[] : Array Event) from he) (by simp))), ?_⟩
      clear kQ KQ
      try clear hc0 hc1 hc2 hc3
      clear hQ wQ
      try walk_nrm
      refine GO.opq rfl (by rfl) (by first | assumption | decide) (fun wQ hQ KQ kQ => ?_)
      go_simp
      refine kQ _ _ ⟨rfl, (by first | (simp [go_sem]; done) | (intro e he; exact absurd (show e ∈ (#[] : Array Event) from he) (by simp))), ?_⟩
      clear kQ KQ
      try clear hc0 hc1 hc2 hc3
      clear hQ wQ
      try walk_nrm
      refine GO.opq rfl (by rfl) (by first | assumption | decide) (fun wQ hQ KQ kQ => ?_)
      go_simp
      refine kQ _ _ ⟨rfl, (by first | (simp [go_sem]; done) | (intro e he; exact absurd (show e ∈ (#[] : Array Event) from he) (by simp))), ?_⟩
      clear kQ KQ
      try clear hc0 hc1 hc2 hc3
      clear hQ wQ
      try walk_nrm
      repeat (first | with_reducible refine GO.seq ?_ | with_reducible refine GO.skip ?_ | with_reducible refine GO.region (by simp only [List.size_toArray, List.length_cons, List.length_nil, Nat.reduceAdd, Nat.zero_add, List.range, List.range.loop]; exact rfl) ?_ | with_reducible refine GO.regionEnd ?_ | with_reducible refine GO.block ?_ | with_reducible refine GO.inBlock ?_ | with_reducible refine GO.label ?_ | with_reducible refine GO.ret ?_ | with_reducible refine GO.fin ?_ | with_reducible refine GO.exit (by with_unfolding_all rfl) ?_)
      refine GO.cond (t := false) (by simp [Act.eval]) (fun hc => by cases hc) (fun _ => ?_)
      repeat (first | with_reducible refine GO.seq ?_ | with_reducible refine GO.skip ?_ | with_reducible refine GO.region (by simp only [List.size_toArray, List.length_cons, List.length_nil, Nat.reduceAdd, Nat.zero_add, List.range, List.range.loop]; exact rfl) ?_ | with_reducible refine GO.regionEnd ?_ | with_reducible refine GO.block ?_ | with_reducible refine GO.inBlock ?_ | with_reducible refine GO.label ?_ | with_reducible refine GO.ret ?_ | with_reducible refine GO.fin ?_ | with_reducible refine GO.exit (by with_unfolding_all rfl) ?_)
      by_cases hz : N = 0
      · refine GO.opq rfl (by rfl) (by first | assumption | decide) (fun wQ hQ KQ kQ => ?_)
        go_simp
        refine kQ _ _ ⟨rfl, (by first | (simp [go_sem]; done) | (intro e he; exact absurd (show e ∈ (#[] : Array Event) from he) (by simp))), ?_⟩
        clear kQ KQ
        try clear hc0 hc1 hc2 hc3
        clear hQ wQ
        try walk_nrm
        refine GO.opq rfl (by rfl) (by first | assumption | decide) (fun wQ hQ KQ kQ => ?_)
        go_simp
        refine kQ _ _ ⟨rfl, (by first | (simp [go_sem]; done) | (intro e he; exact absurd (show e ∈ (#[] : Array Event) from he) (by simp))), ?_⟩
        clear kQ KQ
        try clear hc0 hc1 hc2 hc3
        clear hQ wQ
        try walk_nrm
        refine GO.opq rfl (by rfl) (by first | assumption | decide) (fun wQ hQ KQ kQ => ?_)
        go_simp
        refine kQ _ _ ⟨rfl, (by first | (simp [go_sem]; done) | (intro e he; exact absurd (show e ∈ (#[] : Array Event) from he) (by simp))), ?_⟩
        clear kQ KQ
        try clear hc0 hc1 hc2 hc3
        clear hQ wQ
        try walk_nrm
        refine GO.unw rfl (by rfl) ?_
        refine GO.unw rfl (by rfl) ?_
        refine GO.unw rfl (by rfl) ?_
        refine GO.opq rfl (by rfl) (by first | assumption | decide) (fun wQ hQ KQ kQ => ?_)
        go_simp
        refine kQ _ _ ⟨rfl, (by first | (simp [go_sem]; done) | (intro e he; exact absurd (show e ∈ (#[] : Array Event) from he) (by simp))), ?_⟩
        clear kQ KQ
        try clear hc0 hc1 hc2 hc3
        clear hQ wQ
        try walk_nrm
        repeat (first | with_reducible refine GO.seq ?_ | with_reducible refine GO.skip ?_ | with_reducible refine GO.region (by simp only [List.size_toArray, List.length_cons, List.length_nil, Nat.reduceAdd, Nat.zero_add, List.range, List.range.loop]; exact rfl) ?_ | with_reducible refine GO.regionEnd ?_ | with_reducible refine GO.block ?_ | with_reducible refine GO.inBlock ?_ | with_reducible refine GO.label ?_ | with_reducible refine GO.ret ?_ | with_reducible refine GO.fin ?_ | with_reducible refine GO.exit (by with_unfolding_all rfl) ?_)
        refine GO.cond (t := true) (by simp [Act.eval]) (fun _ => ?_) (fun hc => by cases hc)
        repeat (first | with_reducible refine GO.seq ?_ | with_reducible refine GO.skip ?_ | with_reducible refine GO.region (by simp only [List.size_toArray, List.length_cons, List.length_nil, Nat.reduceAdd, Nat.zero_add, List.range, List.range.loop]; exact rfl) ?_ | with_reducible refine GO.regionEnd ?_ | with_reducible refine GO.block ?_ | with_reducible refine GO.inBlock ?_ | with_reducible refine GO.label ?_ | with_reducible refine GO.ret ?_ | with_reducible refine GO.fin ?_ | with_reducible refine GO.exit (by with_unfolding_all rfl) ?_)
        refine GO.opq rfl (by rfl) (by first | assumption | decide) (fun wQ hQ KQ kQ => ?_)
        go_simp
        refine kQ _ _ ⟨rfl, (by first | (simp [go_sem]; done) | (intro e he; exact absurd (show e ∈ (#[] : Array Event) from he) (by simp))), ?_⟩
        clear kQ KQ
        try clear hc0 hc1 hc2 hc3
        clear hQ wQ
        try walk_nrm
        repeat (first | with_reducible refine GO.seq ?_ | with_reducible refine GO.skip ?_ | with_reducible refine GO.region (by simp only [List.size_toArray, List.length_cons, List.length_nil, Nat.reduceAdd, Nat.zero_add, List.range, List.range.loop]; exact rfl) ?_ | with_reducible refine GO.regionEnd ?_ | with_reducible refine GO.block ?_ | with_reducible refine GO.inBlock ?_ | with_reducible refine GO.label ?_ | with_reducible refine GO.ret ?_ | with_reducible refine GO.fin ?_ | with_reducible refine GO.exit (by with_unfolding_all rfl) ?_)
        refine GO.stop fun w hS => BW.ret1 Try.func5 (by kernel_rfl) rfl (fun v W' T d h => h.on v W' T d) ⟨rfl, hB6.trans hS.blw hB6.size⟩
      have hzb : ((N : Int) == 0) = false := beq_eq_false_iff_ne.mpr (by omega)
      by_cases hxd : d ≤ x
      · refine GO.opq rfl (by rfl) (by first | assumption | decide) (fun wQ hQ KQ kQ => ?_)
        go_simp
        refine kQ _ _ ⟨rfl, (by first | (simp [go_sem]; done) | (intro e he; exact absurd (show e ∈ (#[] : Array Event) from he) (by simp))), ?_⟩
        clear kQ KQ
        try clear hc0 hc1 hc2 hc3
        clear hQ wQ
        try walk_nrm
        refine GO.opq rfl (by rfl) (by first | assumption | decide) (fun wQ hQ KQ kQ => ?_)
        go_simp
        refine kQ _ _ ⟨rfl, (by first | (simp [go_sem]; done) | (intro e he; exact absurd (show e ∈ (#[] : Array Event) from he) (by simp))), ?_⟩
        clear kQ KQ
        try clear hc0 hc1 hc2 hc3
        clear hQ wQ
        try walk_nrm
        try simp only [hzb]
        refine GO.opq rfl (by rfl) (by first | assumption | decide) (fun wQ hQ KQ kQ => ?_)
        go_simp
        refine kQ _ _ ⟨rfl, (by first | (simp [go_sem]; done) | (intro e he; exact absurd (show e ∈ (#[] : Array Event) from he) (by simp))), ?_⟩
        clear kQ KQ
        try clear hc0 hc1 hc2 hc3
        clear hQ wQ
        try walk_nrm
        refine GO.opq rfl (by rfl) (by first | assumption | decide) (fun wQ hQ KQ kQ => ?_)
        go_simp
        refine kQ _ _ ⟨rfl, (by first | (simp [go_sem]; done) | (intro e he; exact absurd (show e ∈ (#[] : Array Event) from he) (by simp))), ?_⟩
        clear kQ KQ
        try clear hc0 hc1 hc2 hc3
        clear hQ wQ
        try walk_nrm
        refine GO.opq rfl (by rfl) (by first | assumption | decide) (fun wQ hQ KQ kQ => ?_)
        go_simp
        refine kQ _ _ ⟨rfl, (by first | (simp [go_sem]; done) | (intro e he; exact absurd (show e ∈ (#[] : Array Event) from he) (by simp))), ?_⟩
        clear kQ KQ
        try clear hc0 hc1 hc2 hc3
        clear hQ wQ
        try walk_nrm
        refine GO.opq rfl (by rfl) (by first | assumption | decide) (fun wQ hQ KQ kQ => ?_)
        go_simp
        refine kQ _ _ ⟨rfl, (by first | (simp [go_sem]; done) | (intro e he; exact absurd (show e ∈ (#[] : Array Event) from he) (by simp))), ?_⟩
        clear kQ KQ
        try clear hc0 hc1 hc2 hc3
        clear hQ wQ
        try walk_nrm
        refine GO.opq rfl (by rfl) (by first | assumption | decide) (fun wQ hQ KQ kQ => ?_)
        go_simp
        refine kQ _ _ ⟨rfl, (by first | (simp [go_sem]; done) | (intro e he; exact absurd (show e ∈ (#[] : Array Event) from he) (by simp))), ?_⟩
        clear kQ KQ
        try clear hc0 hc1 hc2 hc3
        clear hQ wQ
        try walk_nrm
        repeat (first | with_reducible refine GO.seq ?_ | with_reducible refine GO.skip ?_ | with_reducible refine GO.region (by simp only [List.size_toArray, List.length_cons, List.length_nil, Nat.reduceAdd, Nat.zero_add, List.range, List.range.loop]; exact rfl) ?_ | with_reducible refine GO.regionEnd ?_ | with_reducible refine GO.block ?_ | with_reducible refine GO.inBlock ?_ | with_reducible refine GO.label ?_ | with_reducible refine GO.ret ?_ | with_reducible refine GO.fin ?_ | with_reducible refine GO.exit (by with_unfolding_all rfl) ?_)
        refine GO.cond (t := true) (by simp [Act.eval, hz, hxd]) (fun _ => ?_) (fun hc => by cases hc)
        repeat (first | with_reducible refine GO.seq ?_ | with_reducible refine GO.skip ?_ | with_reducible refine GO.region (by simp only [List.size_toArray, List.length_cons, List.length_nil, Nat.reduceAdd, Nat.zero_add, List.range, List.range.loop]; exact rfl) ?_ | with_reducible refine GO.regionEnd ?_ | with_reducible refine GO.block ?_ | with_reducible refine GO.inBlock ?_ | with_reducible refine GO.label ?_ | with_reducible refine GO.ret ?_ | with_reducible refine GO.fin ?_ | with_reducible refine GO.exit (by with_unfolding_all rfl) ?_)
        refine GO.opq rfl (by rfl) (by first | assumption | decide) (fun wQ hQ KQ kQ => ?_)
        go_simp
        refine kQ _ _ ⟨rfl, (by first | (simp [go_sem]; done) | (intro e he; exact absurd (show e ∈ (#[] : Array Event) from he) (by simp))), ?_⟩
        clear kQ KQ
        try clear hc0 hc1 hc2 hc3
        clear hQ wQ
        try walk_nrm
        repeat (first | with_reducible refine GO.seq ?_ | with_reducible refine GO.skip ?_ | with_reducible refine GO.region (by simp only [List.size_toArray, List.length_cons, List.length_nil, Nat.reduceAdd, Nat.zero_add, List.range, List.range.loop]; exact rfl) ?_ | with_reducible refine GO.regionEnd ?_ | with_reducible refine GO.block ?_ | with_reducible refine GO.inBlock ?_ | with_reducible refine GO.label ?_ | with_reducible refine GO.ret ?_ | with_reducible refine GO.fin ?_ | with_reducible refine GO.exit (by with_unfolding_all rfl) ?_)
        refine GO.stop fun w hS => BW.ret1 Try.func5 (by kernel_rfl) rfl (fun v W' T d h => h.on v W' T d) ⟨rfl, hB6.trans hS.blw hB6.size⟩
      refine GO.opq rfl (by rfl) (by first | assumption | decide) (fun wQ hQ KQ kQ => ?_)
      go_simp
      refine kQ _ _ ⟨rfl, (by first | (simp [go_sem]; done) | (intro e he; exact absurd (show e ∈ (#[] : Array Event) from he) (by simp))), ?_⟩
      clear kQ KQ
      try clear hc0 hc1 hc2 hc3
      clear hQ wQ
      try walk_nrm
      refine GO.opq rfl (by rfl) (by first | assumption | decide) (fun wQ hQ KQ kQ => ?_)
      go_simp
      refine kQ _ _ ⟨rfl, (by first | (simp [go_sem]; done) | (intro e he; exact absurd (show e ∈ (#[] : Array Event) from he) (by simp))), ?_⟩
      clear kQ KQ
      try clear hc0 hc1 hc2 hc3
      clear hQ wQ
      try walk_nrm
      try simp only [hzb]
      refine GO.opq rfl (by rfl) (by first | assumption | decide) (fun wQ hQ KQ kQ => ?_)
      go_simp
      refine kQ _ _ ⟨rfl, (by first | (simp [go_sem]; done) | (intro e he; exact absurd (show e ∈ (#[] : Array Event) from he) (by simp))), ?_⟩
      clear kQ KQ
      try clear hc0 hc1 hc2 hc3
      clear hQ wQ
      try walk_nrm
      refine GO.opq rfl (by rfl) (by first | assumption | decide) (fun wQ hQ KQ kQ => ?_)
      go_simp
      refine kQ _ _ ⟨rfl, (by first | (simp [go_sem]; done) | (intro e he; exact absurd (show e ∈ (#[] : Array Event) from he) (by simp))), ?_⟩
      clear kQ KQ
      try clear hc0 hc1 hc2 hc3
      clear hQ wQ
      try walk_nrm
      refine GO.opq rfl (by rfl) (by first | assumption | decide) (fun wQ hQ KQ kQ => ?_)
      go_simp
      refine kQ _ _ ⟨rfl, (by first | (simp [go_sem]; done) | (intro e he; exact absurd (show e ∈ (#[] : Array Event) from he) (by simp))), ?_⟩
      clear kQ KQ
      try clear hc0 hc1 hc2 hc3
      clear hQ wQ
      try walk_nrm
      refine GO.opq rfl (by rfl) (by first | assumption | decide) (fun wQ hQ KQ kQ => ?_)
      go_simp
      refine kQ _ _ ⟨rfl, (by first | (simp [go_sem]; done) | (intro e he; exact absurd (show e ∈ (#[] : Array Event) from he) (by simp))), ?_⟩
      clear kQ KQ
      try clear hc0 hc1 hc2 hc3
      clear hQ wQ
      try walk_nrm
      refine GO.opq rfl (by rfl) (by first | assumption | decide) (fun wQ hQ KQ kQ => ?_)
      go_simp
      refine kQ _ _ ⟨rfl, (by first | (simp [go_sem]; done) | (intro e he; exact absurd (show e ∈ (#[] : Array Event) from he) (by simp))), ?_⟩
      clear kQ KQ
      try clear hc0 hc1 hc2 hc3
      clear hQ wQ
      try walk_nrm
      repeat (first | with_reducible refine GO.seq ?_ | with_reducible refine GO.skip ?_ | with_reducible refine GO.region (by simp only [List.size_toArray, List.length_cons, List.length_nil, Nat.reduceAdd, Nat.zero_add, List.range, List.range.loop]; exact rfl) ?_ | with_reducible refine GO.regionEnd ?_ | with_reducible refine GO.block ?_ | with_reducible refine GO.inBlock ?_ | with_reducible refine GO.label ?_ | with_reducible refine GO.ret ?_ | with_reducible refine GO.fin ?_ | with_reducible refine GO.exit (by with_unfolding_all rfl) ?_)
      refine GO.cond (t := false) (by simp [Act.eval, hz, hxd]) (fun hc => by cases hc) (fun _ => ?_)
      have hW := HW.out (by omega) (by omega)
      have hQ0 := HQ.out (by omega) (by omega)
      have e1 : quR x d (N : Int) = qx d x N := by unfold quR; rw [hQ0, Int.toNat_natCast]; rfl
      have e2 : quL x d (N : Int) = ql d x N := by unfold quL; rw [hQ0, Int.toNat_natCast]; rfl
      have HM : Hid ((mok (tl a d x N) d = true → mdL (tl a d x N) d = ql d x N ∧ mdR (tl a d x N) d = qx d x N) ∧ (mok (tl a d x N) d = false → s = d ∨ s = -d)) := hW
      have HE : Hid (quR x d (N : Int) = qx d x N ∧ quL x d (N : Int) = ql d x N ∧ quo x d (N : Int) = true) := ⟨e1, e2, hQ0⟩
      clear HW HQ hW hQ0 e1 e2 hz hzb hxd
      repeat (first | with_reducible refine GO.seq ?_ | with_reducible refine GO.skip ?_ | with_reducible refine GO.region (by simp only [List.size_toArray, List.length_cons, List.length_nil, Nat.reduceAdd, Nat.zero_add, List.range, List.range.loop]; exact rfl) ?_ | with_reducible refine GO.regionEnd ?_ | with_reducible refine GO.block ?_ | with_reducible refine GO.inBlock ?_ | with_reducible refine GO.label ?_ | with_reducible refine GO.ret ?_ | with_reducible refine GO.fin ?_ | with_reducible refine GO.exit (by with_unfolding_all rfl) ?_)
      refine GO.opq rfl (by rfl) (by first | assumption | decide) (fun wQ hQ KQ kQ => ?_)
      go_simp
      refine kQ _ _ ⟨rfl, (by first | (simp [go_sem]; done) | (intro e he; exact absurd (show e ∈ (#[] : Array Event) from he) (by simp))), ?_⟩
      clear kQ KQ
      try clear hc0 hc1 hc2 hc3
      clear hQ wQ
      try walk_nrm
      refine GO.opq rfl (by rfl) (by first | assumption | decide) (fun wQ hQ KQ kQ => ?_)
      go_simp
      refine kQ _ _ ⟨rfl, (by first | (simp [go_sem]; done) | (intro e he; exact absurd (show e ∈ (#[] : Array Event) from he) (by simp))), ?_⟩
      clear kQ KQ
      try clear hc0 hc1 hc2 hc3
      clear hQ wQ
      try walk_nrm
      refine GO.lone lone_ok (vs := #[.slice aa N ca, .int .i64 d]) rfl (by rfl) rfl Try.func19 (by kernel_rfl) rfl (by simp [Act.eval]) (by kernel_rfl) (by kernel_rfl) (fun w hS => iMended_any (.slice aa N ca) (tl a d x N) d 0 w (hv6.out.blw hS.blw (Nat.le_refl _)) (by rw [tl_len]; omega) (by omega)) (fun W e w' ⟨v, h, _⟩ => ⟨_, h⟩) (fun w r w7 hS hR => ?_)
      obtain ⟨u, hr, hu7, hb7⟩ := hR
      have hB7 : Blw W.heap.size W w7 := (hB6.trans hS.blw hB6.size).trans (Blw.of hb7) (Nat.le_trans hB6.size hS.size)
      replace hu7 := hid (hu7.down (Nat.zero_le _))
      cases hr
      clear hS hb7 hB6 hv6 w
      obtain ⟨r0, hr0⟩ : ∃ r0, mdR (tl a d x N) d = r0 := ⟨_, rfl⟩
      obtain ⟨o0, ho0⟩ : ∃ o0, mok (tl a d x N) d = o0 := ⟨_, rfl⟩
      have HR : Hid (mdR (tl a d x N) d = r0 ∧ mok (tl a d x N) d = o0) := ⟨hr0, ho0⟩
      rw [hr0, ho0]
      clear hr0 ho0
      walk_nrm
      refine BW.ofGO ?_ (Sat.start w7)
      refine GO.opq rfl (by rfl) (by first | assumption | decide) (fun wQ hQ KQ kQ => ?_)
      go_simp
      refine kQ _ _ ⟨rfl, (by first | (simp [go_sem]; done) | (intro e he; exact absurd (show e ∈ (#[] : Array Event) from he) (by simp))), ?_⟩
      clear kQ KQ
      try clear hc0 hc1 hc2 hc3
      clear hQ wQ
      try walk_nrm
      refine GO.opq rfl (by rfl) (by first | assumption | decide) (fun wQ hQ KQ kQ => ?_)
      go_simp
      refine kQ _ _ ⟨rfl, (by first | (simp [go_sem]; done) | (intro e he; exact absurd (show e ∈ (#[] : Array Event) from he) (by simp))), ?_⟩
      clear kQ KQ
      try clear hc0 hc1 hc2 hc3
      clear hQ wQ
      try walk_nrm
      refine GO.opq rfl (by rfl) (by first | assumption | decide) (fun wQ hQ KQ kQ => ?_)
      go_simp
      refine kQ _ _ ⟨rfl, (by first | (simp [go_sem]; done) | (intro e he; exact absurd (show e ∈ (#[] : Array Event) from he) (by simp))), ?_⟩
      clear kQ KQ
      try clear hc0 hc1 hc2 hc3
      clear hQ wQ
      try walk_nrm
      refine GO.opq rfl (by rfl) (by first | assumption | decide) (fun wQ hQ KQ kQ => ?_)
      go_simp
      refine kQ _ _ ⟨rfl, (by first | (simp [go_sem]; done) | (intro e he; exact absurd (show e ∈ (#[] : Array Event) from he) (by simp))), ?_⟩
      clear kQ KQ
      try clear hc0 hc1 hc2 hc3
      clear hQ wQ
      try walk_nrm
      refine GO.opq rfl (by rfl) (by first | assumption | decide) (fun wQ hQ KQ kQ => ?_)
      go_simp
      refine kQ _ _ ⟨rfl, (by first | (simp [go_sem]; done) | (intro e he; exact absurd (show e ∈ (#[] : Array Event) from he) (by simp))), ?_⟩
      clear kQ KQ
      try clear hc0 hc1 hc2 hc3
      clear hQ wQ
      try walk_nrm
      refine GO.opq rfl (by rfl) (by first | assumption | decide) (fun wQ hQ KQ kQ => ?_)
      go_simp
      refine kQ _ _ ⟨rfl, (by first | (simp [go_sem]; done) | (intro e he; exact absurd (show e ∈ (#[] : Array Event) from he) (by simp))), ?_⟩
      clear kQ KQ
      try clear hc0 hc1 hc2 hc3
      clear hQ wQ
      try walk_nrm
      refine GO.opq rfl (by rfl) (by first | assumption | decide) (fun wQ hQ KQ kQ => ?_)
      go_simp
      refine kQ _ _ ⟨rfl, (by first | (simp [go_sem]; done) | (intro e he; exact absurd (show e ∈ (#[] : Array Event) from he) (by simp))), ?_⟩
      clear kQ KQ
      try clear hc0 hc1 hc2 hc3
      clear hQ wQ
      try walk_nrm
      repeat (first | with_reducible refine GO.seq ?_ | with_reducible refine GO.skip ?_ | with_reducible refine GO.region (by simp only [List.size_toArray, List.length_cons, List.length_nil, Nat.reduceAdd, Nat.zero_add, List.range, List.range.loop]; exact rfl) ?_ | with_reducible refine GO.regionEnd ?_ | with_reducible refine GO.block ?_ | with_reducible refine GO.inBlock ?_ | with_reducible refine GO.label ?_ | with_reducible refine GO.ret ?_ | with_reducible refine GO.fin ?_ | with_reducible refine GO.exit (by with_unfolding_all rfl) ?_)
      refine GO.opq rfl (by rfl) (by first | assumption | decide) (fun wQ hQ KQ kQ => ?_)
      go_simp
      refine kQ _ _ ⟨rfl, (by first | (simp [go_sem]; done) | (intro e he; exact absurd (show e ∈ (#[] : Array Event) from he) (by simp))), ?_⟩
      clear kQ KQ
      try clear hc0 hc1 hc2 hc3
      clear hQ wQ
      try walk_nrm
      refine GO.opq rfl (by rfl) (by first | assumption | decide) (fun wQ hQ KQ kQ => ?_)
      go_simp
      refine kQ _ _ ⟨rfl, (by first | (simp [go_sem]; done) | (intro e he; exact absurd (show e ∈ (#[] : Array Event) from he) (by simp))), ?_⟩
      clear kQ KQ
      try clear hc0 hc1 hc2 hc3
      clear hQ wQ
      try walk_nrm
      refine GO.opq rfl (by rfl) (by first | assumption | decide) (fun wQ hQ KQ kQ => ?_)
      go_simp
      refine kQ _ _ ⟨rfl, (by first | (simp [go_sem]; done) | (intro e he; exact absurd (show e ∈ (#[] : Array Event) from he) (by simp))), ?_⟩
      clear kQ KQ
      try clear hc0 hc1 hc2 hc3
      clear hQ wQ
      try walk_nrm
      refine GO.call (vs := #[.int .i64 x, .int .i64 d, .int .i64 (N : Int)]) rfl (by rfl) (by decide) rfl Try.func20 (by kernel_rfl) rfl (by simp [Act.eval]) ?_
      refine GO.stop fun w hS => quotient_c x d (N : Int) Try.func20 rfl w (fun q w8 hq8 hb8 => ?_)
      have hB8 : Blw W.heap.size W w8 := (hB7.trans hS.blw hB7.size).trans (Blw.of hb8) (Nat.le_trans hB7.size hS.size)
      have hu8 : Hid (Has w8 0 u (mdL (tl a d x N) d)) := (hu7.out.blw hS.blw (Nat.le_refl _)).blw (Blw.of hb8) (Nat.le_refl _)
      replace hq8 := hid (hq8.down (Nat.zero_le _))
      rw [HE.out.1, HE.out.2.2]
      rw [HE.out.2.1] at hq8
      clear hS hb8 hB7 hu7 HE w
      walk_nrm
      refine BW.ofGO ?_ (Sat.start w8)
      refine GO.opq rfl (by rfl) (by first | assumption | decide) (fun wQ hQ KQ kQ => ?_)
      go_simp
      refine kQ _ _ ⟨rfl, (by first | (simp [go_sem]; done) | (intro e he; exact absurd (show e ∈ (#[] : Array Event) from he) (by simp))), ?_⟩
      clear kQ KQ
      try clear hc0 hc1 hc2 hc3
      clear hQ wQ
      try walk_nrm
      refine GO.opq rfl (by rfl) (by first | assumption | decide) (fun wQ hQ KQ kQ => ?_)
      go_simp
      refine kQ _ _ ⟨rfl, (by first | (simp [go_sem]; done) | (intro e he; exact absurd (show e ∈ (#[] : Array Event) from he) (by simp))), ?_⟩
      clear kQ KQ
      try clear hc0 hc1 hc2 hc3
      clear hQ wQ
      try walk_nrm
      refine GO.opq rfl (by rfl) (by first | assumption | decide) (fun wQ hQ KQ kQ => ?_)
      go_simp
      refine kQ _ _ ⟨rfl, (by first | (simp [go_sem]; done) | (intro e he; exact absurd (show e ∈ (#[] : Array Event) from he) (by simp))), ?_⟩
      clear kQ KQ
      try clear hc0 hc1 hc2 hc3
      clear hQ wQ
      try walk_nrm
      refine GO.opq rfl (by rfl) (by first | assumption | decide) (fun wQ hQ KQ kQ => ?_)
      go_simp
      refine kQ _ _ ⟨rfl, (by first | (simp [go_sem]; done) | (intro e he; exact absurd (show e ∈ (#[] : Array Event) from he) (by simp))), ?_⟩
      clear kQ KQ
      try clear hc0 hc1 hc2 hc3
      clear hQ wQ
      try walk_nrm
      refine GO.opq rfl (by rfl) (by first | assumption | decide) (fun wQ hQ KQ kQ => ?_)
      go_simp
      refine kQ _ _ ⟨rfl, (by first | (simp [go_sem]; done) | (intro e he; exact absurd (show e ∈ (#[] : Array Event) from he) (by simp))), ?_⟩
      clear kQ KQ
      try clear hc0 hc1 hc2 hc3
      clear hQ wQ
      try walk_nrm
      refine GO.opq rfl (by rfl) (by first | assumption | decide) (fun wQ hQ KQ kQ => ?_)
      go_simp
      refine kQ _ _ ⟨rfl, (by first | (simp [go_sem]; done) | (intro e he; exact absurd (show e ∈ (#[] : Array Event) from he) (by simp))), ?_⟩
      clear kQ KQ
      try clear hc0 hc1 hc2 hc3
      clear hQ wQ
      try walk_nrm
      refine GO.opq rfl (by rfl) (by first | assumption | decide) (fun wQ hQ KQ kQ => ?_)
      go_simp
      refine kQ _ _ ⟨rfl, (by first | (simp [go_sem]; done) | (intro e he; exact absurd (show e ∈ (#[] : Array Event) from he) (by simp))), ?_⟩
      clear kQ KQ
      try clear hc0 hc1 hc2 hc3
      clear hQ wQ
      try walk_nrm
      refine GO.regionEnd ?_
      refine GO.stop fun w hS => BW.tail1 lone_ok Try.func5 (by kernel_rfl) rfl (by kernel_rfl) (fun T dd => ?_) (fun v W' T d h => h.on v W' T d)
      have hB9 : Hid (Blw W.heap.size W (w.on T dd)) := (hB8.trans hS.blw hB8.size).onR T dd
      have hq9 : Hid (Has (w.on T dd) 0 q (ql d x N)) := (hq8.out.blw hS.blw (Nat.le_refl _)).blw ((Blw.refl _ _).onR T dd) (Nat.le_refl _)
      have hu9 : Hid (Has (w.on T dd) 0 u (mdL (tl a d x N) d)) := (hu8.out.blw hS.blw (Nat.le_refl _)).blw ((Blw.refl _ _).onR T dd) (Nat.le_refl _)
      clear hS hq8 hu8 hB8
      generalize w.on T dd = w9 at *
      clear w
      cases o0 with
      | false =>
        have hsd := HM.out.2 HR.out.2
        clear HM HR hq9 hu9
        generalize qx d x N = z at *
        rcases hsd with rfl | rfl
        · go_wp2
          go_ret
          exact ⟨_, rfl, rfl, hB9.out⟩
        · have hne : ¬ (-d = d) := by omega
          go_wp2
          go_ret
          exact ⟨_, rfl, rfl, hB9.out⟩
      | true =>
        obtain ⟨m1, m2⟩ := HM.out.1 HR.out.2
        rw [m1] at hu9
        obtain rfl : r0 = qx d x N := by rw [← HR.out.1, m2]
        clear HM HR m1 m2
        generalize qx d x N = z at *
        go_wp2_with fail
        refine (like_same _ _ (ql d x N) _ _ _ hu9.out hq9.out).mono ?_
        rintro e w10 ⟨rfl, hb10⟩
        have HB10 : Hid (Blw W.heap.size W w10) := hB9.out.trans (Blw.of hb10) hB9.out.size
        clear hu9 hq9 hb10 hB9
        go_wp2
        go_ret
        exact ⟨_, rfl, rfl, HB10.out⟩
end Go.Proofs.Ytlbkhiphnllfpac
