/-
  The goroutine that sends the turns, in company.
-/
import Derived.Test.YtlbkhiphnllfpamGtk
import Derived.Test.YtlbkhiphnllfpamGme
import Derived.Conc.Quits
import Derived.KernelRfl
namespace Go.Proofs.Ytlbkhiphnllfpam
open Go.Conc Go.RowKit
set_option linter.unusedVariables false
set_option linter.unusedSimpArgs false
def bD (f : FuncId) : Frame := { (default : Frame) with fn := f, kind := .deferred }
def botF (n : Nat) : Frame := { (default : Frame) with fn := n, defers := [], mode := .panicking [goexitEntry] }
section
variable {P : Program} {main : Bool} {c L : Nat} {w0 : World} {Stop : (Nat → Prop) → Goroutine → World → Prop} {h : Hl} {b : Frame} {a : Act} {k : List Item} {cs : List Frame} {ops : Array Oper} {i : Nat} {rest : List Nat} {o : Oper}
/-- A call of a function value. -/
theorem GO.callF {f : FuncId} {fn : Func} {cd : Code} {vs : Array Value} (ho : ops[i]? = some o) (hw : Region.wanted o (yielded ops a.tmps) = true) (hk : b.kind ≠ .early)
    (hr : ∀ w, Sat w0 c L h w → (execOp a.eval o).run P w = .ok (.enter f vs) w ∧ (execOp a.eval o).events P w #[] = #[]) (hf : P.funcs[f]? = some fn) (hb : fn.body = some cd)
    (H : GO P main c L w0 Stop h (G ((base f).at { tmps := vs ++ Array.replicate (fn.ntmps - vs.size) undef, defers := [] } [.code cd]) (b.at a (.inRegion ops (i :: rest) :: k) :: cs))) :
    GO P main c L w0 Stop h (G (b.at a (.inRegion ops (i :: rest) :: k)) cs) :=
  GO.quiet rfl fun w hS => by
    rw [stepG_enter ho hw hk (hr w hS).1, enter_at _ hf hb]
    have : listed P b.fn a o w = #[] := listed_nil (hr w hS).2
    rw [this]
    exact ⟨rfl, by simp, H⟩
/-- It stands at a send; what follows is walked on. -/
theorem GO.send {v z' : Value} {vs : List Value} (ho : ops[i]? = some o) (hw : Region.wanted o (yielded ops a.tmps) = true) (hk : b.kind ≠ .early)
    (hr : ∀ w, Sat w0 c L h w → (execOp a.eval o).run P w = .ok (.comm #[scase c v z'] true .send) w ∧ (execOp a.eval o).events P w #[] = #[])
    (H : ∀ w, Sat w0 c L h w → SendsO P c L vs h.dom (G (b.at (a.put o.dst undef) (.inRegion ops rest :: k)) cs) w) :
    GO P false c L w0 (AtS P c v (SendsO P c L vs)) h (G (b.at a (.inRegion ops (i :: rest) :: k)) cs) :=
  GO.stop fun w hS => ⟨rfl, ⟨z', by rw [stepG_comm ho hw hk (hr w hS).1, listed_nil (hr w hS).2]; rfl⟩, by
    have : Conc.served (core (G (b.at a (.inRegion ops (i :: rest) :: k)) cs)) undef = G (b.at (a.put o.dst undef) (.inRegion ops rest :: k)) cs := by
      show G ((b.at a (.inRegion ops (i :: rest) :: k)).finish undef) cs = _
      rw [Frame.finish_at, ho]; rfl
    rw [this]
    exact H w hS⟩
def StopOf (P : Program) (c L : Nat) : List Value → (Nat → Prop) → Goroutine → World → Prop
  | [] => AtC P c
  | v :: vs => AtS P c v (SendsO P c L vs)
theorem sends_of {vs : List Value} {g : Goroutine} {w : World} (H : GO P false c L w0 (StopOf P c L vs) h g) (hS : Sat w0 c L h w) : SendsO P c L vs h.dom g w := by
  cases vs <;> exact H w hS
/-- A loop whose stop turns from round to round. -/
theorem GO.loopS {cd : Code} (I : Nat → Hl → Act → Prop) (St : Nat → (Nat → Prop) → Goroutine → World → Prop) (n : Nat) (h0 : I n h a)
    (round : ∀ n h a, I n h a → (∀ n' h' a', n' < n → I n' h' a' → GO P main c L w0 (St n') h' (G (b.at a' (.inLoop cd :: k)) cs)) → GO P main c L w0 (St n) h (G (b.at a (.code cd :: .inLoop cd :: k)) cs)) :
    GO P main c L w0 (St n) h (G (b.at a (.code (.loop cd) :: k)) cs) := by
  refine GO.ctl rfl (fun _ => stepG_loop) ?_
  induction n using Nat.strongRecOn generalizing h a with
  | _ n ih => exact round n h a h0 fun n' h' a' hn hI => GO.ctl rfl (fun _ => stepG_inLoop) (ih n' hn hI)
end
/-- Behind the close it only leaves. -/
theorem quits_o (T : Array Value) (ops : Array Oper) : QuitsIn Try.prog 4 (G ((bD 57).at ⟨T, []⟩ [.inRegion ops []]) [botF Try.prog.funcs.size]) := by
  refine .inr ⟨rfl, _, fun w => stepG_region_end, ?_⟩
  refine .inr ⟨rfl, _, fun w => stepG_end, ?_⟩
  refine .inr ⟨rfl, G (botF Try.prog.funcs.size) [], fun w => ?_, ?_⟩
  · simp [G, stepG, unwind, doReturn, results, Frame.at, bD, botF, Try.func57, Try.f57, seen, GStep.after, goexitEntry]
  refine .inr ⟨rfl, { G (botF Try.prog.funcs.size) [] with status := .finished }, fun w => ?_, rfl⟩
  simp [G, stepG, unwind, botF, goexitEntry, Frame.catches]
  rfl
theorem loud_o : (Try.prog.funcs[(bD 57).fn]?).any (·.norace) = false := by kernel_rfl
section
variable {c L : Nat} {w0 : World}
/-- One turn of the function that is called, in company. -/
def TurnO (c L : Nat) (w0 : World) (F : FuncId) (rcv : Value) (y q r : Int) : Prop :=
  ∀ (h : Hl) (Stop : (Nat → Prop) → Goroutine → World → Prop) (b₀ : Frame) (a₀ : Act) (ops : Array Oper) (i : Nat) (rest : List Nat) (k : List Item) (cs : List Frame) (fn : Func) (cd : Code), Try.prog.funcs[F]? = some fn → fn.body = some cd →
    (∀ h' : Hl, h.le h' → GO Try.prog false c L w0 Stop h' (G (b₀.at (a₀.put ((ops[i]?).bind (·.dst)) (.agg #[.int .i64 q, .int .i64 r])) (.inRegion ops rest :: k)) cs)) →
    GO Try.prog false c L w0 Stop h (G ((base F).at { tmps := #[rcv, .int .i64 y] ++ Array.replicate (fn.ntmps - 2) undef, defers := [] } [.code cd]) (b₀.at a₀ (.inRegion ops (i :: rest) :: k) :: cs))
def tvs (Q R : Nat → Int) : Nat → Nat → List Value
  | _, 0 => []
  | j, m + 1 => .agg #[.int .i64 (Q j), .int .i64 (R (j + 1))] :: tvs Q R (j + 1) m
set_option maxRecDepth 100000 in
set_option maxHeartbeats 8000000 in
theorem sends_o {F : FuncId} {rcv : Value} {Fn : Func} {Cd : Code} (hF : Try.prog.funcs[F]? = some Fn) (hFb : Fn.body = some Cd) (hFn : (Fn.name == "runtime.NumGoroutine") = false) (Q R : Nat → Int) (N : Nat) (hN : N ≤ 18) (ht : ∀ j, j < N → TurnO c L w0 F rcv (R j) (Q j) (R (j + 1)))
    {bx bn bf bc : Nat} (lx : bx < L) (ln : bn < L) (lf : bf < L) (lc : bc < L) (nx : bx ≠ c) (nn : bn ≠ c) (nf : bf ≠ c) (nc : bc ≠ c)
    (ex : w0.heap[bx]? = some (.cells #[.int .i64 (R 0)] 2)) (en : w0.heap[bn]? = some (.cells #[.int .i64 (N : Int)] 2)) (ef : w0.heap[bf]? = some (.cells #[.func (.func F) #[rcv] #[]] 55)) (ec : w0.heap[bc]? = some (.cells #[.chan (some c)] 69)) (w : World) (hS : Sat w0 c L (fun _ => none) w) :
    SendsO Try.prog c L (tvs Q R 0 N) (Hl.dom fun _ => none) (born Try.prog { target := .fn (.func 57) #[.pointer (some ⟨bx, 0, none⟩), .pointer (some ⟨bn, 0, none⟩), .pointer (some ⟨bf, 0, none⟩), .pointer (some ⟨bc, 0, none⟩)], args := #[] }) w := by
  refine sends_of ?_ hS
  replace ht := hid ht
  refine GO.ctl (g' := G ((bD 57).at ⟨#[.pointer (some ⟨bx, 0, none⟩), .pointer (some ⟨bn, 0, none⟩), .pointer (some ⟨bf, 0, none⟩), .pointer (some ⟨bc, 0, none⟩), undef, undef, undef, undef, undef, undef, undef, undef, undef, undef, undef, undef, undef, undef, undef], []⟩ [.code (Try.f57.body.getD .skip)]) [botF Try.prog.funcs.size]) rfl (fun w => ?_) ?_
  · simp [born, stepG, unwind, callDeferred, invoke, callFunc, Try.func57, Try.f57, seen, GStep.after, G, Frame.enter, Frame.at, bD, botF]
  simp only [Try.f57, Option.getD_some]
  repeat (first | with_reducible refine GO.seq ?_ | with_reducible refine GO.skip ?_ | with_reducible refine GO.region (by simp only [List.size_toArray, List.length_cons, List.length_nil, Nat.reduceAdd, Nat.zero_add, List.range, List.range.loop]; exact rfl) ?_ | with_reducible refine GO.regionEnd ?_ | with_reducible refine GO.block ?_ | with_reducible refine GO.inBlock ?_ | with_reducible refine GO.label ?_ | with_reducible refine GO.ret ?_ | with_reducible refine GO.fin ?_ | with_reducible refine GO.exit (by with_unfolding_all rfl) ?_)
  refine GO.opq rfl (by rfl) (by first | assumption | decide) (fun wQ hQ KQ kQ => ?_)
  have hc := (hQ.old _ lx nx).trans ex
  have hc0 := gcell_of (o := 0) hc
  have hc1 := hc0
  have hc2 := gwarm_of (o := 0) hc
  have hc3 := hc2
  clear hc
  simp only [List.getElem?_toArray, List.getElem?_cons_succ, List.getElem?_cons_zero, List.getElem?_nil] at hc0 hc1
  go_simp
  refine kQ _ _ ⟨rfl, (by have h0 := @evo_old _ _ _ _ _ _ 0 hQ lx; first | (simp [go_sem, *]; done) | (simp [go_sem, *]; exact h0)), ?_⟩
  clear kQ KQ
  try clear hc0 hc1 hc2 hc3
  clear hQ wQ
  try walk_nrm
  refine GO.opq rfl (by rfl) (by first | assumption | decide) (fun wQ hQ KQ kQ => ?_)
  go_simp
  refine kQ _ _ ⟨rfl, (by first | (simp [go_sem]; done) | (intro e he; exact absurd (show e ∈ (#[] : Array Event) from he) (by simp))), ?_⟩
  clear kQ KQ
  try clear hc0 hc1 hc2 hc3
  clear hQ wQ
  try walk_nrm
  repeat (first | with_reducible refine GO.seq ?_ | with_reducible refine GO.skip ?_ | with_reducible refine GO.region (by simp only [List.size_toArray, List.length_cons, List.length_nil, Nat.reduceAdd, Nat.zero_add, List.range, List.range.loop]; exact rfl) ?_ | with_reducible refine GO.regionEnd ?_ | with_reducible refine GO.block ?_ | with_reducible refine GO.inBlock ?_ | with_reducible refine GO.label ?_ | with_reducible refine GO.ret ?_ | with_reducible refine GO.fin ?_ | with_reducible refine GO.exit (by with_unfolding_all rfl) ?_)
  refine GO.opq rfl (by rfl) (by first | assumption | decide) (fun wQ hQ KQ kQ => ?_)
  have hc := (hQ.old _ ln nn).trans en
  have hc0 := gcell_of (o := 0) hc
  have hc1 := hc0
  have hc2 := gwarm_of (o := 0) hc
  have hc3 := hc2
  clear hc
  simp only [List.getElem?_toArray, List.getElem?_cons_succ, List.getElem?_cons_zero, List.getElem?_nil] at hc0 hc1
  go_simp
  refine kQ _ _ ⟨rfl, (by have h0 := @evo_old _ _ _ _ _ _ 0 hQ ln; first | (simp [go_sem, *]; done) | (simp [go_sem, *]; exact h0)), ?_⟩
  clear kQ KQ
  try clear hc0 hc1 hc2 hc3
  clear hQ wQ
  try walk_nrm
  refine GO.opq rfl (by rfl) (by first | assumption | decide) (fun wQ hQ KQ kQ => ?_)
  go_simp
  refine kQ _ _ ⟨rfl, (by first | (simp [go_sem]; done) | (intro e he; exact absurd (show e ∈ (#[] : Array Event) from he) (by simp))), ?_⟩
  clear kQ KQ
  try clear hc0 hc1 hc2 hc3
  clear hQ wQ
  try walk_nrm
  repeat (first | with_reducible refine GO.seq ?_ | with_reducible refine GO.skip ?_ | with_reducible refine GO.region (by simp only [List.size_toArray, List.length_cons, List.length_nil, Nat.reduceAdd, Nat.zero_add, List.range, List.range.loop]; exact rfl) ?_ | with_reducible refine GO.regionEnd ?_ | with_reducible refine GO.block ?_ | with_reducible refine GO.inBlock ?_ | with_reducible refine GO.label ?_ | with_reducible refine GO.ret ?_ | with_reducible refine GO.fin ?_ | with_reducible refine GO.exit (by with_unfolding_all rfl) ?_)
  rw [show tvs Q R 0 N = tvs Q R (N - N) N by rw [Nat.sub_self]]
  refine GO.loopS (fun n h a => ∃ (j : Nat) (x5 x6 x9 x10 x11 x12 x13 x14 x15 x16 x17 x18 : Value), j + n = N ∧ a = ⟨#[.pointer (some ⟨bx, 0, none⟩), .pointer (some ⟨bn, 0, none⟩), .pointer (some ⟨bf, 0, none⟩), .pointer (some ⟨bc, 0, none⟩), .int .i64 (R j), x5, x6, .int .i64 (N : Int), .int .i64 (j : Int), x9, x10, x11, x12, x13, x14, x15, x16, x17, x18], []⟩) (fun n => StopOf Try.prog c L (tvs Q R (N - n) n)) N ?_ ?_
  · exact ⟨0, _, _, _, _, _, _, _, _, _, _, _, _, by omega, rfl⟩
  · rintro n h a ⟨j, x5, x6, x9, x10, x11, x12, x13, x14, x15, x16, x17, x18, hj, rfl⟩ hrec
    replace hrec := hid hrec
    repeat (first | with_reducible refine GO.seq ?_ | with_reducible refine GO.skip ?_ | with_reducible refine GO.region (by simp only [List.size_toArray, List.length_cons, List.length_nil, Nat.reduceAdd, Nat.zero_add, List.range, List.range.loop]; exact rfl) ?_ | with_reducible refine GO.regionEnd ?_ | with_reducible refine GO.block ?_ | with_reducible refine GO.inBlock ?_ | with_reducible refine GO.label ?_ | with_reducible refine GO.ret ?_ | with_reducible refine GO.fin ?_ | with_reducible refine GO.exit (by with_unfolding_all rfl) ?_)
    refine GO.opq rfl (by rfl) (by first | assumption | decide) (fun wQ hQ KQ kQ => ?_)
    go_simp
    refine kQ _ _ ⟨rfl, (by first | (simp [go_sem]; done) | (intro e he; exact absurd (show e ∈ (#[] : Array Event) from he) (by simp))), ?_⟩
    clear kQ KQ
    try clear hc0 hc1 hc2 hc3
    clear hQ wQ
    try walk_nrm
    repeat (first | with_reducible refine GO.seq ?_ | with_reducible refine GO.skip ?_ | with_reducible refine GO.region (by simp only [List.size_toArray, List.length_cons, List.length_nil, Nat.reduceAdd, Nat.zero_add, List.range, List.range.loop]; exact rfl) ?_ | with_reducible refine GO.regionEnd ?_ | with_reducible refine GO.block ?_ | with_reducible refine GO.inBlock ?_ | with_reducible refine GO.label ?_ | with_reducible refine GO.ret ?_ | with_reducible refine GO.fin ?_ | with_reducible refine GO.exit (by with_unfolding_all rfl) ?_)
    refine GO.cond (t := decide (j < N)) rfl (fun hc => ?_) (fun hc => ?_)
    · have hjN : j < N := by exact of_decide_eq_true hc
      obtain ⟨m, rfl⟩ : ∃ m, n = m + 1 := ⟨n - 1, by omega⟩
      have ej : N - (m + 1) = j := by omega
      have ej2 : N - m = j + 1 := by omega
      simp only [ej, tvs, StopOf]
      repeat (first | with_reducible refine GO.seq ?_ | with_reducible refine GO.skip ?_ | with_reducible refine GO.region (by simp only [List.size_toArray, List.length_cons, List.length_nil, Nat.reduceAdd, Nat.zero_add, List.range, List.range.loop]; exact rfl) ?_ | with_reducible refine GO.regionEnd ?_ | with_reducible refine GO.block ?_ | with_reducible refine GO.inBlock ?_ | with_reducible refine GO.label ?_ | with_reducible refine GO.ret ?_ | with_reducible refine GO.fin ?_ | with_reducible refine GO.exit (by with_unfolding_all rfl) ?_)
      refine GO.opq rfl (by rfl) (by first | assumption | decide) (fun wQ hQ KQ kQ => ?_)
      have hc := (hQ.old _ lf nf).trans ef
      have hc0 := gcell_of (o := 0) hc
      have hc1 := hc0
      have hc2 := gwarm_of (o := 0) hc
      have hc3 := hc2
      clear hc
      simp only [List.getElem?_toArray, List.getElem?_cons_succ, List.getElem?_cons_zero, List.getElem?_nil] at hc0 hc1
      go_simp
      refine kQ _ _ ⟨rfl, (by have h0 := @evo_old _ _ _ _ _ _ 0 hQ lf; first | (simp [go_sem, *]; done) | (simp [go_sem, *]; exact h0)), ?_⟩
      clear kQ KQ
      try clear hc0 hc1 hc2 hc3
      clear hQ wQ
      try walk_nrm
      refine GO.opq rfl (by rfl) (by first | assumption | decide) (fun wQ hQ KQ kQ => ?_)
      go_simp
      refine kQ _ _ ⟨rfl, (by first | (simp [go_sem]; done) | (intro e he; exact absurd (show e ∈ (#[] : Array Event) from he) (by simp))), ?_⟩
      clear kQ KQ
      try clear hc0 hc1 hc2 hc3
      clear hQ wQ
      try walk_nrm
      refine GO.callF (vs := #[rcv, .int .i64 (R j)]) rfl (by rfl) (by decide) (fun w hS => ?_) hF hFb ?_
      · have h1 : ¬ Fn.name = "runtime.NumGoroutine" := by simpa using hFn
        have h2 : ¬ Fn.body = none := by rw [hFb]; simp
        unfold execOp
        constructor <;> simp [resolve, Deferred.ofValue, invoke, callFunc, hF, h1, h2, Act.eval]
      refine ht.out j hjN _ _ _ _ _ _ _ _ _ _ _ hF hFb ?_
      intro h1 l1
      walk_nrm
      refine GO.opn rfl (by rfl) (by first | assumption | decide) (fun wQ hQ KQ kQ => ?_)
      go_simp
      refine kQ _ _ ⟨_, rfl, by simp [go_sem], fun h2 n5 f5 L5 l5 => ?_⟩
      clear kQ KQ hQ
      try walk_nrm
      generalize wQ.heap.size = r5 at *
      clear wQ
      refine GO.opw (ob := (.cells #[.int .i64 (Q j), .int .i64 (R (j + 1))] 50)) n5 rfl (by rfl) (by first | assumption | decide) (fun wQ hQ KQ kQ => ?_)
      have hc := hQ.own _ _ n5
      have hc0 := gcell_of (o := 0) hc
      have hc1 := gcell_of (o := 1) hc
      have hc2 := gwarm_of (o := 0) hc
      have hc3 := gwarm_of (o := 1) hc
      simp only [List.getElem?_toArray, List.getElem?_cons_succ, List.getElem?_cons_zero, List.getElem?_nil] at hc0 hc1
      go_simp
      try (unfold stored; go_simp)
      refine kQ _ _ ⟨⟨rfl, rfl, rfl, by simp [World.setCell], (fun k hk => by first | exact put_ne _ hk | exact (put_ne _ hk).trans (put_ne _ hk)), (by first | exact put_at _ hc | exact put_at _ (put_at _ hc))⟩, ?_, fun h3 m5 s5 => ?_⟩
      · have h0 := @evo_own _ _ _ _ _ _ 0 _ true hQ n5
        have h1 := @evo_own _ _ _ _ _ _ 1 _ true hQ n5
        first | (simp [go_sem, *]; done) | (simp [go_sem, *]; first | exact h0 | exact h1 | exact ⟨h0, h1⟩) | (simp [go_sem, storedEv, *]; done) | (simp [go_sem, storedEv, *]; first | exact h0 | exact h1 | exact ⟨h0, h1⟩)
      clear kQ KQ hc hc0 hc1 hc2 hc3
      clear hQ wQ
      try walk_nrm
      repeat (first | with_reducible refine GO.seq ?_ | with_reducible refine GO.skip ?_ | with_reducible refine GO.region (by simp only [List.size_toArray, List.length_cons, List.length_nil, Nat.reduceAdd, Nat.zero_add, List.range, List.range.loop]; exact rfl) ?_ | with_reducible refine GO.regionEnd ?_ | with_reducible refine GO.block ?_ | with_reducible refine GO.inBlock ?_ | with_reducible refine GO.label ?_ | with_reducible refine GO.ret ?_ | with_reducible refine GO.fin ?_ | with_reducible refine GO.exit (by with_unfolding_all rfl) ?_)
      refine GO.opq rfl (by rfl) (by first | assumption | decide) (fun wQ hQ KQ kQ => ?_)
      have hc := (hQ.old _ lc nc).trans ec
      have hc0 := gcell_of (o := 0) hc
      have hc1 := hc0
      have hc2 := gwarm_of (o := 0) hc
      have hc3 := hc2
      clear hc
      simp only [List.getElem?_toArray, List.getElem?_cons_succ, List.getElem?_cons_zero, List.getElem?_nil] at hc0 hc1
      go_simp
      refine kQ _ _ ⟨rfl, (by have h0 := @evo_old _ _ _ _ _ _ 0 hQ lc; first | (simp [go_sem, *]; done) | (simp [go_sem, *]; exact h0)), ?_⟩
      clear kQ KQ
      try clear hc0 hc1 hc2 hc3
      clear hQ wQ
      try walk_nrm
      refine GO.opq rfl (by rfl) (by first | assumption | decide) (fun wQ hQ KQ kQ => ?_)
      have hc := hQ.own _ _ m5
      have hc0 := gcell_of (o := 0) hc
      have hc1 := gcell_of (o := 1) hc
      have hc2 := gwarm_of (o := 0) hc
      have hc3 := gwarm_of (o := 1) hc
      clear hc
      simp only [List.getElem?_toArray, List.getElem?_cons_succ, List.getElem?_cons_zero, List.getElem?_nil] at hc0 hc1
      go_simp
      refine kQ _ _ ⟨rfl, (by have h0 := @evo_own _ _ _ _ _ _ 0 _ false hQ m5; have h1 := @evo_own _ _ _ _ _ _ 1 _ false hQ m5; first | (simp [go_sem, *]; done) | (simp [go_sem, *]; first | exact h0 | exact h1 | exact ⟨h0, h1⟩)), ?_⟩
      clear kQ KQ
      try clear hc0 hc1 hc2 hc3
      clear hQ wQ
      try walk_nrm
      refine GO.send (z' := .tuple #[]) rfl (by rfl) (by decide) (fun w hS => ?_) (fun w hS => sends_of ?_ hS)
      · constructor
        · simp [execOp, scase, Act.eval]
        · simp [go_sem, execOp, Act.eval]
      clear hS w
      walk_nrm
      repeat (first | with_reducible refine GO.seq ?_ | with_reducible refine GO.skip ?_ | with_reducible refine GO.region (by simp only [List.size_toArray, List.length_cons, List.length_nil, Nat.reduceAdd, Nat.zero_add, List.range, List.range.loop]; exact rfl) ?_ | with_reducible refine GO.regionEnd ?_ | with_reducible refine GO.block ?_ | with_reducible refine GO.inBlock ?_ | with_reducible refine GO.label ?_ | with_reducible refine GO.ret ?_ | with_reducible refine GO.fin ?_ | with_reducible refine GO.exit (by with_unfolding_all rfl) ?_)
      refine GO.opq rfl (by rfl) (by first | assumption | decide) (fun wQ hQ KQ kQ => ?_)
      go_simp
      refine kQ _ _ ⟨rfl, (by first | (simp [go_sem]; done) | (intro e he; exact absurd (show e ∈ (#[] : Array Event) from he) (by simp))), ?_⟩
      clear kQ KQ
      try clear hc0 hc1 hc2 hc3
      clear hQ wQ
      try walk_nrm
      refine GO.opq rfl (by rfl) (by first | assumption | decide) (fun wQ hQ KQ kQ => ?_)
      have hc := hQ.own _ _ m5
      have hc0 := gcell_of (o := 0) hc
      have hc1 := gcell_of (o := 1) hc
      have hc2 := gwarm_of (o := 0) hc
      have hc3 := gwarm_of (o := 1) hc
      clear hc
      simp only [List.getElem?_toArray, List.getElem?_cons_succ, List.getElem?_cons_zero, List.getElem?_nil] at hc0 hc1
      go_simp
      refine kQ _ _ ⟨rfl, (by have h0 := @evo_own _ _ _ _ _ _ 0 _ false hQ m5; have h1 := @evo_own _ _ _ _ _ _ 1 _ false hQ m5; first | (simp [go_sem, *]; done) | (simp [go_sem, *]; first | exact h0 | exact h1 | exact ⟨h0, h1⟩)), ?_⟩
      clear kQ KQ
      try clear hc0 hc1 hc2 hc3
      clear hQ wQ
      try walk_nrm
      refine GO.opq rfl (by rfl) (by first | assumption | decide) (fun wQ hQ KQ kQ => ?_)
      go_simp
      refine kQ _ _ ⟨rfl, (by first | (simp [go_sem]; done) | (intro e he; exact absurd (show e ∈ (#[] : Array Event) from he) (by simp))), ?_⟩
      clear kQ KQ
      try clear hc0 hc1 hc2 hc3
      clear hQ wQ
      try walk_nrm
      repeat (first | with_reducible refine GO.seq ?_ | with_reducible refine GO.skip ?_ | with_reducible refine GO.region (by simp only [List.size_toArray, List.length_cons, List.length_nil, Nat.reduceAdd, Nat.zero_add, List.range, List.range.loop]; exact rfl) ?_ | with_reducible refine GO.regionEnd ?_ | with_reducible refine GO.block ?_ | with_reducible refine GO.inBlock ?_ | with_reducible refine GO.label ?_ | with_reducible refine GO.ret ?_ | with_reducible refine GO.fin ?_ | with_reducible refine GO.exit (by with_unfolding_all rfl) ?_)
      have w1 : IntKind.i64.wrap ((j : Int) + 1) = (j : Int) + 1 := wrG _ (by omega)
      refine GO.opq rfl (by rfl) (by first | assumption | decide) (fun wQ hQ KQ kQ => ?_)
      go_simp
      refine kQ _ _ ⟨rfl, (by first | (simp [go_sem]; done) | (intro e he; exact absurd (show e ∈ (#[] : Array Event) from he) (by simp))), ?_⟩
      clear kQ KQ
      try clear hc0 hc1 hc2 hc3
      clear hQ wQ
      try walk_nrm
      refine GO.opq rfl (by rfl) (by first | assumption | decide) (fun wQ hQ KQ kQ => ?_)
      go_simp
      refine kQ _ _ ⟨rfl, (by first | (simp [go_sem]; done) | (intro e he; exact absurd (show e ∈ (#[] : Array Event) from he) (by simp))), ?_⟩
      clear kQ KQ
      try clear hc0 hc1 hc2 hc3
      clear hQ wQ
      try walk_nrm
      repeat (first | with_reducible refine GO.seq ?_ | with_reducible refine GO.skip ?_ | with_reducible refine GO.region (by simp only [List.size_toArray, List.length_cons, List.length_nil, Nat.reduceAdd, Nat.zero_add, List.range, List.range.loop]; exact rfl) ?_ | with_reducible refine GO.regionEnd ?_ | with_reducible refine GO.block ?_ | with_reducible refine GO.inBlock ?_ | with_reducible refine GO.label ?_ | with_reducible refine GO.ret ?_ | with_reducible refine GO.fin ?_ | with_reducible refine GO.exit (by with_unfolding_all rfl) ?_)
      rw [show tvs Q R (j + 1) m = tvs Q R (N - m) m by rw [ej2]]
      exact hrec.out m _ _ (by omega) ⟨j + 1, _, _, _, _, _, _, _, _, _, _, _, _, by omega, rfl⟩
    · have hjN : j = N := by have := of_decide_eq_false hc; omega
      obtain rfl : n = 0 := by omega
      simp only [Nat.sub_zero, tvs, StopOf]
      repeat (first | with_reducible refine GO.seq ?_ | with_reducible refine GO.skip ?_ | with_reducible refine GO.region (by simp only [List.size_toArray, List.length_cons, List.length_nil, Nat.reduceAdd, Nat.zero_add, List.range, List.range.loop]; exact rfl) ?_ | with_reducible refine GO.regionEnd ?_ | with_reducible refine GO.block ?_ | with_reducible refine GO.inBlock ?_ | with_reducible refine GO.label ?_ | with_reducible refine GO.ret ?_ | with_reducible refine GO.fin ?_ | with_reducible refine GO.exit (by with_unfolding_all rfl) ?_)
      refine GO.opq rfl (by rfl) (by first | assumption | decide) (fun wQ hQ KQ kQ => ?_)
      have hc := (hQ.old _ lc nc).trans ec
      have hc0 := gcell_of (o := 0) hc
      have hc1 := hc0
      have hc2 := gwarm_of (o := 0) hc
      have hc3 := hc2
      clear hc
      simp only [List.getElem?_toArray, List.getElem?_cons_succ, List.getElem?_cons_zero, List.getElem?_nil] at hc0 hc1
      go_simp
      refine kQ _ _ ⟨rfl, (by have h0 := @evo_old _ _ _ _ _ _ 0 hQ lc; first | (simp [go_sem, *]; done) | (simp [go_sem, *]; exact h0)), ?_⟩
      clear kQ KQ
      try clear hc0 hc1 hc2 hc3
      clear hQ wQ
      try walk_nrm
      exact GO.stop fun w hS => ⟨rfl, by simp [mayWake, G, Frame.at], _, 4, fun s r tm hc => stepG_close rfl (by rfl) (by decide) rfl rfl hc loud_o, quits_o _ _⟩
end
end Go.Proofs.Ytlbkhiphnllfpam
