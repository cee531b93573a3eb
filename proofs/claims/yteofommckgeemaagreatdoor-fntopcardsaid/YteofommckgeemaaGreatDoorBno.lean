/-
  The bench's rows: the map, walked.
-/
import Derived.Test.YteofommckgeemaaGreatDoorSl
import Derived.Test.YteofommckgeemaaGreatDoorFmt
import Derived.Test.YteofommckgeemaaGreatDoorRows
import Derived.ProofKit
import Derived.BigRegion
import Derived.Deep.DeepCutAuto
import Derived.Great.Walk
import Derived.OwnWalk
import Derived.Laws.AppendOwn
import Derived.Laws.EntriesVeiled
import Derived.Laws.Tables
import Derived.WideMake
import Derived.MapKept
import Derived.RangeFuncRecord
namespace Go.Proofs.YteofommckgeemaaGreatDoor
open Go.RowKit
set_option linter.unusedVariables false
set_option maxRecDepth 100000
abbrev Nmt : Type := Int × Bool × Int × ByteArray
def nq : List Nmt → List Value
  | [] => []
  | p :: r => .int .i64 p.1 :: .bool p.2.1 :: .int .i64 p.2.2.1 :: .string p.2.2.2 :: nq r
theorem nq_append (a b : List Nmt) : nq (a ++ b) = nq a ++ nq b := by
  induction a with
  | nil => rfl
  | cons p r ih => simp [nq, ih]
theorem nq_length (a : List Nmt) : (nq a).length = a.length * 4 := by
  induction a with
  | nil => rfl
  | cons p r ih => simp [nq, ih]; omega
theorem nq_at (a : List Nmt) (i : Nat) (p : Nmt) (h : a[i]? = some p) : (nq a)[i * 4]? = some (.int .i64 p.1) ∧ (nq a)[i * 4 + 1]? = some (.bool p.2.1) ∧ (nq a)[i * 4 + 2]? = some (.int .i64 p.2.2.1) ∧ (nq a)[i * 4 + 3]? = some (.string p.2.2.2) := by
  induction a generalizing i with
  | nil => simp at h
  | cons q r ih =>
    cases i with
    | zero => simp at h; subst h; simp [nq]
    | succ i =>
      have h' := ih i (by simpa using h)
      have e : (i + 1) * 4 = i * 4 + 4 := by omega
      rw [e]
      simp only [nq, List.getElem?_cons_succ]
      exact h'
/-- The slice v holds n numbers, whose cells in a row are xs. -/
def HasV (w : World) (base : Nat) (v : Value) (n : Nat) (xs : List Value) : Prop := w.ownsRow base 78 4 v n xs
def HasN (w : World) (base : Nat) (v : Value) (l : List Nmt) : Prop := HasV w base v l.length (nq l)
theorem hasN_more {w : World} {base : Nat} {v : Value} {P : List Nmt} {n : Nat} {p : Nmt} (h : w.ownsRow base 78 4 v n (nq P ++ [.int .i64 p.1, .bool p.2.1, .int .i64 p.2.2.1, .string p.2.2.2])) (hn : n = P.length + 1) : HasN w base v (P ++ [p]) := by
  unfold HasN HasV
  rw [nq_append, List.length_append]
  subst hn
  exact h
theorem HasV.below {w w' : World} {base B : Nat} {v : Value} {n : Nat} {xs : List Value} (h : HasV w base v n xs) (hb : Below B w w') (hB : w.heap.size ≤ B) : HasV w' base v n xs := own_below h hb hB
theorem HasN.below {w w' : World} {base B : Nat} {v : Value} {l : List Nmt} (h : HasN w base v l) (hb : Below B w w') (hB : w.heap.size ≤ B) : HasN w' base v l := own_below h hb hB
theorem HasV.form {w : World} {base : Nat} {v : Value} {n : Nat} {xs : List Value} (h : HasV w base v n xs) (hz : xs.length = n * 4) :
    ∃ a cap, v = .slice a n cap ∧ (0 < n → ∃ g, a = some ⟨g, 0, none⟩ ∧ base ≤ g ∧ g < w.heap.size ∧ ∀ i, i < n * 4 → w.cell? ⟨g, i, none⟩ = xs[i]?) := by
  have h0 := h
  obtain ⟨hl, h⟩ := h
  rcases h with ⟨rfl, h⟩ | ⟨g, cap, cur, rfl, hg, hc, hn, hm, hs, ht⟩
  · exact ⟨_, _, by rw [h], fun hp => by omega⟩
  · exact ⟨_, cap, rfl, fun hp => ⟨g, rfl, hg, (Array.getElem?_eq_some_iff.1 hc).1, fun i hi => World.ownsRow.cellAt h0 i (by omega)⟩⟩
theorem infoNum : (Tryz.prog.info? 78).map (fun i => (i.zero, i.size, i.bytes)) = some (some (.agg #[.int .i64 0, .bool false, .int .i64 0, .string { data := #[] }]), 4, 40) := by kernel_rfl
theorem num_new (W : World) (k : Int) (b : Bool) (e : Int) (s : ByteArray) : ∀ (i : Nat) (u : Value), [Value.int .i64 k, .bool b, .int .i64 e, .string s][i]? = some u → (W.alloc (.cells #[.int .i64 k, .bool b, .int .i64 e, .string s] 78)).cell? ((⟨W.heap.size, 0, none⟩ : Addr).add i) = some u := fun i u hu => by
  match i, hu with
  | 0, hu => simp at hu; subst hu; simp [Addr.add]
  | 1, hu => simp at hu; subst hu; simp [Addr.add]
  | 2, hu => simp at hu; subst hu; simp [Addr.add]
  | 3, hu => simp at hu; subst hu; simp [Addr.add]
theorem num_cell (k : Int) (b : Bool) (e : Int) (s : ByteArray) : ∀ u ∈ [Value.int .i64 k, .bool b, .int .i64 e, .string s], u.oneCell' = true := fun u hu => by
  simp at hu
  rcases hu with rfl | rfl | rfl | rfl <;> rfl
end Go.Proofs.YteofommckgeemaaGreatDoor
namespace Go.Proofs.YteofommckgeemaaGreatDoor
open Go.RowKit
set_option linter.unusedVariables false
set_option maxRecDepth 100000
set_option linter.unusedSimpArgs false
/-- A block as it was laid. -/
theorem blk_new (W : World) (o : Obj) : (W.alloc o).heap[W.heap.size]? = some o := (MapKept.heap_alloc W o).1
theorem blk_old {W : World} {k : Nat} {o : Obj} (h : W.heap[k]? = some o) (o' : Obj) : (W.alloc o').heap[k]? = some o := by
  have hk : k < W.heap.size := (Array.getElem?_eq_some_iff.1 h).1
  have : Below W.heap.size W (W.alloc o') := (Below.refl _ _).alloc (Nat.le_refl _) _
  rw [this.block k hk]; exact h
theorem blk_cell {W : World} {k : Nat} {cs : Array Value} {T : TypeId} {fr : Nat × Nat} (h : W.heap[k]? = some (.cells cs T fr)) (i : Nat) : W.cell? ⟨k, i, none⟩ = cs[i]? := by
  unfold World.cell?; simp only [h]; rfl
/-- What stands: every block that is no row of bytes, no builder and no bench. -/
def Kt (W W' : World) : Prop := ∀ (k : Nat) (o : Obj), W.heap[k]? = some o → (∀ cs fr, o ≠ .cells cs 5 fr) → (∀ cs fr, o ≠ .cells cs 37 fr) → (∀ cs fr, o ≠ .cells cs 32 fr) → W'.heap[k]? = some o
theorem Kt.refl (W : World) : Kt W W := fun k o h _ _ _ => h
theorem Kt.trans {W W' W'' : World} (h : Kt W W') (g : Kt W' W'') : Kt W W'' := fun k o a b c d => g k o (h k o a b c d) b c d
theorem Kt.of {W W' : World} {bb : Nat} {cs : Array Value} {fr : Nat × Nat} (hg : W.grownBy W' (some bb)) (hb : W.heap[bb]? = some (.cells cs 32 fr)) : Kt W W' := fun k o a b c d => by
  have hk : k < W.heap.size := (Array.getElem?_eq_some_iff.1 a).1
  by_cases e : k = bb
  · subst e
    rw [hb] at a
    exact absurd (Option.some.inj a).symm (d _ _)
  · rw [hg.block k hk (fun q => e (Option.some.inj q))]; exact a
theorem Kt.bel {W W' : World} (hb : Below W.heap.size W W') : Kt W W' := fun k o a b c d => by
  have hk : k < W.heap.size := (Array.getElem?_eq_some_iff.1 a).1
  rw [hb.block k hk]; exact a
/-- What stands of cells alone. -/
def Kc (W W' : World) : Prop := ∀ (k : Nat) (cs : Array Value) (T : TypeId) (fr : Nat × Nat), W.heap[k]? = some (.cells cs T fr) → T ≠ 5 → T ≠ 37 → T ≠ 32 → W'.heap[k]? = some (.cells cs T fr)
theorem Kt.kc {W W' : World} (h : Kt W W') : Kc W W' := fun k cs T fr a b c d => h k _ a (fun cs' fr' e => b (by simp at e; exact e.2.1)) (fun cs' fr' e => c (by simp at e; exact e.2.1)) (fun cs' fr' e => d (by simp at e; exact e.2.1))
theorem Kc.refl (W : World) : Kc W W := fun _ _ _ _ h _ _ _ => h
theorem Kc.trans {W W' W'' : World} (h : Kc W W') (g : Kc W' W'') : Kc W W'' := fun k cs T fr a b c d => g k cs T fr (h k cs T fr a b c d) b c d
theorem Kc.bel {W W' : World} (hb : Below W.heap.size W W') : Kc W W' := (Kt.bel hb).kc
/-- A closure over the bench and what tells of its numbers. -/
def NumF (W : World) (bb : Nat) (tell fv : Value) : Prop := ∃ p q, fv = .func (.func 101) #[] #[.pointer (some ⟨p, 0, none⟩), .pointer (some ⟨q, 0, none⟩)] ∧ W.heap[p]? = some (.cells #[.pointer (some ⟨bb, 0, none⟩)] 55) ∧ W.heap[q]? = some (.cells #[tell] 66)
/-- What tells of numbers by an operation. -/
def OpF (W : World) (bb G : Nat) (T : TypeId) (F : Nat) (tell : Value) : Prop := ∃ p q, tell = .func (.func G) #[] #[.pointer (some ⟨p, 0, none⟩), .pointer (some ⟨q, 0, none⟩)] ∧ W.heap[p]? = some (.cells #[.pointer (some ⟨bb, 0, none⟩)] 55) ∧ W.heap[q]? = some (.cells #[.func (.func F) #[] #[]] T)
theorem NumF.next {W W' : World} {bb : Nat} {tell fv : Value} (h : NumF W bb tell fv) (hk : Kc W W') : NumF W' bb tell fv := by
  obtain ⟨p, q, h1, h2, h3⟩ := h
  exact ⟨p, q, h1, hk p _ _ _ h2 (by decide) (by decide) (by decide), hk q _ _ _ h3 (by decide) (by decide) (by decide)⟩
theorem OpF.next {W W' : World} {bb G : Nat} {T : TypeId} {F : Nat} {tell : Value} (h : OpF W bb G T F tell) (hk : Kc W W') (hT : T ≠ 5 ∧ T ≠ 37 ∧ T ≠ 32) : OpF W' bb G T F tell := by
  obtain ⟨p, q, h1, h2, h3⟩ := h
  exact ⟨p, q, h1, hk p _ _ _ h2 (by decide) (by decide) (by decide), hk q _ _ _ h3 hT.1 hT.2.1 hT.2.2⟩
theorem results_row {fn : Func} {p : Tmp} {b : Nat} {x y : Value} (h : fn.results = #[.cell p 58]) (tmps : Array Value) (w : World) (hp : tmps[p]?.getD undef = .pointer (some ⟨b, 0, none⟩)) (h1 : w.cell? ⟨b, 0, none⟩ = some x) (h2 : w.cell? ⟨b, 1, none⟩ = some y) : (results fn tmps).run Tryz.prog w = .ok (.agg #[x, y]) w := by
  simp [results, h, hp, go_sem, h1, h2]
theorem brow_bel {B : Nat} {w W : World} (h : Below B w W) {b : Nat} (hb : B ≤ b) (cs : Array Value) : Below B w (W.setRow b cs) :=
  ⟨h.os, h.tape, h.output, by rw [show (W.setRow b cs).heap.size = W.heap.size by simp [World.setRow]]; exact h.size, fun k hk => (setRow_other W b k cs (by omega)).trans (h.block k hk)⟩
theorem row2_one (n : Int) (v : Value) (h : v.oneCell' = true) : (#[.int .i64 n, v] : Array Value).all (·.oneCell') = true := by
  simp only [List.all_toArray, List.all_cons, List.all_nil, h]; rfl
theorem build_row (n : Int) (f : Fn) (a c : Array Value) (w : World) : (Instr.build 58 #[(0, .int .i64 n), (1, .func f a c)]).run Tryz.prog w = .ok (.agg #[.int .i64 n, .func f a c]) w := run_build w _ _ _ (by kernel_rfl)
set_option maxRecDepth 100000 in
set_option maxHeartbeats 1000000 in
theorem ofNums_any (bb : Nat) (n : Int) (G : Fn) (xs ys : Array Value) (w : World) :
    Calls Tryz.prog 38 #[.pointer (some ⟨bb, 0, none⟩), .int .i64 n, .func G xs ys] w fun e w' => ∃ fv, e = .returned (.agg #[.int .i64 n, fv]) ∧ NumF w' bb (.func G xs ys) fv ∧ Below w.heap.size w w' := by
  have hmf : ∀ (fn : Fn) (first cap : Array Value) (w : World), (Instr.makeFunc fn first cap).run Tryz.prog w = .ok (.func fn first cap) w := fun _ _ _ _ => rfl
  have hbd := build_row
  have hA0 := blk_new ((w.alloc (.cells #[.pointer (some ⟨bb, 0, none⟩)] 55)).alloc (.cells #[.func G xs ys] 66)) (.cells #[.int .i64 0, .nilFunc] 58)
  have hA1 := blk_old (blk_new (w.alloc (.cells #[.pointer (some ⟨bb, 0, none⟩)] 55)) (.cells #[.func G xs ys] 66)) (.cells #[.int .i64 0, .nilFunc] 58)
  have hA2 := blk_old (blk_old (blk_new w (.cells #[.pointer (some ⟨bb, 0, none⟩)] 55)) (.cells #[.func G xs ys] 66)) (.cells #[.int .i64 0, .nilFunc] 58)
  have hB : Below w.heap.size w (((w.alloc (.cells #[.pointer (some ⟨bb, 0, none⟩)] 55)).alloc (.cells #[.func G xs ys] 66)).alloc (.cells #[.int .i64 0, .nilFunc] 58)) := (((Below.refl _ _).alloc (Nat.le_refl _) _).alloc (by simp) _).alloc (by simp; omega) _
  have e1 : (w.alloc (.cells #[.pointer (some ⟨bb, 0, none⟩)] 55)).heap.size = w.heap.size + 1 := by simp
  have e2 : ((w.alloc (.cells #[.pointer (some ⟨bb, 0, none⟩)] 55)).alloc (.cells #[.func G xs ys] 66)).heap.size = w.heap.size + 1 + 1 := by simp
  rw [e2] at hA0
  rw [e1] at hA1
  have HH : Hid ((((w.alloc (.cells #[.pointer (some ⟨bb, 0, none⟩)] 55)).alloc (.cells #[.func G xs ys] 66)).alloc (.cells #[.int .i64 0, .nilFunc] 58)).heap[w.heap.size + 1 + 1]? = some (.cells #[.int .i64 0, .nilFunc] 58) ∧ _ ∧ _ ∧ _) := ⟨hA0, hA1, hA2, hB⟩
  clear hA0 hA1 hA2 hB e1 e2
  go_enter Tryz.func38, Tryz.ntmps38
  go_upto_region 1 with fail
  generalize (((w.alloc (.cells #[.pointer (some ⟨bb, 0, none⟩)] 55)).alloc (.cells #[.func G xs ys] 66)).alloc (.cells #[.int .i64 0, .nilFunc] 58)) = W at *
  go_wp2_with (refine wpList_store_row rfl 58 (.tmp 6) (.tmp 9) rfl (w.heap.size + 1 + 1) #[.int .i64 n, .func (.func 101) #[] #[.pointer (some ⟨w.heap.size, 0, none⟩), .pointer (some ⟨w.heap.size + 1, 0, none⟩)]] rfl rfl _ _ HH.out.1 (by kernel_rfl) rfl (by simp [Value.oneCell']) ?_)
  have hP := setRow_heap W (w.heap.size + 1 + 1) _ #[.int .i64 n, .func (.func 101) #[] #[.pointer (some ⟨w.heap.size, 0, none⟩), .pointer (some ⟨w.heap.size + 1, 0, none⟩)]] _ _ HH.out.1
  (try simp only [Exit.inBlock, Exit.then])
  refine bodyPost_ret (results_row rfl _ _ rfl (blk_cell hP 0) (blk_cell hP 1)) rfl ?_
  obtain ⟨h1, h2, h3, h4⟩ := HH.out
  refine ⟨_, rfl, ⟨w.heap.size, w.heap.size + 1, rfl, (setRow_other W _ _ _ (by omega)).trans h3, (setRow_other W _ _ _ (by omega)).trans h2⟩, brow_bel h4 (by omega) _⟩
set_option maxRecDepth 100000 in
set_option maxHeartbeats 1000000 in
theorem ofOne_any (bb F : Nat) (w : World) :
    Calls Tryz.prog 34 #[.pointer (some ⟨bb, 0, none⟩), .func (.func F) #[] #[]] w fun e w' => ∃ fv tell, e = .returned (.agg #[.int .i64 1, fv]) ∧ NumF w' bb tell fv ∧ OpF w' bb 91 64 F tell ∧ Below w.heap.size w w' := by
  have hmf : ∀ (fn : Fn) (first cap : Array Value) (w : World), (Instr.makeFunc fn first cap).run Tryz.prog w = .ok (.func fn first cap) w := fun _ _ _ _ => rfl
  have hA0 := blk_new ((w.alloc (.cells #[.pointer (some ⟨bb, 0, none⟩)] 55)).alloc (.cells #[.func (.func F) #[] #[]] 64)) (.cells #[.int .i64 0, .nilFunc] 58)
  have hA1 := blk_old (blk_new (w.alloc (.cells #[.pointer (some ⟨bb, 0, none⟩)] 55)) (.cells #[.func (.func F) #[] #[]] 64)) (.cells #[.int .i64 0, .nilFunc] 58)
  have hA2 := blk_old (blk_old (blk_new w (.cells #[.pointer (some ⟨bb, 0, none⟩)] 55)) (.cells #[.func (.func F) #[] #[]] 64)) (.cells #[.int .i64 0, .nilFunc] 58)
  have hB : Below w.heap.size w (((w.alloc (.cells #[.pointer (some ⟨bb, 0, none⟩)] 55)).alloc (.cells #[.func (.func F) #[] #[]] 64)).alloc (.cells #[.int .i64 0, .nilFunc] 58)) := (((Below.refl _ _).alloc (Nat.le_refl _) _).alloc (by simp) _).alloc (by simp; omega) _
  have e1 : (w.alloc (.cells #[.pointer (some ⟨bb, 0, none⟩)] 55)).heap.size = w.heap.size + 1 := by simp
  have e2 : ((w.alloc (.cells #[.pointer (some ⟨bb, 0, none⟩)] 55)).alloc (.cells #[.func (.func F) #[] #[]] 64)).heap.size = w.heap.size + 1 + 1 := by simp
  have e3 : (((w.alloc (.cells #[.pointer (some ⟨bb, 0, none⟩)] 55)).alloc (.cells #[.func (.func F) #[] #[]] 64)).alloc (.cells #[.int .i64 0, .nilFunc] 58)).heap.size = w.heap.size + 1 + 1 + 1 := by simp
  rw [e2] at hA0
  rw [e1] at hA1
  have HH : Hid ((((w.alloc (.cells #[.pointer (some ⟨bb, 0, none⟩)] 55)).alloc (.cells #[.func (.func F) #[] #[]] 64)).alloc (.cells #[.int .i64 0, .nilFunc] 58)).heap[w.heap.size + 1 + 1]? = some (.cells #[.int .i64 0, .nilFunc] 58) ∧ _ ∧ _ ∧ _ ∧ _) := ⟨hA0, hA1, hA2, hB, e3⟩
  clear hA0 hA1 hA2 hB e1 e2 e3
  go_enter Tryz.func34, Tryz.ntmps34
  go_upto_region 1 with fail
  generalize (((w.alloc (.cells #[.pointer (some ⟨bb, 0, none⟩)] 55)).alloc (.cells #[.func (.func F) #[] #[]] 64)).alloc (.cells #[.int .i64 0, .nilFunc] 58)) = W at *
  have c0 := blk_cell HH.out.2.2.1 0
  simp only [List.getElem?_toArray, List.getElem?_cons_zero] at c0
  go_wp2_with fail
  refine (ofNums_any bb 1 _ _ _ _).mono ?_
  rintro e w1 ⟨fv, rfl, hN, hb1⟩
  obtain ⟨h1, h2, h3, h4, h5⟩ := HH.out
  have g1 := (hb1.block _ (by omega)).trans h1
  have g2 := (hb1.block _ (by omega)).trans h2
  have g3 := (hb1.block _ (by omega)).trans h3
  have HG : Hid (w1.heap[w.heap.size + 1 + 1]? = some (.cells #[.int .i64 0, .nilFunc] 58) ∧ w1.heap[w.heap.size + 1]? = some (.cells #[.func (.func F) #[] #[]] 64) ∧ w1.heap[w.heap.size]? = some (.cells #[.pointer (some ⟨bb, 0, none⟩)] 55) ∧ Below w.heap.size w w1 ∧ NumF w1 bb (.func (.func 91) #[] #[.pointer (some ⟨w.heap.size, 0, none⟩), .pointer (some ⟨w.heap.size + 1, 0, none⟩)]) fv) := ⟨g1, g2, g3, h4.trans (hb1.mono h4.size), hN⟩
  clear g1 g2 g3 h1 h2 h3 h4 h5 hN hb1 HH c0
  have hfv : fv.oneCell' = true := by
    obtain ⟨p, q, rfl, -, -⟩ := HG.out.2.2.2.2
    simp [Value.oneCell']
  go_wp2_with (refine wpList_store_row rfl 58 (.tmp 4) (.tmp 7) rfl (w.heap.size + 1 + 1) #[.int .i64 1, fv] rfl rfl _ _ HG.out.1 (by kernel_rfl) rfl (row2_one _ _ hfv) ?_)
  have hP := setRow_heap w1 (w.heap.size + 1 + 1) _ #[.int .i64 1, fv] _ _ HG.out.1
  (try simp only [Exit.inBlock, Exit.then])
  refine bodyPost_ret (results_row rfl _ _ rfl (blk_cell hP 0) (blk_cell hP 1)) rfl ?_
  obtain ⟨h1, h2, h3, h4, h5⟩ := HG.out
  have hK : ∀ k, k ≠ w.heap.size + 1 + 1 → (w1.setRow (w.heap.size + 1 + 1) #[.int .i64 1, fv]).heap[k]? = w1.heap[k]? := fun k hk => setRow_other w1 _ _ _ hk
  refine ⟨fv, _, rfl, ?_, ⟨w.heap.size, w.heap.size + 1, rfl, (hK _ (by omega)).trans h3, (hK _ (by omega)).trans h2⟩, brow_bel h4 (by omega) _⟩
  obtain ⟨p, q, a1, a2, a3⟩ := h5
  have np : p ≠ w.heap.size + 1 + 1 := fun e => by rw [e, h1] at a2; simp at a2
  have nq : q ≠ w.heap.size + 1 + 1 := fun e => by rw [e, h1] at a3; simp at a3
  exact ⟨p, q, a1, (hK _ np).trans a2, (hK _ nq).trans a3⟩
set_option maxRecDepth 100000 in
set_option maxHeartbeats 1000000 in
theorem ofTwo_any (bb F : Nat) (w : World) :
    Calls Tryz.prog 27 #[.pointer (some ⟨bb, 0, none⟩), .func (.func F) #[] #[]] w fun e w' => ∃ fv tell, e = .returned (.agg #[.int .i64 2, fv]) ∧ NumF w' bb tell fv ∧ OpF w' bb 71 60 F tell ∧ Below w.heap.size w w' := by
  have hmf : ∀ (fn : Fn) (first cap : Array Value) (w : World), (Instr.makeFunc fn first cap).run Tryz.prog w = .ok (.func fn first cap) w := fun _ _ _ _ => rfl
  have hA0 := blk_new ((w.alloc (.cells #[.pointer (some ⟨bb, 0, none⟩)] 55)).alloc (.cells #[.func (.func F) #[] #[]] 60)) (.cells #[.int .i64 0, .nilFunc] 58)
  have hA1 := blk_old (blk_new (w.alloc (.cells #[.pointer (some ⟨bb, 0, none⟩)] 55)) (.cells #[.func (.func F) #[] #[]] 60)) (.cells #[.int .i64 0, .nilFunc] 58)
  have hA2 := blk_old (blk_old (blk_new w (.cells #[.pointer (some ⟨bb, 0, none⟩)] 55)) (.cells #[.func (.func F) #[] #[]] 60)) (.cells #[.int .i64 0, .nilFunc] 58)
  have hB : Below w.heap.size w (((w.alloc (.cells #[.pointer (some ⟨bb, 0, none⟩)] 55)).alloc (.cells #[.func (.func F) #[] #[]] 60)).alloc (.cells #[.int .i64 0, .nilFunc] 58)) := (((Below.refl _ _).alloc (Nat.le_refl _) _).alloc (by simp) _).alloc (by simp; omega) _
  have e1 : (w.alloc (.cells #[.pointer (some ⟨bb, 0, none⟩)] 55)).heap.size = w.heap.size + 1 := by simp
  have e2 : ((w.alloc (.cells #[.pointer (some ⟨bb, 0, none⟩)] 55)).alloc (.cells #[.func (.func F) #[] #[]] 60)).heap.size = w.heap.size + 1 + 1 := by simp
  have e3 : (((w.alloc (.cells #[.pointer (some ⟨bb, 0, none⟩)] 55)).alloc (.cells #[.func (.func F) #[] #[]] 60)).alloc (.cells #[.int .i64 0, .nilFunc] 58)).heap.size = w.heap.size + 1 + 1 + 1 := by simp
  rw [e2] at hA0
  rw [e1] at hA1
  have HH : Hid ((((w.alloc (.cells #[.pointer (some ⟨bb, 0, none⟩)] 55)).alloc (.cells #[.func (.func F) #[] #[]] 60)).alloc (.cells #[.int .i64 0, .nilFunc] 58)).heap[w.heap.size + 1 + 1]? = some (.cells #[.int .i64 0, .nilFunc] 58) ∧ _ ∧ _ ∧ _ ∧ _) := ⟨hA0, hA1, hA2, hB, e3⟩
  clear hA0 hA1 hA2 hB e1 e2 e3
  go_enter Tryz.func27, Tryz.ntmps27
  go_upto_region 1 with fail
  generalize (((w.alloc (.cells #[.pointer (some ⟨bb, 0, none⟩)] 55)).alloc (.cells #[.func (.func F) #[] #[]] 60)).alloc (.cells #[.int .i64 0, .nilFunc] 58)) = W at *
  have c0 := blk_cell HH.out.2.2.1 0
  simp only [List.getElem?_toArray, List.getElem?_cons_zero] at c0
  go_wp2_with fail
  refine (ofNums_any bb 2 _ _ _ _).mono ?_
  rintro e w1 ⟨fv, rfl, hN, hb1⟩
  obtain ⟨h1, h2, h3, h4, h5⟩ := HH.out
  have g1 := (hb1.block _ (by omega)).trans h1
  have g2 := (hb1.block _ (by omega)).trans h2
  have g3 := (hb1.block _ (by omega)).trans h3
  have HG : Hid (w1.heap[w.heap.size + 1 + 1]? = some (.cells #[.int .i64 0, .nilFunc] 58) ∧ w1.heap[w.heap.size + 1]? = some (.cells #[.func (.func F) #[] #[]] 60) ∧ w1.heap[w.heap.size]? = some (.cells #[.pointer (some ⟨bb, 0, none⟩)] 55) ∧ Below w.heap.size w w1 ∧ NumF w1 bb (.func (.func 71) #[] #[.pointer (some ⟨w.heap.size, 0, none⟩), .pointer (some ⟨w.heap.size + 1, 0, none⟩)]) fv) := ⟨g1, g2, g3, h4.trans (hb1.mono h4.size), hN⟩
  clear g1 g2 g3 h1 h2 h3 h4 h5 hN hb1 HH c0
  have hfv : fv.oneCell' = true := by
    obtain ⟨p, q, rfl, -, -⟩ := HG.out.2.2.2.2
    simp [Value.oneCell']
  go_wp2_with (refine wpList_store_row rfl 58 (.tmp 4) (.tmp 7) rfl (w.heap.size + 1 + 1) #[.int .i64 2, fv] rfl rfl _ _ HG.out.1 (by kernel_rfl) rfl (row2_one _ _ hfv) ?_)
  have hP := setRow_heap w1 (w.heap.size + 1 + 1) _ #[.int .i64 2, fv] _ _ HG.out.1
  (try simp only [Exit.inBlock, Exit.then])
  refine bodyPost_ret (results_row rfl _ _ rfl (blk_cell hP 0) (blk_cell hP 1)) rfl ?_
  obtain ⟨h1, h2, h3, h4, h5⟩ := HG.out
  have hK : ∀ k, k ≠ w.heap.size + 1 + 1 → (w1.setRow (w.heap.size + 1 + 1) #[.int .i64 2, fv]).heap[k]? = w1.heap[k]? := fun k hk => setRow_other w1 _ _ _ hk
  refine ⟨fv, _, rfl, ?_, ⟨w.heap.size, w.heap.size + 1, rfl, (hK _ (by omega)).trans h3, (hK _ (by omega)).trans h2⟩, brow_bel h4 (by omega) _⟩
  obtain ⟨p, q, a1, a2, a3⟩ := h5
  have np : p ≠ w.heap.size + 1 + 1 := fun e => by rw [e, h1] at a2; simp at a2
  have nq : q ≠ w.heap.size + 1 + 1 := fun e => by rw [e, h1] at a3; simp at a3
  exact ⟨p, q, a1, (hK _ np).trans a2, (hK _ nq).trans a3⟩
set_option maxRecDepth 100000 in
set_option maxHeartbeats 1000000 in
theorem ofThree_any (bb F : Nat) (w : World) :
    Calls Tryz.prog 32 #[.pointer (some ⟨bb, 0, none⟩), .func (.func F) #[] #[]] w fun e w' => ∃ fv tell, e = .returned (.agg #[.int .i64 3, fv]) ∧ NumF w' bb tell fv ∧ OpF w' bb 89 62 F tell ∧ Below w.heap.size w w' := by
  have hmf : ∀ (fn : Fn) (first cap : Array Value) (w : World), (Instr.makeFunc fn first cap).run Tryz.prog w = .ok (.func fn first cap) w := fun _ _ _ _ => rfl
  have hA0 := blk_new ((w.alloc (.cells #[.pointer (some ⟨bb, 0, none⟩)] 55)).alloc (.cells #[.func (.func F) #[] #[]] 62)) (.cells #[.int .i64 0, .nilFunc] 58)
  have hA1 := blk_old (blk_new (w.alloc (.cells #[.pointer (some ⟨bb, 0, none⟩)] 55)) (.cells #[.func (.func F) #[] #[]] 62)) (.cells #[.int .i64 0, .nilFunc] 58)
  have hA2 := blk_old (blk_old (blk_new w (.cells #[.pointer (some ⟨bb, 0, none⟩)] 55)) (.cells #[.func (.func F) #[] #[]] 62)) (.cells #[.int .i64 0, .nilFunc] 58)
  have hB : Below w.heap.size w (((w.alloc (.cells #[.pointer (some ⟨bb, 0, none⟩)] 55)).alloc (.cells #[.func (.func F) #[] #[]] 62)).alloc (.cells #[.int .i64 0, .nilFunc] 58)) := (((Below.refl _ _).alloc (Nat.le_refl _) _).alloc (by simp) _).alloc (by simp; omega) _
  have e1 : (w.alloc (.cells #[.pointer (some ⟨bb, 0, none⟩)] 55)).heap.size = w.heap.size + 1 := by simp
  have e2 : ((w.alloc (.cells #[.pointer (some ⟨bb, 0, none⟩)] 55)).alloc (.cells #[.func (.func F) #[] #[]] 62)).heap.size = w.heap.size + 1 + 1 := by simp
  have e3 : (((w.alloc (.cells #[.pointer (some ⟨bb, 0, none⟩)] 55)).alloc (.cells #[.func (.func F) #[] #[]] 62)).alloc (.cells #[.int .i64 0, .nilFunc] 58)).heap.size = w.heap.size + 1 + 1 + 1 := by simp
  rw [e2] at hA0
  rw [e1] at hA1
  have HH : Hid ((((w.alloc (.cells #[.pointer (some ⟨bb, 0, none⟩)] 55)).alloc (.cells #[.func (.func F) #[] #[]] 62)).alloc (.cells #[.int .i64 0, .nilFunc] 58)).heap[w.heap.size + 1 + 1]? = some (.cells #[.int .i64 0, .nilFunc] 58) ∧ _ ∧ _ ∧ _ ∧ _) := ⟨hA0, hA1, hA2, hB, e3⟩
  clear hA0 hA1 hA2 hB e1 e2 e3
  go_enter Tryz.func32, Tryz.ntmps32
  go_upto_region 1 with fail
  generalize (((w.alloc (.cells #[.pointer (some ⟨bb, 0, none⟩)] 55)).alloc (.cells #[.func (.func F) #[] #[]] 62)).alloc (.cells #[.int .i64 0, .nilFunc] 58)) = W at *
  have c0 := blk_cell HH.out.2.2.1 0
  simp only [List.getElem?_toArray, List.getElem?_cons_zero] at c0
  go_wp2_with fail
  refine (ofNums_any bb 3 _ _ _ _).mono ?_
  rintro e w1 ⟨fv, rfl, hN, hb1⟩
  obtain ⟨h1, h2, h3, h4, h5⟩ := HH.out
  have g1 := (hb1.block _ (by omega)).trans h1
  have g2 := (hb1.block _ (by omega)).trans h2
  have g3 := (hb1.block _ (by omega)).trans h3
  have HG : Hid (w1.heap[w.heap.size + 1 + 1]? = some (.cells #[.int .i64 0, .nilFunc] 58) ∧ w1.heap[w.heap.size + 1]? = some (.cells #[.func (.func F) #[] #[]] 62) ∧ w1.heap[w.heap.size]? = some (.cells #[.pointer (some ⟨bb, 0, none⟩)] 55) ∧ Below w.heap.size w w1 ∧ NumF w1 bb (.func (.func 89) #[] #[.pointer (some ⟨w.heap.size, 0, none⟩), .pointer (some ⟨w.heap.size + 1, 0, none⟩)]) fv) := ⟨g1, g2, g3, h4.trans (hb1.mono h4.size), hN⟩
  clear g1 g2 g3 h1 h2 h3 h4 h5 hN hb1 HH c0
  have hfv : fv.oneCell' = true := by
    obtain ⟨p, q, rfl, -, -⟩ := HG.out.2.2.2.2
    simp [Value.oneCell']
  go_wp2_with (refine wpList_store_row rfl 58 (.tmp 4) (.tmp 7) rfl (w.heap.size + 1 + 1) #[.int .i64 3, fv] rfl rfl _ _ HG.out.1 (by kernel_rfl) rfl (row2_one _ _ hfv) ?_)
  have hP := setRow_heap w1 (w.heap.size + 1 + 1) _ #[.int .i64 3, fv] _ _ HG.out.1
  (try simp only [Exit.inBlock, Exit.then])
  refine bodyPost_ret (results_row rfl _ _ rfl (blk_cell hP 0) (blk_cell hP 1)) rfl ?_
  obtain ⟨h1, h2, h3, h4, h5⟩ := HG.out
  have hK : ∀ k, k ≠ w.heap.size + 1 + 1 → (w1.setRow (w.heap.size + 1 + 1) #[.int .i64 3, fv]).heap[k]? = w1.heap[k]? := fun k hk => setRow_other w1 _ _ _ hk
  refine ⟨fv, _, rfl, ?_, ⟨w.heap.size, w.heap.size + 1, rfl, (hK _ (by omega)).trans h3, (hK _ (by omega)).trans h2⟩, brow_bel h4 (by omega) _⟩
  obtain ⟨p, q, a1, a2, a3⟩ := h5
  have np : p ≠ w.heap.size + 1 + 1 := fun e => by rw [e, h1] at a2; simp at a2
  have nq : q ≠ w.heap.size + 1 + 1 := fun e => by rw [e, h1] at a3; simp at a3
  exact ⟨p, q, a1, (hK _ np).trans a2, (hK _ nq).trans a3⟩
end Go.Proofs.YteofommckgeemaaGreatDoor
namespace Go.Proofs.YteofommckgeemaaGreatDoor
open Go.RowKit
set_option linter.unusedVariables false
set_option maxRecDepth 100000
set_option linter.unusedSimpArgs false
theorem map_put (w : World) (m : Nat) (es : Array MapEntry) (clock : Nat) (k : ByteArray) (v : Value) (hb : w.heap[m]? = some (.map es clock)) (hf : Instr.findNow .string (.string k) es.toList 0 = some none) :
    (Instr.mapUpdate 33 (.map (some m)) (.string k) v).run Tryz.prog w = .ok () (w.putObj m (.map (es.push ⟨.string k, v, clock⟩) (clock + 1))) := by
  have hc : (Instr.checkKey false 10000 9 (.string k)).run Tryz.prog w = .ok () w := MapKept.run_checkKey (k := .string k) Tryz.underlying9 (by simp [MapKept.IsKey]) false 9999
  simp [Instr.mapUpdate, run_underlying Tryz.underlying33, MapKept.run_getObj_map hb, hc, MapKept.run_findKey Tryz.underlying9 hf, MapKept.run_setObj_map _ hb, Result.andThen, World.putObj]
theorem map_look (w : World) (m : Nat) (es : Array MapEntry) (clock : Nat) (k : ByteArray) (i : Nat) (v : Value) (hb : w.heap[m]? = some (.map es clock)) (he : es.isEmpty = false) (hf : Instr.findNow .string (.string k) es.toList 0 = some (some (i, v))) :
    (Instr.lookup 33 (.map (some m)) (.string k) true).run Tryz.prog w = .ok (.tuple #[v, .bool true]) w := by
  have hc : (Instr.checkKey false 10000 9 (.string k)).run Tryz.prog w = .ok () w := MapKept.run_checkKey (k := .string k) Tryz.underlying9 (by simp [MapKept.IsKey]) false 9999
  simp [Instr.lookup, run_underlying Tryz.underlying33, MapKept.run_getObj_map hb, he, hc, MapKept.run_findKey Tryz.underlying9 hf, Result.andThen]
theorem zero_row (w : World) : (zeroValue 58).run Tryz.prog w = .ok (.agg #[.int .i64 0, .nilFunc]) w := by kernel_rfl
theorem map_none (w : World) (m : Nat) (es : Array MapEntry) (clock : Nat) (k : ByteArray) (hb : w.heap[m]? = some (.map es clock)) (he : es.isEmpty = false) (hf : Instr.findNow .string (.string k) es.toList 0 = some none) :
    (Instr.lookup 33 (.map (some m)) (.string k) true).run Tryz.prog w = .ok (.tuple #[.agg #[.int .i64 0, .nilFunc], .bool false]) w := by
  have hc : (Instr.checkKey false 10000 9 (.string k)).run Tryz.prog w = .ok () w := MapKept.run_checkKey (k := .string k) Tryz.underlying9 (by simp [MapKept.IsKey]) false 9999
  simp [Instr.lookup, run_underlying Tryz.underlying33, MapKept.run_getObj_map hb, he, hc, MapKept.run_findKey Tryz.underlying9 hf, zero_row, Result.andThen]
/-- A row put in: the map is as told, all else stands. -/
theorem wpList_ins {ops : Array Oper} {rest : List Oper} {o : Oper} {a : Act} {w : World} {Q : Exit → Act → World → Prop} (hg : o.guard = none) (x y : Operand) (k : ByteArray) (hop : o.op = .insert 33 x (.const (.string k)) y)
    (m : Nat) (es : Array MapEntry) (clock : Nat) (v : Value) (hx : a.eval x = .map (some m)) (hy : a.eval y = v) (hb : w.heap[m]? = some (.map es clock)) (hf : Instr.findNow .string (.string k) es.toList 0 = some none)
    (h : ∀ w', w'.heap[m]? = some (.map (es.push ⟨.string k, v, clock⟩) (clock + 1)) → Kc w w' → Below m w w' → wpList Tryz.prog ops Q rest (a.put o.dst undef) w') : wpList Tryz.prog ops Q (o :: rest) a w := by
  refine wpList_plain hg fun K hK => ?_
  have hlt : m < w.heap.size := (Array.getElem?_eq_some_iff.1 hb).1
  have hp := map_put w m es clock k v hb hf
  unfold Oper.wp execOp
  have hk : a.eval (.const (.string k)) = .string k := rfl
  simp only [hop, hx, hy, hk]
  simp [hp]
  refine hK _ _ (h _ (World.putObj_heap_same hlt) (fun j cs T fr hj _ _ _ => ?_) ⟨rfl, rfl, rfl, by simp [World.putObj], fun j hj => World.putObj_heap_other (by omega)⟩)
  by_cases e : j = m
  · subst e; rw [hb] at hj; simp at hj
  · rw [World.putObj_heap_other e]; exact hj
end Go.Proofs.YteofommckgeemaaGreatDoor
namespace Go.Proofs.YteofommckgeemaaGreatDoor
open Go.RowKit
set_option linter.unusedVariables false
set_option maxRecDepth 100000
set_option linter.unusedSimpArgs false
def OneR (W : World) (bb F : Nat) (fv : Value) : Prop := ∃ tell, NumF W bb tell fv ∧ OpF W bb 91 64 F tell
def TwoR (W : World) (bb F : Nat) (fv : Value) : Prop := ∃ tell, NumF W bb tell fv ∧ OpF W bb 71 60 F tell
def ThrR (W : World) (bb F : Nat) (fv : Value) : Prop := ∃ tell, NumF W bb tell fv ∧ OpF W bb 89 62 F tell
theorem OneR.next {W W' : World} {bb F : Nat} {fv : Value} (h : OneR W bb F fv) (hk : Kc W W') : OneR W' bb F fv := by
  obtain ⟨t, h1, h2⟩ := h
  exact ⟨t, h1.next hk, h2.next hk (by decide)⟩
theorem TwoR.next {W W' : World} {bb F : Nat} {fv : Value} (h : TwoR W bb F fv) (hk : Kc W W') : TwoR W' bb F fv := by
  obtain ⟨t, h1, h2⟩ := h
  exact ⟨t, h1.next hk, h2.next hk (by decide)⟩
theorem ThrR.next {W W' : World} {bb F : Nat} {fv : Value} (h : ThrR W bb F fv) (hk : Kc W W') : ThrR W' bb F fv := by
  obtain ⟨t, h1, h2⟩ := h
  exact ⟨t, h1.next hk, h2.next hk (by decide)⟩
/-- The rows' entries. -/
abbrev rowsE (bb : Nat) (fadd fsub fmul fdiv ffma fsqrt fquantize fnext fcompare fword : Value) : Array MapEntry := #[⟨.string { data := #[102, 111, 114, 109, 97, 116] }, .agg #[.int .i64 1, .func (.func 25) #[.pointer (some ⟨bb, 0, none⟩)] #[]], 0⟩, ⟨.string { data := #[109, 111, 100, 101] }, .agg #[.int .i64 1, .func (.func 26) #[.pointer (some ⟨bb, 0, none⟩)] #[]], 1⟩, ⟨.string { data := #[97, 100, 100] }, .agg #[.int .i64 2, fadd], 2⟩, ⟨.string { data := #[115, 117, 98] }, .agg #[.int .i64 2, fsub], 3⟩, ⟨.string { data := #[109, 117, 108] }, .agg #[.int .i64 2, fmul], 4⟩, ⟨.string { data := #[100, 105, 118] }, .agg #[.int .i64 2, fdiv], 5⟩, ⟨.string { data := #[102, 109, 97] }, .agg #[.int .i64 3, ffma], 6⟩, ⟨.string { data := #[115, 113, 114, 116] }, .agg #[.int .i64 1, fsqrt], 7⟩, ⟨.string { data := #[113, 117, 97, 110, 116, 105, 122, 101] }, .agg #[.int .i64 2, fquantize], 8⟩, ⟨.string { data := #[110, 101, 120, 116] }, .agg #[.int .i64 1, fnext], 9⟩, ⟨.string { data := #[99, 111, 109, 112, 97, 114, 101] }, .agg #[.int .i64 2, fcompare], 10⟩, ⟨.string { data := #[119, 111, 114, 100] }, .agg #[.int .i64 1, fword], 11⟩, ⟨.string { data := #[102, 108, 97, 103, 115] }, .agg #[.int .i64 0, .func (.func 41) #[.pointer (some ⟨bb, 0, none⟩)] #[]], 12⟩]
/-- What the rows hold of closures. -/
def RowsF (W : World) (bb : Nat) (fadd fsub fmul fdiv ffma fsqrt fquantize fnext fcompare fword : Value) : Prop := TwoR W bb 28 fadd ∧ TwoR W bb 29 fsub ∧ TwoR W bb 30 fmul ∧ TwoR W bb 31 fdiv ∧ ThrR W bb 33 ffma ∧ OneR W bb 35 fsqrt ∧ TwoR W bb 36 fquantize ∧ OneR W bb 37 fnext ∧ NumF W bb (.func (.func 39) #[.pointer (some ⟨bb, 0, none⟩)] #[]) fcompare ∧ NumF W bb (.func (.func 40) #[.pointer (some ⟨bb, 0, none⟩)] #[]) fword
theorem RowsF.next {W W' : World} {bb : Nat} {fadd fsub fmul fdiv ffma fsqrt fquantize fnext fcompare fword : Value} (h : RowsF W bb fadd fsub fmul fdiv ffma fsqrt fquantize fnext fcompare fword) (hk : Kc W W') : RowsF W' bb fadd fsub fmul fdiv ffma fsqrt fquantize fnext fcompare fword := by
  obtain ⟨h0, h1, h2, h3, h4, h5, h6, h7, h8, h9⟩ := h
  exact ⟨h0.next hk, h1.next hk, h2.next hk, h3.next hk, h4.next hk, h5.next hk, h6.next hk, h7.next hk, h8.next hk, h9.next hk⟩
/-- The rows lie in the map m. -/
def RowsAt (W : World) (m bb : Nat) : Prop := ∃ fadd fsub fmul fdiv ffma fsqrt fquantize fnext fcompare fword, W.heap[m]? = some (.map (rowsE bb fadd fsub fmul fdiv ffma fsqrt fquantize fnext fcompare fword) 13) ∧ RowsF W bb fadd fsub fmul fdiv ffma fsqrt fquantize fnext fcompare fword
theorem RowsAt.next {W W' : World} {m bb : Nat} (h : RowsAt W m bb) (hk : Kt W W') : RowsAt W' m bb := by
  obtain ⟨fadd, fsub, fmul, fdiv, ffma, fsqrt, fquantize, fnext, fcompare, fword, h1, h2⟩ := h
  exact ⟨fadd, fsub, fmul, fdiv, ffma, fsqrt, fquantize, fnext, fcompare, fword, hk m _ h1 (fun cs fr e => by simp at e) (fun cs fr e => by simp at e) (fun cs fr e => by simp at e), h2.next hk.kc⟩
set_option maxRecDepth 100000 in
set_option maxHeartbeats 4000000 in
theorem rows_any (bb : Nat) (w : World) :
    Calls Tryz.prog 14 #[.pointer (some ⟨bb, 0, none⟩)] w fun e w' => ∃ m, e = .returned (.map (some m)) ∧ RowsAt w' m bb ∧ Below w.heap.size w w' := by
  have hmf : ∀ (fn : Fn) (first cap : Array Value) (w : World), (Instr.makeFunc fn first cap).run Tryz.prog w = .ok (.func fn first cap) w := fun _ _ _ _ => rfl
  have hbd := build_row
  have hmm := @run_makeMap Tryz.prog
  have hm0 := blk_new w (.map #[] 0)
  have HS : Hid ((w.alloc (.map #[] 0)).heap[w.heap.size]? = some (.map #[] 0) ∧ Below w.heap.size w (w.alloc (.map #[] 0))) := ⟨hm0, (Below.refl _ _).alloc (Nat.le_refl _) _⟩
  clear hm0
  go_enter Tryz.func14, Tryz.ntmps14
  go_wp2_with (refine wpList_ins rfl (.tmp 3) (.tmp 6) { data := #[102, 111, 114, 109, 97, 116] } rfl w.heap.size #[] 0 (.agg #[.int .i64 1, .func (.func 25) #[.pointer (some ⟨bb, 0, none⟩)] #[]]) rfl rfl HS.out.1 (by kernel_rfl) ?_)
  intro b0 g1 g2 g3
  have HB0 : Hid (b0.heap[w.heap.size]? = some (.map #[⟨.string { data := #[102, 111, 114, 109, 97, 116] }, .agg #[.int .i64 1, .func (.func 25) #[.pointer (some ⟨bb, 0, none⟩)] #[]], 0⟩] 1) ∧ Below w.heap.size w b0) := by
    obtain ⟨q0, q1⟩ := HS.out
    exact ⟨g1, q1.trans g3⟩
  clear HS g1 g2 g3
  go_wp2_with (refine wpList_ins rfl (.tmp 3) (.tmp 9) { data := #[109, 111, 100, 101] } rfl w.heap.size #[⟨.string { data := #[102, 111, 114, 109, 97, 116] }, .agg #[.int .i64 1, .func (.func 25) #[.pointer (some ⟨bb, 0, none⟩)] #[]], 0⟩] 1 (.agg #[.int .i64 1, .func (.func 26) #[.pointer (some ⟨bb, 0, none⟩)] #[]]) rfl rfl HB0.out.1 (by kernel_rfl) ?_)
  intro b1 g1 g2 g3
  have HB1 : Hid (b1.heap[w.heap.size]? = some (.map #[⟨.string { data := #[102, 111, 114, 109, 97, 116] }, .agg #[.int .i64 1, .func (.func 25) #[.pointer (some ⟨bb, 0, none⟩)] #[]], 0⟩, ⟨.string { data := #[109, 111, 100, 101] }, .agg #[.int .i64 1, .func (.func 26) #[.pointer (some ⟨bb, 0, none⟩)] #[]], 1⟩] 2) ∧ Below w.heap.size w b1) := by
    obtain ⟨q0, q1⟩ := HB0.out
    exact ⟨g1, q1.trans g3⟩
  clear HB0 g1 g2 g3
  go_wp2_with fail
  refine (ofTwo_any bb 28 _).mono ?_
  rintro e a2 ⟨fadd, tadd, rfl, hN, hO, hb⟩
  have HA2 : Hid (a2.heap[w.heap.size]? = some (.map #[⟨.string { data := #[102, 111, 114, 109, 97, 116] }, .agg #[.int .i64 1, .func (.func 25) #[.pointer (some ⟨bb, 0, none⟩)] #[]], 0⟩, ⟨.string { data := #[109, 111, 100, 101] }, .agg #[.int .i64 1, .func (.func 26) #[.pointer (some ⟨bb, 0, none⟩)] #[]], 1⟩] 2) ∧ Below w.heap.size w a2 ∧ TwoR a2 bb 28 fadd) := by
    obtain ⟨q0, q1⟩ := HB1.out
    exact ⟨(hb.block _ (Array.getElem?_eq_some_iff.1 q0).1).trans q0, q1.trans (hb.mono q1.size), ⟨_, hN, hO⟩⟩
  clear HB1 hN hb hO
  go_wp2_with (refine wpList_ins rfl (.tmp 3) (.tmp 11) { data := #[97, 100, 100] } rfl w.heap.size #[⟨.string { data := #[102, 111, 114, 109, 97, 116] }, .agg #[.int .i64 1, .func (.func 25) #[.pointer (some ⟨bb, 0, none⟩)] #[]], 0⟩, ⟨.string { data := #[109, 111, 100, 101] }, .agg #[.int .i64 1, .func (.func 26) #[.pointer (some ⟨bb, 0, none⟩)] #[]], 1⟩] 2 (.agg #[.int .i64 2, fadd]) rfl rfl HA2.out.1 (by kernel_rfl) ?_)
  intro b2 g1 g2 g3
  have HB2 : Hid (b2.heap[w.heap.size]? = some (.map #[⟨.string { data := #[102, 111, 114, 109, 97, 116] }, .agg #[.int .i64 1, .func (.func 25) #[.pointer (some ⟨bb, 0, none⟩)] #[]], 0⟩, ⟨.string { data := #[109, 111, 100, 101] }, .agg #[.int .i64 1, .func (.func 26) #[.pointer (some ⟨bb, 0, none⟩)] #[]], 1⟩, ⟨.string { data := #[97, 100, 100] }, .agg #[.int .i64 2, fadd], 2⟩] 3) ∧ Below w.heap.size w b2 ∧ TwoR b2 bb 28 fadd) := by
    obtain ⟨q0, q1, r0⟩ := HA2.out
    exact ⟨g1, q1.trans g3, r0.next g2⟩
  clear HA2 g1 g2 g3
  go_wp2_with fail
  refine (ofTwo_any bb 29 _).mono ?_
  rintro e a3 ⟨fsub, tsub, rfl, hN, hO, hb⟩
  have HA3 : Hid (a3.heap[w.heap.size]? = some (.map #[⟨.string { data := #[102, 111, 114, 109, 97, 116] }, .agg #[.int .i64 1, .func (.func 25) #[.pointer (some ⟨bb, 0, none⟩)] #[]], 0⟩, ⟨.string { data := #[109, 111, 100, 101] }, .agg #[.int .i64 1, .func (.func 26) #[.pointer (some ⟨bb, 0, none⟩)] #[]], 1⟩, ⟨.string { data := #[97, 100, 100] }, .agg #[.int .i64 2, fadd], 2⟩] 3) ∧ Below w.heap.size w a3 ∧ TwoR a3 bb 28 fadd ∧ TwoR a3 bb 29 fsub) := by
    obtain ⟨q0, q1, r0⟩ := HB2.out
    exact ⟨(hb.block _ (Array.getElem?_eq_some_iff.1 q0).1).trans q0, q1.trans (hb.mono q1.size), r0.next (Kc.bel hb), ⟨_, hN, hO⟩⟩
  clear HB2 hN hb hO
  go_wp2_with (refine wpList_ins rfl (.tmp 3) (.tmp 13) { data := #[115, 117, 98] } rfl w.heap.size #[⟨.string { data := #[102, 111, 114, 109, 97, 116] }, .agg #[.int .i64 1, .func (.func 25) #[.pointer (some ⟨bb, 0, none⟩)] #[]], 0⟩, ⟨.string { data := #[109, 111, 100, 101] }, .agg #[.int .i64 1, .func (.func 26) #[.pointer (some ⟨bb, 0, none⟩)] #[]], 1⟩, ⟨.string { data := #[97, 100, 100] }, .agg #[.int .i64 2, fadd], 2⟩] 3 (.agg #[.int .i64 2, fsub]) rfl rfl HA3.out.1 (by kernel_rfl) ?_)
  intro b3 g1 g2 g3
  have HB3 : Hid (b3.heap[w.heap.size]? = some (.map #[⟨.string { data := #[102, 111, 114, 109, 97, 116] }, .agg #[.int .i64 1, .func (.func 25) #[.pointer (some ⟨bb, 0, none⟩)] #[]], 0⟩, ⟨.string { data := #[109, 111, 100, 101] }, .agg #[.int .i64 1, .func (.func 26) #[.pointer (some ⟨bb, 0, none⟩)] #[]], 1⟩, ⟨.string { data := #[97, 100, 100] }, .agg #[.int .i64 2, fadd], 2⟩, ⟨.string { data := #[115, 117, 98] }, .agg #[.int .i64 2, fsub], 3⟩] 4) ∧ Below w.heap.size w b3 ∧ TwoR b3 bb 28 fadd ∧ TwoR b3 bb 29 fsub) := by
    obtain ⟨q0, q1, r0, r1⟩ := HA3.out
    exact ⟨g1, q1.trans g3, r0.next g2, r1.next g2⟩
  clear HA3 g1 g2 g3
  go_wp2_with fail
  refine (ofTwo_any bb 30 _).mono ?_
  rintro e a4 ⟨fmul, tmul, rfl, hN, hO, hb⟩
  have HA4 : Hid (a4.heap[w.heap.size]? = some (.map #[⟨.string { data := #[102, 111, 114, 109, 97, 116] }, .agg #[.int .i64 1, .func (.func 25) #[.pointer (some ⟨bb, 0, none⟩)] #[]], 0⟩, ⟨.string { data := #[109, 111, 100, 101] }, .agg #[.int .i64 1, .func (.func 26) #[.pointer (some ⟨bb, 0, none⟩)] #[]], 1⟩, ⟨.string { data := #[97, 100, 100] }, .agg #[.int .i64 2, fadd], 2⟩, ⟨.string { data := #[115, 117, 98] }, .agg #[.int .i64 2, fsub], 3⟩] 4) ∧ Below w.heap.size w a4 ∧ TwoR a4 bb 28 fadd ∧ TwoR a4 bb 29 fsub ∧ TwoR a4 bb 30 fmul) := by
    obtain ⟨q0, q1, r0, r1⟩ := HB3.out
    exact ⟨(hb.block _ (Array.getElem?_eq_some_iff.1 q0).1).trans q0, q1.trans (hb.mono q1.size), r0.next (Kc.bel hb), r1.next (Kc.bel hb), ⟨_, hN, hO⟩⟩
  clear HB3 hN hb hO
  go_wp2_with (refine wpList_ins rfl (.tmp 3) (.tmp 15) { data := #[109, 117, 108] } rfl w.heap.size #[⟨.string { data := #[102, 111, 114, 109, 97, 116] }, .agg #[.int .i64 1, .func (.func 25) #[.pointer (some ⟨bb, 0, none⟩)] #[]], 0⟩, ⟨.string { data := #[109, 111, 100, 101] }, .agg #[.int .i64 1, .func (.func 26) #[.pointer (some ⟨bb, 0, none⟩)] #[]], 1⟩, ⟨.string { data := #[97, 100, 100] }, .agg #[.int .i64 2, fadd], 2⟩, ⟨.string { data := #[115, 117, 98] }, .agg #[.int .i64 2, fsub], 3⟩] 4 (.agg #[.int .i64 2, fmul]) rfl rfl HA4.out.1 (by kernel_rfl) ?_)
  intro b4 g1 g2 g3
  have HB4 : Hid (b4.heap[w.heap.size]? = some (.map #[⟨.string { data := #[102, 111, 114, 109, 97, 116] }, .agg #[.int .i64 1, .func (.func 25) #[.pointer (some ⟨bb, 0, none⟩)] #[]], 0⟩, ⟨.string { data := #[109, 111, 100, 101] }, .agg #[.int .i64 1, .func (.func 26) #[.pointer (some ⟨bb, 0, none⟩)] #[]], 1⟩, ⟨.string { data := #[97, 100, 100] }, .agg #[.int .i64 2, fadd], 2⟩, ⟨.string { data := #[115, 117, 98] }, .agg #[.int .i64 2, fsub], 3⟩, ⟨.string { data := #[109, 117, 108] }, .agg #[.int .i64 2, fmul], 4⟩] 5) ∧ Below w.heap.size w b4 ∧ TwoR b4 bb 28 fadd ∧ TwoR b4 bb 29 fsub ∧ TwoR b4 bb 30 fmul) := by
    obtain ⟨q0, q1, r0, r1, r2⟩ := HA4.out
    exact ⟨g1, q1.trans g3, r0.next g2, r1.next g2, r2.next g2⟩
  clear HA4 g1 g2 g3
  go_wp2_with fail
  refine (ofTwo_any bb 31 _).mono ?_
  rintro e a5 ⟨fdiv, tdiv, rfl, hN, hO, hb⟩
  have HA5 : Hid (a5.heap[w.heap.size]? = some (.map #[⟨.string { data := #[102, 111, 114, 109, 97, 116] }, .agg #[.int .i64 1, .func (.func 25) #[.pointer (some ⟨bb, 0, none⟩)] #[]], 0⟩, ⟨.string { data := #[109, 111, 100, 101] }, .agg #[.int .i64 1, .func (.func 26) #[.pointer (some ⟨bb, 0, none⟩)] #[]], 1⟩, ⟨.string { data := #[97, 100, 100] }, .agg #[.int .i64 2, fadd], 2⟩, ⟨.string { data := #[115, 117, 98] }, .agg #[.int .i64 2, fsub], 3⟩, ⟨.string { data := #[109, 117, 108] }, .agg #[.int .i64 2, fmul], 4⟩] 5) ∧ Below w.heap.size w a5 ∧ TwoR a5 bb 28 fadd ∧ TwoR a5 bb 29 fsub ∧ TwoR a5 bb 30 fmul ∧ TwoR a5 bb 31 fdiv) := by
    obtain ⟨q0, q1, r0, r1, r2⟩ := HB4.out
    exact ⟨(hb.block _ (Array.getElem?_eq_some_iff.1 q0).1).trans q0, q1.trans (hb.mono q1.size), r0.next (Kc.bel hb), r1.next (Kc.bel hb), r2.next (Kc.bel hb), ⟨_, hN, hO⟩⟩
  clear HB4 hN hb hO
  go_wp2_with (refine wpList_ins rfl (.tmp 3) (.tmp 17) { data := #[100, 105, 118] } rfl w.heap.size #[⟨.string { data := #[102, 111, 114, 109, 97, 116] }, .agg #[.int .i64 1, .func (.func 25) #[.pointer (some ⟨bb, 0, none⟩)] #[]], 0⟩, ⟨.string { data := #[109, 111, 100, 101] }, .agg #[.int .i64 1, .func (.func 26) #[.pointer (some ⟨bb, 0, none⟩)] #[]], 1⟩, ⟨.string { data := #[97, 100, 100] }, .agg #[.int .i64 2, fadd], 2⟩, ⟨.string { data := #[115, 117, 98] }, .agg #[.int .i64 2, fsub], 3⟩, ⟨.string { data := #[109, 117, 108] }, .agg #[.int .i64 2, fmul], 4⟩] 5 (.agg #[.int .i64 2, fdiv]) rfl rfl HA5.out.1 (by kernel_rfl) ?_)
  intro b5 g1 g2 g3
  have HB5 : Hid (b5.heap[w.heap.size]? = some (.map #[⟨.string { data := #[102, 111, 114, 109, 97, 116] }, .agg #[.int .i64 1, .func (.func 25) #[.pointer (some ⟨bb, 0, none⟩)] #[]], 0⟩, ⟨.string { data := #[109, 111, 100, 101] }, .agg #[.int .i64 1, .func (.func 26) #[.pointer (some ⟨bb, 0, none⟩)] #[]], 1⟩, ⟨.string { data := #[97, 100, 100] }, .agg #[.int .i64 2, fadd], 2⟩, ⟨.string { data := #[115, 117, 98] }, .agg #[.int .i64 2, fsub], 3⟩, ⟨.string { data := #[109, 117, 108] }, .agg #[.int .i64 2, fmul], 4⟩, ⟨.string { data := #[100, 105, 118] }, .agg #[.int .i64 2, fdiv], 5⟩] 6) ∧ Below w.heap.size w b5 ∧ TwoR b5 bb 28 fadd ∧ TwoR b5 bb 29 fsub ∧ TwoR b5 bb 30 fmul ∧ TwoR b5 bb 31 fdiv) := by
    obtain ⟨q0, q1, r0, r1, r2, r3⟩ := HA5.out
    exact ⟨g1, q1.trans g3, r0.next g2, r1.next g2, r2.next g2, r3.next g2⟩
  clear HA5 g1 g2 g3
  go_wp2_with fail
  refine (ofThree_any bb 33 _).mono ?_
  rintro e a6 ⟨ffma, tfma, rfl, hN, hO, hb⟩
  have HA6 : Hid (a6.heap[w.heap.size]? = some (.map #[⟨.string { data := #[102, 111, 114, 109, 97, 116] }, .agg #[.int .i64 1, .func (.func 25) #[.pointer (some ⟨bb, 0, none⟩)] #[]], 0⟩, ⟨.string { data := #[109, 111, 100, 101] }, .agg #[.int .i64 1, .func (.func 26) #[.pointer (some ⟨bb, 0, none⟩)] #[]], 1⟩, ⟨.string { data := #[97, 100, 100] }, .agg #[.int .i64 2, fadd], 2⟩, ⟨.string { data := #[115, 117, 98] }, .agg #[.int .i64 2, fsub], 3⟩, ⟨.string { data := #[109, 117, 108] }, .agg #[.int .i64 2, fmul], 4⟩, ⟨.string { data := #[100, 105, 118] }, .agg #[.int .i64 2, fdiv], 5⟩] 6) ∧ Below w.heap.size w a6 ∧ TwoR a6 bb 28 fadd ∧ TwoR a6 bb 29 fsub ∧ TwoR a6 bb 30 fmul ∧ TwoR a6 bb 31 fdiv ∧ ThrR a6 bb 33 ffma) := by
    obtain ⟨q0, q1, r0, r1, r2, r3⟩ := HB5.out
    exact ⟨(hb.block _ (Array.getElem?_eq_some_iff.1 q0).1).trans q0, q1.trans (hb.mono q1.size), r0.next (Kc.bel hb), r1.next (Kc.bel hb), r2.next (Kc.bel hb), r3.next (Kc.bel hb), ⟨_, hN, hO⟩⟩
  clear HB5 hN hb hO
  go_wp2_with (refine wpList_ins rfl (.tmp 3) (.tmp 19) { data := #[102, 109, 97] } rfl w.heap.size #[⟨.string { data := #[102, 111, 114, 109, 97, 116] }, .agg #[.int .i64 1, .func (.func 25) #[.pointer (some ⟨bb, 0, none⟩)] #[]], 0⟩, ⟨.string { data := #[109, 111, 100, 101] }, .agg #[.int .i64 1, .func (.func 26) #[.pointer (some ⟨bb, 0, none⟩)] #[]], 1⟩, ⟨.string { data := #[97, 100, 100] }, .agg #[.int .i64 2, fadd], 2⟩, ⟨.string { data := #[115, 117, 98] }, .agg #[.int .i64 2, fsub], 3⟩, ⟨.string { data := #[109, 117, 108] }, .agg #[.int .i64 2, fmul], 4⟩, ⟨.string { data := #[100, 105, 118] }, .agg #[.int .i64 2, fdiv], 5⟩] 6 (.agg #[.int .i64 3, ffma]) rfl rfl HA6.out.1 (by kernel_rfl) ?_)
  intro b6 g1 g2 g3
  have HB6 : Hid (b6.heap[w.heap.size]? = some (.map #[⟨.string { data := #[102, 111, 114, 109, 97, 116] }, .agg #[.int .i64 1, .func (.func 25) #[.pointer (some ⟨bb, 0, none⟩)] #[]], 0⟩, ⟨.string { data := #[109, 111, 100, 101] }, .agg #[.int .i64 1, .func (.func 26) #[.pointer (some ⟨bb, 0, none⟩)] #[]], 1⟩, ⟨.string { data := #[97, 100, 100] }, .agg #[.int .i64 2, fadd], 2⟩, ⟨.string { data := #[115, 117, 98] }, .agg #[.int .i64 2, fsub], 3⟩, ⟨.string { data := #[109, 117, 108] }, .agg #[.int .i64 2, fmul], 4⟩, ⟨.string { data := #[100, 105, 118] }, .agg #[.int .i64 2, fdiv], 5⟩, ⟨.string { data := #[102, 109, 97] }, .agg #[.int .i64 3, ffma], 6⟩] 7) ∧ Below w.heap.size w b6 ∧ TwoR b6 bb 28 fadd ∧ TwoR b6 bb 29 fsub ∧ TwoR b6 bb 30 fmul ∧ TwoR b6 bb 31 fdiv ∧ ThrR b6 bb 33 ffma) := by
    obtain ⟨q0, q1, r0, r1, r2, r3, r4⟩ := HA6.out
    exact ⟨g1, q1.trans g3, r0.next g2, r1.next g2, r2.next g2, r3.next g2, r4.next g2⟩
  clear HA6 g1 g2 g3
  go_wp2_with fail
  refine (ofOne_any bb 35 _).mono ?_
  rintro e a7 ⟨fsqrt, tsqrt, rfl, hN, hO, hb⟩
  have HA7 : Hid (a7.heap[w.heap.size]? = some (.map #[⟨.string { data := #[102, 111, 114, 109, 97, 116] }, .agg #[.int .i64 1, .func (.func 25) #[.pointer (some ⟨bb, 0, none⟩)] #[]], 0⟩, ⟨.string { data := #[109, 111, 100, 101] }, .agg #[.int .i64 1, .func (.func 26) #[.pointer (some ⟨bb, 0, none⟩)] #[]], 1⟩, ⟨.string { data := #[97, 100, 100] }, .agg #[.int .i64 2, fadd], 2⟩, ⟨.string { data := #[115, 117, 98] }, .agg #[.int .i64 2, fsub], 3⟩, ⟨.string { data := #[109, 117, 108] }, .agg #[.int .i64 2, fmul], 4⟩, ⟨.string { data := #[100, 105, 118] }, .agg #[.int .i64 2, fdiv], 5⟩, ⟨.string { data := #[102, 109, 97] }, .agg #[.int .i64 3, ffma], 6⟩] 7) ∧ Below w.heap.size w a7 ∧ TwoR a7 bb 28 fadd ∧ TwoR a7 bb 29 fsub ∧ TwoR a7 bb 30 fmul ∧ TwoR a7 bb 31 fdiv ∧ ThrR a7 bb 33 ffma ∧ OneR a7 bb 35 fsqrt) := by
    obtain ⟨q0, q1, r0, r1, r2, r3, r4⟩ := HB6.out
    exact ⟨(hb.block _ (Array.getElem?_eq_some_iff.1 q0).1).trans q0, q1.trans (hb.mono q1.size), r0.next (Kc.bel hb), r1.next (Kc.bel hb), r2.next (Kc.bel hb), r3.next (Kc.bel hb), r4.next (Kc.bel hb), ⟨_, hN, hO⟩⟩
  clear HB6 hN hb hO
  go_wp2_with (refine wpList_ins rfl (.tmp 3) (.tmp 21) { data := #[115, 113, 114, 116] } rfl w.heap.size #[⟨.string { data := #[102, 111, 114, 109, 97, 116] }, .agg #[.int .i64 1, .func (.func 25) #[.pointer (some ⟨bb, 0, none⟩)] #[]], 0⟩, ⟨.string { data := #[109, 111, 100, 101] }, .agg #[.int .i64 1, .func (.func 26) #[.pointer (some ⟨bb, 0, none⟩)] #[]], 1⟩, ⟨.string { data := #[97, 100, 100] }, .agg #[.int .i64 2, fadd], 2⟩, ⟨.string { data := #[115, 117, 98] }, .agg #[.int .i64 2, fsub], 3⟩, ⟨.string { data := #[109, 117, 108] }, .agg #[.int .i64 2, fmul], 4⟩, ⟨.string { data := #[100, 105, 118] }, .agg #[.int .i64 2, fdiv], 5⟩, ⟨.string { data := #[102, 109, 97] }, .agg #[.int .i64 3, ffma], 6⟩] 7 (.agg #[.int .i64 1, fsqrt]) rfl rfl HA7.out.1 (by kernel_rfl) ?_)
  intro b7 g1 g2 g3
  have HB7 : Hid (b7.heap[w.heap.size]? = some (.map #[⟨.string { data := #[102, 111, 114, 109, 97, 116] }, .agg #[.int .i64 1, .func (.func 25) #[.pointer (some ⟨bb, 0, none⟩)] #[]], 0⟩, ⟨.string { data := #[109, 111, 100, 101] }, .agg #[.int .i64 1, .func (.func 26) #[.pointer (some ⟨bb, 0, none⟩)] #[]], 1⟩, ⟨.string { data := #[97, 100, 100] }, .agg #[.int .i64 2, fadd], 2⟩, ⟨.string { data := #[115, 117, 98] }, .agg #[.int .i64 2, fsub], 3⟩, ⟨.string { data := #[109, 117, 108] }, .agg #[.int .i64 2, fmul], 4⟩, ⟨.string { data := #[100, 105, 118] }, .agg #[.int .i64 2, fdiv], 5⟩, ⟨.string { data := #[102, 109, 97] }, .agg #[.int .i64 3, ffma], 6⟩, ⟨.string { data := #[115, 113, 114, 116] }, .agg #[.int .i64 1, fsqrt], 7⟩] 8) ∧ Below w.heap.size w b7 ∧ TwoR b7 bb 28 fadd ∧ TwoR b7 bb 29 fsub ∧ TwoR b7 bb 30 fmul ∧ TwoR b7 bb 31 fdiv ∧ ThrR b7 bb 33 ffma ∧ OneR b7 bb 35 fsqrt) := by
    obtain ⟨q0, q1, r0, r1, r2, r3, r4, r5⟩ := HA7.out
    exact ⟨g1, q1.trans g3, r0.next g2, r1.next g2, r2.next g2, r3.next g2, r4.next g2, r5.next g2⟩
  clear HA7 g1 g2 g3
  go_wp2_with fail
  refine (ofTwo_any bb 36 _).mono ?_
  rintro e a8 ⟨fquantize, tquantize, rfl, hN, hO, hb⟩
  have HA8 : Hid (a8.heap[w.heap.size]? = some (.map #[⟨.string { data := #[102, 111, 114, 109, 97, 116] }, .agg #[.int .i64 1, .func (.func 25) #[.pointer (some ⟨bb, 0, none⟩)] #[]], 0⟩, ⟨.string { data := #[109, 111, 100, 101] }, .agg #[.int .i64 1, .func (.func 26) #[.pointer (some ⟨bb, 0, none⟩)] #[]], 1⟩, ⟨.string { data := #[97, 100, 100] }, .agg #[.int .i64 2, fadd], 2⟩, ⟨.string { data := #[115, 117, 98] }, .agg #[.int .i64 2, fsub], 3⟩, ⟨.string { data := #[109, 117, 108] }, .agg #[.int .i64 2, fmul], 4⟩, ⟨.string { data := #[100, 105, 118] }, .agg #[.int .i64 2, fdiv], 5⟩, ⟨.string { data := #[102, 109, 97] }, .agg #[.int .i64 3, ffma], 6⟩, ⟨.string { data := #[115, 113, 114, 116] }, .agg #[.int .i64 1, fsqrt], 7⟩] 8) ∧ Below w.heap.size w a8 ∧ TwoR a8 bb 28 fadd ∧ TwoR a8 bb 29 fsub ∧ TwoR a8 bb 30 fmul ∧ TwoR a8 bb 31 fdiv ∧ ThrR a8 bb 33 ffma ∧ OneR a8 bb 35 fsqrt ∧ TwoR a8 bb 36 fquantize) := by
    obtain ⟨q0, q1, r0, r1, r2, r3, r4, r5⟩ := HB7.out
    exact ⟨(hb.block _ (Array.getElem?_eq_some_iff.1 q0).1).trans q0, q1.trans (hb.mono q1.size), r0.next (Kc.bel hb), r1.next (Kc.bel hb), r2.next (Kc.bel hb), r3.next (Kc.bel hb), r4.next (Kc.bel hb), r5.next (Kc.bel hb), ⟨_, hN, hO⟩⟩
  clear HB7 hN hb hO
  go_wp2_with (refine wpList_ins rfl (.tmp 3) (.tmp 23) { data := #[113, 117, 97, 110, 116, 105, 122, 101] } rfl w.heap.size #[⟨.string { data := #[102, 111, 114, 109, 97, 116] }, .agg #[.int .i64 1, .func (.func 25) #[.pointer (some ⟨bb, 0, none⟩)] #[]], 0⟩, ⟨.string { data := #[109, 111, 100, 101] }, .agg #[.int .i64 1, .func (.func 26) #[.pointer (some ⟨bb, 0, none⟩)] #[]], 1⟩, ⟨.string { data := #[97, 100, 100] }, .agg #[.int .i64 2, fadd], 2⟩, ⟨.string { data := #[115, 117, 98] }, .agg #[.int .i64 2, fsub], 3⟩, ⟨.string { data := #[109, 117, 108] }, .agg #[.int .i64 2, fmul], 4⟩, ⟨.string { data := #[100, 105, 118] }, .agg #[.int .i64 2, fdiv], 5⟩, ⟨.string { data := #[102, 109, 97] }, .agg #[.int .i64 3, ffma], 6⟩, ⟨.string { data := #[115, 113, 114, 116] }, .agg #[.int .i64 1, fsqrt], 7⟩] 8 (.agg #[.int .i64 2, fquantize]) rfl rfl HA8.out.1 (by kernel_rfl) ?_)
  intro b8 g1 g2 g3
  have HB8 : Hid (b8.heap[w.heap.size]? = some (.map #[⟨.string { data := #[102, 111, 114, 109, 97, 116] }, .agg #[.int .i64 1, .func (.func 25) #[.pointer (some ⟨bb, 0, none⟩)] #[]], 0⟩, ⟨.string { data := #[109, 111, 100, 101] }, .agg #[.int .i64 1, .func (.func 26) #[.pointer (some ⟨bb, 0, none⟩)] #[]], 1⟩, ⟨.string { data := #[97, 100, 100] }, .agg #[.int .i64 2, fadd], 2⟩, ⟨.string { data := #[115, 117, 98] }, .agg #[.int .i64 2, fsub], 3⟩, ⟨.string { data := #[109, 117, 108] }, .agg #[.int .i64 2, fmul], 4⟩, ⟨.string { data := #[100, 105, 118] }, .agg #[.int .i64 2, fdiv], 5⟩, ⟨.string { data := #[102, 109, 97] }, .agg #[.int .i64 3, ffma], 6⟩, ⟨.string { data := #[115, 113, 114, 116] }, .agg #[.int .i64 1, fsqrt], 7⟩, ⟨.string { data := #[113, 117, 97, 110, 116, 105, 122, 101] }, .agg #[.int .i64 2, fquantize], 8⟩] 9) ∧ Below w.heap.size w b8 ∧ TwoR b8 bb 28 fadd ∧ TwoR b8 bb 29 fsub ∧ TwoR b8 bb 30 fmul ∧ TwoR b8 bb 31 fdiv ∧ ThrR b8 bb 33 ffma ∧ OneR b8 bb 35 fsqrt ∧ TwoR b8 bb 36 fquantize) := by
    obtain ⟨q0, q1, r0, r1, r2, r3, r4, r5, r6⟩ := HA8.out
    exact ⟨g1, q1.trans g3, r0.next g2, r1.next g2, r2.next g2, r3.next g2, r4.next g2, r5.next g2, r6.next g2⟩
  clear HA8 g1 g2 g3
  go_wp2_with fail
  refine (ofOne_any bb 37 _).mono ?_
  rintro e a9 ⟨fnext, tnext, rfl, hN, hO, hb⟩
  have HA9 : Hid (a9.heap[w.heap.size]? = some (.map #[⟨.string { data := #[102, 111, 114, 109, 97, 116] }, .agg #[.int .i64 1, .func (.func 25) #[.pointer (some ⟨bb, 0, none⟩)] #[]], 0⟩, ⟨.string { data := #[109, 111, 100, 101] }, .agg #[.int .i64 1, .func (.func 26) #[.pointer (some ⟨bb, 0, none⟩)] #[]], 1⟩, ⟨.string { data := #[97, 100, 100] }, .agg #[.int .i64 2, fadd], 2⟩, ⟨.string { data := #[115, 117, 98] }, .agg #[.int .i64 2, fsub], 3⟩, ⟨.string { data := #[109, 117, 108] }, .agg #[.int .i64 2, fmul], 4⟩, ⟨.string { data := #[100, 105, 118] }, .agg #[.int .i64 2, fdiv], 5⟩, ⟨.string { data := #[102, 109, 97] }, .agg #[.int .i64 3, ffma], 6⟩, ⟨.string { data := #[115, 113, 114, 116] }, .agg #[.int .i64 1, fsqrt], 7⟩, ⟨.string { data := #[113, 117, 97, 110, 116, 105, 122, 101] }, .agg #[.int .i64 2, fquantize], 8⟩] 9) ∧ Below w.heap.size w a9 ∧ TwoR a9 bb 28 fadd ∧ TwoR a9 bb 29 fsub ∧ TwoR a9 bb 30 fmul ∧ TwoR a9 bb 31 fdiv ∧ ThrR a9 bb 33 ffma ∧ OneR a9 bb 35 fsqrt ∧ TwoR a9 bb 36 fquantize ∧ OneR a9 bb 37 fnext) := by
    obtain ⟨q0, q1, r0, r1, r2, r3, r4, r5, r6⟩ := HB8.out
    exact ⟨(hb.block _ (Array.getElem?_eq_some_iff.1 q0).1).trans q0, q1.trans (hb.mono q1.size), r0.next (Kc.bel hb), r1.next (Kc.bel hb), r2.next (Kc.bel hb), r3.next (Kc.bel hb), r4.next (Kc.bel hb), r5.next (Kc.bel hb), r6.next (Kc.bel hb), ⟨_, hN, hO⟩⟩
  clear HB8 hN hb hO
  go_wp2_with (refine wpList_ins rfl (.tmp 3) (.tmp 25) { data := #[110, 101, 120, 116] } rfl w.heap.size #[⟨.string { data := #[102, 111, 114, 109, 97, 116] }, .agg #[.int .i64 1, .func (.func 25) #[.pointer (some ⟨bb, 0, none⟩)] #[]], 0⟩, ⟨.string { data := #[109, 111, 100, 101] }, .agg #[.int .i64 1, .func (.func 26) #[.pointer (some ⟨bb, 0, none⟩)] #[]], 1⟩, ⟨.string { data := #[97, 100, 100] }, .agg #[.int .i64 2, fadd], 2⟩, ⟨.string { data := #[115, 117, 98] }, .agg #[.int .i64 2, fsub], 3⟩, ⟨.string { data := #[109, 117, 108] }, .agg #[.int .i64 2, fmul], 4⟩, ⟨.string { data := #[100, 105, 118] }, .agg #[.int .i64 2, fdiv], 5⟩, ⟨.string { data := #[102, 109, 97] }, .agg #[.int .i64 3, ffma], 6⟩, ⟨.string { data := #[115, 113, 114, 116] }, .agg #[.int .i64 1, fsqrt], 7⟩, ⟨.string { data := #[113, 117, 97, 110, 116, 105, 122, 101] }, .agg #[.int .i64 2, fquantize], 8⟩] 9 (.agg #[.int .i64 1, fnext]) rfl rfl HA9.out.1 (by kernel_rfl) ?_)
  intro b9 g1 g2 g3
  have HB9 : Hid (b9.heap[w.heap.size]? = some (.map #[⟨.string { data := #[102, 111, 114, 109, 97, 116] }, .agg #[.int .i64 1, .func (.func 25) #[.pointer (some ⟨bb, 0, none⟩)] #[]], 0⟩, ⟨.string { data := #[109, 111, 100, 101] }, .agg #[.int .i64 1, .func (.func 26) #[.pointer (some ⟨bb, 0, none⟩)] #[]], 1⟩, ⟨.string { data := #[97, 100, 100] }, .agg #[.int .i64 2, fadd], 2⟩, ⟨.string { data := #[115, 117, 98] }, .agg #[.int .i64 2, fsub], 3⟩, ⟨.string { data := #[109, 117, 108] }, .agg #[.int .i64 2, fmul], 4⟩, ⟨.string { data := #[100, 105, 118] }, .agg #[.int .i64 2, fdiv], 5⟩, ⟨.string { data := #[102, 109, 97] }, .agg #[.int .i64 3, ffma], 6⟩, ⟨.string { data := #[115, 113, 114, 116] }, .agg #[.int .i64 1, fsqrt], 7⟩, ⟨.string { data := #[113, 117, 97, 110, 116, 105, 122, 101] }, .agg #[.int .i64 2, fquantize], 8⟩, ⟨.string { data := #[110, 101, 120, 116] }, .agg #[.int .i64 1, fnext], 9⟩] 10) ∧ Below w.heap.size w b9 ∧ TwoR b9 bb 28 fadd ∧ TwoR b9 bb 29 fsub ∧ TwoR b9 bb 30 fmul ∧ TwoR b9 bb 31 fdiv ∧ ThrR b9 bb 33 ffma ∧ OneR b9 bb 35 fsqrt ∧ TwoR b9 bb 36 fquantize ∧ OneR b9 bb 37 fnext) := by
    obtain ⟨q0, q1, r0, r1, r2, r3, r4, r5, r6, r7⟩ := HA9.out
    exact ⟨g1, q1.trans g3, r0.next g2, r1.next g2, r2.next g2, r3.next g2, r4.next g2, r5.next g2, r6.next g2, r7.next g2⟩
  clear HA9 g1 g2 g3
  go_wp2_with fail
  refine (ofNums_any bb 2 _ _ _ _).mono ?_
  rintro e a10 ⟨fcompare, rfl, hN, hb⟩
  have HA10 : Hid (a10.heap[w.heap.size]? = some (.map #[⟨.string { data := #[102, 111, 114, 109, 97, 116] }, .agg #[.int .i64 1, .func (.func 25) #[.pointer (some ⟨bb, 0, none⟩)] #[]], 0⟩, ⟨.string { data := #[109, 111, 100, 101] }, .agg #[.int .i64 1, .func (.func 26) #[.pointer (some ⟨bb, 0, none⟩)] #[]], 1⟩, ⟨.string { data := #[97, 100, 100] }, .agg #[.int .i64 2, fadd], 2⟩, ⟨.string { data := #[115, 117, 98] }, .agg #[.int .i64 2, fsub], 3⟩, ⟨.string { data := #[109, 117, 108] }, .agg #[.int .i64 2, fmul], 4⟩, ⟨.string { data := #[100, 105, 118] }, .agg #[.int .i64 2, fdiv], 5⟩, ⟨.string { data := #[102, 109, 97] }, .agg #[.int .i64 3, ffma], 6⟩, ⟨.string { data := #[115, 113, 114, 116] }, .agg #[.int .i64 1, fsqrt], 7⟩, ⟨.string { data := #[113, 117, 97, 110, 116, 105, 122, 101] }, .agg #[.int .i64 2, fquantize], 8⟩, ⟨.string { data := #[110, 101, 120, 116] }, .agg #[.int .i64 1, fnext], 9⟩] 10) ∧ Below w.heap.size w a10 ∧ TwoR a10 bb 28 fadd ∧ TwoR a10 bb 29 fsub ∧ TwoR a10 bb 30 fmul ∧ TwoR a10 bb 31 fdiv ∧ ThrR a10 bb 33 ffma ∧ OneR a10 bb 35 fsqrt ∧ TwoR a10 bb 36 fquantize ∧ OneR a10 bb 37 fnext ∧ NumF a10 bb (.func (.func 39) #[.pointer (some ⟨bb, 0, none⟩)] #[]) fcompare) := by
    obtain ⟨q0, q1, r0, r1, r2, r3, r4, r5, r6, r7⟩ := HB9.out
    exact ⟨(hb.block _ (Array.getElem?_eq_some_iff.1 q0).1).trans q0, q1.trans (hb.mono q1.size), r0.next (Kc.bel hb), r1.next (Kc.bel hb), r2.next (Kc.bel hb), r3.next (Kc.bel hb), r4.next (Kc.bel hb), r5.next (Kc.bel hb), r6.next (Kc.bel hb), r7.next (Kc.bel hb), hN⟩
  clear HB9 hN hb
  go_wp2_with (refine wpList_ins rfl (.tmp 3) (.tmp 29) { data := #[99, 111, 109, 112, 97, 114, 101] } rfl w.heap.size #[⟨.string { data := #[102, 111, 114, 109, 97, 116] }, .agg #[.int .i64 1, .func (.func 25) #[.pointer (some ⟨bb, 0, none⟩)] #[]], 0⟩, ⟨.string { data := #[109, 111, 100, 101] }, .agg #[.int .i64 1, .func (.func 26) #[.pointer (some ⟨bb, 0, none⟩)] #[]], 1⟩, ⟨.string { data := #[97, 100, 100] }, .agg #[.int .i64 2, fadd], 2⟩, ⟨.string { data := #[115, 117, 98] }, .agg #[.int .i64 2, fsub], 3⟩, ⟨.string { data := #[109, 117, 108] }, .agg #[.int .i64 2, fmul], 4⟩, ⟨.string { data := #[100, 105, 118] }, .agg #[.int .i64 2, fdiv], 5⟩, ⟨.string { data := #[102, 109, 97] }, .agg #[.int .i64 3, ffma], 6⟩, ⟨.string { data := #[115, 113, 114, 116] }, .agg #[.int .i64 1, fsqrt], 7⟩, ⟨.string { data := #[113, 117, 97, 110, 116, 105, 122, 101] }, .agg #[.int .i64 2, fquantize], 8⟩, ⟨.string { data := #[110, 101, 120, 116] }, .agg #[.int .i64 1, fnext], 9⟩] 10 (.agg #[.int .i64 2, fcompare]) rfl rfl HA10.out.1 (by kernel_rfl) ?_)
  intro b10 g1 g2 g3
  have HB10 : Hid (b10.heap[w.heap.size]? = some (.map #[⟨.string { data := #[102, 111, 114, 109, 97, 116] }, .agg #[.int .i64 1, .func (.func 25) #[.pointer (some ⟨bb, 0, none⟩)] #[]], 0⟩, ⟨.string { data := #[109, 111, 100, 101] }, .agg #[.int .i64 1, .func (.func 26) #[.pointer (some ⟨bb, 0, none⟩)] #[]], 1⟩, ⟨.string { data := #[97, 100, 100] }, .agg #[.int .i64 2, fadd], 2⟩, ⟨.string { data := #[115, 117, 98] }, .agg #[.int .i64 2, fsub], 3⟩, ⟨.string { data := #[109, 117, 108] }, .agg #[.int .i64 2, fmul], 4⟩, ⟨.string { data := #[100, 105, 118] }, .agg #[.int .i64 2, fdiv], 5⟩, ⟨.string { data := #[102, 109, 97] }, .agg #[.int .i64 3, ffma], 6⟩, ⟨.string { data := #[115, 113, 114, 116] }, .agg #[.int .i64 1, fsqrt], 7⟩, ⟨.string { data := #[113, 117, 97, 110, 116, 105, 122, 101] }, .agg #[.int .i64 2, fquantize], 8⟩, ⟨.string { data := #[110, 101, 120, 116] }, .agg #[.int .i64 1, fnext], 9⟩, ⟨.string { data := #[99, 111, 109, 112, 97, 114, 101] }, .agg #[.int .i64 2, fcompare], 10⟩] 11) ∧ Below w.heap.size w b10 ∧ TwoR b10 bb 28 fadd ∧ TwoR b10 bb 29 fsub ∧ TwoR b10 bb 30 fmul ∧ TwoR b10 bb 31 fdiv ∧ ThrR b10 bb 33 ffma ∧ OneR b10 bb 35 fsqrt ∧ TwoR b10 bb 36 fquantize ∧ OneR b10 bb 37 fnext ∧ NumF b10 bb (.func (.func 39) #[.pointer (some ⟨bb, 0, none⟩)] #[]) fcompare) := by
    obtain ⟨q0, q1, r0, r1, r2, r3, r4, r5, r6, r7, r8⟩ := HA10.out
    exact ⟨g1, q1.trans g3, r0.next g2, r1.next g2, r2.next g2, r3.next g2, r4.next g2, r5.next g2, r6.next g2, r7.next g2, r8.next g2⟩
  clear HA10 g1 g2 g3
  go_wp2_with fail
  refine (ofNums_any bb 1 _ _ _ _).mono ?_
  rintro e a11 ⟨fword, rfl, hN, hb⟩
  have HA11 : Hid (a11.heap[w.heap.size]? = some (.map #[⟨.string { data := #[102, 111, 114, 109, 97, 116] }, .agg #[.int .i64 1, .func (.func 25) #[.pointer (some ⟨bb, 0, none⟩)] #[]], 0⟩, ⟨.string { data := #[109, 111, 100, 101] }, .agg #[.int .i64 1, .func (.func 26) #[.pointer (some ⟨bb, 0, none⟩)] #[]], 1⟩, ⟨.string { data := #[97, 100, 100] }, .agg #[.int .i64 2, fadd], 2⟩, ⟨.string { data := #[115, 117, 98] }, .agg #[.int .i64 2, fsub], 3⟩, ⟨.string { data := #[109, 117, 108] }, .agg #[.int .i64 2, fmul], 4⟩, ⟨.string { data := #[100, 105, 118] }, .agg #[.int .i64 2, fdiv], 5⟩, ⟨.string { data := #[102, 109, 97] }, .agg #[.int .i64 3, ffma], 6⟩, ⟨.string { data := #[115, 113, 114, 116] }, .agg #[.int .i64 1, fsqrt], 7⟩, ⟨.string { data := #[113, 117, 97, 110, 116, 105, 122, 101] }, .agg #[.int .i64 2, fquantize], 8⟩, ⟨.string { data := #[110, 101, 120, 116] }, .agg #[.int .i64 1, fnext], 9⟩, ⟨.string { data := #[99, 111, 109, 112, 97, 114, 101] }, .agg #[.int .i64 2, fcompare], 10⟩] 11) ∧ Below w.heap.size w a11 ∧ TwoR a11 bb 28 fadd ∧ TwoR a11 bb 29 fsub ∧ TwoR a11 bb 30 fmul ∧ TwoR a11 bb 31 fdiv ∧ ThrR a11 bb 33 ffma ∧ OneR a11 bb 35 fsqrt ∧ TwoR a11 bb 36 fquantize ∧ OneR a11 bb 37 fnext ∧ NumF a11 bb (.func (.func 39) #[.pointer (some ⟨bb, 0, none⟩)] #[]) fcompare ∧ NumF a11 bb (.func (.func 40) #[.pointer (some ⟨bb, 0, none⟩)] #[]) fword) := by
    obtain ⟨q0, q1, r0, r1, r2, r3, r4, r5, r6, r7, r8⟩ := HB10.out
    exact ⟨(hb.block _ (Array.getElem?_eq_some_iff.1 q0).1).trans q0, q1.trans (hb.mono q1.size), r0.next (Kc.bel hb), r1.next (Kc.bel hb), r2.next (Kc.bel hb), r3.next (Kc.bel hb), r4.next (Kc.bel hb), r5.next (Kc.bel hb), r6.next (Kc.bel hb), r7.next (Kc.bel hb), r8.next (Kc.bel hb), hN⟩
  clear HB10 hN hb
  go_wp2_with (refine wpList_ins rfl (.tmp 3) (.tmp 33) { data := #[119, 111, 114, 100] } rfl w.heap.size #[⟨.string { data := #[102, 111, 114, 109, 97, 116] }, .agg #[.int .i64 1, .func (.func 25) #[.pointer (some ⟨bb, 0, none⟩)] #[]], 0⟩, ⟨.string { data := #[109, 111, 100, 101] }, .agg #[.int .i64 1, .func (.func 26) #[.pointer (some ⟨bb, 0, none⟩)] #[]], 1⟩, ⟨.string { data := #[97, 100, 100] }, .agg #[.int .i64 2, fadd], 2⟩, ⟨.string { data := #[115, 117, 98] }, .agg #[.int .i64 2, fsub], 3⟩, ⟨.string { data := #[109, 117, 108] }, .agg #[.int .i64 2, fmul], 4⟩, ⟨.string { data := #[100, 105, 118] }, .agg #[.int .i64 2, fdiv], 5⟩, ⟨.string { data := #[102, 109, 97] }, .agg #[.int .i64 3, ffma], 6⟩, ⟨.string { data := #[115, 113, 114, 116] }, .agg #[.int .i64 1, fsqrt], 7⟩, ⟨.string { data := #[113, 117, 97, 110, 116, 105, 122, 101] }, .agg #[.int .i64 2, fquantize], 8⟩, ⟨.string { data := #[110, 101, 120, 116] }, .agg #[.int .i64 1, fnext], 9⟩, ⟨.string { data := #[99, 111, 109, 112, 97, 114, 101] }, .agg #[.int .i64 2, fcompare], 10⟩] 11 (.agg #[.int .i64 1, fword]) rfl rfl HA11.out.1 (by kernel_rfl) ?_)
  intro b11 g1 g2 g3
  have HB11 : Hid (b11.heap[w.heap.size]? = some (.map #[⟨.string { data := #[102, 111, 114, 109, 97, 116] }, .agg #[.int .i64 1, .func (.func 25) #[.pointer (some ⟨bb, 0, none⟩)] #[]], 0⟩, ⟨.string { data := #[109, 111, 100, 101] }, .agg #[.int .i64 1, .func (.func 26) #[.pointer (some ⟨bb, 0, none⟩)] #[]], 1⟩, ⟨.string { data := #[97, 100, 100] }, .agg #[.int .i64 2, fadd], 2⟩, ⟨.string { data := #[115, 117, 98] }, .agg #[.int .i64 2, fsub], 3⟩, ⟨.string { data := #[109, 117, 108] }, .agg #[.int .i64 2, fmul], 4⟩, ⟨.string { data := #[100, 105, 118] }, .agg #[.int .i64 2, fdiv], 5⟩, ⟨.string { data := #[102, 109, 97] }, .agg #[.int .i64 3, ffma], 6⟩, ⟨.string { data := #[115, 113, 114, 116] }, .agg #[.int .i64 1, fsqrt], 7⟩, ⟨.string { data := #[113, 117, 97, 110, 116, 105, 122, 101] }, .agg #[.int .i64 2, fquantize], 8⟩, ⟨.string { data := #[110, 101, 120, 116] }, .agg #[.int .i64 1, fnext], 9⟩, ⟨.string { data := #[99, 111, 109, 112, 97, 114, 101] }, .agg #[.int .i64 2, fcompare], 10⟩, ⟨.string { data := #[119, 111, 114, 100] }, .agg #[.int .i64 1, fword], 11⟩] 12) ∧ Below w.heap.size w b11 ∧ TwoR b11 bb 28 fadd ∧ TwoR b11 bb 29 fsub ∧ TwoR b11 bb 30 fmul ∧ TwoR b11 bb 31 fdiv ∧ ThrR b11 bb 33 ffma ∧ OneR b11 bb 35 fsqrt ∧ TwoR b11 bb 36 fquantize ∧ OneR b11 bb 37 fnext ∧ NumF b11 bb (.func (.func 39) #[.pointer (some ⟨bb, 0, none⟩)] #[]) fcompare ∧ NumF b11 bb (.func (.func 40) #[.pointer (some ⟨bb, 0, none⟩)] #[]) fword) := by
    obtain ⟨q0, q1, r0, r1, r2, r3, r4, r5, r6, r7, r8, r9⟩ := HA11.out
    exact ⟨g1, q1.trans g3, r0.next g2, r1.next g2, r2.next g2, r3.next g2, r4.next g2, r5.next g2, r6.next g2, r7.next g2, r8.next g2, r9.next g2⟩
  clear HA11 g1 g2 g3
  go_wp2_with (refine wpList_ins rfl (.tmp 3) (.tmp 36) { data := #[102, 108, 97, 103, 115] } rfl w.heap.size #[⟨.string { data := #[102, 111, 114, 109, 97, 116] }, .agg #[.int .i64 1, .func (.func 25) #[.pointer (some ⟨bb, 0, none⟩)] #[]], 0⟩, ⟨.string { data := #[109, 111, 100, 101] }, .agg #[.int .i64 1, .func (.func 26) #[.pointer (some ⟨bb, 0, none⟩)] #[]], 1⟩, ⟨.string { data := #[97, 100, 100] }, .agg #[.int .i64 2, fadd], 2⟩, ⟨.string { data := #[115, 117, 98] }, .agg #[.int .i64 2, fsub], 3⟩, ⟨.string { data := #[109, 117, 108] }, .agg #[.int .i64 2, fmul], 4⟩, ⟨.string { data := #[100, 105, 118] }, .agg #[.int .i64 2, fdiv], 5⟩, ⟨.string { data := #[102, 109, 97] }, .agg #[.int .i64 3, ffma], 6⟩, ⟨.string { data := #[115, 113, 114, 116] }, .agg #[.int .i64 1, fsqrt], 7⟩, ⟨.string { data := #[113, 117, 97, 110, 116, 105, 122, 101] }, .agg #[.int .i64 2, fquantize], 8⟩, ⟨.string { data := #[110, 101, 120, 116] }, .agg #[.int .i64 1, fnext], 9⟩, ⟨.string { data := #[99, 111, 109, 112, 97, 114, 101] }, .agg #[.int .i64 2, fcompare], 10⟩, ⟨.string { data := #[119, 111, 114, 100] }, .agg #[.int .i64 1, fword], 11⟩] 12 (.agg #[.int .i64 0, .func (.func 41) #[.pointer (some ⟨bb, 0, none⟩)] #[]]) rfl rfl HB11.out.1 (by kernel_rfl) ?_)
  intro b12 g1 g2 g3
  have HB12 : Hid (b12.heap[w.heap.size]? = some (.map #[⟨.string { data := #[102, 111, 114, 109, 97, 116] }, .agg #[.int .i64 1, .func (.func 25) #[.pointer (some ⟨bb, 0, none⟩)] #[]], 0⟩, ⟨.string { data := #[109, 111, 100, 101] }, .agg #[.int .i64 1, .func (.func 26) #[.pointer (some ⟨bb, 0, none⟩)] #[]], 1⟩, ⟨.string { data := #[97, 100, 100] }, .agg #[.int .i64 2, fadd], 2⟩, ⟨.string { data := #[115, 117, 98] }, .agg #[.int .i64 2, fsub], 3⟩, ⟨.string { data := #[109, 117, 108] }, .agg #[.int .i64 2, fmul], 4⟩, ⟨.string { data := #[100, 105, 118] }, .agg #[.int .i64 2, fdiv], 5⟩, ⟨.string { data := #[102, 109, 97] }, .agg #[.int .i64 3, ffma], 6⟩, ⟨.string { data := #[115, 113, 114, 116] }, .agg #[.int .i64 1, fsqrt], 7⟩, ⟨.string { data := #[113, 117, 97, 110, 116, 105, 122, 101] }, .agg #[.int .i64 2, fquantize], 8⟩, ⟨.string { data := #[110, 101, 120, 116] }, .agg #[.int .i64 1, fnext], 9⟩, ⟨.string { data := #[99, 111, 109, 112, 97, 114, 101] }, .agg #[.int .i64 2, fcompare], 10⟩, ⟨.string { data := #[119, 111, 114, 100] }, .agg #[.int .i64 1, fword], 11⟩, ⟨.string { data := #[102, 108, 97, 103, 115] }, .agg #[.int .i64 0, .func (.func 41) #[.pointer (some ⟨bb, 0, none⟩)] #[]], 12⟩] 13) ∧ Below w.heap.size w b12 ∧ TwoR b12 bb 28 fadd ∧ TwoR b12 bb 29 fsub ∧ TwoR b12 bb 30 fmul ∧ TwoR b12 bb 31 fdiv ∧ ThrR b12 bb 33 ffma ∧ OneR b12 bb 35 fsqrt ∧ TwoR b12 bb 36 fquantize ∧ OneR b12 bb 37 fnext ∧ NumF b12 bb (.func (.func 39) #[.pointer (some ⟨bb, 0, none⟩)] #[]) fcompare ∧ NumF b12 bb (.func (.func 40) #[.pointer (some ⟨bb, 0, none⟩)] #[]) fword) := by
    obtain ⟨q0, q1, r0, r1, r2, r3, r4, r5, r6, r7, r8, r9⟩ := HB11.out
    exact ⟨g1, q1.trans g3, r0.next g2, r1.next g2, r2.next g2, r3.next g2, r4.next g2, r5.next g2, r6.next g2, r7.next g2, r8.next g2, r9.next g2⟩
  clear HB11 g1 g2 g3
  go_wp2
  go_ret
  obtain ⟨q0, q1, r0, r1, r2, r3, r4, r5, r6, r7, r8, r9⟩ := HB12.out
  exact ⟨w.heap.size, rfl, ⟨fadd, fsub, fmul, fdiv, ffma, fsqrt, fquantize, fnext, fcompare, fword, q0, r0, r1, r2, r3, r4, r5, r6, r7, r8, r9⟩, q1⟩
end Go.Proofs.YteofommckgeemaaGreatDoor
