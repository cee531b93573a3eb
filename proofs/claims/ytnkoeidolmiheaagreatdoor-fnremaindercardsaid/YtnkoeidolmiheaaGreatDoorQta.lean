/-
  Regions that draw their order, whose head lays one block of its own at a time of its choice: one walk over a family of classes of worlds.
-/
import Derived.Test.YtnkoeidolmiheaaGreatDoorQtl
namespace Go.Proofs.YtnkoeidolmiheaaGreatDoor
open Go.RowKit
set_option linter.unusedVariables false
set_option maxRecDepth 100000
section
variable {P : Program} {ops : Array Oper} {md : Region.Mode} {C : Option Nat → World → Prop}
/-- One value, in every world of every class of the family. -/
def quietF (P : Program) (o : Oper) (a : Act) (C : Option Nat → World → Prop) (next : Act → Prop) : Prop := ∃ v, (∀ b w, C b w → o.quietAt P a (C b) w v) ∧ next (a.put o.dst v)
/-- The lexical walk over the family. -/
def wpQuietF (P : Program) (ops : Array Oper) (C : Option Nat → World → Prop) (Q : Act → Prop) : List Oper → Act → Prop
  | [], a => Q a
  | o :: rest, a => if Region.wanted o (yielded ops a.tmps) then quietF P o a C (wpQuietF P ops C Q rest) else wpQuietF P ops C Q rest (a.put o.dst undef)
theorem wpQuietF_nil {Q : Act → Prop} {a : Act} (h : Q a) : wpQuietF P ops C Q [] a := h
theorem wpQuietF_step {Q : Act → Prop} {a : Act} {o : Oper} {rest : List Oper}
    (h : ∀ K : Act → Prop, (∀ a, wpQuietF P ops C Q rest a → K a) → if Region.wanted o (yielded ops a.tmps) then (∃ v, (∀ b w, C b w → Oper.quietUpon P (C b) w v ((execOp a.eval o).run P w)) ∧ K (a.put o.dst v)) else K (a.put o.dst undef)) : wpQuietF P ops C Q (o :: rest) a :=
  h _ (fun _ h => h)
/-- Yields the same in every class. -/
def YieldsF (P : Program) (ops : Array Oper) (C : Option Nat → World → Prop) (o : Oper) (v : Value) (a : Act) : Prop := ∀ b, YieldsIn P ops (C b) o v a
theorem YieldsF.put {oi oj : Oper} {v u : Value} {a : Act} (hy : YieldsF P ops C oi v a) (hap : oi.apart ops oj = true) (hsi : ∀ cs b, oi.op ≠ .select cs b) : YieldsF P ops C oi v (a.put oj.dst u) := fun b => by
  obtain ⟨h1, h2, h3⟩ := Oper.apart_spec hap
  exact (hy b).of_same (execOp_put oi hsi a oj.dst u h3) (wanted_put oi a oj.dst u h3)
/-- The head in whatever order: 'm' lays the block; 'b' tells whether it lies. -/
def headF (P : Program) (md : Region.Mode) (ops : Array Oper) (C : Option Nat → World → Prop) (n m : Nat) (dm : Option Tmp) (L : Array Bool → Act → Option Nat → Prop) : Nat → Array Bool → Act → Option Nat → Prop
  | 0, listed, a, b => L listed a b
  | f + 1, listed, a, b => Region.ready md ops listed ≠ [] ∧ ∀ i, i ∈ Region.ready md ops listed → i < n ∧ ((i = m ∧ b = none ∧ ∀ k, headF P md ops C n m dm L f (listed.setIfInBounds i true) (a.put dm (.pointer (some ⟨k, 0, none⟩))) (some k)) ∨ (i ≠ m ∧ qOp P ops (C b) i (fun a' => headF P md ops C n m dm L f (listed.setIfInBounds i true) a' b) a))
theorem headF_any {n m g : Nat} {dm : Option Tmp} {om : Oper} {obj : Obj} {L : Array Bool → Act → Option Nat → Prop} {Q : Exit → Act → World → Prop} (hm : ops[m]? = some om) (hdm : om.dst = dm) (hgm : om.guard = none)
    (hal : ∀ (a : Act) (w : World), (execOp a.eval om).run P w = .ok (.value (.pointer (some ⟨w.heap.size, 0, none⟩))) (w.alloc obj)) (hCa : ∀ w, C none w → C (some w.heap.size) (w.alloc obj))
    (hL : ∀ listed a b w, C b w → L listed a b → wpAny P md ops Q g listed a w) (f : Nat) :
    ∀ (listed : Array Bool) (a : Act) (b : Option Nat) (w : World), C b w → headF P md ops C n m dm L f listed a b → wpAny P md ops Q (f + g) listed a w := by
  induction f with
  | zero => intro listed a b w hw h; rw [Nat.zero_add]; exact hL _ _ _ _ hw h
  | succ f ih =>
    intro listed a b w hw h
    rw [show f + 1 + g = (f + g) + 1 by omega]
    refine ⟨fun h0 => absurd h0 h.1, fun i hi => ?_⟩
    rcases (h.2 i hi).2 with ⟨rfl, rfl, h3⟩ | ⟨-, h3⟩
    · unfold wpOp
      simp only [hm]
      have hwt : Region.wanted om (yielded ops a.tmps) = true := by simp [Region.wanted, hgm]
      rw [if_pos hwt]
      refine .inl ?_
      unfold Oper.wp
      rw [hal a w]
      simp only [Oper.upon]
      rw [hdm]
      exact ih _ _ _ _ (hCa w hw) (h3 w.heap.size)
    · exact wpOp_of_qOp hw (fun a' w' hw' h' => ih _ _ _ _ hw' h') h3
theorem headF_first {n m i : Nat} {dm : Option Tmp} {om oi : Oper} {v : Value} {L : Array Bool → Act → Option Nat → Prop} (hm : ops[m]? = some om) (hdm : om.dst = dm) (hi : ops[i]? = some oi) (him : i ≠ m) (hsel : ∀ (j : Nat) (o : Oper) cs b, ops[j]? = some o → o.op ≠ .select cs b)
    (hs : Region.sinkB md ops n = true) (hc : Region.chainB md ops n = true) (hn : n < ops.size) (hin : i < n) (hdone : ∀ listed a b, L listed a b → ∀ j ∈ Region.ready md ops listed, n ≤ j) (f : Nat) :
    ∀ (listed : Array Bool) (a : Act) (b : Option Nat), HeadInv md ops n listed →
      (∀ j oj, ops[j]? = some oj → j ≠ i → listed.getD j true = false → (∀ e ∈ oj.after, Region.binds md e = true → e.on ≠ i) → oi.apart ops oj = true) →
      i ∈ Region.ready md ops listed → YieldsF P ops C oi v a → headF P md ops C n m dm L f (listed.setIfInBounds i true) (a.put oi.dst v) b → headF P md ops C n m dm L (f + 1) listed a b := by
  induction f with
  | zero =>
    intro listed a b inv _ hr hy H
    have hun := (mem_ready.1 hr).1
    refine ⟨fun h => (by rw [h] at hr; cases hr), fun j hj => ?_⟩
    have hjn : j < n := Nat.lt_of_not_le fun h => tail_waits hs hc hn inv _ i rfl hin hun j h hj
    refine ⟨hjn, ?_⟩
    by_cases hji : j = i
    · subst hji; exact .inr ⟨him, (hy b).qOp hi H⟩
    · have := hdone _ _ _ H j (ready_mono hj hji)
      omega
  | succ f ih =>
    intro listed a b inv hfree hr hy H
    have hun := (mem_ready.1 hr).1
    refine ⟨fun h => (by rw [h] at hr; cases hr), fun j hj => ?_⟩
    have hjn : j < n := Nat.lt_of_not_le fun h => tail_waits hs hc hn inv _ i rfl hin hun j h hj
    refine ⟨hjn, ?_⟩
    by_cases hji : j = i
    · subst hji; exact .inr ⟨him, (hy b).qOp hi H⟩
    · obtain ⟨hjun, oj, hoj, hall⟩ := mem_ready.1 hj
      have hnot : ∀ e ∈ oj.after, Region.binds md e = true → e.on ≠ i := fun e he hb heq => by
        have q := hall e he hb
        rw [heq, getD_both hun] at q
        cases q
      have hap := hfree j oj hoj hji hjun hnot
      have hfree' : ∀ k ok, ops[k]? = some ok → k ≠ i → (listed.setIfInBounds j true).getD k true = false → (∀ e ∈ ok.after, Region.binds md e = true → e.on ≠ i) → oi.apart ops ok = true := fun k ok hk hki hun' hno => by
        refine hfree k ok hk hki ?_ hno
        by_cases hjk : j = k
        · subst hjk; exact hjun
        · rw [getD_set_ne true hjk] at hun'; exact hun'
      rcases (H.2 j (ready_mono hj hji)).2 with ⟨hjm, hb, h3⟩ | ⟨hjm, h3⟩
      · refine .inl ⟨hjm, hb, fun k => ?_⟩
        obtain rfl : oj = om := by rw [hjm, hm] at hoj; exact (Option.some.inj hoj).symm
        have hy' : YieldsF P ops C oi v (a.put dm (.pointer (some ⟨k, 0, none⟩))) := by rw [← hdm]; exact hy.put hap (fun cs b => hsel i oi cs b hi)
        refine ih (listed.setIfInBounds j true) _ (some k) (inv.set hj hjn) hfree' (ready_mono hr (Ne.symm hji)) hy' ?_
        rw [Array.setIfInBounds_comm _ _ hji]
        obtain ⟨p1, p2, p3⟩ := Oper.apart_spec hap
        have := h3 k
        rw [← hdm] at this ⊢
        rw [Act.put_comm a v _ p2] at this
        exact this
      · refine .inr ⟨hjm, ?_⟩
        have h2 := qOp_put hoj hap (fun cs b => hsel i oi cs b hi) (fun cs b => hsel j oj cs b hoj) (hy b) h3
        unfold qOp at h2 ⊢
        simp only [hoj] at h2 ⊢
        split
        · rename_i hw
          rw [if_pos hw] at h2
          obtain ⟨u, hu, -, hK⟩ := h2
          refine ⟨u, hu, ih (listed.setIfInBounds j true) _ b (inv.set hj hjn) hfree' (ready_mono hr (Ne.symm hji)) (hy.put hap (fun cs b => hsel i oi cs b hi)) ?_⟩
          rw [Array.setIfInBounds_comm _ _ hji]
          exact hK
        · rename_i hw
          rw [if_neg hw] at h2
          refine ih (listed.setIfInBounds j true) _ b (inv.set hj hjn) hfree' (ready_mono hr (Ne.symm hji)) (hy.put hap (fun cs b => hsel i oi cs b hi)) ?_
          rw [Array.setIfInBounds_comm _ _ hji]
          exact h2.2
theorem headF_lex {n m g : Nat} {dm : Option Tmp} {om : Oper} {Lq : Act → Prop} (hmn : m + 1 = n) (hm : ops[m]? = some om) (hdm : om.dst = dm) (hsel : Region.noSelect ops = true) (hs : Region.sinkB md ops n = true) (hc : Region.chainB md ops n = true) (hn : n < ops.size) (l : List Oper) :
    ∀ (k : Nat) (listed : Array Bool) (a : Act), (∀ j, j < l.length → l[j]? = ops[k + j]?) → k + l.length = m → HeadInv md ops n listed → (∀ j, j < k → listed.getD j true = true) → Region.lexHead md ops g (l.length + 1) k listed = true → wpQuietF P ops C Lq l a →
      headF P md ops C n m dm (fun listed' a' b' => Region.seqB md ops g n listed' = true ∧ ∃ p a0, b' = some p ∧ Lq a0 ∧ a' = a0.put dm (.pointer (some ⟨p, 0, none⟩))) (l.length + 1) listed a none := by
  induction l with
  | nil =>
    intro k listed a _ hk inv hls hB h
    have e : k = m := by simpa using hk
    subst e
    simp only [List.length_nil, Region.lexHead, Bool.and_eq_true] at hB
    have hr : k ∈ Region.ready md ops listed := by simpa using hB.1.1
    have hun := (mem_ready.1 hr).1
    refine ⟨fun h => (by rw [h] at hr; cases hr), fun i hi => ?_⟩
    have hin : i < n := Nat.lt_of_not_le fun h => tail_waits hs hc hn inv _ k rfl (by omega) hun i h hi
    have hik : i = k := by
      rcases Nat.lt_or_ge i k with c | c
      · have q := (mem_ready.1 hi).1
        rw [hls i c] at q
        cases q
      · omega
    subst hik
    refine ⟨hin, .inl ⟨rfl, rfl, fun p => ⟨?_, p, a, rfl, h, rfl⟩⟩⟩
    have := hB.2
    rw [hmn] at this
    exact this
  | cons o l ih =>
    intro k listed a hl hk inv hls hB h
    have h0 : ops[k]? = some o := by simpa using (hl 0 (by simp)).symm
    simp only [List.length_cons, Region.lexHead, Bool.and_eq_true] at hB hk
    have hkn : k < n := by omega
    have hr : k ∈ Region.ready md ops listed := by simpa using hB.1.1
    have hks : k < listed.size := by rw [inv.size]; omega
    obtain ⟨v, hy, hK⟩ : ∃ v, YieldsF P ops C o v a ∧ wpQuietF P ops C Lq l (a.put o.dst v) := by
      unfold wpQuietF at h
      by_cases hw : Region.wanted o (yielded ops a.tmps) = true
      · rw [if_pos hw] at h
        obtain ⟨v, h1, h2⟩ := h
        exact ⟨v, fun b => .inl ⟨hw, fun w hw' => h1 b w hw'⟩, h2⟩
      · rw [if_neg hw] at h
        exact ⟨undef, fun b => .inr ⟨by simpa using hw, rfl⟩, h⟩
    refine headF_first hm hdm h0 (by omega) (Region.noSelect_spec hsel) hs hc hn hkn (fun _ _ _ hL => seqB_ready hL.1) (l.length + 1) listed a none inv (Region.free_spec h0 hB.1.2) hr hy ?_
    refine ih (k + 1) _ _ (fun j hj => ?_) (by omega) (inv.set hr hkn) (fun j hj => ?_) (by simpa [Region.lexHead] using hB.2) hK
    · have := hl (j + 1) (by simp; omega)
      simpa [Nat.add_assoc, Nat.add_comm 1 j] using this
    · by_cases hjk : k = j
      · subst hjk; simp [hks]
      · rw [getD_set_ne true hjk]
        exact hls j (by omega)
/-- THE REGION: the head's calls and loads by the family of classes, the block that it lays, the tail by an ordinary walk. -/
theorem wp_region_laid {id : Nat} {Q : Exit → Act → World → Prop} {a : Act} {w : World} {l : List Oper} (n m d : Nat) (om : Oper) (obj : Obj) (hmn : m + 1 = n) (hom : l[m]? = some om) (hdm : om.dst = some d) (hgm : om.guard = none)
    (hal : ∀ (a : Act) (w : World), (execOp a.eval om).run P w = .ok (.value (.pointer (some ⟨w.heap.size, 0, none⟩))) (w.alloc obj)) (hCa : ∀ w, C none w → C (some w.heap.size) (w.alloc obj))
    (hmx : P.follows .mixedOrders = true) (hB : Region.lexTailB .any l.toArray n = true) (hC : C none w.drew)
    (h : wpQuietF P l.toArray C (fun a' => ∀ p w', C (some p) w' → wpList P l.toArray Q (l.drop n) (a'.put (some d) (.pointer (some ⟨p, 0, none⟩))) w') (l.take m) a) : (Code.region id l.toArray true).wp P Q a w := by
  simp only [Region.lexTailB, Bool.and_eq_true, decide_eq_true_eq] at hB
  obtain ⟨⟨⟨⟨hsel, hn⟩, hs⟩, hc⟩, hlex⟩ := hB
  have hn' : n < l.length := by simpa using hn
  have htl : (l.take m).length = m := by simp; omega
  have hdl : (l.drop n).length = l.toArray.size - n := by simp
  have hom' : l.toArray[m]? = some om := by simpa using hom
  have inv0 : HeadInv .any l.toArray n (Array.replicate l.toArray.size false) :=
    ⟨by simp, fun j oj _ hl => (by rw [getD_replicate_false] at hl; cases hl), fun t _ ht => getD_in (by simpa using ht) (getD_replicate_false _ _)⟩
  have H := headF_lex (md := .any) (C := C) (g := l.toArray.size - n) hmn hom' hdm hsel hs hc hn (l.take m) 0 _ a (fun j hj => by
    have hj' : j < m := by rw [htl] at hj; exact hj
    simp [hj']) (by simpa using htl) inv0 (fun j hj => by omega) (by rw [htl, hmn]; exact hlex) h
  refine wp_region_any hmx ?_
  have T := headF_any (Q := Q) (g := l.toArray.size - n) hom' hdm hgm hal hCa (fun listed a' b' w' hw' hL => by
    obtain ⟨h1, p, a0, rfl, h2, rfl⟩ := hL
    have := wpAny_of_seq (md := .any) (Q' := Q) (l.drop n) n listed (a0.put (some d) (.pointer (some ⟨p, 0, none⟩))) w' (fun j => by simp [List.getElem?_drop]) (by rw [hdl]; exact h1) (h2 p w' hw')
    rwa [hdl] at this) _ _ _ _ _ hC H
  rw [htl, hmn, show n + (l.toArray.size - n) = l.toArray.size by omega] at T
  exact T
end
end Go.Proofs.YtnkoeidolmiheaaGreatDoor
