/-
  Regions that draw their order, whatever they lay or call: one walk by what holds of each value once it is there (a fact that later steps leave standing).
-/
import Derived.Orders
import Derived.Deep.Quiet
import Derived.ProofKit
import Derived.Test.YtdkpiofeidcffaaGreatDoorRows
namespace Go.Proofs.YtdkpiofeidcffaaGreatDoor
set_option linter.unusedVariables false
set_option maxRecDepth 100000
set_option linter.unusedSimpArgs false
/-- A part of a code, by the way to it: left and right of a sequence, then and else, inside. -/
def selC : List Nat → Code → Code
  | [], c => c
  | k :: p, c => match k, c with
    | 0, .seq a _ => selC p a
    | 1, .seq _ b => selC p b
    | 2, .cond _ a _ => selC p a
    | 3, .cond _ _ b => selC p b
    | 4, .block _ c => selC p c
    | 4, .loop c => selC p c
    | _, _ => .skip
section
variable {P : Program} {ops : Array Oper}
/-- The slot of operation j, read. -/
def opV (ops : Array Oper) (j : Nat) (a : Act) : Value := match (ops[j]?).bind (·.dst) with
  | some d => a.tmps.getD d undef
  | none => undef
/-- The slots of the region written anew. -/
def putL (f : Nat → Value) : List Nat → Act → Act
  | [], a => a
  | d :: r, a => putL f r (a.put (some d) (f d))
theorem putL_defers (f : Nat → Value) (l : List Nat) (a : Act) : (putL f l a).defers = a.defers := by
  induction l generalizing a with
  | nil => rfl
  | cons d r ih => exact ih _
theorem putL_size (f : Nat → Value) (l : List Nat) (a : Act) : (putL f l a).tmps.size = a.tmps.size := by
  induction l generalizing a with
  | nil => rfl
  | cons d r ih => rw [putL, ih]; simp [Act.put]
theorem putL_out (f : Nat → Value) (l : List Nat) (a : Act) (k : Nat) (h : k ∉ l) : (putL f l a).tmps[k]? = a.tmps[k]? := by
  induction l generalizing a with
  | nil => rfl
  | cons d r ih =>
    rw [putL, ih _ (fun q => h (List.mem_cons_of_mem _ q))]
    have : d ≠ k := fun q => h (by rw [q]; exact List.mem_cons_self)
    simp [Act.put, Array.getElem?_setIfInBounds, this]
theorem putL_in (f : Nat → Value) (l : List Nat) (a : Act) (k : Nat) (h : k ∈ l) (hk : k < a.tmps.size) : (putL f l a).tmps[k]? = some (f k) := by
  induction l generalizing a with
  | nil => cases h
  | cons d r ih =>
    rw [putL]
    by_cases hr : k ∈ r
    · exact ih _ hr (by simp [Act.put]; exact hk)
    · have : d = k := by rcases List.mem_cons.1 h with q | q; exact q.symm; exact absurd q hr
      subst this
      rw [putL_out _ _ _ _ hr]
      simp [Act.put, Array.getElem?_setIfInBounds, hk]
/-- The frame but for the region's slots. -/
def FrmA (l : List Nat) (a0 a : Act) : Prop := a.defers = a0.defers ∧ a.tmps.size = a0.tmps.size ∧ ∀ k, k ∉ l → a.tmps[k]? = a0.tmps[k]?
theorem FrmA.eq {l : List Nat} {a0 a : Act} (h : FrmA l a0 a) : a = putL (fun d => a.tmps.getD d undef) l a0 := by
  obtain ⟨h1, h2, h3⟩ := h
  have e : a.tmps = (putL (fun d => a.tmps.getD d undef) l a0).tmps := by
    apply Array.ext_getElem?
    intro k
    by_cases hk : k ∈ l
    · by_cases hs : k < a0.tmps.size
      · rw [putL_in _ _ _ _ hk hs]
        have : k < a.tmps.size := by omega
        simp [Array.getD, this]
      · rw [Array.getElem?_eq_none (by omega), Array.getElem?_eq_none (by rw [putL_size]; omega)]
    · rw [putL_out _ _ _ _ hk, h3 k hk]
  have e2 : a.defers = (putL (fun d => a.tmps.getD d undef) l a0).defers := by rw [putL_defers]; exact h1
  generalize putL (fun d => a.tmps.getD d undef) l a0 = b at e e2
  cases a
  cases b
  simp only at e e2
  rw [e, e2]
theorem FrmA.put {l : List Nat} {a0 a : Act} (h : FrmA l a0 a) (d : Nat) (hd : d ∈ l) (v : Value) : FrmA l a0 (a.put (some d) v) := by
  obtain ⟨h1, h2, h3⟩ := h
  refine ⟨h1, by simpa [Act.put] using h2, fun k hk => ?_⟩
  have : d ≠ k := fun q => hk (by rw [← q]; exact hd)
  rw [← h3 k hk]
  simp [Act.put, Array.getElem?_setIfInBounds, this]
theorem put_same (a : Act) (d : Nat) (v : Value) (h : d < a.tmps.size) : (a.put (some d) v).tmps.getD d undef = v := by
  rw [Array.getD_eq_getD_getElem?]; simp [Act.put, h]
theorem put_other (a : Act) (d e : Nat) (v : Value) (h : d ≠ e) : (a.put (some d) v).tmps.getD e undef = a.tmps.getD e undef := by
  rw [Array.getD_eq_getD_getElem?, Array.getD_eq_getD_getElem?]; simp [Act.put, Array.getElem?_setIfInBounds, h]
/-- The shape of the region: each operation has a slot of its own, no guard, and waits for earlier ones alone. -/
def FcsB (ops : Array Oper) (l : List Nat) (n : Nat) : Bool :=
  (List.range ops.size).all (fun i => match ops[i]? with
    | none => false
    | some o => o.guard.isNone && o.after.all (fun e => decide (e.on < i)) && decide (o.dst = some (l.getD i 0))) &&
  decide (l.length = ops.size) && decide l.Nodup && l.all (fun d => decide (d < n))
theorem wpAny_facts {Q : Exit → Act → World → Prop} (l : List Nat) (a0 : Act) (G : Nat → Value → World → Prop) (S : World → Prop) (R : World → World → Prop)
    (hB : FcsB ops l a0.tmps.size = true)
    (hG : ∀ j v w w', R w w' → G j v w → G j v w')
    (hs : ∀ (i : Nat) (o : Oper) (a : Act) (w : World), ops[i]? = some o → S w → FrmA l a0 a → (∀ e ∈ o.after, Region.binds .any e = true → G e.on (opV ops e.on a) w) → o.wp P a w (fun a' w' => ∃ v, a' = a.put o.dst v ∧ G i v w' ∧ S w' ∧ R w w') Q)
    (hQ : ∀ (f : Nat → Value) w, S w → (∀ j d, l[j]? = some d → G j (f d) w) → Q .normal (putL f l a0) w) :
    ∀ (fuel : Nat) (listed : Array Bool) (a : Act) (w : World), listed.size = ops.size → (listed.toList.filter (!·)).length ≤ fuel → S w → FrmA l a0 a → (∀ j, j < ops.size → listed.getD j true = true → G j (opV ops j a) w) → wpAny P .any ops Q fuel listed a w := by
  unfold FcsB at hB
  simp only [Bool.and_eq_true, decide_eq_true_eq, List.all_eq_true, List.mem_range] at hB
  obtain ⟨⟨⟨h1, h2⟩, h3⟩, h4⟩ := hB
  have hop : ∀ i o, ops[i]? = some o → o.guard = none ∧ (∀ e ∈ o.after, e.on < i) ∧ o.dst = some (l.getD i 0) ∧ i < ops.size := fun i o ho => by
    have hi := (Array.getElem?_eq_some_iff.1 ho).1
    have := h1 i hi
    rw [ho] at this
    simp only [Bool.and_eq_true, decide_eq_true_eq] at this
    obtain ⟨⟨g1, g2⟩, g3⟩ := this
    refine ⟨Option.isNone_iff_eq_none.1 g1, ?_, g3, hi⟩
    · intro e he
      have := Array.all_eq_true_iff_forall_mem.1 g2 e he
      exact of_decide_eq_true this
  have hval : ∀ j a, j < ops.size → opV ops j a = a.tmps.getD (l.getD j 0) undef := fun j a hj => by
    unfold opV
    have ho : ops[j]? = some ops[j] := Array.getElem?_eq_getElem hj
    rw [ho]
    simp only [Option.bind_some, (hop j _ ho).2.2.1]
  have hld : ∀ j, j < ops.size → l[j]? = some (l.getD j 0) := fun j hj => by
    rw [List.getD_eq_getElem?_getD, List.getElem?_eq_getElem (by omega)]; rfl
  have hfin : ∀ listed a w, listed.size = ops.size → Region.ready .any ops listed = [] → S w → FrmA l a0 a → (∀ j, j < ops.size → listed.getD j true = true → G j (opV ops j a) w) → Q .normal a w := fun listed a w hz hr hS hF hL => by
    have all : ∀ n j, j < n → j < ops.size → listed.getD j true = true := by
      intro n
      induction n with
      | zero => intro j hj; omega
      | succ n ih =>
        intro j hj hjs
        by_cases hjn : j < n
        · exact ih j hjn hjs
        · cases hc : listed.getD j true with
          | true => rfl
          | false =>
            have ho : ops[j]? = some ops[j] := Array.getElem?_eq_getElem hjs
            have : j ∈ Region.ready .any ops listed := mem_ready.2 ⟨hc, _, ho, fun e he _ => by
              have he2 := (hop j _ ho).2.1 e he
              have := ih e.on (by omega) (by omega)
              have hlt : e.on < listed.size := by omega
              simp only [Array.getD, hlt, dif_pos] at this ⊢
              exact this⟩
            rw [hr] at this
            cases this
    have e := hF.eq
    rw [e]
    refine hQ _ w hS fun j d hj => ?_
    have hjs : j < ops.size := by have := (List.getElem?_eq_some_iff.1 hj).1; omega
    have := hL j hjs (all (j + 1) j (by omega) hjs)
    rw [hval j a hjs] at this
    rw [hld j hjs] at hj
    rw [← Option.some.inj hj]
    exact this
  intro fuel
  induction fuel with
  | zero =>
    intro listed a w hz hf hS hF hL
    have hr : Region.ready .any ops listed = [] := by
      cases hq : Region.ready .any ops listed with
      | nil => rfl
      | cons i r =>
        have hi : i ∈ Region.ready .any ops listed := by rw [hq]; exact List.mem_cons_self
        obtain ⟨hi1, o, ho, -⟩ := mem_ready.1 hi
        have hlt : i < listed.size := by rw [hz]; exact (hop i o ho).2.2.2
        have hm : false ∈ listed.toList.filter (!·) := by
          rw [List.mem_filter]
          refine ⟨?_, rfl⟩
          simp only [Array.getD, hlt, dif_pos] at hi1
          have : listed[i] ∈ listed.toList := Array.mem_toList_iff.2 (Array.getElem_mem hlt)
          rw [show listed[i] = false from hi1] at this
          exact this
        have := List.length_pos_of_mem hm
        omega
    exact ⟨hr, hfin listed a w hz hr hS hF hL⟩
  | succ fuel ih =>
    intro listed a w hz hf hS hF hL
    refine ⟨fun hr => hfin listed a w hz hr hS hF hL, fun i hi => ?_⟩
    obtain ⟨hi1, o, ho, hdep⟩ := mem_ready.1 hi
    obtain ⟨g1, g2, g3, g4⟩ := hop i o ho
    unfold wpOp
    simp only [ho]
    have hw : Region.wanted o (yielded ops a.tmps) = true := by simp [Region.wanted, g1]
    rw [if_pos hw]
    refine .inl (Oper.wp_mono ?_ (hs i o a w ho hS hF (fun e he hb => hL e.on (by have := g2 e he; omega) (by
      have := hdep e he hb
      have hlt : e.on < listed.size := by have := g2 e he; omega
      simp only [Array.getD, hlt, dif_pos] at this ⊢
      exact this))))
    rintro a' w' ⟨v, rfl, k1, k2, k3⟩
    have hlt : i < listed.size := by omega
    have hd : l.getD i 0 ∈ l := List.mem_of_getElem? (hld i g4)
    rw [g3]
    refine ih _ _ _ (by simp [hz]) ?_ k2 (hF.put _ hd v) fun j hj hjl => ?_
    · have e : (listed.setIfInBounds i true).toList = listed.toList.set i true := by simp
      rw [e]
      have hx : listed.toList[i]? = some false := by
        simp only [Array.getD, hlt, dif_pos] at hi1
        rw [Array.getElem?_toList, Array.getElem?_eq_getElem hlt]
        exact congrArg some hi1
      have key : ∀ (L : List Bool) (i : Nat), L[i]? = some false → ((L.set i true).filter (!·)).length + 1 = (L.filter (!·)).length := by
        intro L
        induction L with
        | nil => intro i h; simp at h
        | cons b L ihL =>
          intro i h
          cases i with
          | zero =>
            simp only [List.getElem?_cons_zero, Option.some.injEq] at h
            subst h
            simp
          | succ i =>
            have := ihL i (by simpa using h)
            simp only [List.set_cons_succ, List.filter_cons]
            split
            · simp only [List.length_cons]; omega
            · omega
      have := key _ _ hx
      omega
    · rw [hval j _ hj]
      by_cases hji : j = i
      · subst hji
        have hlt2 : l.getD j 0 < a.tmps.size := by
          have := h4 _ hd
          rw [hF.2.1]
          exact this
        have : (a.put (some (l.getD j 0)) v).tmps.getD (l.getD j 0) undef = v := put_same a _ v hlt2
        rw [this]
        exact k1
      · have hne : l.getD i 0 ≠ l.getD j 0 := fun q => by
          have a1 := hld i g4
          have a2 := hld j hj
          rw [q] at a1
          exact hji ((List.getElem?_inj (show j < l.length by omega) h3).1 (a2.trans a1.symm))
        have : (a.put (some (l.getD i 0)) v).tmps.getD (l.getD j 0) undef = a.tmps.getD (l.getD j 0) undef := put_other a _ _ v hne
        rw [this, ← hval j a hj]
        refine hG j _ w w' k3 (hL j hj ?_)
        rwa [getD_set_ne true (fun q => hji q.symm)] at hjl
/-- THE REGION by facts. -/
theorem wp_region_facts {id : Nat} {Q : Exit → Act → World → Prop} {a : Act} {w : World} (l : List Nat) (G : Nat → Value → World → Prop) (S : World → Prop) (R : World → World → Prop) (hm : P.follows .mixedOrders = true)
    (hB : FcsB ops l a.tmps.size = true) (hS : S w.drew)
    (hG : ∀ j v w w', R w w' → G j v w → G j v w')
    (hs : ∀ (i : Nat) (o : Oper) (b : Act) (w : World), ops[i]? = some o → S w → FrmA l a b → (∀ e ∈ o.after, Region.binds .any e = true → G e.on (opV ops e.on b) w) → ∀ K : Act → World → Prop, (∀ v w', G i v w' → S w' → R w w' → K (b.put o.dst v) w') → o.wp P b w K Q)
    (hQ : ∀ (f : Nat → Value) w, S w → (∀ j d, l[j]? = some d → G j (f d) w) → Q .normal (putL f l a) w) : (Code.region id ops true).wp P Q a w := by
  refine wp_region_any hm (wpAny_facts l a G S R hB hG (fun i o b w h1 h2 h3 h4 => hs i o b w h1 h2 h3 h4 _ (fun v w' k1 k2 k3 => ⟨v, rfl, k1, k2, k3⟩)) hQ _ _ _ _ (by simp) ?_ hS ⟨rfl, rfl, fun _ _ => rfl⟩ fun j hj hl => ?_)
  · refine Nat.le_trans (List.length_filter_le _ _) ?_
    simp
  · simp [Array.getD, hj] at hl
end
end Go.Proofs.YtdkpiofeidcffaaGreatDoor
