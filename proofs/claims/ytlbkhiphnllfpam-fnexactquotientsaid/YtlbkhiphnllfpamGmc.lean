/-
  Two goroutines over one channel without a buffer, each making memory of its own, beside others that only leave: on whatever tape goroutine 0 comes to the end of the channel.
-/
import Derived.Conc.CrowdComm
import Derived.Conc.TokenWalk
import Derived.Test.YtlbkhiphnllfpamGtr
namespace Go.Proofs.Ytlbkhiphnllfpam
open Go.Conc
open Go.ConcN (sumTo upd sumTo_upd upd_ne upd_same)
set_option linter.unusedVariables false
/-- What the others' doing keeps for whoever owns M: its own blocks, and all that was there at the start but the channel. -/
structure Keep (c L : Nat) (M : Nat → Prop) (w w₁ : World) : Prop where
  tape : w₁.tape = w.tape
  os : w₁.os = w.os
  output : w₁.output = w.output
  size : w.heap.size ≤ w₁.heap.size
  old : ∀ k, k < L → k ≠ c → w₁.heap[k]? = w.heap[k]?
  own : ∀ k, M k → w₁.heap[k]? = w.heap[k]?
section
variable {c L : Nat} {M N M' : Nat → Prop} {w w₁ w₂ w' : World} {es : Array Event}
theorem Keep.refl (c L : Nat) (M : Nat → Prop) (w : World) : Keep c L M w w := ⟨rfl, rfl, rfl, Nat.le_refl _, fun _ _ _ => rfl, fun _ _ => rfl⟩
theorem Keep.trans (h : Keep c L M w w₁) (k : Keep c L M w₁ w₂) : Keep c L M w w₂ :=
  ⟨k.tape.trans h.tape, k.os.trans h.os, k.output.trans h.output, Nat.le_trans h.size k.size, fun i a b => (k.old i a b).trans (h.old i a b), fun i a => (k.own i a).trans (h.own i a)⟩
theorem Keep.at (c L : Nat) (M : Nat → Prop) (w : World) (d : Nat) : Keep c L M w (w.at d) := ⟨rfl, rfl, rfl, Nat.le_refl _, fun _ _ _ => rfl, fun _ _ => rfl⟩
theorem Keep.chan (hM : ¬ M c) (w : World) (cap : Nat) (buf : Array Value) (cl : Bool) (s r : Nat) (tm : Bool) : Keep c L M w (w.setChan c cap buf cl s r tm) :=
  ⟨rfl, rfl, rfl, by simp [World.setChan], fun k _ hk => by simp [World.setChan, Ne.symm hk], fun k hk => by have : c ≠ k := fun e => hM (e ▸ hk); simp [World.setChan, this]⟩
/-- What a step of the owner's own may do. -/
structure Mv (c L : Nat) (M M' : Nat → Prop) (w₁ w' : World) (es : Array Event) : Prop where
  tape : w'.tape = w₁.tape
  os : w'.os = w₁.os
  output : w'.output = w₁.output
  size : w₁.heap.size ≤ w'.heap.size
  rest : ∀ k, k < w₁.heap.size → ¬ M k → w'.heap[k]? = w₁.heap[k]?
  sub : ∀ k, M k → M' k
  new : ∀ k, M' k → M k ∨ (w₁.heap.size ≤ k ∧ k < w'.heap.size)
  evs : ∀ e ∈ es, EvO L M' w'.heap.size e
theorem Mv.keep (h : Mv c L M M' w₁ w' es) (hL : L ≤ w₁.heap.size) (hM : ∀ k, M k → L ≤ k) (hN : ∀ k, N k → k < w₁.heap.size ∧ ¬ M k) : Keep c L N w₁ w' :=
  ⟨h.tape, h.os, h.output, h.size, fun k hk _ => h.rest k (by omega) (fun hm => by have := hM k hm; omega), fun k hk => h.rest k (hN k hk).1 (hN k hk).2⟩
theorem Mv.chan (h : Mv c L M M' w₁ w' es) (hL : L ≤ w₁.heap.size) (hM : ∀ k, M k → L ≤ k) (hc : c < L) : w'.heap[c]? = w₁.heap[c]? := h.rest c (by omega) (fun hm => by have := hM c hm; omega)
end

/-- On its way to a stop, whatever the others do meanwhile. -/
def GoO (P : Program) (main : Bool) (c L : Nat) (Stop : (Nat → Prop) → Goroutine → World → Prop) (M : Nat → Prop) (g : Goroutine) (w : World) : Prop :=
  ∀ Q : (Nat → Prop) → Goroutine → World → Prop, (∀ M g w, (∀ w₁, Keep c L M w w₁ → Stop M g w₁) → Q M g w) →
    (∀ M g w, g.status = .running → ∀ nx : World → Goroutine × World × Array Event × (Nat → Prop),
      (∀ w₁, Keep c L M w w₁ → stepG P main g w₁ = .go (nx w₁).1 (nx w₁).2.1 (nx w₁).2.2.1 ∧ Mv c L M (nx w₁).2.2.2 w₁ (nx w₁).2.1 (nx w₁).2.2.1) →
      (∀ w₁, Keep c L M w w₁ → Q (nx w₁).2.2.2 (nx w₁).1 (nx w₁).2.1) → Q M g w) → Q M g w
theorem ex_fst {p : Prop} {q : p → Prop} (h : ∃ t, q t) : p := h.elim fun t _ => t
theorem ex_snd {p : Prop} {q : p → Prop} (h : ∃ t, q t) : q (ex_fst h) := by obtain ⟨t, ht⟩ := h; exact ht
theorem GoO.stop {P : Program} {main : Bool} {c L : Nat} {Stop : (Nat → Prop) → Goroutine → World → Prop} {M : Nat → Prop} {g : Goroutine} {w : World} (h : ∀ w₁, Keep c L M w w₁ → Stop M g w₁) : GoO P main c L Stop M g w := fun Q a b => a M g w h
theorem GoO.step {P : Program} {main : Bool} {c L : Nat} {Stop : (Nat → Prop) → Goroutine → World → Prop} {M : Nat → Prop} {g : Goroutine} {w : World} (hs : g.status = .running) (nx : World → Goroutine × World × Array Event × (Nat → Prop))
    (h : ∀ w₁, Keep c L M w w₁ → stepG P main g w₁ = .go (nx w₁).1 (nx w₁).2.1 (nx w₁).2.2.1 ∧ Mv c L M (nx w₁).2.2.2 w₁ (nx w₁).2.1 (nx w₁).2.2.1)
    (hn : ∀ w₁, Keep c L M w w₁ → GoO P main c L Stop (nx w₁).2.2.2 (nx w₁).1 (nx w₁).2.1) : GoO P main c L Stop M g w := fun Q a b => b M g w hs nx h fun w₁ k => hn w₁ k Q a b
theorem GoO.ind {P : Program} {main : Bool} {c L : Nat} {Stop : (Nat → Prop) → Goroutine → World → Prop} {motive : ∀ (M : Nat → Prop) (g : Goroutine) (w : World), GoO P main c L Stop M g w → Prop}
    (stop : ∀ {M : Nat → Prop} {g : Goroutine} {w : World} (h : ∀ w₁, Keep c L M w w₁ → Stop M g w₁), motive M g w (GoO.stop h))
    (step : ∀ {M : Nat → Prop} {g : Goroutine} {w : World} (hs : g.status = .running) (nx : World → Goroutine × World × Array Event × (Nat → Prop))
      (h : ∀ w₁, Keep c L M w w₁ → stepG P main g w₁ = .go (nx w₁).1 (nx w₁).2.1 (nx w₁).2.2.1 ∧ Mv c L M (nx w₁).2.2.2 w₁ (nx w₁).2.1 (nx w₁).2.2.1)
      (hn : ∀ w₁, Keep c L M w w₁ → GoO P main c L Stop (nx w₁).2.2.2 (nx w₁).1 (nx w₁).2.1) (ih : ∀ w₁ (k : Keep c L M w w₁), motive (nx w₁).2.2.2 (nx w₁).1 (nx w₁).2.1 (hn w₁ k)), motive M g w (GoO.step hs nx h hn))
    {M : Nat → Prop} {g : Goroutine} {w : World} (t : GoO P main c L Stop M g w) : motive M g w t := by
  have h : ∃ t : GoO P main c L Stop M g w, motive M g w t := t (fun M g w => ∃ t : GoO P main c L Stop M g w, motive M g w t) (fun M g w h => ⟨GoO.stop h, stop h⟩)
    (fun M g w hs nx h hn => ⟨GoO.step hs nx h fun w₁ k => ex_fst (hn w₁ k), step hs nx h (fun w₁ k => ex_fst (hn w₁ k)) fun w₁ k => ex_snd (hn w₁ k)⟩)
  exact ex_snd h
section
variable {P : Program} {main : Bool} {c L : Nat} {Stop : (Nat → Prop) → Goroutine → World → Prop} {M : Nat → Prop} {g : Goroutine} {w w₂ : World}
theorem GoO.keep (h : GoO P main c L Stop M g w) (hk : Keep c L M w w₂) : GoO P main c L Stop M g w₂ := by
  induction h using GoO.ind with
  | stop h => exact .stop fun w₁ k => h w₁ (hk.trans k)
  | step hs nx h hn _ => exact .step hs nx (fun w₁ k => h w₁ (hk.trans k)) (fun w₁ k => hn w₁ (hk.trans k))
theorem GoO.next (hs : g.status = .running) (h : ∀ w₁, Keep c L M w w₁ → ∃ g' w' es M', stepG P main g w₁ = .go g' w' es ∧ Mv c L M M' w₁ w' es ∧ GoO P main c L Stop M' g' w') : GoO P main c L Stop M g w := by
  have hex : ∀ w₁, ∃ x : Goroutine × World × Array Event × (Nat → Prop), Keep c L M w w₁ → (stepG P main g w₁ = .go x.1 x.2.1 x.2.2.1 ∧ Mv c L M x.2.2.2 w₁ x.2.1 x.2.2.1 ∧ GoO P main c L Stop x.2.2.2 x.1 x.2.1) := fun w₁ => by
    by_cases hk : Keep c L M w w₁
    · obtain ⟨g', w', es, M', h1, h2, h3⟩ := h w₁ hk
      exact ⟨(g', w', es, M'), fun _ => ⟨h1, h2, h3⟩⟩
    · exact ⟨(g, w, #[], M), fun hk' => absurd hk' hk⟩
  exact .step hs (fun w₁ => Classical.choose (hex w₁)) (fun w₁ hk => ⟨(Classical.choose_spec (hex w₁) hk).1, (Classical.choose_spec (hex w₁) hk).2.1⟩) (fun w₁ hk => (Classical.choose_spec (hex w₁) hk).2.2)
theorem GoO.running (hst : ∀ M g w, Stop M g w → g.status = .running) (h : GoO P main c L Stop M g w) : g.status = .running := by
  induction h using GoO.ind with
  | stop h => exact hst _ _ _ (h _ (Keep.refl _ _ _ _))
  | step hs _ _ _ _ => exact hs
end

/-! ### the scripts -/
section
variable (P : Program) (c L : Nat) (z : Value)
/-- It stands at a receive. -/
def AtR (Next : (Nat → Prop) → Goroutine → World → Prop) (M : Nat → Prop) (g : Goroutine) (w : World) : Prop :=
  g.status = .running ∧ stepG P true g w = .comm (core g) #[rcase c z] true (.recv true) w #[] ∧ Next M (core g) w
def RecvsO (Fin : (Nat → Prop) → Goroutine → World → Prop) : List Value → (Nat → Prop) → Goroutine → World → Prop
  | [] => GoO P true c L (AtR P c z fun M g w => Fin M (Conc.served g (recvd true z false)) w)
  | v :: vs => GoO P true c L (AtR P c z fun M g w => RecvsO Fin vs M (Conc.served g (recvd true v true)) w)
/-- It stands at a send. -/
def AtS (v : Value) (Next : (Nat → Prop) → Goroutine → World → Prop) (M : Nat → Prop) (g : Goroutine) (w : World) : Prop :=
  g.status = .running ∧ (∃ z', stepG P false g w = .comm (core g) #[scase c v z'] true .send w #[]) ∧ Next M (Conc.served (core g) undef) w
/-- It stands at the close; behind it it only leaves. -/
def AtC (M : Nat → Prop) (g : Goroutine) (w : World) : Prop :=
  g.status = .running ∧ mayWake P g = true ∧ ∃ g₂ n, (∀ s r tm, w.heap[c]? = some (.chan 0 #[] false s r tm) → stepG P false g w = .go g₂ (w.setChan c 0 #[] true s r tm) (closeEvents c)) ∧ QuitsIn P n g₂
def SendsO : List Value → (Nat → Prop) → Goroutine → World → Prop
  | [] => GoO P false c L (AtC P c)
  | v :: vs => GoO P false c L (AtS P c v (SendsO vs))
end
section
variable {P : Program} {c L : Nat} {z : Value} {Fin : (Nat → Prop) → Goroutine → World → Prop} {M : Nat → Prop} {g : Goroutine} {w w₂ : World}
theorem RecvsO.keep : ∀ {vs : List Value}, RecvsO P c L z Fin vs M g w → Keep c L M w w₂ → RecvsO P c L z Fin vs M g w₂
  | [], h, k => GoO.keep h k
  | _ :: _, h, k => GoO.keep h k
theorem SendsO.keep : ∀ {vs : List Value}, SendsO P c L vs M g w → Keep c L M w w₂ → SendsO P c L vs M g w₂
  | [], h, k => GoO.keep h k
  | _ :: _, h, k => GoO.keep h k
theorem AtR.running {Next : (Nat → Prop) → Goroutine → World → Prop} : ∀ (M : Nat → Prop) (g : Goroutine) (w : World), AtR P c z Next M g w → g.status = .running := fun _ _ _ h => h.1
end

/-- Where the run comes to. -/
def Reach (P : Program) (Fin : (Nat → Prop) → Goroutine → World → Prop) (n : Nat) (m : Machine) (T : Trace) : Prop :=
  ∃ (N : Nat) (gs' : Array Goroutine) (a' : Goroutine) (w' : World) (sl' : Option (Nat × Nat)) (T' : Trace) (q' : Nat → Nat) (B' : Nat) (M : Nat → Prop),
    runNT P N m T = (.next (crowd gs' w' sl'), T') ∧ gs'.size = n ∧ gs'[0]? = some a' ∧ Fin M a' w' ∧ Leavers P T' gs' q' ∧ Past (fun _ => False) B' T'
theorem Reach.step {P : Program} {Fin : (Nat → Prop) → Goroutine → World → Prop} {n : Nat} {m m' : Machine} {T : Trace} {ops : Array MemOp} (h : stepT P m = (.next m', ops)) (hr : Reach P Fin n m' (T ++ ops)) : Reach P Fin n m T := by
  obtain ⟨N, gs', a', w', sl', T', q', B', M, h1, h2⟩ := hr
  exact ⟨N + 1, gs', a', w', sl', T', q', B', M, by rw [runNT_succ_next h]; exact h1, h2⟩

theorem awake_st {g : Goroutine} (h : g.status = .running ∨ g.status = .blocked ∨ g.status = .finished) : awake g := awake_of h
theorem get_set_ne {gs : Array Goroutine} {i k : Nat} (h : i ≠ k) (x : Goroutine) : (gs.setIfInBounds i x)[k]? = gs[k]? := Array.getElem?_setIfInBounds_ne h
theorem get_set_same {gs : Array Goroutine} {i : Nat} (h : i < gs.size) (x : Goroutine) : (gs.setIfInBounds i x)[i]? = some x := Array.getElem?_setIfInBounds_self_of_lt h

/-! ### behind the close -/
structure CoS (P : Program) (c L j m : Nat) (MA MB : Nat → Prop) (gs : Array Goroutine) (w : World) (T : Trace) (q : Nat → Nat) (a : Goroutine) : Prop where
  hA : gs[0]? = some a
  oth : ∀ i g, 0 < i → gs[i]? = some g → QuitsD P (q i) (Deaf T i) g
  abv : ∀ i, gs.size ≤ i → Deaf T i = 0
  tr : PhS j c L MB T
  sh : ShutT j c m T
  mA : ∀ k, MA k → L ≤ k ∧ k < w.heap.size
  mB : ∀ k, MB k → L ≤ k ∧ k < w.heap.size
  ap : ∀ k, MA k → ¬ MB k
  lw : L ≤ w.heap.size
  ch : ∃ s r tm, w.heap[c]? = some (.chan 0 #[] true s r tm)
section
variable {P : Program} {c L j m : Nat} {z : Value} {Fin : (Nat → Prop) → Goroutine → World → Prop} {MA MB : Nat → Prop}
theorem deaf_none {i : Nat} {fn : FuncId} {pos : String} {es : Array Event} (hm : ∀ e ∈ es, e.mute = true) {g : Nat} (hg : g ≠ i) : ∀ op ∈ MemOp.ofEvents i fn pos es, ∀ d, deafStep g d op = d := by
  intro op ho d
  obtain ⟨e, he, rfl⟩ := mem_ofEv ho
  unfold deafStep
  split <;> simp [Ne.symm hg]
theorem slip_tr {i : Nat} {fn : FuncId} {pos : String} {es : Array Event} (hm : ∀ e ∈ es, e.mute = true) : (∀ op ∈ MemOp.ofEvents i fn pos es, op.act.touch? = none) ∧ ∃ B, ∀ op ∈ MemOp.ofEvents i fn pos es, op.act.low B :=
  ⟨fun op ho => by obtain ⟨e, he, rfl⟩ := mem_ofEv ho; exact touch_mute (hm e he), 0, fun op ho => by obtain ⟨e, he, rfl⟩ := mem_ofEv ho; exact low_mute (hm e he) 0⟩
theorem Leave.slip {i : Nat} {g g' : Goroutine} {gs : Array Goroutine} {w : World} {T : Trace} {q : Nat → Nat} {k : Nat} {es : Array Event} {Who : Nat → Prop} (hlt : i < gs.size) (hi0 : 0 < i) (hW : Who i)
    (oth : ∀ i g, 0 < i → Who i → gs[i]? = some g → QuitsD P (q i) (Deaf T i) g) (hq : QuitsD P k (deafBehind (Deaf T i) es) g') (fn : FuncId) (pos : String) :
    ∀ x y, 0 < x → Who x → ((gs.map (woken P g g' w)).setIfInBounds i g')[x]? = some y → QuitsD P (upd q i k x) (Deaf (T ++ MemOp.ofEvents i fn pos es) x) y := by
  intro x y hx hWx hy
  by_cases hxi : i = x
  · subst hxi
    rw [get_set_same (by simpa using hlt)] at hy
    obtain rfl := Option.some.inj hy
    rw [upd_same, Deaf_own]
    exact hq
  · rw [get_set_ne hxi, Array.getElem?_map] at hy
    obtain ⟨u, hu, rfl⟩ := Option.map_eq_some_iff.1 hy
    have hqx := oth x u hx hWx hu
    rw [woken_quitsD hqx, upd_ne q k (Ne.symm hxi), Deaf_other T hxi _ (fun op hop => by obtain ⟨e, _, rfl⟩ := mem_ofEv hop; rfl)]
    exact hqx
theorem CoS.pick {gs : Array Goroutine} {w : World} {T : Trace} {q : Nat → Nat} {a : Goroutine} (C : CoS P c L j m MA MB gs w T q a) (hj : 0 < j) (hra : a.status = .running) (sl : Option (Nat × Nat)) :
    ∃ d sl', stepT P (crowd gs w sl) = runT P (crowd gs (w.at d) sl') 0 ∨
      ∃ gs' ops q', stepT P (crowd gs w sl) = (.next (crowd gs' (w.at d) sl'), ops) ∧ gs'.size = gs.size ∧ CoS P c L j m MA MB gs' (w.at d) (T ++ ops) q' a ∧ sumTo gs.size q' < sumTo gs.size q := by
  have haw : ∀ g ∈ gs, awake g := by
    intro g hg
    obtain ⟨i, hi, rfl⟩ := Array.mem_iff_getElem.1 hg
    rcases Nat.eq_zero_or_pos i with rfl | hpos
    · have : gs[0] = a := by simpa [Array.getElem?_eq_getElem hi] using C.hA
      rw [this]; exact awake_of (.inl hra)
    · exact awake_of ((C.oth i _ hpos (Array.getElem?_eq_getElem hi)).status.elim .inl fun x => .inr (.inr x))
  obtain ⟨i, g, d, sl', hi, hg, hst⟩ := crowd_pick (P := P) (w := w) (sl := sl) haw ⟨0, a, C.hA, hra⟩
  refine ⟨d, sl', ?_⟩
  rcases Nat.eq_zero_or_pos i with rfl | hpos
  · exact .inl hst
  · right
    have hq := C.oth i g hpos hi
    have hi0 : (i == 0) = false := by simp; omega
    have hlt : i < gs.size := (Array.getElem?_eq_some_iff.1 hi).1
    cases hqi : q i with
    | zero => rw [hqi] at hq; rw [hq.1] at hg; cases hg
    | succ k =>
      rw [hqi] at hq
      rcases hq with ⟨hf, _⟩ | ⟨_, g', es, hm, hstp, hq'⟩
      · rw [hf] at hg; cases hg
      have hrunT := runT_crowd_go (P := P) (sl := sl') (i := i) hi (by rw [hi0]; exact hstp (w.at d))
      have hsum : sumTo gs.size (upd q i k) + (k + 1) = sumTo gs.size q + k := by
        have := sumTo_upd q k id hlt
        simpa [hqi] using this
      refine ⟨_, _, upd q i k, hst.trans hrunT, by simp, ⟨?_, fun x y hx hy => Leave.slip (Who := fun _ => True) hlt hpos trivial (fun i g h _ => C.oth i g h) hq' _ _ x y hx trivial hy, fun x hx => ?_, C.tr.mute (slip_tr hm).1 (deaf_none hm (by omega)) (slip_tr hm).2, C.sh.app (fun op ho _ => (slip_tr hm).1 op ho), C.mA, C.mB, C.ap, C.lw, C.ch⟩, by omega⟩
      · rw [get_set_ne (by omega), Array.getElem?_map, C.hA]
        simp [woken_run hra]
      · rw [Deaf_other T (g' := i) (by simp at hx; omega) _ (fun op hop => by obtain ⟨e, _, rfl⟩ := mem_ofEv hop; rfl)]
        exact C.abv x (by simpa using hx)
theorem shut_run (hj : 0 < j) (hcL : c < L) {a : Goroutine} {w : World} (h : GoO P true c L (AtR P c z fun M g w => Fin M (Conc.served g (recvd true z false)) w) MA a w) :
    ∀ w₂, Keep c L MA w w₂ → ∀ (gs : Array Goroutine) (T : Trace) (q : Nat → Nat) (sl : Option (Nat × Nat)), CoS P c L j m MA MB gs w₂ T q a → Reach P Fin gs.size (crowd gs w₂ sl) T := by
  induction h using GoO.ind with
  | stop hst =>
    rename_i MA a w
    intro w₂ hk gs T q sl C
    generalize hn : sumTo gs.size q = n
    induction n using Nat.strongRecOn generalizing w₂ gs T q sl with
    | _ n ih =>
      have hra : a.status = .running := (hst w (Keep.refl _ _ _ _)).1
      obtain ⟨d, sl', hp | ⟨gs', ops, q', hs, hz, C', hlt⟩⟩ := C.pick hj hra sl
      · have hk' : Keep c L MA w (w₂.at d) := hk.trans (Keep.at _ _ _ _ d)
        obtain ⟨-, hcm, hfin⟩ := hst _ hk'
        obtain ⟨s, r, tm, hch⟩ := C.ch
        have hch' : (w₂.at d).heap[c]? = some (.chan 0 #[] true s r tm) := hch
        have hpn : partners (gs.setIfInBounds 0 ph) c true = [] := partners_nil fun x y hy => by
          rcases getElem?_stand gs 0 x y hy with ⟨_, rfl⟩ | ⟨hx, hy'⟩
          · exact offersAt_ph _ _
          · exact offersAt_of_not_blocked (by rcases (C.oth x y (by omega) hy').status with e | e <;> rw [e] <;> simp) _ _
        have hrun := crowd_recv_closed (P := P) (sl := sl') (i := 0) C.hA (show stepG P (0 == 0) a (w₂.at d) = _ from hcm) hch' hpn
        rw [finishComm_recv] at hrun
        refine Reach.step (hp.trans hrun) ?_
        obtain ⟨B', hP⟩ := C.tr.finish C.sh (by omega) (core a).frame.fn (core a).frame.place
        have hlt0 : 0 < gs.size := (Array.getElem?_eq_some_iff.1 C.hA).1
        have e0 : MemOp.ofEvents 0 a.frame.fn a.frame.place #[] = #[] := rfl
        rw [e0, Array.empty_append]
        refine ⟨0, _, _, _, sl', _, q, B', MA, rfl, by simp, get_set_same hlt0 _, hfin, ⟨fun i g hi hg => ?_, fun i hi => ?_⟩, hP⟩
        · rw [get_set_ne (show (0 : Nat) ≠ i by omega)] at hg
          rw [Deaf_other T (g' := 0) (by omega) _ (fun op hop => by simp at hop; subst hop; rfl)]
          exact C.oth i g hi hg
        · rw [Deaf_other T (g' := 0) (by simp at hi; omega) _ (fun op hop => by simp at hop; subst hop; rfl)]
          exact C.abv i (by simpa using hi)
      · have := ih _ (by rw [← hn, ← hz] at *; omega) (w₂.at d) (hk.trans (Keep.at _ _ _ _ d)) gs' (T ++ ops) q' sl' C' (by rw [hz])
        rw [hz] at this
        exact Reach.step hs this
  | step hs nx hstep hn ih =>
    rename_i MA a w
    intro w₂ hk gs T q sl C
    generalize hnn : sumTo gs.size q = n
    induction n using Nat.strongRecOn generalizing w₂ gs T q sl with
    | _ n ihn =>
      obtain ⟨d, sl', hp | ⟨gs', ops, q', hs', hz, C', hlt⟩⟩ := C.pick hj hs sl
      · have hk' : Keep c L MA w (w₂.at d) := hk.trans (Keep.at _ _ _ _ d)
        obtain ⟨hgo, hmv⟩ := hstep _ hk'
        have hih := ih _ hk' _ (Keep.refl _ _ _ _)
        generalize (nx (w₂.at d)).1 = a' at *
        generalize (nx (w₂.at d)).2.1 = w' at *
        generalize (nx (w₂.at d)).2.2.1 = es at *
        generalize (nx (w₂.at d)).2.2.2 = M' at *
        have hrun := runT_crowd_go (P := P) (sl := sl') (i := 0) C.hA (show stepG P (0 == 0) a (w₂.at d) = _ from hgo)
        have hlt0 : 0 < gs.size := (Array.getElem?_eq_some_iff.1 C.hA).1
        have hL : L ≤ (w₂.at d).heap.size := C.lw
        have hM'L : ∀ k, M' k → L ≤ k ∧ k < w'.heap.size := fun k hk => by
          rcases hmv.new k hk with h | ⟨h1, h2⟩
          · have h3 := C.mA k h; have h4 := hmv.size; exact ⟨h3.1, Nat.lt_of_lt_of_le h3.2 h4⟩
          · exact ⟨Nat.le_trans hL h1, h2⟩
        have hap : ∀ k, M' k → ¬ MB k := fun k hk hb => by
          rcases hmv.new k hk with h | ⟨h1, h2⟩
          · exact C.ap k h hb
          · have := (C.mB k hb).2; exact absurd this (Nat.not_lt.2 h1)
        have := hih ((gs.map (woken P a a' w')).setIfInBounds 0 a') (T ++ MemOp.ofEvents 0 a.frame.fn a.frame.place es) q sl' ⟨get_set_same (by simpa using hlt0) _, fun i g hi hg => ?_, fun i hi => ?_, C.tr.ownA (fun k hk => (C.mB k hk).1) (fun k hk => (hM'L k hk).1) hap hmv.evs, C.sh.app (fun op ho hg => ?_), hM'L, fun k hk => ⟨(C.mB k hk).1, Nat.lt_of_lt_of_le (C.mB k hk).2 hmv.size⟩, hap, Nat.le_trans hL hmv.size, ?_⟩
        · rw [show ((gs.map (woken P a a' w')).setIfInBounds 0 a').size = gs.size by simp] at this
          exact Reach.step (hp.trans hrun) this
        · rw [get_set_ne (show (0 : Nat) ≠ i by omega), Array.getElem?_map] at hg
          obtain ⟨y, hy, rfl⟩ := Option.map_eq_some_iff.1 hg
          have hq := C.oth i y hi hy
          rw [woken_quitsD hq, Deaf_other T (g' := 0) (by omega) _ (fun op hop => by obtain ⟨e, _, rfl⟩ := mem_ofEv hop; rfl)]
          exact hq
        · rw [Deaf_other T (g' := 0) (by simp at hi; omega) _ (fun op hop => by obtain ⟨e, _, rfl⟩ := mem_ofEv hop; rfl)]
          exact C.abv i (by simpa using hi)
        · obtain ⟨e, he, rfl⟩ := mem_ofEv ho
          exact absurd hg (by show ¬ (0 = j); omega)
        · obtain ⟨s, r, tm, hch⟩ := C.ch
          exact ⟨s, r, tm, (hmv.chan hL (fun k hk => (C.mA k hk).1) hcL).trans hch⟩
      · have := ihn _ (by rw [← hnn, ← hz] at *; omega) (w₂.at d) (hk.trans (Keep.at _ _ _ _ d)) gs' (T ++ ops) q' sl' C' (by rw [hz])
        rw [hz] at this
        exact Reach.step hs' this
end
end Go.Proofs.Ytlbkhiphnllfpam
