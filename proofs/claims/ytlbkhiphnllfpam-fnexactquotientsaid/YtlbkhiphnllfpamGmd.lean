/-
  Two goroutines over one channel: while the channel is open.
-/
import Derived.Test.YtlbkhiphnllfpamGmc
namespace Go.Proofs.Ytlbkhiphnllfpam
open Go.Conc
open Go.ConcN (sumTo upd sumTo_upd upd_ne upd_same)
set_option linter.unusedVariables false
structure Co (P : Program) (c L j : Nat) (MA MB : Nat → Prop) (gs : Array Goroutine) (w : World) (T : Trace) (q : Nat → Nat) (a b : Goroutine) : Prop where
  hA : gs[0]? = some a
  hB : gs[j]? = some b
  oth : ∀ i g, 0 < i → i ≠ j → gs[i]? = some g → QuitsD P (q i) (Deaf T i) g
  abv : ∀ i, gs.size ≤ i → Deaf T i = 0
  tr : PhT j c L MA MB T
  mA : ∀ k, MA k → L ≤ k ∧ k < w.heap.size
  mB : ∀ k, MB k → L ≤ k ∧ k < w.heap.size
  ap : ∀ k, MA k → ¬ MB k
  lw : L ≤ w.heap.size
  ch : ∃ s r tm, w.heap[c]? = some (.chan 0 #[] false s r tm)
/-- It runs; or it waits at the channel, and nobody but who meets it lets it go on. -/
def Sure (P : Program) (c : Nat) (w : World) (x : Goroutine) : Prop := x.status = .running ∨ (x.status = .blocked ∧ ∀ g g' w', w'.heap[c]? = w.heap[c]? → Conc.woken P g g' w' x = x)
section
variable {P : Program} {c L j : Nat} {z : Value} {Fin : (Nat → Prop) → Goroutine → World → Prop} {MA MB MA' MB' : Nat → Prop} {gs : Array Goroutine} {w : World} {T : Trace} {q : Nat → Nat} {a b : Goroutine}
theorem Sure.woken {x : Goroutine} (h : Sure P c w x) (g g' : Goroutine) {w' : World} (hc : w'.heap[c]? = w.heap[c]?) : Conc.woken P g g' w' x = x := by
  rcases h with h | ⟨_, h⟩
  · exact woken_run h
  · exact h g g' w' hc
theorem sure_recv {g : Goroutine} {sh : CommShape} (h : ∃ s r tm, w.heap[c]? = some (.chan 0 #[] false s r tm)) : Sure P c w (Conc.parked g #[rcase c z] sh) := by
  obtain ⟨s, r, tm, h⟩ := h
  exact .inr ⟨rfl, fun g g' w' e => woken_recv_open g g' (e.trans h)⟩
theorem sure_send {g : Goroutine} {v z' : Value} {sh : CommShape} (h : ∃ s r tm, w.heap[c]? = some (.chan 0 #[] false s r tm)) : Sure P c w (Conc.parked g #[scase c v z'] sh) := by
  obtain ⟨s, r, tm, h⟩ := h
  exact .inr ⟨rfl, fun g g' w' e => woken_send_open g g' (e.trans h)⟩
theorem Co.pick (C : Co P c L j MA MB gs w T q a b) (hj : 0 < j) (hsA : Sure P c w a) (hsB : Sure P c w b) (h1 : a.status = .running ∨ b.status = .running) (sl : Option (Nat × Nat)) :
    ∃ d sl', (a.status = .running ∧ stepT P (crowd gs w sl) = runT P (crowd gs (w.at d) sl') 0) ∨ (b.status = .running ∧ stepT P (crowd gs w sl) = runT P (crowd gs (w.at d) sl') j) ∨
      ∃ gs' ops q', stepT P (crowd gs w sl) = (.next (crowd gs' (w.at d) sl'), ops) ∧ gs'.size = gs.size ∧ Co P c L j MA MB gs' (w.at d) (T ++ ops) q' a b ∧ sumTo gs.size q' < sumTo gs.size q := by
  have st : ∀ x, Sure P c w x → x.status = .running ∨ x.status = .blocked ∨ x.status = .finished := fun x h => h.elim .inl fun h => .inr (.inl h.1)
  have haw : ∀ g ∈ gs, awake g := by
    intro g hg
    obtain ⟨i, hi, rfl⟩ := Array.mem_iff_getElem.1 hg
    rcases Nat.eq_zero_or_pos i with rfl | hpos
    · have : gs[0] = a := by simpa [Array.getElem?_eq_getElem hi] using C.hA
      rw [this]; exact awake_of (st _ hsA)
    · by_cases hij : i = j
      · subst hij
        have : gs[i] = b := by simpa [Array.getElem?_eq_getElem hi] using C.hB
        rw [this]; exact awake_of (st _ hsB)
      · exact awake_of ((C.oth i _ hpos hij (Array.getElem?_eq_getElem hi)).status.elim .inl fun x => .inr (.inr x))
  obtain ⟨i, g, d, sl', hi, hg, hst⟩ := crowd_pick (P := P) (w := w) (sl := sl) haw (h1.elim (fun h => ⟨0, a, C.hA, h⟩) (fun h => ⟨j, b, C.hB, h⟩))
  refine ⟨d, sl', ?_⟩
  rcases Nat.eq_zero_or_pos i with rfl | hpos
  · have : g = a := by rw [C.hA] at hi; exact (Option.some.inj hi).symm
    exact .inl ⟨this ▸ hg, hst⟩
  · by_cases hij : i = j
    · subst hij
      have : g = b := by rw [C.hB] at hi; exact (Option.some.inj hi).symm
      exact .inr (.inl ⟨this ▸ hg, hst⟩)
    · right; right
      have hq := C.oth i g hpos hij hi
      have hi0 : (i == 0) = false := by simp; omega
      have hlt : i < gs.size := (Array.getElem?_eq_some_iff.1 hi).1
      cases hqi : q i with
      | zero => rw [hqi] at hq; rw [hq.1] at hg; cases hg
      | succ k =>
        rw [hqi] at hq
        rcases hq with ⟨hf, _⟩ | ⟨_, g', es, hm, hstp, hq'⟩
        · rw [hf] at hg; cases hg
        have hrunT := runT_crowd_go (P := P) (sl := sl') (i := i) hi (by rw [hi0]; exact hstp (w.at d))
        have hsum : sumTo gs.size (upd q i k) + (k + 1) = sumTo gs.size q + k := by
          have := sumTo_upd q k id hlt
          simpa [hqi] using this
        refine ⟨_, _, upd q i k, hst.trans hrunT, by simp, ⟨?_, ?_, fun x y hx hxj hy => Leave.slip (Who := fun x => x ≠ j) hlt hpos hij (fun i g h h' => C.oth i g h h') hq' _ _ x y hx hxj hy, fun x hx => ?_,
          C.tr.mute (slip_tr hm).1 (fun op ho g d hg => deaf_none hm (by rcases hg with rfl | rfl <;> omega) op ho d) (slip_tr hm).2, C.mA, C.mB, C.ap, C.lw, C.ch⟩, by omega⟩
        · rw [get_set_ne (show i ≠ 0 by omega), Array.getElem?_map, C.hA]
          simp [hsA.woken g g' (w' := w.at d) rfl]
        · rw [get_set_ne hij, Array.getElem?_map, C.hB]
          simp [hsB.woken g g' (w' := w.at d) rfl]
        · rw [Deaf_other T (g' := i) (by simp at hx; omega) _ (fun op hop => by obtain ⟨e, _, rfl⟩ := mem_ofEv hop; rfl)]
          exact C.abv x (by simpa using hx)
theorem Co.stepA {d : Nat} {a' : Goroutine} {w' : World} {es : Array Event} (C : Co P c L j MA MB gs w T q a b) (hj : 0 < j) (hcL : c < L) (hsB : Sure P c w b) (hmv : Mv c L MA MA' (w.at d) w' es) (fn : FuncId) (pos : String) :
    Co P c L j MA' MB ((gs.map (Conc.woken P a a' w')).setIfInBounds 0 a') w' (T ++ MemOp.ofEvents 0 fn pos es) q a' b ∧ Keep c L MB w w' ∧ ((gs.map (Conc.woken P a a' w')).setIfInBounds 0 a').size = gs.size := by
  have hL : L ≤ (w.at d).heap.size := C.lw
  have hlt0 : 0 < gs.size := (Array.getElem?_eq_some_iff.1 C.hA).1
  have hML : ∀ k, MA' k → L ≤ k ∧ k < w'.heap.size := fun k hk => by
    rcases hmv.new k hk with h | ⟨h1, h2⟩
    · have h3 := C.mA k h; have h4 := hmv.size; exact ⟨h3.1, Nat.lt_of_lt_of_le h3.2 h4⟩
    · exact ⟨Nat.le_trans hL h1, h2⟩
  have hap : ∀ k, MA' k → ¬ MB k := fun k hk hb => by
    rcases hmv.new k hk with h | ⟨h1, h2⟩
    · exact C.ap k h hb
    · have := (C.mB k hb).2; exact absurd this (Nat.not_lt.2 h1)
  have hch : w'.heap[c]? = w.heap[c]? := hmv.chan hL (fun k hk => (C.mA k hk).1) hcL
  refine ⟨⟨get_set_same (by simpa using hlt0) _, ?_, fun i g hi hij hg => ?_, fun i hi => ?_, C.tr.ownA (fun k hk => (C.mB k hk).1) (fun k hk => (hML k hk).1) hap hmv.sub hmv.evs, hML,
    fun k hk => ⟨(C.mB k hk).1, Nat.lt_of_lt_of_le (C.mB k hk).2 hmv.size⟩, hap, Nat.le_trans hL hmv.size, ?_⟩, ?_, by simp⟩
  · rw [get_set_ne (show (0 : Nat) ≠ j by omega), Array.getElem?_map, C.hB]
    simp [hsB.woken a a' hch]
  · rw [get_set_ne (show (0 : Nat) ≠ i by omega), Array.getElem?_map] at hg
    obtain ⟨y, hy, rfl⟩ := Option.map_eq_some_iff.1 hg
    have hq := C.oth i y hi hij hy
    rw [woken_quitsD hq, Deaf_other T (g' := 0) (by omega) _ (fun op hop => by obtain ⟨e, _, rfl⟩ := mem_ofEv hop; rfl)]
    exact hq
  · rw [Deaf_other T (g' := 0) (by simp at hi; omega) _ (fun op hop => by obtain ⟨e, _, rfl⟩ := mem_ofEv hop; rfl)]
    exact C.abv i (by simpa using hi)
  · obtain ⟨s, r, tm, h⟩ := C.ch
    exact ⟨s, r, tm, hch.trans h⟩
  · exact (Keep.at c L MB w d).trans (hmv.keep hL (fun k hk => (C.mA k hk).1) (fun k hk => ⟨(C.mB k hk).2, fun h => C.ap k h hk⟩))
theorem Co.stepB {d : Nat} {b' : Goroutine} {w' : World} {es : Array Event} (C : Co P c L j MA MB gs w T q a b) (hj : 0 < j) (hcL : c < L) (hsA : Sure P c w a) (hmv : Mv c L MB MB' (w.at d) w' es) (fn : FuncId) (pos : String) :
    Co P c L j MA MB' ((gs.map (Conc.woken P b b' w')).setIfInBounds j b') w' (T ++ MemOp.ofEvents j fn pos es) q a b' ∧ Keep c L MA w w' ∧ ((gs.map (Conc.woken P b b' w')).setIfInBounds j b').size = gs.size := by
  have hL : L ≤ (w.at d).heap.size := C.lw
  have hltj : j < gs.size := (Array.getElem?_eq_some_iff.1 C.hB).1
  have hML : ∀ k, MB' k → L ≤ k ∧ k < w'.heap.size := fun k hk => by
    rcases hmv.new k hk with h | ⟨h1, h2⟩
    · have h3 := C.mB k h; have h4 := hmv.size; exact ⟨h3.1, Nat.lt_of_lt_of_le h3.2 h4⟩
    · exact ⟨Nat.le_trans hL h1, h2⟩
  have hap : ∀ k, MB' k → ¬ MA k := fun k hk ha => by
    rcases hmv.new k hk with h | ⟨h1, h2⟩
    · exact C.ap k ha h
    · have := (C.mA k ha).2; exact absurd this (Nat.not_lt.2 h1)
  have hch : w'.heap[c]? = w.heap[c]? := hmv.chan hL (fun k hk => (C.mB k hk).1) hcL
  refine ⟨⟨?_, get_set_same (by simpa using hltj) _, fun i g hi hij hg => ?_, fun i hi => ?_, C.tr.ownB (fun k hk => (C.mA k hk).1) (fun k hk => (hML k hk).1) hap hmv.sub hmv.evs,
    fun k hk => ⟨(C.mA k hk).1, Nat.lt_of_lt_of_le (C.mA k hk).2 hmv.size⟩, hML, fun k h1 h2 => hap k h2 h1, Nat.le_trans hL hmv.size, ?_⟩, ?_, by simp⟩
  · rw [get_set_ne (show j ≠ 0 by omega), Array.getElem?_map, C.hA]
    simp [hsA.woken b b' hch]
  · rw [get_set_ne (show j ≠ i from fun e => hij e.symm), Array.getElem?_map] at hg
    obtain ⟨y, hy, rfl⟩ := Option.map_eq_some_iff.1 hg
    have hq := C.oth i y hi hij hy
    rw [woken_quitsD hq, Deaf_other T (g' := j) (fun e => hij e.symm) _ (fun op hop => by obtain ⟨e, _, rfl⟩ := mem_ofEv hop; rfl)]
    exact hq
  · rw [Deaf_other T (g' := j) (by simp at hi; omega) _ (fun op hop => by obtain ⟨e, _, rfl⟩ := mem_ofEv hop; rfl)]
    exact C.abv i (by simpa using hi)
  · obtain ⟨s, r, tm, h⟩ := C.ch
    exact ⟨s, r, tm, hch.trans h⟩
  · exact (Keep.at c L MA w d).trans (hmv.keep hL (fun k hk => (C.mB k hk).1) (fun k hk => ⟨(C.mA k hk).2, fun h => C.ap k hk h⟩))
/-- Both records are laid anew; the channel alone turns in the world; what is listed touches nothing. -/
theorem Co.both {a' b' : Goroutine} {d s r : Nat} {tm : Bool} {u : Trace} (C : Co P c L j MA MB gs w T q a b) (hj : 0 < j) (hcL : c < L) (gs' : Array Goroutine) (hz : gs'.size = gs.size) (h0 : gs'[0]? = some a') (hjj : gs'[j]? = some b') (ho : ∀ i, 0 < i → i ≠ j → gs'[i]? = gs[i]?)
    (hn : ∀ op ∈ u, op.act.touch? = none) (hq : ∀ op ∈ u, ∀ g d, deafStep g d op = d) (hl : ∃ B, ∀ op ∈ u, op.act.low B) :
    Co P c L j MA MB gs' ((w.at d).setChan c 0 #[] false s r tm) (T ++ u) q a' b' := by
  have hsz : ((w.at d).setChan c 0 #[] false s r tm).heap.size = w.heap.size := by simp [World.setChan, World.at]
  refine ⟨h0, hjj, fun i g hi hij hg => ?_, fun i hi => ?_, C.tr.mute hn (fun op ho g d _ => hq op ho g d) hl, by rw [hsz]; exact C.mA, by rw [hsz]; exact C.mB, C.ap, by rw [hsz]; exact C.lw, s, r, tm, ?_⟩
  · rw [Deaf_quiet fun op ho d => hq op ho i d]
    exact C.oth i g hi hij (by rw [← ho i hi hij]; exact hg)
  · rw [Deaf_quiet fun op ho d => hq op ho i d]
    exact C.abv i (by rw [← hz]; exact hi)
  · have : c < w.heap.size := Nat.lt_of_lt_of_le hcL C.lw
    simp [World.setChan, World.at, this]
/-- One record is laid anew (it waits now); the world stands but for the count of draws. -/
theorem Co.park {a' b' : Goroutine} {d : Nat} (C : Co P c L j MA MB gs w T q a b) (gs' : Array Goroutine) (hz : gs'.size = gs.size) (h0 : gs'[0]? = some a') (hjj : gs'[j]? = some b') (ho : ∀ i, 0 < i → i ≠ j → gs'[i]? = gs[i]?) :
    Co P c L j MA MB gs' (w.at d) T q a' b' :=
  ⟨h0, hjj, fun i g hi hij hg => C.oth i g hi hij (by rw [← ho i hi hij]; exact hg), fun i hi => C.abv i (by rw [← hz]; exact hi), C.tr, C.mA, C.mB, C.ap, C.lw, C.ch⟩
theorem Co.nobody (C : Co P c L j MA MB gs w T q a b) {i : Nat} {send : Bool} (h0 : i = 0 ∨ offersAt a c send = []) (h1 : i = j ∨ offersAt b c send = []) : partners (gs.setIfInBounds i ph) c send = [] :=
  partners_nil fun x y hy => by
    rcases getElem?_stand gs i x y hy with ⟨_, rfl⟩ | ⟨hx, hy'⟩
    · exact offersAt_ph _ _
    · by_cases hx0 : x = 0
      · subst hx0
        rw [C.hA] at hy'
        cases hy'
        exact h0.resolve_left (Ne.symm hx)
      · by_cases hxj : x = j
        · subst hxj
          rw [C.hB] at hy'
          cases hy'
          exact h1.resolve_left (Ne.symm hx)
        · exact offersAt_of_not_blocked (by rcases (C.oth x y (by omega) hxj hy').status with e | e <;> rw [e] <;> simp) _ _
end
end Go.Proofs.Ytlbkhiphnllfpam
