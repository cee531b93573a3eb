/-
  Two goroutines over one channel: the run, from the go statement to the channel's end.
-/
import Derived.Test.YtlbkhiphnllfpamGmd
namespace Go.Proofs.Ytlbkhiphnllfpam
open Go.Conc
open Go.ConcN (sumTo upd sumTo_upd upd_ne upd_same)
set_option linter.unusedVariables false
section
variable {P : Program} {c L j : Nat} {z : Value} {Fin : (Nat → Prop) → Goroutine → World → Prop}
def NextA (P : Program) (c L : Nat) (z : Value) (Fin : (Nat → Prop) → Goroutine → World → Prop) : List Value → (Nat → Prop) → Goroutine → World → Prop
  | [] => fun M g w => Fin M (Conc.served g (recvd true z false)) w
  | v :: vs => fun M g w => RecvsO P c L z Fin vs M (Conc.served g (recvd true v true)) w
theorem recvsO_eq (vs : List Value) : RecvsO P c L z Fin vs = GoO P true c L (AtR P c z (NextA P c L z Fin vs)) := by cases vs <;> rfl
/-- Let try again, it stands at the receive as before. -/
theorem AtR.again {Next : (Nat → Prop) → Goroutine → World → Prop} {M : Nat → Prop} {g : Goroutine} {w : World} (h : AtR P c z Next M g w) {cs : Array CommCase} {sh : CommShape} : AtR P c z Next M { Conc.parked (core g) cs sh with status := .running } w :=
  ⟨rfl, (stepG_same (h := g) rfl rfl rfl w).trans h.2.1, h.2.2⟩
/-- The close. -/
theorem close_run (hj : 0 < j) (hcL : c < L) {MA MB : Nat → Prop} {gs : Array Goroutine} {w : World} {T : Trace} {q : Nat → Nat} {a b g₂ : Goroutine} {s r n d : Nat} {tm : Bool} {sl sl' : Option (Nat × Nat)} (C : Co P c L j MA MB gs w T q a b)
    (hp : stepT P (crowd gs w sl) = runT P (crowd gs (w.at d) sl') j) (hch : w.heap[c]? = some (.chan 0 #[] false s r tm)) (hcl : stepG P false b (w.at d) = .go g₂ ((w.at d).setChan c 0 #[] true s r tm) (closeEvents c)) (hq : QuitsIn P n g₂)
    (ha : GoO P true c L (AtR P c z (NextA P c L z Fin [])) MA (Conc.woken P b g₂ ((w.at d).setChan c 0 #[] true s r tm) a) ((w.at d).setChan c 0 #[] true s r tm)) : Reach P Fin gs.size (crowd gs w sl) T := by
  have hj0 : (j == 0) = false := by simp; omega
  have hrun := runT_crowd_go (P := P) (sl := sl') (i := j) C.hB (by rw [hj0]; exact hcl)
  have hltj : j < gs.size := (Array.getElem?_eq_some_iff.1 C.hB).1
  have hcs : c < w.heap.size := Nat.lt_of_lt_of_le hcL C.lw
  have hsz : ((w.at d).setChan c 0 #[] true s r tm).heap.size = w.heap.size := by simp [World.setChan, World.at]
  have hT := C.tr.close (fn := b.frame.fn) (pos := b.frame.place) (by omega)
  have hcl2 : MemOp.ofEvents j b.frame.fn b.frame.place (closeEvents c) = #[{ g := j, fn := b.frame.fn, pos := b.frame.place, act := .access ⟨.obj c, false, true⟩ }, { g := j, fn := b.frame.fn, pos := b.frame.place, act := .close c }] := closeOps j b.frame.fn b.frame.place c
  have hg : ∀ op ∈ MemOp.ofEvents j b.frame.fn b.frame.place (closeEvents c), op.g = j := fun op hop => by obtain ⟨e, _, rfl⟩ := mem_ofEv hop; rfl
  have := shut_run (j := j) (m := T.size + 1) (MB := MB) hj hcL ha _ (Keep.refl _ _ _ _) ((gs.map (Conc.woken P b g₂ ((w.at d).setChan c 0 #[] true s r tm))).setIfInBounds j g₂) (T ++ MemOp.ofEvents j b.frame.fn b.frame.place (closeEvents c)) (upd q j n) sl'
    ⟨by rw [get_set_ne (show j ≠ 0 by omega), Array.getElem?_map, C.hA]; rfl, fun i g hi hg' => ?_, fun i hi => ?_, by rw [hcl2]; exact hT.1.toS, by rw [hcl2]; exact hT.2, by rw [hsz]; exact C.mA, by rw [hsz]; exact C.mB, C.ap, by rw [hsz]; exact C.lw, s, r, tm, by simp [World.setChan, World.at, hcs]⟩
  · rw [show ((gs.map (Conc.woken P b g₂ ((w.at d).setChan c 0 #[] true s r tm))).setIfInBounds j g₂).size = gs.size by simp] at this
    exact Reach.step (hp.trans hrun) this
  · by_cases hij : j = i
    · subst hij
      rw [get_set_same (by simpa using hltj)] at hg'
      obtain rfl := Option.some.inj hg'
      rw [upd_same, hcl2, hT.1.hB]
      exact QuitsD.of_quitsIn hq
    · rw [get_set_ne hij, Array.getElem?_map] at hg'
      obtain ⟨y, hy, rfl⟩ := Option.map_eq_some_iff.1 hg'
      have hqi := C.oth i y hi (Ne.symm hij) hy
      rw [woken_quitsD hqi, upd_ne q n (Ne.symm hij), Deaf_other T hij _ hg]
      exact hqi
  · rw [Deaf_other T (g' := j) (by simp at hi; omega) _ hg]
    exact C.abv i (by simpa using hi)
theorem woken_again {b g₂ x : Goroutine} {w : World} {n : Nat} (hw : mayWake P b = true) (hq : QuitsIn P n g₂) : Conc.woken P b g₂ w x = x.again w := by
  unfold Conc.woken
  rcases hq.status with h | h <;> simp [hw, h]
theorem not_mine {M : Nat → Prop} {w : World} (hcL : c < L) (h : ∀ k, M k → L ≤ k ∧ k < w.heap.size) : ¬ M c := fun e => by have := (h c e).1; omega
theorem met_all (u v : Nat) (fu : FuncId) (pu : String) (fv : FuncId) (pv : String) (s r cap : Nat) : ∀ op ∈ (#[{ g := u, fn := fu, pos := pu, act := .send c s }, { g := v, fn := fv, pos := pv, act := .recv c r cap }, { g := u, fn := fu, pos := pu, act := .sendDone c s }, { g := v, fn := fv, pos := pv, act := .recvDone c r }] : Trace),
    op.act.touch? = none ∧ (∀ g d, deafStep g d op = d) ∧ op.act.low (c + 1) := by
  intro op hop
  simp only [List.mem_toArray, List.mem_cons, List.not_mem_nil, or_false] at hop
  rcases hop with rfl | rfl | rfl | rfl <;> exact ⟨rfl, fun _ _ => rfl, Nat.lt_succ_self c⟩

/-- What is to be shown of the values that are left. -/
def Both (P : Program) (c L j : Nat) (z : Value) (Fin : (Nat → Prop) → Goroutine → World → Prop) (vs : List Value) : Prop :=
  ∀ (MA MB : Nat → Prop) (a b : Goroutine) (w : World) (gs : Array Goroutine) (T : Trace) (q : Nat → Nat) (sl : Option (Nat × Nat)), RecvsO P c L z Fin vs MA a w → SendsO P c L vs MB b w → Co P c L j MA MB gs w T q a b → Reach P Fin gs.size (crowd gs w sl) T

/-- The receiver waits, nothing is left to be sent. -/
theorem parkA_nil (hj : 0 < j) (hcL : c < L) {MB : Nat → Prop} {b : Goroutine} {w : World} (h : GoO P false c L (AtC P c) MB b w) :
    ∀ w₂, Keep c L MB w w₂ → ∀ (MA : Nat → Prop) (ga : Goroutine) (gs : Array Goroutine) (T : Trace) (q : Nat → Nat) (sl : Option (Nat × Nat)), (∀ w₁, Keep c L MA w₂ w₁ → AtR P c z (NextA P c L z Fin []) MA ga w₁) →
      Co P c L j MA MB gs w₂ T q (Conc.parked (core ga) #[rcase c z] (.recv true)) b → Reach P Fin gs.size (crowd gs w₂ sl) T := by
  induction h using GoO.ind with
  | stop hst =>
    rename_i MB b w
    intro w₂ hk MA ga gs T q sl hA C
    generalize hn : sumTo gs.size q = n
    induction n using Nat.strongRecOn generalizing w₂ gs T q sl with
    | _ n ih =>
      have hrb : b.status = .running := (hst w (Keep.refl _ _ _ _)).1
      obtain ⟨d, sl', ⟨hx, _⟩ | ⟨_, hp⟩ | ⟨gs', ops, q', hs', hz, C', hlt⟩⟩ := C.pick hj (sure_recv C.ch) (.inl hrb) (.inr hrb) sl
      · cases hx
      · obtain ⟨s, r, tm, hch⟩ := C.ch
        obtain ⟨_, hw, g₂, nq, hcl, hq⟩ := hst _ (hk.trans (Keep.at _ _ _ _ d))
        refine close_run (z := z) hj hcL C hp hch (hcl s r tm hch) hq ?_
        have hcs : c < w₂.heap.size := Nat.lt_of_lt_of_le hcL C.lw
        rw [woken_again hw hq, again_recv_closed (cap := 0) (buf := #[]) (s := s) (r := r) (tm := tm) (by simp [World.setChan, World.at, hcs])]
        exact .stop fun w₁ hk₁ => (hA w₁ (((Keep.at _ _ _ _ d).trans (Keep.chan (not_mine hcL C.mA) _ _ _ _ _ _ _)).trans hk₁)).again
      · have := ih _ (by rw [← hn]; rw [hz]; exact hlt) (w₂.at d) (hk.trans (Keep.at _ _ _ _ d)) gs' (T ++ ops) q' sl' (fun w₁ k => hA w₁ ((Keep.at _ _ _ _ d).trans k)) C' rfl
        rw [hz] at this
        exact Reach.step hs' this
  | step hs nx hstep hnx ih =>
    rename_i MB b w
    intro w₂ hk MA ga gs T q sl hA C
    generalize hn : sumTo gs.size q = n
    induction n using Nat.strongRecOn generalizing w₂ gs T q sl with
    | _ n ihn =>
      obtain ⟨d, sl', ⟨hx, _⟩ | ⟨_, hp⟩ | ⟨gs', ops, q', hs', hz, C', hlt⟩⟩ := C.pick hj (sure_recv C.ch) (.inl hs) (.inr hs) sl
      · cases hx
      · have hk' : Keep c L MB w (w₂.at d) := hk.trans (Keep.at _ _ _ _ d)
        obtain ⟨hgo, hmv⟩ := hstep _ hk'
        have hj0 : (j == 0) = false := by simp; omega
        have hrun := runT_crowd_go (P := P) (sl := sl') (i := j) C.hB (by rw [hj0]; exact hgo)
        obtain ⟨C', hkA, hz⟩ := C.stepB hj hcL (sure_recv C.ch) hmv b.frame.fn b.frame.place (b' := (nx (w₂.at d)).1)
        have := ih _ hk' _ (Keep.refl _ _ _ _) MA ga _ _ q sl' (fun w₁ k => hA w₁ (hkA.trans k)) C'
        rw [hz] at this
        exact Reach.step (hp.trans hrun) this
      · have := ihn _ (by rw [← hn]; rw [hz]; exact hlt) (w₂.at d) (hk.trans (Keep.at _ _ _ _ d)) gs' (T ++ ops) q' sl' (fun w₁ k => hA w₁ ((Keep.at _ _ _ _ d).trans k)) C' rfl
        rw [hz] at this
        exact Reach.step hs' this

/-- The receiver waits, a value is to be sent. -/
theorem parkA_cons (hj : 0 < j) (hcL : c < L) {v : Value} {vs : List Value} (hB : Both P c L j z Fin vs) {MB : Nat → Prop} {b : Goroutine} {w : World} (h : GoO P false c L (AtS P c v (SendsO P c L vs)) MB b w) :
    ∀ w₂, Keep c L MB w w₂ → ∀ (MA : Nat → Prop) (ga : Goroutine) (gs : Array Goroutine) (T : Trace) (q : Nat → Nat) (sl : Option (Nat × Nat)), (∀ w₁, Keep c L MA w₂ w₁ → AtR P c z (NextA P c L z Fin (v :: vs)) MA ga w₁) →
      Co P c L j MA MB gs w₂ T q (Conc.parked (core ga) #[rcase c z] (.recv true)) b → Reach P Fin gs.size (crowd gs w₂ sl) T := by
  induction h using GoO.ind with
  | stop hst =>
    rename_i MB b w
    intro w₂ hk MA ga gs T q sl hA C
    generalize hn : sumTo gs.size q = n
    induction n using Nat.strongRecOn generalizing w₂ gs T q sl with
    | _ n ih =>
      have hrb : b.status = .running := (hst w (Keep.refl _ _ _ _)).1
      obtain ⟨d, sl', ⟨hx, _⟩ | ⟨_, hp⟩ | ⟨gs', ops, q', hs', hz, C', hlt⟩⟩ := C.pick hj (sure_recv C.ch) (.inl hrb) (.inr hrb) sl
      · cases hx
      · obtain ⟨s, r, tm, hch⟩ := C.ch
        obtain ⟨_, ⟨z', hcm⟩, hnext⟩ := hst _ (hk.trans (Keep.at _ _ _ _ d))
        obtain ⟨_, _, hnA⟩ := hA _ (Keep.at _ _ _ _ d)
        have hj0 : (j == 0) = false := by simp; omega
        have hlt0 : 0 < gs.size := (Array.getElem?_eq_some_iff.1 C.hA).1
        have hltj : j < gs.size := (Array.getElem?_eq_some_iff.1 C.hB).1
        have hpar : partners (gs.setIfInBounds j ph) c false = [(0, 0)] := by
          rw [partners_one (j := 0) (g := Conc.parked (core ga) #[rcase c z] (.recv true)) (by rw [get_set_ne (show j ≠ 0 by omega)]; exact C.hA) (fun x y hx hy => ?_), offersAt_parked_recv, if_pos rfl]
          · rfl
          · rcases getElem?_stand gs j x y hy with ⟨_, rfl⟩ | ⟨hxj, hy'⟩
            · exact offersAt_ph _ _
            · exact offersAt_of_not_blocked (by rcases (C.oth x y (by omega) hxj hy').status with e | e <;> rw [e] <;> simp) _ _
        have hrun := crowd_send_meets (P := P) (sl := sl') (i := j) (j := 0) C.hB (by rw [hj0]; exact hcm) (show (w₂.at d).heap[c]? = _ from hch) (show (0 : Nat) ≠ j by omega) C.hA hpar
        rw [finishComm_recv, finishComm_send] at hrun
        have hm := met_all (c := c) j 0 (core b).frame.fn (core b).frame.place (core ga).frame.fn (core ga).frame.place s r 0
        have C2 := C.both (u := #[{ g := j, fn := (core b).frame.fn, pos := (core b).frame.place, act := .send c s }, { g := 0, fn := (core ga).frame.fn, pos := (core ga).frame.place, act := .recv c r 0 }, { g := j, fn := (core b).frame.fn, pos := (core b).frame.place, act := .sendDone c s }, { g := 0, fn := (core ga).frame.fn, pos := (core ga).frame.place, act := .recvDone c r }]) hj hcL (d := d) (s := s + 1) (r := r + 1) (tm := tm) ((gs.setIfInBounds 0 (Conc.served (core ga) (recvd true v true))).setIfInBounds j (Conc.served (core b) undef)) (by simp)
          (by rw [get_set_ne (show j ≠ 0 by omega)]; exact get_set_same hlt0 _) (get_set_same (by simpa using hltj) _) (fun i hi hij => by rw [get_set_ne (Ne.symm hij), get_set_ne (show (0 : Nat) ≠ i by omega)]) (fun op ho => (hm op ho).1) (fun op ho => (hm op ho).2.1) ⟨c + 1, fun op ho => (hm op ho).2.2⟩
        have := hB MA MB _ _ _ _ _ q sl' (RecvsO.keep hnA (Keep.chan (not_mine hcL C.mA) _ _ _ _ _ _ _)) (SendsO.keep hnext (Keep.chan (not_mine hcL C.mB) _ _ _ _ _ _ _)) C2
        rw [show ((gs.setIfInBounds 0 (Conc.served (core ga) (recvd true v true))).setIfInBounds j (Conc.served (core b) undef)).size = gs.size by simp] at this
        exact Reach.step (hp.trans hrun) this
      · have := ih _ (by rw [← hn]; rw [hz]; exact hlt) (w₂.at d) (hk.trans (Keep.at _ _ _ _ d)) gs' (T ++ ops) q' sl' (fun w₁ k => hA w₁ ((Keep.at _ _ _ _ d).trans k)) C' rfl
        rw [hz] at this
        exact Reach.step hs' this
  | step hs nx hstep hnx ih =>
    rename_i MB b w
    intro w₂ hk MA ga gs T q sl hA C
    generalize hn : sumTo gs.size q = n
    induction n using Nat.strongRecOn generalizing w₂ gs T q sl with
    | _ n ihn =>
      obtain ⟨d, sl', ⟨hx, _⟩ | ⟨_, hp⟩ | ⟨gs', ops, q', hs', hz, C', hlt⟩⟩ := C.pick hj (sure_recv C.ch) (.inl hs) (.inr hs) sl
      · cases hx
      · have hk' : Keep c L MB w (w₂.at d) := hk.trans (Keep.at _ _ _ _ d)
        obtain ⟨hgo, hmv⟩ := hstep _ hk'
        have hj0 : (j == 0) = false := by simp; omega
        have hrun := runT_crowd_go (P := P) (sl := sl') (i := j) C.hB (by rw [hj0]; exact hgo)
        obtain ⟨C', hkA, hz⟩ := C.stepB hj hcL (sure_recv C.ch) hmv b.frame.fn b.frame.place (b' := (nx (w₂.at d)).1)
        have := ih _ hk' _ (Keep.refl _ _ _ _) MA ga _ _ q sl' (fun w₁ k => hA w₁ (hkA.trans k)) C'
        rw [hz] at this
        exact Reach.step (hp.trans hrun) this
      · have := ihn _ (by rw [← hn]; rw [hz]; exact hlt) (w₂.at d) (hk.trans (Keep.at _ _ _ _ d)) gs' (T ++ ops) q' sl' (fun w₁ k => hA w₁ ((Keep.at _ _ _ _ d).trans k)) C' rfl
        rw [hz] at this
        exact Reach.step hs' this

/-- The sender waits. -/
theorem parkB (hj : 0 < j) (hcL : c < L) {v z' : Value} {vs : List Value} (hB : Both P c L j z Fin vs) {MA : Nat → Prop} {a : Goroutine} {w : World} (h : GoO P true c L (AtR P c z (NextA P c L z Fin (v :: vs))) MA a w) :
    ∀ w₂, Keep c L MA w w₂ → ∀ (MB : Nat → Prop) (gb : Goroutine) (gs : Array Goroutine) (T : Trace) (q : Nat → Nat) (sl : Option (Nat × Nat)), (∀ w₁, Keep c L MB w₂ w₁ → AtS P c v (SendsO P c L vs) MB gb w₁) →
      Co P c L j MA MB gs w₂ T q a (Conc.parked (core gb) #[scase c v z'] .send) → Reach P Fin gs.size (crowd gs w₂ sl) T := by
  induction h using GoO.ind with
  | stop hst =>
    rename_i MA a w
    intro w₂ hk MB gb gs T q sl hS C
    generalize hn : sumTo gs.size q = n
    induction n using Nat.strongRecOn generalizing w₂ gs T q sl with
    | _ n ih =>
      have hra : a.status = .running := (hst w (Keep.refl _ _ _ _)).1
      obtain ⟨d, sl', ⟨_, hp⟩ | ⟨hx, _⟩ | ⟨gs', ops, q', hs', hz, C', hlt⟩⟩ := C.pick hj (.inl hra) (sure_send C.ch) (.inl hra) sl
      · obtain ⟨s, r, tm, hch⟩ := C.ch
        obtain ⟨_, hcm, hnA⟩ := hst _ (hk.trans (Keep.at _ _ _ _ d))
        obtain ⟨_, _, hnext⟩ := hS _ (Keep.at _ _ _ _ d)
        have hlt0 : 0 < gs.size := (Array.getElem?_eq_some_iff.1 C.hA).1
        have hltj : j < gs.size := (Array.getElem?_eq_some_iff.1 C.hB).1
        have hpar : partners (gs.setIfInBounds 0 ph) c true = [(j, 0)] := by
          rw [partners_one (j := j) (g := Conc.parked (core gb) #[scase c v z'] .send) (by rw [get_set_ne (show (0 : Nat) ≠ j by omega)]; exact C.hB) (fun x y hx hy => ?_), offersAt_parked_send, if_pos rfl]
          · rfl
          · rcases getElem?_stand gs 0 x y hy with ⟨_, rfl⟩ | ⟨hx0, hy'⟩
            · exact offersAt_ph _ _
            · exact offersAt_of_not_blocked (by rcases (C.oth x y (by omega) hx hy').status with e | e <;> rw [e] <;> simp) _ _
        have hrun := crowd_recv_meets (P := P) (sl := sl') (i := 0) (j := j) C.hA (show stepG P (0 == 0) a (w₂.at d) = _ from hcm) (show (w₂.at d).heap[c]? = _ from hch) (show j ≠ 0 by omega) C.hB hpar
        rw [finishComm_recv, finishComm_send] at hrun
        have hm := met_all (c := c) j 0 (core gb).frame.fn (core gb).frame.place (core a).frame.fn (core a).frame.place s r 0
        have C2 := C.both (u := #[{ g := j, fn := (core gb).frame.fn, pos := (core gb).frame.place, act := .send c s }, { g := 0, fn := (core a).frame.fn, pos := (core a).frame.place, act := .recv c r 0 }, { g := j, fn := (core gb).frame.fn, pos := (core gb).frame.place, act := .sendDone c s }, { g := 0, fn := (core a).frame.fn, pos := (core a).frame.place, act := .recvDone c r }]) hj hcL (d := d) (s := s + 1) (r := r + 1) (tm := tm) ((gs.setIfInBounds j (Conc.served (core gb) undef)).setIfInBounds 0 (Conc.served (core a) (recvd true v true))) (by simp)
          (get_set_same (by simpa using hlt0) _) (by rw [get_set_ne (show (0 : Nat) ≠ j by omega)]; exact get_set_same hltj _) (fun i hi hij => by rw [get_set_ne (show (0 : Nat) ≠ i by omega), get_set_ne (Ne.symm hij)]) (fun op ho => (hm op ho).1) (fun op ho => (hm op ho).2.1) ⟨c + 1, fun op ho => (hm op ho).2.2⟩
        have := hB MA MB _ _ _ _ _ q sl' (RecvsO.keep hnA (Keep.chan (not_mine hcL C.mA) _ _ _ _ _ _ _)) (SendsO.keep hnext (Keep.chan (not_mine hcL C.mB) _ _ _ _ _ _ _)) C2
        rw [show ((gs.setIfInBounds j (Conc.served (core gb) undef)).setIfInBounds 0 (Conc.served (core a) (recvd true v true))).size = gs.size by simp] at this
        exact Reach.step (hp.trans hrun) this
      · cases hx
      · have := ih _ (by rw [← hn]; rw [hz]; exact hlt) (w₂.at d) (hk.trans (Keep.at _ _ _ _ d)) gs' (T ++ ops) q' sl' (fun w₁ k => hS w₁ ((Keep.at _ _ _ _ d).trans k)) C' rfl
        rw [hz] at this
        exact Reach.step hs' this
  | step hs nx hstep hnx ih =>
    rename_i MA a w
    intro w₂ hk MB gb gs T q sl hS C
    generalize hn : sumTo gs.size q = n
    induction n using Nat.strongRecOn generalizing w₂ gs T q sl with
    | _ n ihn =>
      obtain ⟨d, sl', ⟨_, hp⟩ | ⟨hx, _⟩ | ⟨gs', ops, q', hs', hz, C', hlt⟩⟩ := C.pick hj (.inl hs) (sure_send C.ch) (.inl hs) sl
      · have hk' : Keep c L MA w (w₂.at d) := hk.trans (Keep.at _ _ _ _ d)
        obtain ⟨hgo, hmv⟩ := hstep _ hk'
        have hrun := runT_crowd_go (P := P) (sl := sl') (i := 0) C.hA (show stepG P (0 == 0) a (w₂.at d) = _ from hgo)
        obtain ⟨C', hkB, hz⟩ := C.stepA hj hcL (sure_send C.ch) hmv a.frame.fn a.frame.place (a' := (nx (w₂.at d)).1)
        have := ih _ hk' _ (Keep.refl _ _ _ _) MB gb _ _ q sl' (fun w₁ k => hS w₁ (hkB.trans k)) C'
        rw [hz] at this
        exact Reach.step (hp.trans hrun) this
      · cases hx
      · have := ihn _ (by rw [← hn]; rw [hz]; exact hlt) (w₂.at d) (hk.trans (Keep.at _ _ _ _ d)) gs' (T ++ ops) q' sl' (fun w₁ k => hS w₁ ((Keep.at _ _ _ _ d).trans k)) C' rfl
        rw [hz] at this
        exact Reach.step hs' this
/-- Both are on their way; whoever is picked. -/
theorem both_turn (hj : 0 < j) {MA MB : Nat → Prop} {gs : Array Goroutine} {w : World} {T : Trace} {q : Nat → Nat} {a b : Goroutine} (C : Co P c L j MA MB gs w T q a b) (hra : a.status = .running) (hrb : b.status = .running) (sl : Option (Nat × Nat))
    (kA : ∀ d sl', ∃ m' ops, runT P (crowd gs (w.at d) sl') 0 = (.next m', ops) ∧ Reach P Fin gs.size m' (T ++ ops)) (kB : ∀ d sl', stepT P (crowd gs w sl) = runT P (crowd gs (w.at d) sl') j → Reach P Fin gs.size (crowd gs w sl) T)
    (kS : ∀ d gs' ops q' sl', gs'.size = gs.size → Co P c L j MA MB gs' (w.at d) (T ++ ops) q' a b → sumTo gs'.size q' < sumTo gs.size q → Reach P Fin gs'.size (crowd gs' (w.at d) sl') (T ++ ops)) : Reach P Fin gs.size (crowd gs w sl) T := by
  obtain ⟨d, sl', ⟨_, hp⟩ | ⟨_, hp⟩ | ⟨gs', ops, q', hs', hz, C', hlt⟩⟩ := C.pick hj (.inl hra) (.inl hrb) (.inl hra) sl
  · obtain ⟨m', ops, h1, h2⟩ := kA d sl'
    exact Reach.step (hp.trans h1) h2
  · exact kB d sl' hp
  · have := kS d gs' ops q' sl' hz C' (by rw [hz]; exact hlt)
    rw [hz] at this
    exact Reach.step hs' this
/-- The receiver, at its receive, waits: the sender is on its way. -/
theorem waitA {MA MB : Nat → Prop} {gs : Array Goroutine} {w : World} {T : Trace} {q : Nat → Nat} {a b : Goroutine} (hj : 0 < j) (C : Co P c L j MA MB gs w T q a b) (hrb : b.status = .running) {d : Nat} {sl' : Option (Nat × Nat)}
    (hcm : stepG P true a (w.at d) = .comm (core a) #[rcase c z] true (.recv true) (w.at d) #[]) : ∃ gs', runT P (crowd gs (w.at d) sl') 0 = (.next (crowd gs' (w.at d) sl'), #[]) ∧ gs'.size = gs.size ∧ Co P c L j MA MB gs' (w.at d) T q (Conc.parked (core a) #[rcase c z] (.recv true)) b := by
  obtain ⟨s, r, tm, hch⟩ := C.ch
  have hlt0 : 0 < gs.size := (Array.getElem?_eq_some_iff.1 C.hA).1
  have hrun := crowd_waits (P := P) (sl := sl') (i := 0) C.hA (show stepG P (0 == 0) a (w.at d) = _ from hcm) (fun cc hcc => by
    simp only [List.mem_toArray, List.mem_cons, List.not_mem_nil, or_false] at hcc
    subst hcc
    exact ways_recv_none (show (w.at d).heap[c]? = _ from hch) (C.nobody (.inl rfl) (.inr (offersAt_of_not_blocked (by rw [hrb]; simp) _ _))))
  exact ⟨_, hrun, by simp, C.park _ (by simp) (get_set_same hlt0 _) (by rw [get_set_ne (show (0 : Nat) ≠ j by omega)]; exact C.hB) (fun i hi _ => get_set_ne (show (0 : Nat) ≠ i by omega) _)⟩
/-- The sender, at its send, waits: the receiver is on its way. -/
theorem waitB {MA MB : Nat → Prop} {gs : Array Goroutine} {w : World} {T : Trace} {q : Nat → Nat} {a b : Goroutine} {v z' : Value} (hj : 0 < j) (C : Co P c L j MA MB gs w T q a b) (hra : a.status = .running) {d : Nat} {sl' : Option (Nat × Nat)}
    (hcm : stepG P false b (w.at d) = .comm (core b) #[scase c v z'] true .send (w.at d) #[]) : ∃ gs', runT P (crowd gs (w.at d) sl') j = (.next (crowd gs' (w.at d) sl'), #[]) ∧ gs'.size = gs.size ∧ Co P c L j MA MB gs' (w.at d) T q a (Conc.parked (core b) #[scase c v z'] .send) := by
  obtain ⟨s, r, tm, hch⟩ := C.ch
  have hltj : j < gs.size := (Array.getElem?_eq_some_iff.1 C.hB).1
  have hj0 : (j == 0) = false := by simp; omega
  have hrun := crowd_waits (P := P) (sl := sl') (i := j) C.hB (by rw [hj0]; exact hcm) (fun cc hcc => by
    simp only [List.mem_toArray, List.mem_cons, List.not_mem_nil, or_false] at hcc
    subst hcc
    exact ways_send_none (show (w.at d).heap[c]? = _ from hch) (by simp) (C.nobody (.inr (offersAt_of_not_blocked (by rw [hra]; simp) _ _)) (.inl rfl)))
  exact ⟨_, hrun, by simp, C.park _ (by simp) (by rw [get_set_ne (show j ≠ 0 by omega)]; exact C.hA) (get_set_same hltj _) (fun i _ hij => get_set_ne (Ne.symm hij) _)⟩
theorem push_lt (gs : Array Goroutine) (x : Goroutine) {i : Nat} (h : i < gs.size) : (gs.push x)[i]? = gs[i]? := by rw [Array.getElem?_push, if_neg (by omega)]
theorem push_eq (gs : Array Goroutine) (x : Goroutine) {i : Nat} (h : i = gs.size) : (gs.push x)[i]? = some x := by subst h; simp
theorem app_none (T : Trace) : T ++ (#[] : Array MemOp) = T := Array.append_empty
theorem both_nil (hj : 0 < j) (hcL : c < L) : Both P c L j z Fin [] := by
  intro MA MB a b w gs T q sl hA hB C
  rw [recvsO_eq] at hA
  have hB' : GoO P false c L (AtC P c) MB b w := hB
  clear hB
  suffices H : ∀ w₂, Keep c L MA w w₂ → ∀ (MB : Nat → Prop) (b : Goroutine), GoO P false c L (AtC P c) MB b w₂ → ∀ (gs : Array Goroutine) (T : Trace) (q : Nat → Nat) (sl : Option (Nat × Nat)), Co P c L j MA MB gs w₂ T q a b → Reach P Fin gs.size (crowd gs w₂ sl) T from
    H w (Keep.refl _ _ _ _) MB b hB' gs T q sl C
  clear C hB' MB b gs T q sl
  induction hA using GoO.ind with
  | stop hstA =>
    rename_i MA a w
    intro w₂ hkA MB b hB
    have hra : a.status = .running := (hstA w (Keep.refl _ _ _ _)).1
    suffices H : ∀ w₃, Keep c L MB w₂ w₃ → Keep c L MA w w₃ → ∀ (gs : Array Goroutine) (T : Trace) (q : Nat → Nat) (sl : Option (Nat × Nat)), Co P c L j MA MB gs w₃ T q a b → Reach P Fin gs.size (crowd gs w₃ sl) T from
      fun gs T q sl C => H w₂ (Keep.refl _ _ _ _) hkA gs T q sl C
    clear hkA
    induction hB using GoO.ind with
    | stop hstB =>
      rename_i MB b w₂
      intro w₃ hkB hkA gs T q sl C
      generalize hn : sumTo gs.size q = n
      induction n using Nat.strongRecOn generalizing w₃ gs T q sl with
      | _ n ih =>
        have hrb : b.status = .running := (hstB w₂ (Keep.refl _ _ _ _)).1
        refine both_turn hj C hra hrb sl (fun d sl' => ?_) (fun d sl' hp => ?_) (fun d gs' ops q' sl' hz C' hlt => ih _ (by rw [← hn]; exact hlt) _ (hkB.trans (Keep.at _ _ _ _ d)) (hkA.trans (Keep.at _ _ _ _ d)) gs' _ q' sl' C' rfl)
        · obtain ⟨_, hcm, _⟩ := hstA _ (hkA.trans (Keep.at _ _ _ _ d))
          obtain ⟨gs', hrun, hz, C'⟩ := waitA hj C hrb (sl' := sl') hcm
          refine ⟨_, _, hrun, ?_⟩
          rw [app_none, ← hz]
          exact parkA_nil hj hcL (.stop hstB) _ (hkB.trans (Keep.at _ _ _ _ d)) MA a gs' T q sl' (fun w₁ k => hstA w₁ ((hkA.trans (Keep.at _ _ _ _ d)).trans k)) C'
        · obtain ⟨s, r, tm, hch⟩ := C.ch
          obtain ⟨_, hw, g₂, nq, hcl, hq⟩ := hstB _ (hkB.trans (Keep.at _ _ _ _ d))
          refine close_run (z := z) hj hcL C hp hch (hcl s r tm hch) hq ?_
          rw [woken_run hra]
          exact GoO.keep (.stop hstA) (hkA.trans ((Keep.at _ _ _ _ d).trans (Keep.chan (not_mine hcL C.mA) _ _ _ _ _ _ _)))
    | step hsB nxB hstepB hnB ihB =>
      rename_i MB b w₂
      intro w₃ hkB hkA gs T q sl C
      generalize hn : sumTo gs.size q = n
      induction n using Nat.strongRecOn generalizing w₃ gs T q sl with
      | _ n ih =>
        refine both_turn hj C hra hsB sl (fun d sl' => ?_) (fun d sl' hp => ?_) (fun d gs' ops q' sl' hz C' hlt => ih _ (by rw [← hn]; exact hlt) _ (hkB.trans (Keep.at _ _ _ _ d)) (hkA.trans (Keep.at _ _ _ _ d)) gs' _ q' sl' C' rfl)
        · obtain ⟨_, hcm, _⟩ := hstA _ (hkA.trans (Keep.at _ _ _ _ d))
          obtain ⟨gs', hrun, hz, C'⟩ := waitA hj C hsB (sl' := sl') hcm
          refine ⟨_, _, hrun, ?_⟩
          rw [app_none, ← hz]
          exact parkA_nil hj hcL (.step hsB nxB hstepB hnB) _ (hkB.trans (Keep.at _ _ _ _ d)) MA a gs' T q sl' (fun w₁ k => hstA w₁ ((hkA.trans (Keep.at _ _ _ _ d)).trans k)) C'
        · have hkB' := hkB.trans (Keep.at _ _ _ _ d)
          obtain ⟨hgo, hmv⟩ := hstepB _ hkB'
          have hj0 : (j == 0) = false := by simp; omega
          have hrun := runT_crowd_go (P := P) (sl := sl') (i := j) C.hB (by rw [hj0]; exact hgo)
          obtain ⟨C', hkA', hz⟩ := C.stepB hj hcL (.inl hra) hmv b.frame.fn b.frame.place (b' := (nxB (w₃.at d)).1)
          have := ihB _ hkB' _ (Keep.refl _ _ _ _) (hkA.trans hkA') _ _ q sl' C'
          rw [hz] at this
          exact Reach.step (hp.trans hrun) this
  | step hsA nxA hstepA hnA ihA =>
    rename_i MA a w
    intro w₂ hkA MB b hB
    suffices H : ∀ w₃, Keep c L MB w₂ w₃ → Keep c L MA w w₃ → ∀ (gs : Array Goroutine) (T : Trace) (q : Nat → Nat) (sl : Option (Nat × Nat)), Co P c L j MA MB gs w₃ T q a b → Reach P Fin gs.size (crowd gs w₃ sl) T from
      fun gs T q sl C => H w₂ (Keep.refl _ _ _ _) hkA gs T q sl C
    clear hkA
    induction hB using GoO.ind with
    | stop hstB =>
      rename_i MB b w₂
      intro w₃ hkB hkA gs T q sl C
      generalize hn : sumTo gs.size q = n
      induction n using Nat.strongRecOn generalizing w₃ gs T q sl with
      | _ n ih =>
        have hrb : b.status = .running := (hstB w₂ (Keep.refl _ _ _ _)).1
        refine both_turn hj C hsA hrb sl (fun d sl' => ?_) (fun d sl' hp => ?_) (fun d gs' ops q' sl' hz C' hlt => ih _ (by rw [← hn]; exact hlt) _ (hkB.trans (Keep.at _ _ _ _ d)) (hkA.trans (Keep.at _ _ _ _ d)) gs' _ q' sl' C' rfl)
        · have hkA' := hkA.trans (Keep.at _ _ _ _ d)
          obtain ⟨hgo, hmv⟩ := hstepA _ hkA'
          have hrun := runT_crowd_go (P := P) (sl := sl') (i := 0) C.hA (show stepG P (0 == 0) a (w₃.at d) = _ from hgo)
          obtain ⟨C', hkB', hz⟩ := C.stepA hj hcL (.inl hrb) hmv a.frame.fn a.frame.place (a' := (nxA (w₃.at d)).1)
          refine ⟨_, _, hrun, ?_⟩
          rw [← hz]
          exact ihA _ hkA' _ (Keep.refl _ _ _ _) MB b (GoO.keep (.stop hstB) (hkB.trans hkB')) _ _ q sl' C'
        · obtain ⟨s, r, tm, hch⟩ := C.ch
          obtain ⟨_, hw, g₂, nq, hcl, hq⟩ := hstB _ (hkB.trans (Keep.at _ _ _ _ d))
          refine close_run (z := z) hj hcL C hp hch (hcl s r tm hch) hq ?_
          rw [woken_run hsA]
          exact GoO.keep (.step hsA nxA hstepA hnA) (hkA.trans ((Keep.at _ _ _ _ d).trans (Keep.chan (not_mine hcL C.mA) _ _ _ _ _ _ _)))
    | step hsB nxB hstepB hnB ihB =>
      rename_i MB b w₂
      intro w₃ hkB hkA gs T q sl C
      generalize hn : sumTo gs.size q = n
      induction n using Nat.strongRecOn generalizing w₃ gs T q sl with
      | _ n ih =>
        refine both_turn hj C hsA hsB sl (fun d sl' => ?_) (fun d sl' hp => ?_) (fun d gs' ops q' sl' hz C' hlt => ih _ (by rw [← hn]; exact hlt) _ (hkB.trans (Keep.at _ _ _ _ d)) (hkA.trans (Keep.at _ _ _ _ d)) gs' _ q' sl' C' rfl)
        · have hkA' := hkA.trans (Keep.at _ _ _ _ d)
          obtain ⟨hgo, hmv⟩ := hstepA _ hkA'
          have hrun := runT_crowd_go (P := P) (sl := sl') (i := 0) C.hA (show stepG P (0 == 0) a (w₃.at d) = _ from hgo)
          obtain ⟨C', hkB', hz⟩ := C.stepA hj hcL (.inl hsB) hmv a.frame.fn a.frame.place (a' := (nxA (w₃.at d)).1)
          refine ⟨_, _, hrun, ?_⟩
          rw [← hz]
          exact ihA _ hkA' _ (Keep.refl _ _ _ _) MB b (GoO.keep (.step hsB nxB hstepB hnB) (hkB.trans hkB')) _ _ q sl' C'
        · have hkB' := hkB.trans (Keep.at _ _ _ _ d)
          obtain ⟨hgo, hmv⟩ := hstepB _ hkB'
          have hj0 : (j == 0) = false := by simp; omega
          have hrun := runT_crowd_go (P := P) (sl := sl') (i := j) C.hB (by rw [hj0]; exact hgo)
          obtain ⟨C', hkA', hz⟩ := C.stepB hj hcL (.inl hsA) hmv b.frame.fn b.frame.place (b' := (nxB (w₃.at d)).1)
          have := ihB _ hkB' _ (Keep.refl _ _ _ _) (hkA.trans hkA') _ _ q sl' C'
          rw [hz] at this
          exact Reach.step (hp.trans hrun) this
theorem both_cons (hj : 0 < j) (hcL : c < L) {v : Value} {vs : List Value} (hV : Both P c L j z Fin vs) : Both P c L j z Fin (v :: vs) := by
  intro MA MB a b w gs T q sl hA hB C
  rw [recvsO_eq] at hA
  have hB' : GoO P false c L (AtS P c v (SendsO P c L vs)) MB b w := hB
  clear hB
  suffices H : ∀ w₂, Keep c L MA w w₂ → ∀ (MB : Nat → Prop) (b : Goroutine), GoO P false c L (AtS P c v (SendsO P c L vs)) MB b w₂ → ∀ (gs : Array Goroutine) (T : Trace) (q : Nat → Nat) (sl : Option (Nat × Nat)), Co P c L j MA MB gs w₂ T q a b → Reach P Fin gs.size (crowd gs w₂ sl) T from
    H w (Keep.refl _ _ _ _) MB b hB' gs T q sl C
  clear C hB' MB b gs T q sl
  induction hA using GoO.ind with
  | stop hstA =>
    rename_i MA a w
    intro w₂ hkA MB b hB
    have hra : a.status = .running := (hstA w (Keep.refl _ _ _ _)).1
    suffices H : ∀ w₃, Keep c L MB w₂ w₃ → Keep c L MA w w₃ → ∀ (gs : Array Goroutine) (T : Trace) (q : Nat → Nat) (sl : Option (Nat × Nat)), Co P c L j MA MB gs w₃ T q a b → Reach P Fin gs.size (crowd gs w₃ sl) T from
      fun gs T q sl C => H w₂ (Keep.refl _ _ _ _) hkA gs T q sl C
    clear hkA
    induction hB using GoO.ind with
    | stop hstB =>
      rename_i MB b w₂
      intro w₃ hkB hkA gs T q sl C
      generalize hn : sumTo gs.size q = n
      induction n using Nat.strongRecOn generalizing w₃ gs T q sl with
      | _ n ih =>
        have hrb : b.status = .running := (hstB w₂ (Keep.refl _ _ _ _)).1
        refine both_turn hj C hra hrb sl (fun d sl' => ?_) (fun d sl' hp => ?_) (fun d gs' ops q' sl' hz C' hlt => ih _ (by rw [← hn]; exact hlt) _ (hkB.trans (Keep.at _ _ _ _ d)) (hkA.trans (Keep.at _ _ _ _ d)) gs' _ q' sl' C' rfl)
        · obtain ⟨_, hcm, _⟩ := hstA _ (hkA.trans (Keep.at _ _ _ _ d))
          obtain ⟨gs', hrun, hz, C'⟩ := waitA hj C hrb (sl' := sl') hcm
          refine ⟨_, _, hrun, ?_⟩
          rw [app_none, ← hz]
          exact parkA_cons hj hcL hV (.stop hstB) _ (hkB.trans (Keep.at _ _ _ _ d)) MA a gs' T q sl' (fun w₁ k => hstA w₁ ((hkA.trans (Keep.at _ _ _ _ d)).trans k)) C'
        · obtain ⟨_, ⟨z', hcm⟩, _⟩ := hstB _ (hkB.trans (Keep.at _ _ _ _ d))
          obtain ⟨gs', hrun, hz, C'⟩ := waitB hj C hra (sl' := sl') hcm
          have := parkB hj hcL hV (.stop hstA) _ (hkA.trans (Keep.at _ _ _ _ d)) MB b gs' T q sl' (fun w₁ k => hstB w₁ ((hkB.trans (Keep.at _ _ _ _ d)).trans k)) C'
          rw [hz] at this
          exact Reach.step (hp.trans hrun) (by rw [app_none]; exact this)
    | step hsB nxB hstepB hnB ihB =>
      rename_i MB b w₂
      intro w₃ hkB hkA gs T q sl C
      generalize hn : sumTo gs.size q = n
      induction n using Nat.strongRecOn generalizing w₃ gs T q sl with
      | _ n ih =>
        refine both_turn hj C hra hsB sl (fun d sl' => ?_) (fun d sl' hp => ?_) (fun d gs' ops q' sl' hz C' hlt => ih _ (by rw [← hn]; exact hlt) _ (hkB.trans (Keep.at _ _ _ _ d)) (hkA.trans (Keep.at _ _ _ _ d)) gs' _ q' sl' C' rfl)
        · obtain ⟨_, hcm, _⟩ := hstA _ (hkA.trans (Keep.at _ _ _ _ d))
          obtain ⟨gs', hrun, hz, C'⟩ := waitA hj C hsB (sl' := sl') hcm
          refine ⟨_, _, hrun, ?_⟩
          rw [app_none, ← hz]
          exact parkA_cons hj hcL hV (.step hsB nxB hstepB hnB) _ (hkB.trans (Keep.at _ _ _ _ d)) MA a gs' T q sl' (fun w₁ k => hstA w₁ ((hkA.trans (Keep.at _ _ _ _ d)).trans k)) C'
        · have hkB' := hkB.trans (Keep.at _ _ _ _ d)
          obtain ⟨hgo, hmv⟩ := hstepB _ hkB'
          have hj0 : (j == 0) = false := by simp; omega
          have hrun := runT_crowd_go (P := P) (sl := sl') (i := j) C.hB (by rw [hj0]; exact hgo)
          obtain ⟨C', hkA', hz⟩ := C.stepB hj hcL (.inl hra) hmv b.frame.fn b.frame.place (b' := (nxB (w₃.at d)).1)
          have := ihB _ hkB' _ (Keep.refl _ _ _ _) (hkA.trans hkA') _ _ q sl' C'
          rw [hz] at this
          exact Reach.step (hp.trans hrun) this
  | step hsA nxA hstepA hnA ihA =>
    rename_i MA a w
    intro w₂ hkA MB b hB
    suffices H : ∀ w₃, Keep c L MB w₂ w₃ → Keep c L MA w w₃ → ∀ (gs : Array Goroutine) (T : Trace) (q : Nat → Nat) (sl : Option (Nat × Nat)), Co P c L j MA MB gs w₃ T q a b → Reach P Fin gs.size (crowd gs w₃ sl) T from
      fun gs T q sl C => H w₂ (Keep.refl _ _ _ _) hkA gs T q sl C
    clear hkA
    induction hB using GoO.ind with
    | stop hstB =>
      rename_i MB b w₂
      intro w₃ hkB hkA gs T q sl C
      generalize hn : sumTo gs.size q = n
      induction n using Nat.strongRecOn generalizing w₃ gs T q sl with
      | _ n ih =>
        have hrb : b.status = .running := (hstB w₂ (Keep.refl _ _ _ _)).1
        refine both_turn hj C hsA hrb sl (fun d sl' => ?_) (fun d sl' hp => ?_) (fun d gs' ops q' sl' hz C' hlt => ih _ (by rw [← hn]; exact hlt) _ (hkB.trans (Keep.at _ _ _ _ d)) (hkA.trans (Keep.at _ _ _ _ d)) gs' _ q' sl' C' rfl)
        · have hkA' := hkA.trans (Keep.at _ _ _ _ d)
          obtain ⟨hgo, hmv⟩ := hstepA _ hkA'
          have hrun := runT_crowd_go (P := P) (sl := sl') (i := 0) C.hA (show stepG P (0 == 0) a (w₃.at d) = _ from hgo)
          obtain ⟨C', hkB', hz⟩ := C.stepA hj hcL (.inl hrb) hmv a.frame.fn a.frame.place (a' := (nxA (w₃.at d)).1)
          refine ⟨_, _, hrun, ?_⟩
          rw [← hz]
          exact ihA _ hkA' _ (Keep.refl _ _ _ _) MB b (GoO.keep (.stop hstB) (hkB.trans hkB')) _ _ q sl' C'
        · obtain ⟨_, ⟨z', hcm⟩, _⟩ := hstB _ (hkB.trans (Keep.at _ _ _ _ d))
          obtain ⟨gs', hrun, hz, C'⟩ := waitB hj C hsA (sl' := sl') hcm
          have := parkB hj hcL hV (.step hsA nxA hstepA hnA) _ (hkA.trans (Keep.at _ _ _ _ d)) MB b gs' T q sl' (fun w₁ k => hstB w₁ ((hkB.trans (Keep.at _ _ _ _ d)).trans k)) C'
          rw [hz] at this
          exact Reach.step (hp.trans hrun) (by rw [app_none]; exact this)
    | step hsB nxB hstepB hnB ihB =>
      rename_i MB b w₂
      intro w₃ hkB hkA gs T q sl C
      generalize hn : sumTo gs.size q = n
      induction n using Nat.strongRecOn generalizing w₃ gs T q sl with
      | _ n ih =>
        refine both_turn hj C hsA hsB sl (fun d sl' => ?_) (fun d sl' hp => ?_) (fun d gs' ops q' sl' hz C' hlt => ih _ (by rw [← hn]; exact hlt) _ (hkB.trans (Keep.at _ _ _ _ d)) (hkA.trans (Keep.at _ _ _ _ d)) gs' _ q' sl' C' rfl)
        · have hkA' := hkA.trans (Keep.at _ _ _ _ d)
          obtain ⟨hgo, hmv⟩ := hstepA _ hkA'
          have hrun := runT_crowd_go (P := P) (sl := sl') (i := 0) C.hA (show stepG P (0 == 0) a (w₃.at d) = _ from hgo)
          obtain ⟨C', hkB', hz⟩ := C.stepA hj hcL (.inl hsB) hmv a.frame.fn a.frame.place (a' := (nxA (w₃.at d)).1)
          refine ⟨_, _, hrun, ?_⟩
          rw [← hz]
          exact ihA _ hkA' _ (Keep.refl _ _ _ _) MB b (GoO.keep (.step hsB nxB hstepB hnB) (hkB.trans hkB')) _ _ q sl' C'
        · have hkB' := hkB.trans (Keep.at _ _ _ _ d)
          obtain ⟨hgo, hmv⟩ := hstepB _ hkB'
          have hj0 : (j == 0) = false := by simp; omega
          have hrun := runT_crowd_go (P := P) (sl := sl') (i := j) C.hB (by rw [hj0]; exact hgo)
          obtain ⟨C', hkA', hz⟩ := C.stepB hj hcL (.inl hsA) hmv b.frame.fn b.frame.place (b' := (nxB (w₃.at d)).1)
          have := ihB _ hkB' _ (Keep.refl _ _ _ _) (hkA.trans hkA') _ _ q sl' C'
          rw [hz] at this
          exact Reach.step (hp.trans hrun) this
theorem both_all (hj : 0 < j) (hcL : c < L) : ∀ vs, Both P c L j z Fin vs
  | [] => both_nil hj hcL
  | _ :: vs => both_cons hj hcL (both_all hj hcL vs)
/-- THE PHASE: from a go statement, beside others that only leave, to the channel's end. -/
theorem pipe_phase {gs : Array Goroutine} {w w' : World} {T : Trace} {q : Nat → Nat} {sl : Option (Nat × Nat)} {B : Nat} {a a' child : Goroutine} {vs : List Value} {es : Array Event} (hcL : c < L) (hLw : L ≤ w'.heap.size) (h0 : gs[0]? = some a) (hra : a.status = .running) (hL : Leavers P T gs q) (hP : Past (fun _ => False) B T)
    (hsp : ∀ d, stepG P true a (w.at d) = .spawn a' child (w'.at d) #[]) (hch : ∃ s r tm, w'.heap[c]? = some (.chan 0 #[] false s r tm)) (hA : RecvsO P c L z Fin vs (fun _ => False) a' w') (hB : SendsO P c L vs (fun _ => False) child w') :
    Reach P Fin (gs.size + 1) (crowd gs w sl) T := by
  suffices H : ∀ n, ∀ (gs : Array Goroutine) (w : World) (T : Trace) (q : Nat → Nat) (sl : Option (Nat × Nat)), sumTo gs.size q = n → gs[0]? = some a → Leavers P T gs q → Past (fun _ => False) B T → (∀ d, stepG P true a (w.at d) = .spawn a' child (w'.at d) #[]) → Reach P Fin (gs.size + 1) (crowd gs w sl) T from
    H _ gs w T q sl rfl h0 hL hP hsp
  intro n
  induction n using Nat.strongRecOn with
  | _ n ih =>
    intro gs w T q sl hn h0 hL hP hsp
    have haw : ∀ g ∈ gs, awake g := by
      intro g hg
      obtain ⟨i, hi, rfl⟩ := Array.mem_iff_getElem.1 hg
      rcases Nat.eq_zero_or_pos i with rfl | hpos
      · have : gs[0] = a := by simpa [Array.getElem?_eq_getElem hi] using h0
        rw [this]; exact awake_of (.inl hra)
      · exact awake_of ((hL.old i _ hpos (Array.getElem?_eq_getElem hi)).status.elim .inl fun x => .inr (.inr x))
    obtain ⟨i, g, d, sl', hi, hg, hst⟩ := crowd_pick (P := P) (w := w) (sl := sl) haw ⟨0, a, h0, hra⟩
    have hlt0 : 0 < gs.size := (Array.getElem?_eq_some_iff.1 h0).1
    rcases Nat.eq_zero_or_pos i with rfl | hpos
    · obtain rfl : g = a := by rw [h0] at hi; exact (Option.some.inj hi).symm
      have hrun := runT_crowd_spawn (P := P) (sl := sl') (i := 0) hi (show stepG P (0 == 0) g (w.at d) = _ from hsp d)
      refine Reach.step (hst.trans hrun) ?_
      have e0 : ((MemOp.ofEvents 0 g.frame.fn g.frame.place #[]).push { g := 0, fn := g.frame.fn, pos := g.frame.place, act := .go gs.size } |>.push { g := gs.size, fn := child.frame.fn, pos := g.frame.place, act := .start }) = #[{ g := 0, fn := g.frame.fn, pos := g.frame.place, act := .go gs.size }, { g := gs.size, fn := child.frame.fn, pos := g.frame.place, act := .start }] := rfl
      rw [e0]
      have hq : ∀ x, ∀ op ∈ (#[{ g := 0, fn := g.frame.fn, pos := g.frame.place, act := .go gs.size }, { g := gs.size, fn := child.frame.fn, pos := g.frame.place, act := .start }] : Trace), ∀ d, deafStep x d op = d := by
        intro x op hop d
        simp only [List.mem_toArray, List.mem_cons, List.not_mem_nil, or_false] at hop
        rcases hop with rfl | rfl <;> rfl
      have hne : gs.size ≠ 0 := by omega
      have := both_all (P := P) (j := gs.size) (z := z) (Fin := Fin) (c := c) (L := L) hlt0 hcL vs (fun _ => False) (fun _ => False) a' child (w'.at d) ((gs.setIfInBounds 0 a').push child) _ q sl' (RecvsO.keep hA (Keep.at _ _ _ _ d)) (SendsO.keep hB (Keep.at _ _ _ _ d))
        ⟨by rw [push_lt _ _ (by simpa using hlt0)]; exact get_set_same hlt0 _, push_eq _ _ (by simp), fun x y hx hxj hy => ?_, fun x hx => ?_, PhT.begin (c := c) (L := L) hP hne (hL.above _ (Nat.le_refl _)) g.frame.fn g.frame.place child.frame.fn, fun k hk => hk.elim, fun k hk => hk.elim, fun k hk => hk.elim, hLw, hch⟩
      · rw [show ((gs.setIfInBounds 0 a').push child).size = gs.size + 1 by simp] at this
        exact this
      · have hxl : x < gs.size := by
          have := (Array.getElem?_eq_some_iff.1 hy).1
          simp at this
          omega
        rw [push_lt _ _ (by simpa using hxl), get_set_ne (show (0 : Nat) ≠ x by omega)] at hy
        rw [Deaf_quiet (hq x)]
        exact hL.old x y hx hy
      · rw [Deaf_quiet (hq x)]
        exact hL.above x (by simp at hx; omega)
    · have hq := hL.old i g hpos hi
      have hi0 : (i == 0) = false := by simp; omega
      have hlt : i < gs.size := (Array.getElem?_eq_some_iff.1 hi).1
      cases hqi : q i with
      | zero => rw [hqi] at hq; rw [hq.1] at hg; cases hg
      | succ k =>
        rw [hqi] at hq
        rcases hq with ⟨hf, _⟩ | ⟨_, g', es, hm, hstp, hq'⟩
        · rw [hf] at hg; cases hg
        have hrunT := runT_crowd_go (P := P) (sl := sl') (i := i) hi (by rw [hi0]; exact hstp (w.at d))
        have hsum : sumTo gs.size (upd q i k) + (k + 1) = sumTo gs.size q + k := by
          have := sumTo_upd q k id hlt
          simpa [hqi] using this
        have hz : ((gs.map (Conc.woken P g g' (w.at d))).setIfInBounds i g').size = gs.size := by simp
        have := ih (sumTo gs.size (upd q i k)) (by omega) ((gs.map (Conc.woken P g g' (w.at d))).setIfInBounds i g') (w.at d) (T ++ MemOp.ofEvents i g.frame.fn g.frame.place es) (upd q i k) sl' (by rw [hz]) (by rw [get_set_ne (show i ≠ 0 by omega), Array.getElem?_map, h0]; simp [woken_run hra])
          ⟨fun x y hx hy => Leave.slip (Who := fun _ => True) hlt hpos trivial (fun i g h _ => hL.old i g h) hq' _ _ x y hx trivial hy, fun x hx => by
            rw [Deaf_other T (g' := i) (by simp at hx; omega) _ (fun op hop => by obtain ⟨e, _, rfl⟩ := mem_ofEv hop; rfl)]
            exact hL.above x (by simpa using hx)⟩ (hP.mute (by omega) hm) (fun d' => hsp d')
        rw [hz] at this
        exact Reach.step (hst.trans hrunT) this
end
end Go.Proofs.Ytlbkhiphnllfpam
