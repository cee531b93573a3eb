/-
  Another tape: what a computation does hangs on the tape by the answers alone that it takes. And computations that say no word of deafness.
-/
import Derived.Conc.Beside
namespace Go.Proofs.Ytlbkhiphnllfpam
open Go.Conc
set_option linter.unusedVariables false
/-- The world over another tape. -/
def _root_.Go.World.on (w : World) (T : Nat → Question → Nat) (d : Nat) : World := { w with tape := T, drawn := d }
theorem on_at (w : World) (d : Nat) : w.at d = w.on w.tape d := rfl
theorem on_on (w : World) (T T' : Nat → Question → Nat) (d d' : Nat) : (w.on T d).on T' d' = w.on T' d' := rfl
theorem on_self (w : World) : w.on w.tape w.drawn = w := rfl
def Ron {α : Type} (T : Nat → Question → Nat) (d : Nat) : Result α → Result α
  | .ok a w => .ok a (w.on T d)
  | .halt h w => .halt h (w.on T d)
def Rw {α : Type} : Result α → World
  | .ok _ w => w
  | .halt _ w => w
/-- No word of the library's, no call of the system's; it ends by a value, a panic, or not at all. -/
def Hsh {α : Type} (P : Program) : Sem α → Prop
  | .pure _ => True
  | .load _ _ k => ∀ v, Hsh P (k v)
  | .store _ _ _ k => Hsh P k
  | .new _ k => ∀ r, Hsh P (k r)
  | .shape _ k => ∀ x, Hsh P (k x)
  | .freeze _ _ k => Hsh P k
  | .frozen _ k => ∀ b, Hsh P (k b)
  | .getObj _ k => ∀ o, Hsh P (k o)
  | .setObj _ _ k => Hsh P k
  | .choose _ k => ∀ n, Hsh P (k n)
  | .sys _ _ => False
  | .program k => Hsh P (k P)
  | .mark m k => m = .noRoom ∧ Hsh P k
  | .halt h => match h with | .panic _ => True | .stuck _ => True | .unsupported _ => True | _ => False
theorem Hsh.bind {α β : Type} {P : Program} : ∀ {s : Sem α} {f : α → Sem β}, Hsh P s → (∀ a, Hsh P (f a)) → Hsh P (s.bind f)
  | .pure a, f, _, h => h a
  | .load _ _ k, f, hs, h => fun v => Hsh.bind (hs v) h
  | .store _ _ _ k, f, hs, h => Hsh.bind (s := k) hs h
  | .new _ k, f, hs, h => fun v => Hsh.bind (hs v) h
  | .shape _ k, f, hs, h => fun v => Hsh.bind (hs v) h
  | .freeze _ _ k, f, hs, h => Hsh.bind (s := k) hs h
  | .frozen _ k, f, hs, h => fun v => Hsh.bind (hs v) h
  | .getObj _ k, f, hs, h => fun v => Hsh.bind (hs v) h
  | .setObj _ _ k, f, hs, h => Hsh.bind (s := k) hs h
  | .choose _ k, f, hs, h => fun v => Hsh.bind (hs v) h
  | .program k, f, hs, h => Hsh.bind (s := k P) hs h
  | .mark m k, f, hs, h => ⟨hs.1, Hsh.bind (s := k) hs.2 h⟩
  | .halt _, f, hs, _ => hs
theorem ex_map {α β γ ε : Type} (R : Except ε α) (h : α → β) (g : β → γ) : (match R with | .error e => .error e | .ok v => .ok (g (h v))) = Except.map g (match R with | .error e => .error e | .ok v => .ok (h v)) := by cases R <;> rfl
theorem viewStore_on (P : Program) (w : World) (at_ : Addr) (u : TypeId) (k : Addr) (v : Value) (b : Bool) (T : Nat → Question → Nat) (d : Nat) :
    (w.on T d).viewStore P at_ u k v b = (w.viewStore P at_ u k v b).map fun x => (x.1.on T d, x.2) := by
  unfold World.viewStore
  have e : (w.on T d).seen P at_ u k b = w.seen P at_ u k b := rfl
  rw [e]
  simp only [bind, Except.bind, pure, Except.pure]
  generalize w.seen P at_ u k b = s
  by_cases h1 : (!tight P P.depth u) = true
  · rw [if_pos h1, if_pos h1]; rfl
  · rw [if_neg h1, if_neg h1]
    cases s with
    | error e => rfl
    | ok x =>
      obtain ⟨c, e, fz, first, like, cells⟩ := x
      dsimp only
      cases v.bytes? with
      | none => rfl
      | some bytes =>
        dsimp only
        by_cases h2 : some bytes.length ≠ Option.map (fun x => x.length) like.bytes?
        · rw [if_pos h2, if_pos h2]; rfl
        · rw [if_neg h2, if_neg h2]
          generalize (List.foldlM (m := Except String) _ c cells : Except String (Array Value)) = R
          cases R <;> rfl
theorem farStore_on (P : Program) (w : World) (a : Addr) (v : Value) (b : Bool) (T : Nat → Question → Nat) (d : Nat) : (w.on T d).farStore P a v b = (w.farStore P a v b).map fun x => (x.1.on T d, x.2) := by
  unfold World.farStore
  have e : (w.on T d).heap[a.block]? = w.heap[a.block]? := rfl
  have e' : (w.on T d).noCell a "store: no such cell" = w.noCell a "store: no such cell" := rfl
  rw [e, e']
  cases h : w.heap[a.block]? with
  | none => rfl
  | some o =>
    cases o <;> first | rfl | skip
    dsimp only
    rw [viewStore_on]
    cases w.viewStore P _ _ a v b <;> rfl
theorem viewStore_tape (P : Program) (w : World) (at_ : Addr) (u : TypeId) (k : Addr) (v : Value) (b : Bool) {x : World × List Addr} (h : w.viewStore P at_ u k v b = .ok x) : x.1.tape = w.tape ∧ x.1.drawn = w.drawn := by
  have := viewStore_on P w at_ u k v b w.tape w.drawn
  rw [on_self, h] at this
  have e : x = (x.1.on w.tape w.drawn, x.2) := by simpa [Except.map] using this
  rw [e]
  exact ⟨rfl, rfl⟩
theorem farStore_tape (P : Program) (w : World) (a : Addr) (v : Value) (b : Bool) {x : World × List Addr} (h : w.farStore P a v b = .ok x) : x.1.tape = w.tape ∧ x.1.drawn = w.drawn := by
  have := farStore_on P w a v b w.tape w.drawn
  rw [on_self, h] at this
  have e : x = (x.1.on w.tape w.drawn, x.2) := by simpa [Except.map] using this
  rw [e]
  exact ⟨rfl, rfl⟩
theorem freeze_on (w : World) (a : Addr) (n : Nat) (T : Nat → Question → Nat) (d : Nat) : (w.on T d).freeze a n = (w.freeze a n).on T d := by
  unfold World.freeze
  split <;> rfl
theorem freeze_tape (w : World) (a : Addr) (n : Nat) : (w.freeze a n).tape = w.tape ∧ (w.freeze a n).drawn = w.drawn := by
  unfold World.freeze
  split <;> exact ⟨rfl, rfl⟩
theorem runT_on {α : Type} (P : Program) (s : Sem α) (hs : Hsh P s) : ∀ (w : World) (es : Array Event), ∃ n, (Rw (s.runT P w es).1).drawn = w.drawn + n ∧ (Rw (s.runT P w es).1).tape = w.tape ∧
    ∀ T d, (∀ i, i < n → T (d + i) = w.tape (w.drawn + i)) → s.runT P (w.on T d) es = (Ron T (d + n) (s.runT P w es).1, (s.runT P w es).2) := by
  induction s with
  | pure a => exact fun w es => ⟨0, rfl, rfl, fun T d _ => rfl⟩
  | load m a k ih =>
    intro w es
    have e1 : ∀ T d, (w.on T d).cell? a = w.cell? a := fun _ _ => rfl
    have e2 : ∀ T d, (w.on T d).farLoad P a (m == .atomic) = w.farLoad P a (m == .atomic) := fun _ _ => rfl
    cases h1 : w.cell? a with
    | some v =>
      obtain ⟨n, h2, h3, h4⟩ := ih v (hs v) w (es.push ⟨.cell a, false, m == .atomic⟩)
      refine ⟨n, ?_, ?_, fun T d hT => ?_⟩
      · simp only [Sem.runT, h1]; exact h2
      · simp only [Sem.runT, h1]; exact h3
      · simp only [Sem.runT, e1, h1]; exact h4 T d hT
    | none =>
      cases h5 : w.farLoad P a (m == .atomic) with
      | error e => exact ⟨0, by simp only [Sem.runT, h1, h5]; rfl, by simp only [Sem.runT, h1, h5]; rfl, fun T d _ => by simp only [Sem.runT, e1, e2, h1, h5]; rfl⟩
      | ok r =>
        obtain ⟨v, ts⟩ := r
        obtain ⟨n, h2, h3, h4⟩ := ih v (hs v) w (es ++ ts.toArray.map (⟨.cell ·, false, m == .atomic⟩))
        refine ⟨n, ?_, ?_, fun T d hT => ?_⟩
        · simp only [Sem.runT, h1, h5]; exact h2
        · simp only [Sem.runT, h1, h5]; exact h3
        · simp only [Sem.runT, e1, e2, h1, h5]; exact h4 T d hT
  | store m a v k ih =>
    intro w es
    have e1 : ∀ T d, (w.on T d).cell? a = w.cell? a := fun _ _ => rfl
    have e3 : ∀ T d, (w.on T d).frozen? a = w.frozen? a := fun _ _ => rfl
    have e4 : ∀ T d, (w.on T d).setCell a v = (w.setCell a v).on T d := fun _ _ => rfl
    have key : (∃ c, v = .agg c) ∨ (∃ c, v = .tuple c) ∨ (∀ W es', (Sem.store m a v k).runT P W es' = (match W.cell? a with
      | some _ => if W.frozen? a then (.halt (.unsupported (.unsafePointer "a write to bytes that a string shares")) W, es') else k.runT P (W.setCell a v) (es'.push ⟨.cell a, true, m == .atomic⟩)
      | none => match W.farStore P a v (m == .atomic) with
        | .ok (W, touched) => k.runT P W (es' ++ touched.toArray.map (⟨.cell ·, true, m == .atomic⟩))
        | .error h => (.halt h W, es'))) := by
      cases v <;> first | exact .inl ⟨_, rfl⟩ | exact .inr (.inl ⟨_, rfl⟩) | exact .inr (.inr fun W es' => rfl)
    rcases key with ⟨c, rfl⟩ | ⟨c, rfl⟩ | key
    · exact ⟨0, rfl, rfl, fun T d _ => rfl⟩
    · exact ⟨0, rfl, rfl, fun T d _ => rfl⟩
    · cases h1 : w.cell? a with
      | some old =>
        by_cases h2 : w.frozen? a = true
        · exact ⟨0, by simp only [key, h1, h2, if_true]; rfl, by simp only [key, h1, h2, if_true]; rfl, fun T d _ => by simp only [key, e1, e3, h1, h2, if_true]; rfl⟩
        · obtain ⟨n, h3, h4, h5⟩ := ih hs (w.setCell a v) (es.push ⟨.cell a, true, m == .atomic⟩)
          exact ⟨n, by simp only [key, h1, h2]; exact h3, by simp only [key, h1, h2]; exact h4, fun T d hT => by simp only [key, e1, e3, e4, h1, h2]; exact h5 T d hT⟩
      | none =>
        cases h2 : w.farStore P a v (m == .atomic) with
        | error e => exact ⟨0, by simp only [key, h1, h2]; rfl, by simp only [key, h1, h2]; rfl, fun T d _ => by simp only [key, e1, h1, farStore_on, h2, Except.map]; rfl⟩
        | ok x =>
          obtain ⟨W, ts⟩ := x
          obtain ⟨t1, t2⟩ := farStore_tape P w a v _ h2
          obtain ⟨n, h3, h4, h5⟩ := ih hs W (es ++ ts.toArray.map (⟨.cell ·, true, m == .atomic⟩))
          exact ⟨n, by simp only [key, h1, h2]; rw [h3]; exact congrArg (· + n) t2, by simp only [key, h1, h2]; exact h4.trans t1, fun T d hT => by simp only [key, e1, h1, farStore_on, h2, Except.map]; exact h5 T d (fun i hi => by rw [hT i hi, t1, t2])⟩
  | new o k ih =>
    intro w es
    obtain ⟨n, h2, h3, h4⟩ := ih w.heap.size (hs _) { w with heap := w.heap.push o } es
    exact ⟨n, h2, h3, fun T d hT => h4 T d hT⟩
  | shape r k ih => exact fun w es => ih _ (hs _) w es
  | freeze a n k ih =>
    intro w es
    obtain ⟨n', h2, h3, h4⟩ := ih hs (w.freeze a n) es
    obtain ⟨t1, t2⟩ := freeze_tape w a n
    refine ⟨n', h2.trans (congrArg (· + n') t2), h3.trans t1, fun T d hT => ?_⟩
    show k.runT P ((w.on T d).freeze a n) es = _
    rw [freeze_on]
    exact h4 T d (fun i hi => by rw [hT i hi, t1, t2])
  | frozen a k ih => exact fun w es => ih _ (hs _) w es
  | getObj r k ih =>
    intro w es
    have e1 : ∀ T d, (w.on T d).heap[r]? = w.heap[r]? := fun _ _ => rfl
    cases h1 : w.heap[r]? with
    | none => exact ⟨0, by simp only [Sem.runT, h1]; rfl, by simp only [Sem.runT, h1]; rfl, fun T d _ => by simp only [Sem.runT, e1, h1]; rfl⟩
    | some o =>
      cases o with
      | cells c e f => exact ⟨0, by simp only [Sem.runT, h1]; rfl, by simp only [Sem.runT, h1]; rfl, fun T d _ => by simp only [Sem.runT, e1, h1]; rfl⟩
      | _ =>
        obtain ⟨n, h3, h4, h5⟩ := ih _ (hs _) w (es.push ⟨.obj r, false, Obj.isChan _⟩)
        exact ⟨n, by simp only [Sem.runT, h1]; exact h3, by simp only [Sem.runT, h1]; exact h4, fun T d hT => by simp only [Sem.runT, e1, h1]; exact h5 T d hT⟩
  | setObj r o k ih =>
    intro w es
    have e1 : ∀ T d, (w.on T d).heap[r]? = w.heap[r]? := fun _ _ => rfl
    cases h1 : w.heap[r]? with
    | none => exact ⟨0, by simp only [Sem.runT, h1]; rfl, by simp only [Sem.runT, h1]; rfl, fun T d _ => by simp only [Sem.runT, e1, h1]; rfl⟩
    | some o' =>
      cases o' with
      | cells c e f => exact ⟨0, by simp only [Sem.runT, h1]; rfl, by simp only [Sem.runT, h1]; rfl, fun T d _ => by simp only [Sem.runT, e1, h1]; rfl⟩
      | _ =>
        obtain ⟨n, h3, h4, h5⟩ := ih hs { w with heap := w.heap.setIfInBounds r o } (es.push ⟨.obj r, true, o.isChan⟩)
        exact ⟨n, by simp only [Sem.runT, h1]; exact h3, by simp only [Sem.runT, h1]; exact h4, fun T d hT => by simp only [Sem.runT, e1, h1]; exact h5 T d hT⟩
  | choose q k ih =>
    intro w es
    by_cases hf : q.forced = true
    · obtain ⟨n, h3, h4, h5⟩ := ih 0 (hs _) w es
      exact ⟨n, by simp only [Sem.runT, hf, if_true]; exact h3, by simp only [Sem.runT, hf, if_true]; exact h4, fun T d hT => by simp only [Sem.runT, hf, if_true]; exact h5 T d hT⟩
    · obtain ⟨n, h3, h4, h5⟩ := ih (q.cut (w.tape w.drawn q)) (hs _) { w with drawn := w.drawn + 1 } es
      refine ⟨n + 1, by simp only [Sem.runT, hf]; rw [if_neg (by simp)]; rw [h3]; show w.drawn + 1 + n = _; omega, by simp only [Sem.runT, hf]; rw [if_neg (by simp)]; exact h4, fun T d hT => ?_⟩
      have e0 : T d = w.tape w.drawn := hT 0 (by omega)
      have := h5 T (d + 1) (fun i hi => by have := hT (i + 1) (by omega); rw [show d + 1 + i = d + (i + 1) by omega, this]; show _ = w.tape (w.drawn + 1 + i); congr 1; omega)
      simp only [Sem.runT, hf]
      rw [if_neg (by simp), if_neg (by simp)]
      show (k (q.cut (T d q))).runT P ((⟨w.heap, w.tape, w.drawn + 1, w.os, w.output⟩ : World).on T (d + 1)) es = _
      rw [e0, this, show d + 1 + n = d + (n + 1) by omega]
  | sys c k ih => exact hs.elim
  | program k ih => exact fun w es => ih P hs w es
  | mark m k ih => exact fun w es => ih hs.2 w _
  | halt h => exact fun w es => ⟨0, rfl, rfl, fun T d _ => rfl⟩
end Go.Proofs.Ytlbkhiphnllfpam
