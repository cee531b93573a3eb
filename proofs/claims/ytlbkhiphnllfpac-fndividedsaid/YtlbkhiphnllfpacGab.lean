/-
  Goroutines: a contract of a lone machine, true on every tape, as steps one by one; their run beside others that only leave.
-/
import Derived.Conc.Beside
import Derived.Test.YtlbkhiphnllfpacGaa
namespace Go.Proofs.Ytlbkhiphnllfpac
open Go.Conc
set_option linter.unusedVariables false
set_option maxRecDepth 100000
/-- The world over another tape. -/
def _root_.Go.World.on (w : World) (T : Nat → Question → Nat) (d : Nat) : World := { w with tape := T, drawn := d }
theorem on_at (w : World) (d : Nat) : w.at d = w.on w.tape d := rfl
theorem on_on (w : World) (T T' : Nat → Question → Nat) (d d' : Nat) : (w.on T d).on T' d' = w.on T' d' := rfl
theorem on_self (w : World) : w.on w.tape w.drawn = w := rfl
def Ron {α : Type} (T : Nat → Question → Nat) (d : Nat) : Result α → Result α
  | .ok a w => .ok a (w.on T d)
  | .halt h w => .halt h (w.on T d)
def Rw {α : Type} : Result α → World
  | .ok _ w => w
  | .halt _ w => w
/-- No word of the library's, no call of the system's; it ends by a value, a panic, or not at all. -/
def Hsh {α : Type} (P : Program) : Sem α → Prop
  | .pure _ => True
  | .load _ _ k => ∀ v, Hsh P (k v)
  | .store _ _ _ k => Hsh P k
  | .new _ k => ∀ r, Hsh P (k r)
  | .shape _ k => ∀ x, Hsh P (k x)
  | .freeze _ _ k => Hsh P k
  | .frozen _ k => ∀ b, Hsh P (k b)
  | .getObj _ k => ∀ o, Hsh P (k o)
  | .setObj _ _ k => Hsh P k
  | .choose _ k => ∀ n, Hsh P (k n)
  | .sys _ _ => False
  | .program k => Hsh P (k P)
  | .mark m k => m = .noRoom ∧ Hsh P k
  | .halt h => match h with | .panic _ => True | .stuck _ => True | .unsupported _ => True | _ => False
theorem Hsh.bind {α β : Type} {P : Program} : ∀ {s : Sem α} {f : α → Sem β}, Hsh P s → (∀ a, Hsh P (f a)) → Hsh P (s.bind f)
  | .pure a, f, _, h => h a
  | .load _ _ k, f, hs, h => fun v => Hsh.bind (hs v) h
  | .store _ _ _ k, f, hs, h => Hsh.bind (s := k) hs h
  | .new _ k, f, hs, h => fun v => Hsh.bind (hs v) h
  | .shape _ k, f, hs, h => fun v => Hsh.bind (hs v) h
  | .freeze _ _ k, f, hs, h => Hsh.bind (s := k) hs h
  | .frozen _ k, f, hs, h => fun v => Hsh.bind (hs v) h
  | .getObj _ k, f, hs, h => fun v => Hsh.bind (hs v) h
  | .setObj _ _ k, f, hs, h => Hsh.bind (s := k) hs h
  | .choose _ k, f, hs, h => fun v => Hsh.bind (hs v) h
  | .program k, f, hs, h => Hsh.bind (s := k P) hs h
  | .mark m k, f, hs, h => ⟨hs.1, Hsh.bind (s := k) hs.2 h⟩
  | .halt _, f, hs, _ => hs
theorem ex_map {α β γ ε : Type} (R : Except ε α) (h : α → β) (g : β → γ) : (match R with | .error e => .error e | .ok v => .ok (g (h v))) = Except.map g (match R with | .error e => .error e | .ok v => .ok (h v)) := by cases R <;> rfl
theorem viewStore_on (P : Program) (w : World) (at_ : Addr) (u : TypeId) (k : Addr) (v : Value) (b : Bool) (T : Nat → Question → Nat) (d : Nat) :
    (w.on T d).viewStore P at_ u k v b = (w.viewStore P at_ u k v b).map fun x => (x.1.on T d, x.2) := by
  unfold World.viewStore
  have e : (w.on T d).seen P at_ u k b = w.seen P at_ u k b := rfl
  rw [e]
  simp only [bind, Except.bind, pure, Except.pure]
  generalize w.seen P at_ u k b = s
  by_cases h1 : (!tight P P.depth u) = true
  · rw [if_pos h1, if_pos h1]; rfl
  · rw [if_neg h1, if_neg h1]
    cases s with
    | error e => rfl
    | ok x =>
      obtain ⟨c, e, fz, first, like, cells⟩ := x
      dsimp only
      cases v.bytes? with
      | none => rfl
      | some bytes =>
        dsimp only
        by_cases h2 : some bytes.length ≠ Option.map (fun x => x.length) like.bytes?
        · rw [if_pos h2, if_pos h2]; rfl
        · rw [if_neg h2, if_neg h2]
          generalize (List.foldlM (m := Except String) _ c cells : Except String (Array Value)) = R
          cases R <;> rfl
theorem farStore_on (P : Program) (w : World) (a : Addr) (v : Value) (b : Bool) (T : Nat → Question → Nat) (d : Nat) : (w.on T d).farStore P a v b = (w.farStore P a v b).map fun x => (x.1.on T d, x.2) := by
  unfold World.farStore
  have e : (w.on T d).heap[a.block]? = w.heap[a.block]? := rfl
  have e' : (w.on T d).noCell a "store: no such cell" = w.noCell a "store: no such cell" := rfl
  rw [e, e']
  cases h : w.heap[a.block]? with
  | none => rfl
  | some o =>
    cases o <;> first | rfl | skip
    dsimp only
    rw [viewStore_on]
    cases w.viewStore P _ _ a v b <;> rfl
theorem viewStore_tape (P : Program) (w : World) (at_ : Addr) (u : TypeId) (k : Addr) (v : Value) (b : Bool) {x : World × List Addr} (h : w.viewStore P at_ u k v b = .ok x) : x.1.tape = w.tape ∧ x.1.drawn = w.drawn := by
  have := viewStore_on P w at_ u k v b w.tape w.drawn
  rw [on_self, h] at this
  have e : x = (x.1.on w.tape w.drawn, x.2) := by simpa [Except.map] using this
  rw [e]
  exact ⟨rfl, rfl⟩
theorem farStore_tape (P : Program) (w : World) (a : Addr) (v : Value) (b : Bool) {x : World × List Addr} (h : w.farStore P a v b = .ok x) : x.1.tape = w.tape ∧ x.1.drawn = w.drawn := by
  have := farStore_on P w a v b w.tape w.drawn
  rw [on_self, h] at this
  have e : x = (x.1.on w.tape w.drawn, x.2) := by simpa [Except.map] using this
  rw [e]
  exact ⟨rfl, rfl⟩
theorem freeze_on (w : World) (a : Addr) (n : Nat) (T : Nat → Question → Nat) (d : Nat) : (w.on T d).freeze a n = (w.freeze a n).on T d := by
  unfold World.freeze
  split <;> rfl
theorem freeze_tape (w : World) (a : Addr) (n : Nat) : (w.freeze a n).tape = w.tape ∧ (w.freeze a n).drawn = w.drawn := by
  unfold World.freeze
  split <;> exact ⟨rfl, rfl⟩
theorem runT_on {α : Type} (P : Program) (s : Sem α) (hs : Hsh P s) : ∀ (w : World) (es : Array Event), ∃ n, (Rw (s.runT P w es).1).drawn = w.drawn + n ∧ (Rw (s.runT P w es).1).tape = w.tape ∧
    ∀ T d, (∀ i, i < n → T (d + i) = w.tape (w.drawn + i)) → s.runT P (w.on T d) es = (Ron T (d + n) (s.runT P w es).1, (s.runT P w es).2) := by
  induction s with
  | pure a => exact fun w es => ⟨0, rfl, rfl, fun T d _ => rfl⟩
  | load m a k ih =>
    intro w es
    have e1 : ∀ T d, (w.on T d).cell? a = w.cell? a := fun _ _ => rfl
    have e2 : ∀ T d, (w.on T d).farLoad P a (m == .atomic) = w.farLoad P a (m == .atomic) := fun _ _ => rfl
    cases h1 : w.cell? a with
    | some v =>
      obtain ⟨n, h2, h3, h4⟩ := ih v (hs v) w (es.push ⟨.cell a, false, m == .atomic⟩)
      refine ⟨n, ?_, ?_, fun T d hT => ?_⟩
      · simp only [Sem.runT, h1]; exact h2
      · simp only [Sem.runT, h1]; exact h3
      · simp only [Sem.runT, e1, h1]; exact h4 T d hT
    | none =>
      cases h5 : w.farLoad P a (m == .atomic) with
      | error e => exact ⟨0, by simp only [Sem.runT, h1, h5]; rfl, by simp only [Sem.runT, h1, h5]; rfl, fun T d _ => by simp only [Sem.runT, e1, e2, h1, h5]; rfl⟩
      | ok r =>
        obtain ⟨v, ts⟩ := r
        obtain ⟨n, h2, h3, h4⟩ := ih v (hs v) w (es ++ ts.toArray.map (⟨.cell ·, false, m == .atomic⟩))
        refine ⟨n, ?_, ?_, fun T d hT => ?_⟩
        · simp only [Sem.runT, h1, h5]; exact h2
        · simp only [Sem.runT, h1, h5]; exact h3
        · simp only [Sem.runT, e1, e2, h1, h5]; exact h4 T d hT
  | store m a v k ih =>
    intro w es
    have e1 : ∀ T d, (w.on T d).cell? a = w.cell? a := fun _ _ => rfl
    have e3 : ∀ T d, (w.on T d).frozen? a = w.frozen? a := fun _ _ => rfl
    have e4 : ∀ T d, (w.on T d).setCell a v = (w.setCell a v).on T d := fun _ _ => rfl
    have key : (∃ c, v = .agg c) ∨ (∃ c, v = .tuple c) ∨ (∀ W es', (Sem.store m a v k).runT P W es' = (match W.cell? a with
      | some _ => if W.frozen? a then (.halt (.unsupported (.unsafePointer "a write to bytes that a string shares")) W, es') else k.runT P (W.setCell a v) (es'.push ⟨.cell a, true, m == .atomic⟩)
      | none => match W.farStore P a v (m == .atomic) with
        | .ok (W, touched) => k.runT P W (es' ++ touched.toArray.map (⟨.cell ·, true, m == .atomic⟩))
        | .error h => (.halt h W, es'))) := by
      cases v <;> first | exact .inl ⟨_, rfl⟩ | exact .inr (.inl ⟨_, rfl⟩) | exact .inr (.inr fun W es' => rfl)
    rcases key with ⟨c, rfl⟩ | ⟨c, rfl⟩ | key
    · exact ⟨0, rfl, rfl, fun T d _ => rfl⟩
    · exact ⟨0, rfl, rfl, fun T d _ => rfl⟩
    · cases h1 : w.cell? a with
      | some old =>
        by_cases h2 : w.frozen? a = true
        · exact ⟨0, by simp only [key, h1, h2, if_true]; rfl, by simp only [key, h1, h2, if_true]; rfl, fun T d _ => by simp only [key, e1, e3, h1, h2, if_true]; rfl⟩
        · obtain ⟨n, h3, h4, h5⟩ := ih hs (w.setCell a v) (es.push ⟨.cell a, true, m == .atomic⟩)
          exact ⟨n, by simp only [key, h1, h2]; exact h3, by simp only [key, h1, h2]; exact h4, fun T d hT => by simp only [key, e1, e3, e4, h1, h2]; exact h5 T d hT⟩
      | none =>
        cases h2 : w.farStore P a v (m == .atomic) with
        | error e => exact ⟨0, by simp only [key, h1, h2]; rfl, by simp only [key, h1, h2]; rfl, fun T d _ => by simp only [key, e1, h1, farStore_on, h2, Except.map]; rfl⟩
        | ok x =>
          obtain ⟨W, ts⟩ := x
          obtain ⟨t1, t2⟩ := farStore_tape P w a v _ h2
          obtain ⟨n, h3, h4, h5⟩ := ih hs W (es ++ ts.toArray.map (⟨.cell ·, true, m == .atomic⟩))
          exact ⟨n, by simp only [key, h1, h2]; rw [h3]; exact congrArg (· + n) t2, by simp only [key, h1, h2]; exact h4.trans t1, fun T d hT => by simp only [key, e1, h1, farStore_on, h2, Except.map]; exact h5 T d (fun i hi => by rw [hT i hi, t1, t2])⟩
  | new o k ih =>
    intro w es
    obtain ⟨n, h2, h3, h4⟩ := ih w.heap.size (hs _) { w with heap := w.heap.push o } es
    exact ⟨n, h2, h3, fun T d hT => h4 T d hT⟩
  | shape r k ih => exact fun w es => ih _ (hs _) w es
  | freeze a n k ih =>
    intro w es
    obtain ⟨n', h2, h3, h4⟩ := ih hs (w.freeze a n) es
    obtain ⟨t1, t2⟩ := freeze_tape w a n
    refine ⟨n', h2.trans (congrArg (· + n') t2), h3.trans t1, fun T d hT => ?_⟩
    show k.runT P ((w.on T d).freeze a n) es = _
    rw [freeze_on]
    exact h4 T d (fun i hi => by rw [hT i hi, t1, t2])
  | frozen a k ih => exact fun w es => ih _ (hs _) w es
  | getObj r k ih =>
    intro w es
    have e1 : ∀ T d, (w.on T d).heap[r]? = w.heap[r]? := fun _ _ => rfl
    cases h1 : w.heap[r]? with
    | none => exact ⟨0, by simp only [Sem.runT, h1]; rfl, by simp only [Sem.runT, h1]; rfl, fun T d _ => by simp only [Sem.runT, e1, h1]; rfl⟩
    | some o =>
      cases o with
      | cells c e f => exact ⟨0, by simp only [Sem.runT, h1]; rfl, by simp only [Sem.runT, h1]; rfl, fun T d _ => by simp only [Sem.runT, e1, h1]; rfl⟩
      | _ =>
        obtain ⟨n, h3, h4, h5⟩ := ih _ (hs _) w (es.push ⟨.obj r, false, Obj.isChan _⟩)
        exact ⟨n, by simp only [Sem.runT, h1]; exact h3, by simp only [Sem.runT, h1]; exact h4, fun T d hT => by simp only [Sem.runT, e1, h1]; exact h5 T d hT⟩
  | setObj r o k ih =>
    intro w es
    have e1 : ∀ T d, (w.on T d).heap[r]? = w.heap[r]? := fun _ _ => rfl
    cases h1 : w.heap[r]? with
    | none => exact ⟨0, by simp only [Sem.runT, h1]; rfl, by simp only [Sem.runT, h1]; rfl, fun T d _ => by simp only [Sem.runT, e1, h1]; rfl⟩
    | some o' =>
      cases o' with
      | cells c e f => exact ⟨0, by simp only [Sem.runT, h1]; rfl, by simp only [Sem.runT, h1]; rfl, fun T d _ => by simp only [Sem.runT, e1, h1]; rfl⟩
      | _ =>
        obtain ⟨n, h3, h4, h5⟩ := ih hs { w with heap := w.heap.setIfInBounds r o } (es.push ⟨.obj r, true, o.isChan⟩)
        exact ⟨n, by simp only [Sem.runT, h1]; exact h3, by simp only [Sem.runT, h1]; exact h4, fun T d hT => by simp only [Sem.runT, e1, h1]; exact h5 T d hT⟩
  | choose q k ih =>
    intro w es
    by_cases hf : q.forced = true
    · obtain ⟨n, h3, h4, h5⟩ := ih 0 (hs _) w es
      exact ⟨n, by simp only [Sem.runT, hf, if_true]; exact h3, by simp only [Sem.runT, hf, if_true]; exact h4, fun T d hT => by simp only [Sem.runT, hf, if_true]; exact h5 T d hT⟩
    · obtain ⟨n, h3, h4, h5⟩ := ih (q.cut (w.tape w.drawn q)) (hs _) { w with drawn := w.drawn + 1 } es
      refine ⟨n + 1, by simp only [Sem.runT, hf]; rw [if_neg (by simp)]; rw [h3]; show w.drawn + 1 + n = _; omega, by simp only [Sem.runT, hf]; rw [if_neg (by simp)]; exact h4, fun T d hT => ?_⟩
      have e0 : T d = w.tape w.drawn := hT 0 (by omega)
      have := h5 T (d + 1) (fun i hi => by have := hT (i + 1) (by omega); rw [show d + 1 + i = d + (i + 1) by omega, this]; show _ = w.tape (w.drawn + 1 + i); congr 1; omega)
      simp only [Sem.runT, hf]
      rw [if_neg (by simp), if_neg (by simp)]
      show (k (q.cut (T d q))).runT P ((⟨w.heap, w.tape, w.drawn + 1, w.os, w.output⟩ : World).on T (d + 1)) es = _
      rw [e0, this, show d + 1 + n = d + (n + 1) by omega]
  | sys c k ih => exact hs.elim
  | program k ih => exact fun w es => ih P hs w es
  | mark m k ih => exact fun w es => ih hs.2 w _
  | halt h => exact fun w es => ⟨0, rfl, rfl, fun T d _ => rfl⟩
end Go.Proofs.Ytlbkhiphnllfpac
namespace Go.Proofs.Ytlbkhiphnllfpac
open Go.Conc
set_option linter.unusedVariables false
set_option maxRecDepth 100000
set_option maxHeartbeats 1000000
theorem hbind {α β : Type} {P : Program} {s : Sem α} {f : α → Sem β} (hs : Hsh P s) (h : ∀ a, Hsh P (f a)) : Hsh P (s >>= f) := Hsh.bind hs h
theorem hpure {α : Type} {P : Program} {a : α} : Hsh P (pure a : Sem α) := True.intro
theorem hmap {α β : Type} {P : Program} {s : Sem α} {f : α → β} (hs : Hsh P s) : Hsh P (f <$> s) := Hsh.bind hs (fun _ => True.intro)
theorem hite {α : Type} {P : Program} {c : Prop} [Decidable c] {a b : Sem α} (ha : Hsh P a) (hb : Hsh P b) : Hsh P (if c then a else b) := by split <;> assumption
theorem hforL {α β : Type} {P : Program} {f : α → β → Sem (ForInStep β)} (h : ∀ a b, Hsh P (f a b)) : ∀ (l : List α) (b : β), Hsh P (forIn l b f)
  | [], b => by rw [List.forIn_nil]; exact hpure
  | a :: l, b => by
    rw [List.forIn_cons]
    refine hbind (h a b) (fun x => ?_)
    cases x with
    | done b => exact hpure
    | yield b => exact hforL h l b
theorem hforA {α β : Type} {P : Program} {f : α → β → Sem (ForInStep β)} {l : Array α} {b : β} (h : ∀ a b, Hsh P (f a b)) : Hsh P (forIn l b f) := by
  have := hforL h l.toList b
  rwa [Array.forIn_toList] at this
theorem hforR {β : Type} {P : Program} {f : Nat → β → Sem (ForInStep β)} {l : Std.Legacy.Range} {b : β} (h : ∀ a b, Hsh P (f a b)) : Hsh P (forIn l b f) := by
  rw [Std.Legacy.Range.forIn_eq_forIn_range']
  exact hforL h _ b
theorem hmapML {α β : Type} {P : Program} {f : α → Sem β} (h : ∀ a, Hsh P (f a)) : ∀ (l : List α), Hsh P (l.mapM f)
  | [] => by rw [List.mapM_nil]; exact hpure
  | a :: l => by rw [List.mapM_cons]; exact hbind (h a) (fun b => hbind (hmapML h l) (fun _ => hpure))
theorem hmapMA {α β : Type} {P : Program} {f : α → Sem β} {l : Array α} (h : ∀ a, Hsh P (f a)) : Hsh P (l.mapM f) := by
  rw [Array.mapM_eq_mapM_toList]
  exact hmap (hmapML h _)
theorem hfoldl {α β : Type} {P : Program} {f : β → α → Sem β} (h : ∀ b a, Hsh P (f b a)) : ∀ (l : List α) (b : β), Hsh P (l.foldlM f b)
  | [], b => by rw [List.foldlM_nil]; exact hpure
  | a :: l, b => by rw [List.foldlM_cons]; exact hbind (h b a) (fun b => hfoldl h l b)
theorem hhalt {α : Type} {P : Program} {s : String} : Hsh P (stuck s : Sem α) := True.intro
theorem huns {α : Type} {P : Program} {s : Unsupported} : Hsh P (unsupported s : Sem α) := True.intro
theorem hpan {α : Type} {P : Program} {s : Value} : Hsh P (goPanic s : Sem α) := True.intro
theorem hld {P : Program} {a : Addr} {m : Mode} : Hsh P (load a m) := fun _ => True.intro
theorem hst {P : Program} {a : Addr} {v : Value} {m : Mode} : Hsh P (store a v m) := True.intro
theorem hnew {P : Program} {o : Obj} : Hsh P (newObj o) := fun _ => True.intro
theorem hshp {P : Program} {r : Nat} : Hsh P (shape r) := fun _ => True.intro
theorem hfrz {P : Program} {a : Addr} {n : Nat} : Hsh P (freeze a n) := True.intro
theorem hfzn {P : Program} {a : Addr} : Hsh P (frozen a) := fun _ => True.intro
theorem hgo {P : Program} {r : Nat} : Hsh P (getObj r) := fun _ => True.intro
theorem hso {P : Program} {r : Nat} {o : Obj} : Hsh P (setObj r o) := True.intro
theorem hch {P : Program} {q : Question} : Hsh P (choose q) := fun _ => True.intro
theorem hpg {P : Program} : Hsh P program := True.intro
theorem hroom {P : Program} {b : Nat} : Hsh P (askRoom b) := by
  unfold askRoom
  split
  · exact ⟨rfl, True.intro⟩
  · exact True.intro
theorem h_viewAt {P : Program} {r : Nat} : Hsh P (viewAt r) := by
  unfold viewAt
  repeat' (first | exact True.intro | (intro _) | (refine hbind ?_ ?_) | (refine hite ?_ ?_) | exact hmap hch | exact hpure | exact hhalt | exact huns | exact hpan | exact hld | exact hst | exact hnew | exact hshp | exact hfrz | exact hfzn | exact hgo | exact hso | exact hch | exact hpg | exact hroom | (dsimp only) | split)
theorem h_numberAt {P : Program} {r : Nat} : Hsh P (numberAt r) := by
  unfold numberAt
  repeat' (first | exact True.intro | (intro _) | (refine hbind ?_ ?_) | (refine hite ?_ ?_) | exact hmap hch | exact hpure | exact hhalt | exact huns | exact hpan | exact hld | exact hst | exact hnew | exact hshp | exact hfrz | exact hfzn | exact hgo | exact hso | exact hch | exact hpg | exact hroom | exact h_viewAt | (dsimp only) | split)
theorem h_asNumber {P : Program} {a : Addr} {b : Bool} : Hsh P (asNumber a b) := by
  unfold asNumber
  repeat' (first | exact True.intro | (intro _) | (refine hbind ?_ ?_) | (refine hite ?_ ?_) | exact hmap hch | exact hpure | exact hhalt | exact huns | exact hpan | exact hld | exact hst | exact hnew | exact hshp | exact hfrz | exact hfzn | exact hgo | exact hso | exact hch | exact hpg | exact hroom | exact h_viewAt | exact h_numberAt | (dsimp only) | split)
theorem h_behind {P : Program} {a : Addr} : Hsh P (behindNumber a) := by
  unfold behindNumber
  repeat' (first | exact True.intro | (intro _) | (refine hbind ?_ ?_) | (refine hite ?_ ?_) | exact hmap hch | exact hpure | exact hhalt | exact huns | exact hpan | exact hld | exact hst | exact hnew | exact hshp | exact hfrz | exact hfzn | exact hgo | exact hso | exact hch | exact hpg | exact hroom | exact h_viewAt | exact h_numberAt | exact h_asNumber | (dsimp only) | split)
theorem h_noView {P : Program} {a : Addr} : Hsh P (noView a) := by
  unfold noView
  repeat' (first | exact True.intro | (intro _) | (refine hbind ?_ ?_) | (refine hite ?_ ?_) | exact hmap hch | exact hpure | exact hhalt | exact huns | exact hpan | exact hld | exact hst | exact hnew | exact hshp | exact hfrz | exact hfzn | exact hgo | exact hso | exact hch | exact hpg | exact hroom | exact h_viewAt | exact h_numberAt | exact h_asNumber | exact h_behind | (dsimp only) | split)
theorem h_markS {P : Program} {a : Addr} : Hsh P (markStringish a) := by
  unfold markStringish
  repeat' (first | exact True.intro | (intro _) | (refine hbind ?_ ?_) | (refine hite ?_ ?_) | exact hmap hch | exact hpure | exact hhalt | exact huns | exact hpan | exact hld | exact hst | exact hnew | exact hshp | exact hfrz | exact hfzn | exact hgo | exact hso | exact hch | exact hpg | exact hroom | exact h_viewAt | exact h_numberAt | exact h_asNumber | exact h_behind | exact h_noView | (dsimp only) | split)
theorem h_stringish {P : Program} {a : Addr} : Hsh P (stringish a) := by
  unfold stringish
  repeat' (first | exact True.intro | (intro _) | (refine hbind ?_ ?_) | (refine hite ?_ ?_) | exact hmap hch | exact hpure | exact hhalt | exact huns | exact hpan | exact hld | exact hst | exact hnew | exact hshp | exact hfrz | exact hfzn | exact hgo | exact hso | exact hch | exact hpg | exact hroom | exact h_viewAt | exact h_numberAt | exact h_asNumber | exact h_behind | exact h_noView | exact h_markS | (dsimp only) | split)
theorem h_mayBeOne {P : Program} {a b : Addr} : Hsh P (mayBeOne a b) := by
  unfold mayBeOne
  repeat' (first | exact True.intro | (intro _) | (refine hbind ?_ ?_) | (refine hite ?_ ?_) | exact hmap hch | exact hpure | exact hhalt | exact huns | exact hpan | exact hld | exact hst | exact hnew | exact hshp | exact hfrz | exact hfzn | exact hgo | exact hso | exact hch | exact hpg | exact hroom | exact h_viewAt | exact h_numberAt | exact h_asNumber | exact h_behind | exact h_noView | exact h_markS | exact h_stringish | (dsimp only) | split)
theorem h_sameAddr {P : Program} {a b : Addr} : Hsh P (sameAddr a b) := by
  unfold sameAddr
  repeat' (first | exact True.intro | (intro _) | (refine hbind ?_ ?_) | (refine hite ?_ ?_) | exact hmap hch | exact hpure | exact hhalt | exact huns | exact hpan | exact hld | exact hst | exact hnew | exact hshp | exact hfrz | exact hfzn | exact hgo | exact hso | exact hch | exact hpg | exact hroom | exact h_viewAt | exact h_numberAt | exact h_asNumber | exact h_behind | exact h_noView | exact h_markS | exact h_stringish | exact h_mayBeOne | (dsimp only) | split)
theorem h_sameP {P : Program} {a b : Option Addr} : Hsh P (samePointer a b) := by
  unfold samePointer
  repeat' (first | exact True.intro | (intro _) | (refine hbind ?_ ?_) | (refine hite ?_ ?_) | exact hmap hch | exact hpure | exact hhalt | exact huns | exact hpan | exact hld | exact hst | exact hnew | exact hshp | exact hfrz | exact hfzn | exact hgo | exact hso | exact hch | exact hpg | exact hroom | exact h_viewAt | exact h_numberAt | exact h_asNumber | exact h_behind | exact h_noView | exact h_markS | exact h_stringish | exact h_mayBeOne | exact h_sameAddr | (dsimp only) | split)
theorem h_typeInfo {P : Program} {t : TypeId} : Hsh P (typeInfo t) := by
  unfold typeInfo
  repeat' (first | exact True.intro | (intro _) | (refine hbind ?_ ?_) | (refine hite ?_ ?_) | exact hmap hch | exact hpure | exact hhalt | exact huns | exact hpan | exact hld | exact hst | exact hnew | exact hshp | exact hfrz | exact hfzn | exact hgo | exact hso | exact hch | exact hpg | exact hroom | exact h_viewAt | exact h_numberAt | exact h_asNumber | exact h_behind | exact h_noView | exact h_markS | exact h_stringish | exact h_mayBeOne | exact h_sameAddr | exact h_sameP | (dsimp only) | split)
theorem h_und {P : Program} {t : TypeId} : Hsh P (underlying t) := by
  unfold underlying
  repeat' (first | exact True.intro | (intro _) | (refine hbind ?_ ?_) | (refine hite ?_ ?_) | exact hmap hch | exact hpure | exact hhalt | exact huns | exact hpan | exact hld | exact hst | exact hnew | exact hshp | exact hfrz | exact hfzn | exact hgo | exact hso | exact hch | exact hpg | exact hroom | exact h_viewAt | exact h_numberAt | exact h_asNumber | exact h_behind | exact h_noView | exact h_markS | exact h_stringish | exact h_mayBeOne | exact h_sameAddr | exact h_sameP | exact h_typeInfo | (dsimp only) | split)
theorem h_typeStr {P : Program} {t : TypeId} : Hsh P (typeStr t) := by
  unfold typeStr
  repeat' (first | exact True.intro | (intro _) | (refine hbind ?_ ?_) | (refine hite ?_ ?_) | exact hmap hch | exact hpure | exact hhalt | exact huns | exact hpan | exact hld | exact hst | exact hnew | exact hshp | exact hfrz | exact hfzn | exact hgo | exact hso | exact hch | exact hpg | exact hroom | exact h_viewAt | exact h_numberAt | exact h_asNumber | exact h_behind | exact h_noView | exact h_markS | exact h_stringish | exact h_mayBeOne | exact h_sameAddr | exact h_sameP | exact h_typeInfo | exact h_und | (dsimp only) | split)
theorem h_zero {P : Program} {t : TypeId} : Hsh P (zeroValue t) := by
  unfold zeroValue
  repeat' (first | exact True.intro | (intro _) | (refine hbind ?_ ?_) | (refine hite ?_ ?_) | exact hmap hch | exact hpure | exact hhalt | exact huns | exact hpan | exact hld | exact hst | exact hnew | exact hshp | exact hfrz | exact hfzn | exact hgo | exact hso | exact hch | exact hpg | exact hroom | exact h_viewAt | exact h_numberAt | exact h_asNumber | exact h_behind | exact h_noView | exact h_markS | exact h_stringish | exact h_mayBeOne | exact h_sameAddr | exact h_sameP | exact h_typeInfo | exact h_und | exact h_typeStr | (dsimp only) | split)
theorem h_sizeOf {P : Program} {t : TypeId} : Hsh P (sizeOf t) := by
  unfold Go.sizeOf
  repeat' (first | exact True.intro | (intro _) | (refine hbind ?_ ?_) | (refine hite ?_ ?_) | exact hmap hch | exact hpure | exact hhalt | exact huns | exact hpan | exact hld | exact hst | exact hnew | exact hshp | exact hfrz | exact hfzn | exact hgo | exact hso | exact hch | exact hpg | exact hroom | exact h_viewAt | exact h_numberAt | exact h_asNumber | exact h_behind | exact h_noView | exact h_markS | exact h_stringish | exact h_mayBeOne | exact h_sameAddr | exact h_sameP | exact h_typeInfo | exact h_und | exact h_typeStr | exact h_zero | (dsimp only) | split)
theorem h_isAgg {P : Program} {t : TypeId} : Hsh P (isAgg t) := by
  unfold isAgg
  repeat' (first | exact True.intro | (intro _) | (refine hbind ?_ ?_) | (refine hite ?_ ?_) | exact hmap hch | exact hpure | exact hhalt | exact huns | exact hpan | exact hld | exact hst | exact hnew | exact hshp | exact hfrz | exact hfzn | exact hgo | exact hso | exact hch | exact hpg | exact hroom | exact h_viewAt | exact h_numberAt | exact h_asNumber | exact h_behind | exact h_noView | exact h_markS | exact h_stringish | exact h_mayBeOne | exact h_sameAddr | exact h_sameP | exact h_typeInfo | exact h_und | exact h_typeStr | exact h_zero | exact h_sizeOf | (dsimp only) | split)
theorem h_loadCellsFrom {P : Program} {a : Addr} : ∀ (n i : Nat) (acc : Array Value), Hsh P (loadCellsFrom a i n acc)
  | 0, i, acc => True.intro
  | n + 1, i, acc => by unfold loadCellsFrom; exact hbind hld (fun v => h_loadCellsFrom n (i + 1) _)
theorem h_loadCells {P : Program} {a : Addr} {n : Nat} : Hsh P (loadCells a n) := h_loadCellsFrom _ _ _
theorem h_storeCells' {P : Program} {a : Addr} : ∀ (vs : List Value) (i : Nat), Hsh P (storeCells a vs i)
  | [], i => True.intro
  | v :: vs, i => by unfold storeCells; exact hbind hst (fun _ => h_storeCells' vs (i + 1))
theorem h_storeCells {P : Program} {a : Addr} {vs : List Value} {i : Nat} : Hsh P (storeCells a vs i) := h_storeCells' _ _
theorem h_loadVar {P : Program} {t : TypeId} {a : Addr} : Hsh P (loadVar t a) := by
  unfold loadVar
  repeat' (first | exact True.intro | (intro _) | (refine hbind ?_ ?_) | (refine hite ?_ ?_) | exact hmap hch | exact hpure | exact hhalt | exact huns | exact hpan | exact hld | exact hst | exact hnew | exact hshp | exact hfrz | exact hfzn | exact hgo | exact hso | exact hch | exact hpg | exact hroom | exact h_viewAt | exact h_numberAt | exact h_asNumber | exact h_behind | exact h_noView | exact h_markS | exact h_stringish | exact h_mayBeOne | exact h_sameAddr | exact h_sameP | exact h_typeInfo | exact h_und | exact h_typeStr | exact h_zero | exact h_sizeOf | exact h_isAgg | exact h_loadCells | exact h_storeCells | (dsimp only) | split)
theorem h_storeVar {P : Program} {t : TypeId} {a : Addr} {v : Value} : Hsh P (storeVar t a v) := by
  unfold storeVar
  repeat' (first | exact True.intro | (intro _) | (refine hbind ?_ ?_) | (refine hite ?_ ?_) | exact hmap hch | exact hpure | exact hhalt | exact huns | exact hpan | exact hld | exact hst | exact hnew | exact hshp | exact hfrz | exact hfzn | exact hgo | exact hso | exact hch | exact hpg | exact hroom | exact h_viewAt | exact h_numberAt | exact h_asNumber | exact h_behind | exact h_noView | exact h_markS | exact h_stringish | exact h_mayBeOne | exact h_sameAddr | exact h_sameP | exact h_typeInfo | exact h_und | exact h_typeStr | exact h_zero | exact h_sizeOf | exact h_isAgg | exact h_loadCells | exact h_storeCells | exact h_loadVar | (dsimp only) | split)
theorem h_newRow {P : Program} {t : TypeId} {c : Array Value} : Hsh P (newRow t c) := by
  unfold newRow
  repeat' (first | exact True.intro | (intro _) | (refine hbind ?_ ?_) | (refine hite ?_ ?_) | exact hmap hch | exact hpure | exact hhalt | exact huns | exact hpan | exact hld | exact hst | exact hnew | exact hshp | exact hfrz | exact hfzn | exact hgo | exact hso | exact hch | exact hpg | exact hroom | exact h_viewAt | exact h_numberAt | exact h_asNumber | exact h_behind | exact h_noView | exact h_markS | exact h_stringish | exact h_mayBeOne | exact h_sameAddr | exact h_sameP | exact h_typeInfo | exact h_und | exact h_typeStr | exact h_zero | exact h_sizeOf | exact h_isAgg | exact h_loadCells | exact h_storeCells | exact h_loadVar | exact h_storeVar | (dsimp only) | split)
theorem h_newVar {P : Program} {t : TypeId} {v : Value} : Hsh P (newVar t v) := by
  unfold newVar
  repeat' (first | exact True.intro | (intro _) | (refine hbind ?_ ?_) | (refine hite ?_ ?_) | exact hmap hch | exact hpure | exact hhalt | exact huns | exact hpan | exact hld | exact hst | exact hnew | exact hshp | exact hfrz | exact hfzn | exact hgo | exact hso | exact hch | exact hpg | exact hroom | exact h_viewAt | exact h_numberAt | exact h_asNumber | exact h_behind | exact h_noView | exact h_markS | exact h_stringish | exact h_mayBeOne | exact h_sameAddr | exact h_sameP | exact h_typeInfo | exact h_und | exact h_typeStr | exact h_zero | exact h_sizeOf | exact h_isAgg | exact h_loadCells | exact h_storeCells | exact h_loadVar | exact h_storeVar | exact h_newRow | (dsimp only) | split)
theorem h_elemOf {P : Program} {t : TypeId} : Hsh P (elemOf t) := by
  unfold elemOf
  repeat' (first | exact True.intro | (intro _) | (refine hbind ?_ ?_) | (refine hite ?_ ?_) | exact hmap hch | exact hpure | exact hhalt | exact huns | exact hpan | exact hld | exact hst | exact hnew | exact hshp | exact hfrz | exact hfzn | exact hgo | exact hso | exact hch | exact hpg | exact hroom | exact h_viewAt | exact h_numberAt | exact h_asNumber | exact h_behind | exact h_noView | exact h_markS | exact h_stringish | exact h_mayBeOne | exact h_sameAddr | exact h_sameP | exact h_typeInfo | exact h_und | exact h_typeStr | exact h_zero | exact h_sizeOf | exact h_isAgg | exact h_loadCells | exact h_storeCells | exact h_loadVar | exact h_storeVar | exact h_newRow | exact h_newVar | (dsimp only) | split)
theorem h_part {P : Program} {t : TypeId} {c : Array Value} {o : Nat} : Hsh P (part t c o) := by
  unfold part
  repeat' (first | exact True.intro | (intro _) | (refine hbind ?_ ?_) | (refine hite ?_ ?_) | exact hmap hch | exact hpure | exact hhalt | exact huns | exact hpan | exact hld | exact hst | exact hnew | exact hshp | exact hfrz | exact hfzn | exact hgo | exact hso | exact hch | exact hpg | exact hroom | exact h_viewAt | exact h_numberAt | exact h_asNumber | exact h_behind | exact h_noView | exact h_markS | exact h_stringish | exact h_mayBeOne | exact h_sameAddr | exact h_sameP | exact h_typeInfo | exact h_und | exact h_typeStr | exact h_zero | exact h_sizeOf | exact h_isAgg | exact h_loadCells | exact h_storeCells | exact h_loadVar | exact h_storeVar | exact h_newRow | exact h_newVar | exact h_elemOf | (dsimp only) | split)
theorem h_rtp {P : Program} {α : Type} {e : RuntimeError} : Hsh P ((runtimePanic e : Sem α)) := by
  unfold runtimePanic
  repeat' (first | exact True.intro | (intro _) | (refine hbind ?_ ?_) | (refine hite ?_ ?_) | exact hmap hch | exact hpure | exact hhalt | exact huns | exact hpan | exact hld | exact hst | exact hnew | exact hshp | exact hfrz | exact hfzn | exact hgo | exact hso | exact hch | exact hpg | exact hroom | exact h_viewAt | exact h_numberAt | exact h_asNumber | exact h_behind | exact h_noView | exact h_markS | exact h_stringish | exact h_mayBeOne | exact h_sameAddr | exact h_sameP | exact h_typeInfo | exact h_und | exact h_typeStr | exact h_zero | exact h_sizeOf | exact h_isAgg | exact h_loadCells | exact h_storeCells | exact h_loadVar | exact h_storeVar | exact h_newRow | exact h_newVar | exact h_elemOf | exact h_part | (dsimp only) | split)
theorem h_bnd {P : Program} {α : Type} {k : IntKind} {x y : Int} {c : BoundsCode} : Hsh P ((boundsPanic k x y c : Sem α)) := by
  unfold boundsPanic
  repeat' (first | exact True.intro | (intro _) | (refine hbind ?_ ?_) | (refine hite ?_ ?_) | exact hmap hch | exact hpure | exact hhalt | exact huns | exact hpan | exact hld | exact hst | exact hnew | exact hshp | exact hfrz | exact hfzn | exact hgo | exact hso | exact hch | exact hpg | exact hroom | exact h_viewAt | exact h_numberAt | exact h_asNumber | exact h_behind | exact h_noView | exact h_markS | exact h_stringish | exact h_mayBeOne | exact h_sameAddr | exact h_sameP | exact h_typeInfo | exact h_und | exact h_typeStr | exact h_zero | exact h_sizeOf | exact h_isAgg | exact h_loadCells | exact h_storeCells | exact h_loadVar | exact h_storeVar | exact h_newRow | exact h_newVar | exact h_elemOf | exact h_part | exact h_rtp | (dsimp only) | split)
theorem h_asIntOf {P : Program} {v : Value} : Hsh P (asIntOf v) := by
  unfold asIntOf
  repeat' (first | exact True.intro | (intro _) | (refine hbind ?_ ?_) | (refine hite ?_ ?_) | exact hmap hch | exact hpure | exact hhalt | exact huns | exact hpan | exact hld | exact hst | exact hnew | exact hshp | exact hfrz | exact hfzn | exact hgo | exact hso | exact hch | exact hpg | exact hroom | exact h_viewAt | exact h_numberAt | exact h_asNumber | exact h_behind | exact h_noView | exact h_markS | exact h_stringish | exact h_mayBeOne | exact h_sameAddr | exact h_sameP | exact h_typeInfo | exact h_und | exact h_typeStr | exact h_zero | exact h_sizeOf | exact h_isAgg | exact h_loadCells | exact h_storeCells | exact h_loadVar | exact h_storeVar | exact h_newRow | exact h_newVar | exact h_elemOf | exact h_part | exact h_rtp | exact h_bnd | (dsimp only) | split)
theorem h_asInt {P : Program} {v : Value} : Hsh P (asInt v) := by
  unfold asInt
  repeat' (first | exact True.intro | (intro _) | (refine hbind ?_ ?_) | (refine hite ?_ ?_) | exact hmap hch | exact hpure | exact hhalt | exact huns | exact hpan | exact hld | exact hst | exact hnew | exact hshp | exact hfrz | exact hfzn | exact hgo | exact hso | exact hch | exact hpg | exact hroom | exact h_viewAt | exact h_numberAt | exact h_asNumber | exact h_behind | exact h_noView | exact h_markS | exact h_stringish | exact h_mayBeOne | exact h_sameAddr | exact h_sameP | exact h_typeInfo | exact h_und | exact h_typeStr | exact h_zero | exact h_sizeOf | exact h_isAgg | exact h_loadCells | exact h_storeCells | exact h_loadVar | exact h_storeVar | exact h_newRow | exact h_newVar | exact h_elemOf | exact h_part | exact h_rtp | exact h_bnd | exact h_asIntOf | (dsimp only) | split)
theorem h_asBool {P : Program} {v : Value} : Hsh P (asBool v) := by
  unfold asBool
  repeat' (first | exact True.intro | (intro _) | (refine hbind ?_ ?_) | (refine hite ?_ ?_) | exact hmap hch | exact hpure | exact hhalt | exact huns | exact hpan | exact hld | exact hst | exact hnew | exact hshp | exact hfrz | exact hfzn | exact hgo | exact hso | exact hch | exact hpg | exact hroom | exact h_viewAt | exact h_numberAt | exact h_asNumber | exact h_behind | exact h_noView | exact h_markS | exact h_stringish | exact h_mayBeOne | exact h_sameAddr | exact h_sameP | exact h_typeInfo | exact h_und | exact h_typeStr | exact h_zero | exact h_sizeOf | exact h_isAgg | exact h_loadCells | exact h_storeCells | exact h_loadVar | exact h_storeVar | exact h_newRow | exact h_newVar | exact h_elemOf | exact h_part | exact h_rtp | exact h_bnd | exact h_asIntOf | exact h_asInt | (dsimp only) | split)
theorem h_asString {P : Program} {v : Value} : Hsh P (asString v) := by
  unfold asString
  repeat' (first | exact True.intro | (intro _) | (refine hbind ?_ ?_) | (refine hite ?_ ?_) | exact hmap hch | exact hpure | exact hhalt | exact huns | exact hpan | exact hld | exact hst | exact hnew | exact hshp | exact hfrz | exact hfzn | exact hgo | exact hso | exact hch | exact hpg | exact hroom | exact h_viewAt | exact h_numberAt | exact h_asNumber | exact h_behind | exact h_noView | exact h_markS | exact h_stringish | exact h_mayBeOne | exact h_sameAddr | exact h_sameP | exact h_typeInfo | exact h_und | exact h_typeStr | exact h_zero | exact h_sizeOf | exact h_isAgg | exact h_loadCells | exact h_storeCells | exact h_loadVar | exact h_storeVar | exact h_newRow | exact h_newVar | exact h_elemOf | exact h_part | exact h_rtp | exact h_bnd | exact h_asIntOf | exact h_asInt | exact h_asBool | (dsimp only) | split)
theorem h_asAgg {P : Program} {v : Value} : Hsh P (asAgg v) := by
  unfold asAgg
  repeat' (first | exact True.intro | (intro _) | (refine hbind ?_ ?_) | (refine hite ?_ ?_) | exact hmap hch | exact hpure | exact hhalt | exact huns | exact hpan | exact hld | exact hst | exact hnew | exact hshp | exact hfrz | exact hfzn | exact hgo | exact hso | exact hch | exact hpg | exact hroom | exact h_viewAt | exact h_numberAt | exact h_asNumber | exact h_behind | exact h_noView | exact h_markS | exact h_stringish | exact h_mayBeOne | exact h_sameAddr | exact h_sameP | exact h_typeInfo | exact h_und | exact h_typeStr | exact h_zero | exact h_sizeOf | exact h_isAgg | exact h_loadCells | exact h_storeCells | exact h_loadVar | exact h_storeVar | exact h_newRow | exact h_newVar | exact h_elemOf | exact h_part | exact h_rtp | exact h_bnd | exact h_asIntOf | exact h_asInt | exact h_asBool | exact h_asString | (dsimp only) | split)
theorem h_asAddr {P : Program} {v : Value} : Hsh P (asAddr v) := by
  unfold asAddr
  repeat' (first | exact True.intro | (intro _) | (refine hbind ?_ ?_) | (refine hite ?_ ?_) | exact hmap hch | exact hpure | exact hhalt | exact huns | exact hpan | exact hld | exact hst | exact hnew | exact hshp | exact hfrz | exact hfzn | exact hgo | exact hso | exact hch | exact hpg | exact hroom | exact h_viewAt | exact h_numberAt | exact h_asNumber | exact h_behind | exact h_noView | exact h_markS | exact h_stringish | exact h_mayBeOne | exact h_sameAddr | exact h_sameP | exact h_typeInfo | exact h_und | exact h_typeStr | exact h_zero | exact h_sizeOf | exact h_isAgg | exact h_loadCells | exact h_storeCells | exact h_loadVar | exact h_storeVar | exact h_newRow | exact h_newVar | exact h_elemOf | exact h_part | exact h_rtp | exact h_bnd | exact h_asIntOf | exact h_asInt | exact h_asBool | exact h_asString | exact h_asAgg | (dsimp only) | split)
theorem h_holds {P : Program} {a : Addr} {n : Nat} : Hsh P (Builtin.holdsCells a n) := by
  unfold Builtin.holdsCells
  repeat' (first | exact True.intro | (intro _) | (refine hbind ?_ ?_) | (refine hite ?_ ?_) | exact hmap hch | exact hpure | exact hhalt | exact huns | exact hpan | exact hld | exact hst | exact hnew | exact hshp | exact hfrz | exact hfzn | exact hgo | exact hso | exact hch | exact hpg | exact hroom | exact h_viewAt | exact h_numberAt | exact h_asNumber | exact h_behind | exact h_noView | exact h_markS | exact h_stringish | exact h_mayBeOne | exact h_sameAddr | exact h_sameP | exact h_typeInfo | exact h_und | exact h_typeStr | exact h_zero | exact h_sizeOf | exact h_isAgg | exact h_loadCells | exact h_storeCells | exact h_loadVar | exact h_storeVar | exact h_newRow | exact h_newVar | exact h_elemOf | exact h_part | exact h_rtp | exact h_bnd | exact h_asIntOf | exact h_asInt | exact h_asBool | exact h_asString | exact h_asAgg | exact h_asAddr | (dsimp only) | split)
theorem h_mayShare {P : Program} {s l n : Nat} {b : Option Addr} {x : Value} : Hsh P (Builtin.mayShare s l n b x) := by
  unfold Builtin.mayShare
  repeat' (first | exact True.intro | (intro _) | (refine hbind ?_ ?_) | (refine hite ?_ ?_) | exact hmap hch | exact hpure | exact hhalt | exact huns | exact hpan | exact hld | exact hst | exact hnew | exact hshp | exact hfrz | exact hfzn | exact hgo | exact hso | exact hch | exact hpg | exact hroom | exact h_viewAt | exact h_numberAt | exact h_asNumber | exact h_behind | exact h_noView | exact h_markS | exact h_stringish | exact h_mayBeOne | exact h_sameAddr | exact h_sameP | exact h_typeInfo | exact h_und | exact h_typeStr | exact h_zero | exact h_sizeOf | exact h_isAgg | exact h_loadCells | exact h_storeCells | exact h_loadVar | exact h_storeVar | exact h_newRow | exact h_newVar | exact h_elemOf | exact h_part | exact h_rtp | exact h_bnd | exact h_asIntOf | exact h_asInt | exact h_asBool | exact h_asString | exact h_asAgg | exact h_asAddr | exact h_holds | (dsimp only) | split)
theorem h_lenOf {P : Program} {v : Value} : Hsh P (Builtin.lenOf v) := by
  unfold Builtin.lenOf
  repeat' (first | exact True.intro | (intro _) | (refine hbind ?_ ?_) | (refine hite ?_ ?_) | exact hmap hch | exact hpure | exact hhalt | exact huns | exact hpan | exact hld | exact hst | exact hnew | exact hshp | exact hfrz | exact hfzn | exact hgo | exact hso | exact hch | exact hpg | exact hroom | exact h_viewAt | exact h_numberAt | exact h_asNumber | exact h_behind | exact h_noView | exact h_markS | exact h_stringish | exact h_mayBeOne | exact h_sameAddr | exact h_sameP | exact h_typeInfo | exact h_und | exact h_typeStr | exact h_zero | exact h_sizeOf | exact h_isAgg | exact h_loadCells | exact h_storeCells | exact h_loadVar | exact h_storeVar | exact h_newRow | exact h_newVar | exact h_elemOf | exact h_part | exact h_rtp | exact h_bnd | exact h_asIntOf | exact h_asInt | exact h_asBool | exact h_asString | exact h_asAgg | exact h_asAddr | exact h_holds | exact h_mayShare | (dsimp only) | split)
theorem h_first {P : Program} {s n : Nat} {v : Value} : Hsh P (Builtin.firstCells s n v) := by
  unfold Builtin.firstCells
  repeat' (first | exact True.intro | (intro _) | (refine hbind ?_ ?_) | (refine hite ?_ ?_) | exact hmap hch | exact hpure | exact hhalt | exact huns | exact hpan | exact hld | exact hst | exact hnew | exact hshp | exact hfrz | exact hfzn | exact hgo | exact hso | exact hch | exact hpg | exact hroom | exact h_viewAt | exact h_numberAt | exact h_asNumber | exact h_behind | exact h_noView | exact h_markS | exact h_stringish | exact h_mayBeOne | exact h_sameAddr | exact h_sameP | exact h_typeInfo | exact h_und | exact h_typeStr | exact h_zero | exact h_sizeOf | exact h_isAgg | exact h_loadCells | exact h_storeCells | exact h_loadVar | exact h_storeVar | exact h_newRow | exact h_newVar | exact h_elemOf | exact h_part | exact h_rtp | exact h_bnd | exact h_asIntOf | exact h_asInt | exact h_asBool | exact h_asString | exact h_asAgg | exact h_asAddr | exact h_holds | exact h_mayShare | exact h_lenOf | (dsimp only) | split)
theorem h_noRoom {P : Program}  : Hsh P (mark .noRoom) := by
  exact ⟨rfl, True.intro⟩
theorem h_append {P : Program} {ts : Array TypeId} {t : TypeId} {vs : Array Value} : Hsh P (Builtin.append_ ts t vs) := by
  unfold Builtin.append_
  repeat' (first | exact True.intro | (intro _) | (refine hbind ?_ ?_) | (refine hite ?_ ?_) | exact hmap hch | exact hpure | exact hhalt | exact huns | exact hpan | exact hld | exact hst | exact hnew | exact hshp | exact hfrz | exact hfzn | exact hgo | exact hso | exact hch | exact hpg | exact hroom | exact h_viewAt | exact h_numberAt | exact h_asNumber | exact h_behind | exact h_noView | exact h_markS | exact h_stringish | exact h_mayBeOne | exact h_sameAddr | exact h_sameP | exact h_typeInfo | exact h_und | exact h_typeStr | exact h_zero | exact h_sizeOf | exact h_isAgg | exact h_loadCells | exact h_storeCells | exact h_loadVar | exact h_storeVar | exact h_newRow | exact h_newVar | exact h_elemOf | exact h_part | exact h_rtp | exact h_bnd | exact h_asIntOf | exact h_asInt | exact h_asBool | exact h_asString | exact h_asAgg | exact h_asAddr | exact h_holds | exact h_mayShare | exact h_lenOf | exact h_first | exact h_noRoom | (dsimp only) | split)
theorem h_copy {P : Program} {ts : Array TypeId} {t : TypeId} {vs : Array Value} : Hsh P (Builtin.copy_ ts t vs) := by
  unfold Builtin.copy_
  repeat' (first | exact True.intro | (intro _) | (refine hbind ?_ ?_) | (refine hite ?_ ?_) | exact hmap hch | exact hpure | exact hhalt | exact huns | exact hpan | exact hld | exact hst | exact hnew | exact hshp | exact hfrz | exact hfzn | exact hgo | exact hso | exact hch | exact hpg | exact hroom | exact h_viewAt | exact h_numberAt | exact h_asNumber | exact h_behind | exact h_noView | exact h_markS | exact h_stringish | exact h_mayBeOne | exact h_sameAddr | exact h_sameP | exact h_typeInfo | exact h_und | exact h_typeStr | exact h_zero | exact h_sizeOf | exact h_isAgg | exact h_loadCells | exact h_storeCells | exact h_loadVar | exact h_storeVar | exact h_newRow | exact h_newVar | exact h_elemOf | exact h_part | exact h_rtp | exact h_bnd | exact h_asIntOf | exact h_asInt | exact h_asBool | exact h_asString | exact h_asAgg | exact h_asAddr | exact h_holds | exact h_mayShare | exact h_lenOf | exact h_first | exact h_noRoom | exact h_append | (dsimp only) | split)
theorem h_len {P : Program} {ts : Array TypeId} {t : TypeId} {vs : Array Value} : Hsh P (Builtin.len_ ts t vs) := by
  unfold Builtin.len_
  repeat' (first | exact True.intro | (intro _) | (refine hbind ?_ ?_) | (refine hite ?_ ?_) | exact hmap hch | exact hpure | exact hhalt | exact huns | exact hpan | exact hld | exact hst | exact hnew | exact hshp | exact hfrz | exact hfzn | exact hgo | exact hso | exact hch | exact hpg | exact hroom | exact h_viewAt | exact h_numberAt | exact h_asNumber | exact h_behind | exact h_noView | exact h_markS | exact h_stringish | exact h_mayBeOne | exact h_sameAddr | exact h_sameP | exact h_typeInfo | exact h_und | exact h_typeStr | exact h_zero | exact h_sizeOf | exact h_isAgg | exact h_loadCells | exact h_storeCells | exact h_loadVar | exact h_storeVar | exact h_newRow | exact h_newVar | exact h_elemOf | exact h_part | exact h_rtp | exact h_bnd | exact h_asIntOf | exact h_asInt | exact h_asBool | exact h_asString | exact h_asAgg | exact h_asAddr | exact h_holds | exact h_mayShare | exact h_lenOf | exact h_first | exact h_noRoom | exact h_append | exact h_copy | (dsimp only) | split)
theorem h_stringOp {P : Program} {o : BinOp} {x y : ByteArray} : Hsh P (Op.stringOp o x y) := by
  unfold Op.stringOp
  repeat' (first | exact True.intro | (intro _) | (refine hbind ?_ ?_) | (refine hite ?_ ?_) | exact hmap hch | exact hpure | exact hhalt | exact huns | exact hpan | exact hld | exact hst | exact hnew | exact hshp | exact hfrz | exact hfzn | exact hgo | exact hso | exact hch | exact hpg | exact hroom | exact h_viewAt | exact h_numberAt | exact h_asNumber | exact h_behind | exact h_noView | exact h_markS | exact h_stringish | exact h_mayBeOne | exact h_sameAddr | exact h_sameP | exact h_typeInfo | exact h_und | exact h_typeStr | exact h_zero | exact h_sizeOf | exact h_isAgg | exact h_loadCells | exact h_storeCells | exact h_loadVar | exact h_storeVar | exact h_newRow | exact h_newVar | exact h_elemOf | exact h_part | exact h_rtp | exact h_bnd | exact h_asIntOf | exact h_asInt | exact h_asBool | exact h_asString | exact h_asAgg | exact h_asAddr | exact h_holds | exact h_mayShare | exact h_lenOf | exact h_first | exact h_noRoom | exact h_append | exact h_copy | exact h_len | (dsimp only) | split)
theorem h_max2 {P : Program} {x y : Value} : Hsh P (Builtin.max2 x y) := by
  unfold Builtin.max2
  repeat' (first | exact True.intro | (intro _) | (refine hbind ?_ ?_) | (refine hite ?_ ?_) | exact hmap hch | exact hpure | exact hhalt | exact huns | exact hpan | exact hld | exact hst | exact hnew | exact hshp | exact hfrz | exact hfzn | exact hgo | exact hso | exact hch | exact hpg | exact hroom | exact h_viewAt | exact h_numberAt | exact h_asNumber | exact h_behind | exact h_noView | exact h_markS | exact h_stringish | exact h_mayBeOne | exact h_sameAddr | exact h_sameP | exact h_typeInfo | exact h_und | exact h_typeStr | exact h_zero | exact h_sizeOf | exact h_isAgg | exact h_loadCells | exact h_storeCells | exact h_loadVar | exact h_storeVar | exact h_newRow | exact h_newVar | exact h_elemOf | exact h_part | exact h_rtp | exact h_bnd | exact h_asIntOf | exact h_asInt | exact h_asBool | exact h_asString | exact h_asAgg | exact h_asAddr | exact h_holds | exact h_mayShare | exact h_lenOf | exact h_first | exact h_noRoom | exact h_append | exact h_copy | exact h_len | exact h_stringOp | (dsimp only) | split)
theorem h_max {P : Program} {ts : Array TypeId} {t : TypeId} {vs : Array Value} : Hsh P (Builtin.max_ ts t vs) := by
  unfold Builtin.max_
  split
  · exact hhalt
  · exact hfoldl (fun _ _ => h_max2) _ _
theorem h_intArith {P : Program} {o : BinOp} {k : IntKind} {x y : Int} : Hsh P (Op.intArith o k x y) := by
  unfold Op.intArith
  repeat' (first | exact True.intro | (intro _) | (refine hbind ?_ ?_) | (refine hite ?_ ?_) | exact hmap hch | exact hpure | exact hhalt | exact huns | exact hpan | exact hld | exact hst | exact hnew | exact hshp | exact hfrz | exact hfzn | exact hgo | exact hso | exact hch | exact hpg | exact hroom | exact h_viewAt | exact h_numberAt | exact h_asNumber | exact h_behind | exact h_noView | exact h_markS | exact h_stringish | exact h_mayBeOne | exact h_sameAddr | exact h_sameP | exact h_typeInfo | exact h_und | exact h_typeStr | exact h_zero | exact h_sizeOf | exact h_isAgg | exact h_loadCells | exact h_storeCells | exact h_loadVar | exact h_storeVar | exact h_newRow | exact h_newVar | exact h_elemOf | exact h_part | exact h_rtp | exact h_bnd | exact h_asIntOf | exact h_asInt | exact h_asBool | exact h_asString | exact h_asAgg | exact h_asAddr | exact h_holds | exact h_mayShare | exact h_lenOf | exact h_first | exact h_noRoom | exact h_append | exact h_copy | exact h_len | exact h_stringOp | exact h_max2 | exact h_max | (dsimp only) | split)
theorem h_intDiv {P : Program} {o : BinOp} {k : IntKind} {x y : Int} : Hsh P (Op.intDiv o k x y) := by
  unfold Op.intDiv
  repeat' (first | exact True.intro | (intro _) | (refine hbind ?_ ?_) | (refine hite ?_ ?_) | exact hmap hch | exact hpure | exact hhalt | exact huns | exact hpan | exact hld | exact hst | exact hnew | exact hshp | exact hfrz | exact hfzn | exact hgo | exact hso | exact hch | exact hpg | exact hroom | exact h_viewAt | exact h_numberAt | exact h_asNumber | exact h_behind | exact h_noView | exact h_markS | exact h_stringish | exact h_mayBeOne | exact h_sameAddr | exact h_sameP | exact h_typeInfo | exact h_und | exact h_typeStr | exact h_zero | exact h_sizeOf | exact h_isAgg | exact h_loadCells | exact h_storeCells | exact h_loadVar | exact h_storeVar | exact h_newRow | exact h_newVar | exact h_elemOf | exact h_part | exact h_rtp | exact h_bnd | exact h_asIntOf | exact h_asInt | exact h_asBool | exact h_asString | exact h_asAgg | exact h_asAddr | exact h_holds | exact h_mayShare | exact h_lenOf | exact h_first | exact h_noRoom | exact h_append | exact h_copy | exact h_len | exact h_stringOp | exact h_max2 | exact h_max | exact h_intArith | (dsimp only) | split)
theorem h_intBits {P : Program} {o : BinOp} {k : IntKind} {x y : Int} : Hsh P (Op.intBits o k x y) := by
  unfold Op.intBits
  repeat' (first | exact True.intro | (intro _) | (refine hbind ?_ ?_) | (refine hite ?_ ?_) | exact hmap hch | exact hpure | exact hhalt | exact huns | exact hpan | exact hld | exact hst | exact hnew | exact hshp | exact hfrz | exact hfzn | exact hgo | exact hso | exact hch | exact hpg | exact hroom | exact h_viewAt | exact h_numberAt | exact h_asNumber | exact h_behind | exact h_noView | exact h_markS | exact h_stringish | exact h_mayBeOne | exact h_sameAddr | exact h_sameP | exact h_typeInfo | exact h_und | exact h_typeStr | exact h_zero | exact h_sizeOf | exact h_isAgg | exact h_loadCells | exact h_storeCells | exact h_loadVar | exact h_storeVar | exact h_newRow | exact h_newVar | exact h_elemOf | exact h_part | exact h_rtp | exact h_bnd | exact h_asIntOf | exact h_asInt | exact h_asBool | exact h_asString | exact h_asAgg | exact h_asAddr | exact h_holds | exact h_mayShare | exact h_lenOf | exact h_first | exact h_noRoom | exact h_append | exact h_copy | exact h_len | exact h_stringOp | exact h_max2 | exact h_max | exact h_intArith | exact h_intDiv | (dsimp only) | split)
theorem h_intCmp {P : Program} {o : BinOp} {x y : Int} : Hsh P (Op.intCmp o x y) := by
  unfold Op.intCmp
  repeat' (first | exact True.intro | (intro _) | (refine hbind ?_ ?_) | (refine hite ?_ ?_) | exact hmap hch | exact hpure | exact hhalt | exact huns | exact hpan | exact hld | exact hst | exact hnew | exact hshp | exact hfrz | exact hfzn | exact hgo | exact hso | exact hch | exact hpg | exact hroom | exact h_viewAt | exact h_numberAt | exact h_asNumber | exact h_behind | exact h_noView | exact h_markS | exact h_stringish | exact h_mayBeOne | exact h_sameAddr | exact h_sameP | exact h_typeInfo | exact h_und | exact h_typeStr | exact h_zero | exact h_sizeOf | exact h_isAgg | exact h_loadCells | exact h_storeCells | exact h_loadVar | exact h_storeVar | exact h_newRow | exact h_newVar | exact h_elemOf | exact h_part | exact h_rtp | exact h_bnd | exact h_asIntOf | exact h_asInt | exact h_asBool | exact h_asString | exact h_asAgg | exact h_asAddr | exact h_holds | exact h_mayShare | exact h_lenOf | exact h_first | exact h_noRoom | exact h_append | exact h_copy | exact h_len | exact h_stringOp | exact h_max2 | exact h_max | exact h_intArith | exact h_intDiv | exact h_intBits | (dsimp only) | split)
theorem h_shift {P : Program} {o : BinOp} {k k' : IntKind} {x y : Int} : Hsh P (Op.shift o k x k' y) := by
  unfold Op.shift
  repeat' (first | exact True.intro | (intro _) | (refine hbind ?_ ?_) | (refine hite ?_ ?_) | exact hmap hch | exact hpure | exact hhalt | exact huns | exact hpan | exact hld | exact hst | exact hnew | exact hshp | exact hfrz | exact hfzn | exact hgo | exact hso | exact hch | exact hpg | exact hroom | exact h_viewAt | exact h_numberAt | exact h_asNumber | exact h_behind | exact h_noView | exact h_markS | exact h_stringish | exact h_mayBeOne | exact h_sameAddr | exact h_sameP | exact h_typeInfo | exact h_und | exact h_typeStr | exact h_zero | exact h_sizeOf | exact h_isAgg | exact h_loadCells | exact h_storeCells | exact h_loadVar | exact h_storeVar | exact h_newRow | exact h_newVar | exact h_elemOf | exact h_part | exact h_rtp | exact h_bnd | exact h_asIntOf | exact h_asInt | exact h_asBool | exact h_asString | exact h_asAgg | exact h_asAddr | exact h_holds | exact h_mayShare | exact h_lenOf | exact h_first | exact h_noRoom | exact h_append | exact h_copy | exact h_len | exact h_stringOp | exact h_max2 | exact h_max | exact h_intArith | exact h_intDiv | exact h_intBits | exact h_intCmp | (dsimp only) | split)
theorem h_floatArith {P : Program} {o : BinOp} {k : FloatKind} {x y : Nat} : Hsh P (Op.floatArith o k x y) := by
  unfold Op.floatArith
  repeat' (first | exact True.intro | (intro _) | (refine hbind ?_ ?_) | (refine hite ?_ ?_) | exact hmap hch | exact hpure | exact hhalt | exact huns | exact hpan | exact hld | exact hst | exact hnew | exact hshp | exact hfrz | exact hfzn | exact hgo | exact hso | exact hch | exact hpg | exact hroom | exact h_viewAt | exact h_numberAt | exact h_asNumber | exact h_behind | exact h_noView | exact h_markS | exact h_stringish | exact h_mayBeOne | exact h_sameAddr | exact h_sameP | exact h_typeInfo | exact h_und | exact h_typeStr | exact h_zero | exact h_sizeOf | exact h_isAgg | exact h_loadCells | exact h_storeCells | exact h_loadVar | exact h_storeVar | exact h_newRow | exact h_newVar | exact h_elemOf | exact h_part | exact h_rtp | exact h_bnd | exact h_asIntOf | exact h_asInt | exact h_asBool | exact h_asString | exact h_asAgg | exact h_asAddr | exact h_holds | exact h_mayShare | exact h_lenOf | exact h_first | exact h_noRoom | exact h_append | exact h_copy | exact h_len | exact h_stringOp | exact h_max2 | exact h_max | exact h_intArith | exact h_intDiv | exact h_intBits | exact h_intCmp | exact h_shift | (dsimp only) | split)
theorem h_floatCmp {P : Program} {o : BinOp} {k : FloatKind} {x y : Nat} : Hsh P (Op.floatCmp o k x y) := by
  unfold Op.floatCmp
  repeat' (first | exact True.intro | (intro _) | (refine hbind ?_ ?_) | (refine hite ?_ ?_) | exact hmap hch | exact hpure | exact hhalt | exact huns | exact hpan | exact hld | exact hst | exact hnew | exact hshp | exact hfrz | exact hfzn | exact hgo | exact hso | exact hch | exact hpg | exact hroom | exact h_viewAt | exact h_numberAt | exact h_asNumber | exact h_behind | exact h_noView | exact h_markS | exact h_stringish | exact h_mayBeOne | exact h_sameAddr | exact h_sameP | exact h_typeInfo | exact h_und | exact h_typeStr | exact h_zero | exact h_sizeOf | exact h_isAgg | exact h_loadCells | exact h_storeCells | exact h_loadVar | exact h_storeVar | exact h_newRow | exact h_newVar | exact h_elemOf | exact h_part | exact h_rtp | exact h_bnd | exact h_asIntOf | exact h_asInt | exact h_asBool | exact h_asString | exact h_asAgg | exact h_asAddr | exact h_holds | exact h_mayShare | exact h_lenOf | exact h_first | exact h_noRoom | exact h_append | exact h_copy | exact h_len | exact h_stringOp | exact h_max2 | exact h_max | exact h_intArith | exact h_intDiv | exact h_intBits | exact h_intCmp | exact h_shift | exact h_floatArith | (dsimp only) | split)
theorem h_f2f {P : Program} {k k' : FloatKind} {x : Nat} : Hsh P (Conv.floatToFloat k x k') := by
  unfold Conv.floatToFloat
  repeat' (first | exact True.intro | (intro _) | (refine hbind ?_ ?_) | (refine hite ?_ ?_) | exact hmap hch | exact hpure | exact hhalt | exact huns | exact hpan | exact hld | exact hst | exact hnew | exact hshp | exact hfrz | exact hfzn | exact hgo | exact hso | exact hch | exact hpg | exact hroom | exact h_viewAt | exact h_numberAt | exact h_asNumber | exact h_behind | exact h_noView | exact h_markS | exact h_stringish | exact h_mayBeOne | exact h_sameAddr | exact h_sameP | exact h_typeInfo | exact h_und | exact h_typeStr | exact h_zero | exact h_sizeOf | exact h_isAgg | exact h_loadCells | exact h_storeCells | exact h_loadVar | exact h_storeVar | exact h_newRow | exact h_newVar | exact h_elemOf | exact h_part | exact h_rtp | exact h_bnd | exact h_asIntOf | exact h_asInt | exact h_asBool | exact h_asString | exact h_asAgg | exact h_asAddr | exact h_holds | exact h_mayShare | exact h_lenOf | exact h_first | exact h_noRoom | exact h_append | exact h_copy | exact h_len | exact h_stringOp | exact h_max2 | exact h_max | exact h_intArith | exact h_intDiv | exact h_intBits | exact h_intCmp | exact h_shift | exact h_floatArith | exact h_floatCmp | (dsimp only) | split)
end Go.Proofs.Ytlbkhiphnllfpac
namespace Go.Proofs.Ytlbkhiphnllfpac
open Go.Conc
set_option linter.unusedVariables false
set_option maxRecDepth 100000
set_option maxHeartbeats 1000000
theorem h_conv {P : Program} {k k' : FloatKind} {x : Nat} : Hsh P (Op.Complex.conv k x k') := by
  unfold Op.Complex.conv
  repeat' (first | (with_reducible refine hbind ?_ ?_) | (with_reducible refine hite ?_ ?_) | with_reducible exact hpure | with_reducible exact hhalt | with_reducible exact huns | with_reducible exact hpan | with_reducible exact hld | with_reducible exact hst | with_reducible exact hnew | with_reducible exact hshp | with_reducible exact hfrz | with_reducible exact hfzn | with_reducible exact hgo | with_reducible exact hso | with_reducible exact hch | with_reducible exact hpg | with_reducible exact hroom | with_reducible exact h_und | with_reducible exact h_typeInfo | with_reducible exact h_sizeOf | with_reducible exact h_zero | with_reducible exact h_asInt | with_reducible exact h_asIntOf | with_reducible exact h_asBool | with_reducible exact h_asAddr | with_reducible exact h_part | with_reducible exact h_newRow | with_reducible exact h_newVar | with_reducible exact h_rtp | with_reducible exact h_bnd | with_reducible exact h_isAgg | with_reducible exact h_f2f | (intro _) | (dsimp only) | split)
theorem h_carith {P : Program} {o : BinOp} {k : FloatKind} {x y : Nat} : Hsh P (Op.Complex.arith o k x y) := by
  unfold Op.Complex.arith
  repeat' (first | (with_reducible refine hbind ?_ ?_) | (with_reducible refine hite ?_ ?_) | with_reducible exact hpure | with_reducible exact hhalt | with_reducible exact huns | with_reducible exact hpan | with_reducible exact hld | with_reducible exact hst | with_reducible exact hnew | with_reducible exact hshp | with_reducible exact hfrz | with_reducible exact hfzn | with_reducible exact hgo | with_reducible exact hso | with_reducible exact hch | with_reducible exact hpg | with_reducible exact hroom | with_reducible exact h_und | with_reducible exact h_typeInfo | with_reducible exact h_sizeOf | with_reducible exact h_zero | with_reducible exact h_asInt | with_reducible exact h_asIntOf | with_reducible exact h_asBool | with_reducible exact h_asAddr | with_reducible exact h_part | with_reducible exact h_newRow | with_reducible exact h_newVar | with_reducible exact h_rtp | with_reducible exact h_bnd | with_reducible exact h_isAgg | with_reducible exact h_floatArith | (intro _) | (dsimp only) | split)
theorem h_ccmp {P : Program} {o : BinOp} {k : FloatKind} {x y : Nat} : Hsh P (Op.Complex.cmp o k x y) := by
  unfold Op.Complex.cmp
  repeat' (first | (with_reducible refine hbind ?_ ?_) | (with_reducible refine hite ?_ ?_) | with_reducible exact hpure | with_reducible exact hhalt | with_reducible exact huns | with_reducible exact hpan | with_reducible exact hld | with_reducible exact hst | with_reducible exact hnew | with_reducible exact hshp | with_reducible exact hfrz | with_reducible exact hfzn | with_reducible exact hgo | with_reducible exact hso | with_reducible exact hch | with_reducible exact hpg | with_reducible exact hroom | with_reducible exact h_und | with_reducible exact h_typeInfo | with_reducible exact h_sizeOf | with_reducible exact h_zero | with_reducible exact h_asInt | with_reducible exact h_asIntOf | with_reducible exact h_asBool | with_reducible exact h_asAddr | with_reducible exact h_part | with_reducible exact h_newRow | with_reducible exact h_newVar | with_reducible exact h_rtp | with_reducible exact h_bnd | with_reducible exact h_isAgg | with_reducible exact h_floatCmp | (intro _) | (dsimp only) | split)
theorem h_cadd {P : Program} {x y : Nat} : Hsh P (Op.Complex.add x y) := by
  exact h_carith
theorem h_csub {P : Program} {x y : Nat} : Hsh P (Op.Complex.sub x y) := by
  exact h_carith
theorem h_cmul {P : Program} {x y : Nat} : Hsh P (Op.Complex.mul x y) := by
  exact h_carith
theorem h_cquo {P : Program} {x y : Nat} : Hsh P (Op.Complex.quo x y) := by
  exact h_carith
theorem h_product {P : Program} {a b c d : Nat} : Hsh P (Op.Complex.product a b c d) := by
  unfold Op.Complex.product
  repeat' (first | (with_reducible refine hbind ?_ ?_) | (with_reducible refine hite ?_ ?_) | with_reducible exact hpure | with_reducible exact hhalt | with_reducible exact huns | with_reducible exact hpan | with_reducible exact hld | with_reducible exact hst | with_reducible exact hnew | with_reducible exact hshp | with_reducible exact hfrz | with_reducible exact hfzn | with_reducible exact hgo | with_reducible exact hso | with_reducible exact hch | with_reducible exact hpg | with_reducible exact hroom | with_reducible exact h_und | with_reducible exact h_typeInfo | with_reducible exact h_sizeOf | with_reducible exact h_zero | with_reducible exact h_asInt | with_reducible exact h_asIntOf | with_reducible exact h_asBool | with_reducible exact h_asAddr | with_reducible exact h_part | with_reducible exact h_newRow | with_reducible exact h_newVar | with_reducible exact h_rtp | with_reducible exact h_bnd | with_reducible exact h_isAgg | with_reducible exact h_cadd | with_reducible exact h_csub | with_reducible exact h_cmul | with_reducible exact h_cquo | with_reducible exact h_ccmp | with_reducible exact h_conv | with_reducible exact h_carith | (intro _) | (dsimp only) | split)
theorem h_corrected {P : Program} {s a b c d : Nat} : Hsh P (Op.Complex.corrected s a b c d) := by
  unfold Op.Complex.corrected
  repeat' (first | (with_reducible refine hbind ?_ ?_) | (with_reducible refine hite ?_ ?_) | with_reducible exact hpure | with_reducible exact hhalt | with_reducible exact huns | with_reducible exact hpan | with_reducible exact hld | with_reducible exact hst | with_reducible exact hnew | with_reducible exact hshp | with_reducible exact hfrz | with_reducible exact hfzn | with_reducible exact hgo | with_reducible exact hso | with_reducible exact hch | with_reducible exact hpg | with_reducible exact hroom | with_reducible exact h_und | with_reducible exact h_typeInfo | with_reducible exact h_sizeOf | with_reducible exact h_zero | with_reducible exact h_asInt | with_reducible exact h_asIntOf | with_reducible exact h_asBool | with_reducible exact h_asAddr | with_reducible exact h_part | with_reducible exact h_newRow | with_reducible exact h_newVar | with_reducible exact h_rtp | with_reducible exact h_bnd | with_reducible exact h_isAgg | with_reducible exact h_cadd | with_reducible exact h_csub | with_reducible exact h_cmul | with_reducible exact h_cquo | with_reducible exact h_ccmp | with_reducible exact h_conv | with_reducible exact h_carith | (intro _) | (dsimp only) | split)
theorem h_quotient {P : Program} {a b c d : Nat} : Hsh P (Op.Complex.quotient a b c d) := by
  unfold Op.Complex.quotient
  repeat' (first | (with_reducible refine hbind ?_ ?_) | (with_reducible refine hite ?_ ?_) | with_reducible exact hpure | with_reducible exact hhalt | with_reducible exact huns | with_reducible exact hpan | with_reducible exact hld | with_reducible exact hst | with_reducible exact hnew | with_reducible exact hshp | with_reducible exact hfrz | with_reducible exact hfzn | with_reducible exact hgo | with_reducible exact hso | with_reducible exact hch | with_reducible exact hpg | with_reducible exact hroom | with_reducible exact h_und | with_reducible exact h_typeInfo | with_reducible exact h_sizeOf | with_reducible exact h_zero | with_reducible exact h_asInt | with_reducible exact h_asIntOf | with_reducible exact h_asBool | with_reducible exact h_asAddr | with_reducible exact h_part | with_reducible exact h_newRow | with_reducible exact h_newVar | with_reducible exact h_rtp | with_reducible exact h_bnd | with_reducible exact h_isAgg | with_reducible exact h_cadd | with_reducible exact h_csub | with_reducible exact h_cmul | with_reducible exact h_cquo | with_reducible exact h_ccmp | with_reducible exact h_conv | with_reducible exact h_carith | with_reducible exact h_corrected | (intro _) | (dsimp only) | split)
theorem h_complexOp {P : Program} {o : BinOp} {k : FloatKind} {a b c d : Nat} : Hsh P (Op.complexOp o k a b c d) := by
  unfold Op.complexOp
  repeat' (first | (with_reducible refine hbind ?_ ?_) | (with_reducible refine hite ?_ ?_) | with_reducible exact hpure | with_reducible exact hhalt | with_reducible exact huns | with_reducible exact hpan | with_reducible exact hld | with_reducible exact hst | with_reducible exact hnew | with_reducible exact hshp | with_reducible exact hfrz | with_reducible exact hfzn | with_reducible exact hgo | with_reducible exact hso | with_reducible exact hch | with_reducible exact hpg | with_reducible exact hroom | with_reducible exact h_und | with_reducible exact h_typeInfo | with_reducible exact h_sizeOf | with_reducible exact h_zero | with_reducible exact h_asInt | with_reducible exact h_asIntOf | with_reducible exact h_asBool | with_reducible exact h_asAddr | with_reducible exact h_part | with_reducible exact h_newRow | with_reducible exact h_newVar | with_reducible exact h_rtp | with_reducible exact h_bnd | with_reducible exact h_isAgg | with_reducible exact h_cadd | with_reducible exact h_csub | with_reducible exact h_cmul | with_reducible exact h_cquo | with_reducible exact h_ccmp | with_reducible exact h_conv | with_reducible exact h_carith | with_reducible exact h_product | with_reducible exact h_quotient | (intro _) | (dsimp only) | split)
theorem h_byteOf {P : Program} {a : Addr} : Hsh P (byteOf a) := by
  unfold byteOf
  repeat' (first | (with_reducible refine hbind ?_ ?_) | (with_reducible refine hite ?_ ?_) | with_reducible exact hpure | with_reducible exact hhalt | with_reducible exact huns | with_reducible exact hpan | with_reducible exact hld | with_reducible exact hst | with_reducible exact hnew | with_reducible exact hshp | with_reducible exact hfrz | with_reducible exact hfzn | with_reducible exact hgo | with_reducible exact hso | with_reducible exact hch | with_reducible exact hpg | with_reducible exact hroom | with_reducible exact h_und | with_reducible exact h_typeInfo | with_reducible exact h_sizeOf | with_reducible exact h_zero | with_reducible exact h_asInt | with_reducible exact h_asIntOf | with_reducible exact h_asBool | with_reducible exact h_asAddr | with_reducible exact h_part | with_reducible exact h_newRow | with_reducible exact h_newVar | with_reducible exact h_rtp | with_reducible exact h_bnd | with_reducible exact h_isAgg | with_reducible exact h_noView | (intro _) | (dsimp only) | split)
theorem h_two {P : Program} {a b : Addr} : Hsh P (Op.twoPlaces a b) := by
  unfold Op.twoPlaces
  repeat' (first | (with_reducible refine hbind ?_ ?_) | (with_reducible refine hite ?_ ?_) | with_reducible exact hpure | with_reducible exact hhalt | with_reducible exact huns | with_reducible exact hpan | with_reducible exact hld | with_reducible exact hst | with_reducible exact hnew | with_reducible exact hshp | with_reducible exact hfrz | with_reducible exact hfzn | with_reducible exact hgo | with_reducible exact hso | with_reducible exact hch | with_reducible exact hpg | with_reducible exact hroom | with_reducible exact h_und | with_reducible exact h_typeInfo | with_reducible exact h_sizeOf | with_reducible exact h_zero | with_reducible exact h_asInt | with_reducible exact h_asIntOf | with_reducible exact h_asBool | with_reducible exact h_asAddr | with_reducible exact h_part | with_reducible exact h_newRow | with_reducible exact h_newVar | with_reducible exact h_rtp | with_reducible exact h_bnd | with_reducible exact h_isAgg | with_reducible exact h_byteOf | (intro _) | (dsimp only) | split)
theorem h_addrSub {P : Program} {k : IntKind} {a b : Addr} : Hsh P (Op.addrSub k a b) := by
  unfold Op.addrSub
  repeat' (first | (with_reducible refine hbind ?_ ?_) | (with_reducible refine hite ?_ ?_) | with_reducible exact hpure | with_reducible exact hhalt | with_reducible exact huns | with_reducible exact hpan | with_reducible exact hld | with_reducible exact hst | with_reducible exact hnew | with_reducible exact hshp | with_reducible exact hfrz | with_reducible exact hfzn | with_reducible exact hgo | with_reducible exact hso | with_reducible exact hch | with_reducible exact hpg | with_reducible exact hroom | with_reducible exact h_und | with_reducible exact h_typeInfo | with_reducible exact h_sizeOf | with_reducible exact h_zero | with_reducible exact h_asInt | with_reducible exact h_asIntOf | with_reducible exact h_asBool | with_reducible exact h_asAddr | with_reducible exact h_part | with_reducible exact h_newRow | with_reducible exact h_newVar | with_reducible exact h_rtp | with_reducible exact h_bnd | with_reducible exact h_isAgg | with_reducible exact h_two | (intro _) | (dsimp only) | split)
theorem h_addrCmp {P : Program} {o : BinOp} {a b : Addr} : Hsh P (Op.addrCmp o a b) := by
  unfold Op.addrCmp
  repeat' (first | (with_reducible refine hbind ?_ ?_) | (with_reducible refine hite ?_ ?_) | with_reducible exact hpure | with_reducible exact hhalt | with_reducible exact huns | with_reducible exact hpan | with_reducible exact hld | with_reducible exact hst | with_reducible exact hnew | with_reducible exact hshp | with_reducible exact hfrz | with_reducible exact hfzn | with_reducible exact hgo | with_reducible exact hso | with_reducible exact hch | with_reducible exact hpg | with_reducible exact hroom | with_reducible exact h_und | with_reducible exact h_typeInfo | with_reducible exact h_sizeOf | with_reducible exact h_zero | with_reducible exact h_asInt | with_reducible exact h_asIntOf | with_reducible exact h_asBool | with_reducible exact h_asAddr | with_reducible exact h_part | with_reducible exact h_newRow | with_reducible exact h_newVar | with_reducible exact h_rtp | with_reducible exact h_bnd | with_reducible exact h_isAgg | with_reducible exact h_two | (intro _) | (dsimp only) | split)
theorem h_addrMod {P : Program} {k : IntKind} {a : Addr} {n : Int} : Hsh P (Op.addrMod k a n) := by
  unfold Op.addrMod
  repeat' (first | (with_reducible refine hbind ?_ ?_) | (with_reducible refine hite ?_ ?_) | with_reducible exact hpure | with_reducible exact hhalt | with_reducible exact huns | with_reducible exact hpan | with_reducible exact hld | with_reducible exact hst | with_reducible exact hnew | with_reducible exact hshp | with_reducible exact hfrz | with_reducible exact hfzn | with_reducible exact hgo | with_reducible exact hso | with_reducible exact hch | with_reducible exact hpg | with_reducible exact hroom | with_reducible exact h_und | with_reducible exact h_typeInfo | with_reducible exact h_sizeOf | with_reducible exact h_zero | with_reducible exact h_asInt | with_reducible exact h_asIntOf | with_reducible exact h_asBool | with_reducible exact h_asAddr | with_reducible exact h_part | with_reducible exact h_newRow | with_reducible exact h_newVar | with_reducible exact h_rtp | with_reducible exact h_bnd | with_reducible exact h_isAgg | with_reducible exact h_byteOf | (intro _) | (dsimp only) | split)
theorem h_unsafeAdd {P : Program} {ts : Array TypeId} {t : TypeId} {vs : Array Value} : Hsh P (Builtin.unsafeAdd_ ts t vs) := by
  rcases vs with ⟨l⟩
  rcases l with _ | ⟨a, _ | ⟨b, _ | ⟨c, r⟩⟩⟩
  · exact True.intro
  · exact True.intro
  · cases a <;> first | exact True.intro | skip
    refine (show Hsh P (asInt b >>= _) from hbind h_asInt (fun n => ?_))
    repeat' (first | (with_reducible refine hbind ?_ ?_) | (with_reducible refine hite ?_ ?_) | with_reducible exact hpure | with_reducible exact hhalt | with_reducible exact huns | with_reducible exact hpan | with_reducible exact hld | with_reducible exact hst | with_reducible exact hnew | with_reducible exact hshp | with_reducible exact hfrz | with_reducible exact hfzn | with_reducible exact hgo | with_reducible exact hso | with_reducible exact hch | with_reducible exact hpg | with_reducible exact hroom | with_reducible exact h_und | with_reducible exact h_typeInfo | with_reducible exact h_sizeOf | with_reducible exact h_zero | with_reducible exact h_asInt | with_reducible exact h_asIntOf | with_reducible exact h_asBool | with_reducible exact h_asAddr | with_reducible exact h_part | with_reducible exact h_newRow | with_reducible exact h_newVar | with_reducible exact h_rtp | with_reducible exact h_bnd | with_reducible exact h_isAgg | with_reducible exact h_viewAt | (intro _) | (dsimp only) | split)
  · exact True.intro
theorem h_movedN {P : Program} {t : TypeId} {x y : Value} : Hsh P (movedNumber t x y) := by
  unfold movedNumber
  repeat' (first | (with_reducible refine hbind ?_ ?_) | (with_reducible refine hite ?_ ?_) | with_reducible exact hpure | with_reducible exact hhalt | with_reducible exact huns | with_reducible exact hpan | with_reducible exact hld | with_reducible exact hst | with_reducible exact hnew | with_reducible exact hshp | with_reducible exact hfrz | with_reducible exact hfzn | with_reducible exact hgo | with_reducible exact hso | with_reducible exact hch | with_reducible exact hpg | with_reducible exact hroom | with_reducible exact h_und | with_reducible exact h_typeInfo | with_reducible exact h_sizeOf | with_reducible exact h_zero | with_reducible exact h_asInt | with_reducible exact h_asIntOf | with_reducible exact h_asBool | with_reducible exact h_asAddr | with_reducible exact h_part | with_reducible exact h_newRow | with_reducible exact h_newVar | with_reducible exact h_rtp | with_reducible exact h_bnd | with_reducible exact h_isAgg | with_reducible exact h_unsafeAdd | with_reducible exact h_behind | with_reducible exact h_asNumber | (intro _) | (dsimp only) | split)
theorem h_movedP {P : Program} {t : TypeId} {x y : Value} : Hsh P (movedPointer t x y) := by
  unfold movedPointer
  repeat' (first | (with_reducible refine hbind ?_ ?_) | (with_reducible refine hite ?_ ?_) | with_reducible exact hpure | with_reducible exact hhalt | with_reducible exact huns | with_reducible exact hpan | with_reducible exact hld | with_reducible exact hst | with_reducible exact hnew | with_reducible exact hshp | with_reducible exact hfrz | with_reducible exact hfzn | with_reducible exact hgo | with_reducible exact hso | with_reducible exact hch | with_reducible exact hpg | with_reducible exact hroom | with_reducible exact h_und | with_reducible exact h_typeInfo | with_reducible exact h_sizeOf | with_reducible exact h_zero | with_reducible exact h_asInt | with_reducible exact h_asIntOf | with_reducible exact h_asBool | with_reducible exact h_asAddr | with_reducible exact h_part | with_reducible exact h_newRow | with_reducible exact h_newVar | with_reducible exact h_rtp | with_reducible exact h_bnd | with_reducible exact h_isAgg | with_reducible exact h_unsafeAdd | with_reducible exact h_numberAt | (intro _) | (dsimp only) | split)
/-- A type of plain values. -/
def plainTy (P : Program) (t : TypeId) : Bool := match P.underlying t with | some .bool => true | some (.int _) => true | some .string => true | _ => false
theorem h_undT {P : Program} {α : Type} {t : TypeId} {u : TypeDesc} {f : TypeDesc → Sem α} (h : P.underlying t = some u) (hf : Hsh P (f u)) : Hsh P (underlying t >>= f) := by
  show Hsh P ((match P.underlying t with | some d => (pure d : Sem TypeDesc) | none => stuck "no such type").bind f)
  rw [h]
  exact hf
theorem h_equal {P : Program} {t : TypeId} {x y : Value} (ht : plainTy P t = true) : Hsh P (Op.equal t x y) := by
  unfold plainTy at ht
  unfold Op.equal Op.maxDepth
  unfold Op.equalIn
  split at ht
  · rename_i h
    refine h_undT h ?_
    cases x <;> first | exact True.intro | skip
    cases y <;> exact True.intro
  · rename_i h
    refine h_undT h ?_
    cases x with
    | int k n =>
      cases y with
      | int k' m => exact hite hpure hhalt
      | pointer p =>
        rcases p with _ | p
        · rcases n with (_ | m) | m <;> exact True.intro
        · rcases n with (_ | m) | m <;> exact True.intro
      | _ => exact True.intro
    | pointer p =>
      rcases p with _ | p
      · cases y with
        | int k' m => rcases m with (_ | m) | m <;> exact True.intro
        | pointer q => rcases q with _ | q <;> exact True.intro
        | _ => exact True.intro
      · cases y with
        | int k' m => rcases m with (_ | m) | m <;> exact True.intro
        | pointer q =>
          rcases q with _ | q
          · exact True.intro
          · dsimp only
            repeat' (first | (with_reducible refine hbind ?_ ?_) | (with_reducible refine hite ?_ ?_) | with_reducible exact hpure | with_reducible exact hhalt | with_reducible exact huns | with_reducible exact hpan | with_reducible exact hld | with_reducible exact hst | with_reducible exact hnew | with_reducible exact hshp | with_reducible exact hfrz | with_reducible exact hfzn | with_reducible exact hgo | with_reducible exact hso | with_reducible exact hch | with_reducible exact hpg | with_reducible exact hroom | with_reducible exact h_und | with_reducible exact h_typeInfo | with_reducible exact h_sizeOf | with_reducible exact h_zero | with_reducible exact h_asInt | with_reducible exact h_asIntOf | with_reducible exact h_asBool | with_reducible exact h_asAddr | with_reducible exact h_part | with_reducible exact h_newRow | with_reducible exact h_newVar | with_reducible exact h_rtp | with_reducible exact h_bnd | with_reducible exact h_isAgg | with_reducible exact h_behind | with_reducible exact h_byteOf | (intro _) | (dsimp only) | split)
        | _ => exact True.intro
    | _ => cases y with
      | pointer q => rcases q with _ | q <;> exact True.intro
      | _ => exact True.intro
  · rename_i h
    refine h_undT h ?_
    cases x <;> first | exact True.intro | skip
    cases y <;> exact True.intro
  · cases ht
theorem h_eqGuardIn {P : Program} {t : TypeId} {x y : Value} (ht : plainTy P t = true) : Hsh P (Op.eqGuardIn Op.maxDepth t x y) := by
  unfold plainTy at ht
  unfold Op.maxDepth
  unfold Op.eqGuardIn
  split at ht
  · rename_i h; exact h_undT h True.intro
  · rename_i h; exact h_undT h True.intro
  · rename_i h; exact h_undT h True.intro
  · cases ht
theorem h_eqGuard {P : Program} {o : BinOp} {t : TypeId} {x y : Operand} {a b : Value} (ht : plainTy P t = true) : Hsh P (eqGuard o t x y a b) := by
  unfold eqGuard
  repeat' (first | (with_reducible refine hbind ?_ ?_) | (with_reducible refine hite ?_ ?_) | with_reducible exact hpure | with_reducible exact hhalt | with_reducible exact huns | with_reducible exact hpan | with_reducible exact hld | with_reducible exact hst | with_reducible exact hnew | with_reducible exact hshp | with_reducible exact hfrz | with_reducible exact hfzn | with_reducible exact hgo | with_reducible exact hso | with_reducible exact hch | with_reducible exact hpg | with_reducible exact hroom | with_reducible exact h_und | with_reducible exact h_typeInfo | with_reducible exact h_sizeOf | with_reducible exact h_zero | with_reducible exact h_asInt | with_reducible exact h_asIntOf | with_reducible exact h_asBool | with_reducible exact h_asAddr | with_reducible exact h_part | with_reducible exact h_newRow | with_reducible exact h_newVar | with_reducible exact h_rtp | with_reducible exact h_bnd | with_reducible exact h_isAgg | with_reducible exact h_eqGuardIn ht | (intro _) | (dsimp only) | split)
theorem h_binOp {P : Program} {o : BinOp} {t : TypeId} {x y : Value} (ht : plainTy P t = true) : Hsh P (binOp o t x y) := by
  unfold Go.binOp
  repeat' (first | (with_reducible refine hbind ?_ ?_) | (with_reducible refine hite ?_ ?_) | with_reducible exact hpure | with_reducible exact hhalt | with_reducible exact huns | with_reducible exact hpan | with_reducible exact hld | with_reducible exact hst | with_reducible exact hnew | with_reducible exact hshp | with_reducible exact hfrz | with_reducible exact hfzn | with_reducible exact hgo | with_reducible exact hso | with_reducible exact hch | with_reducible exact hpg | with_reducible exact hroom | with_reducible exact h_und | with_reducible exact h_typeInfo | with_reducible exact h_sizeOf | with_reducible exact h_zero | with_reducible exact h_asInt | with_reducible exact h_asIntOf | with_reducible exact h_asBool | with_reducible exact h_asAddr | with_reducible exact h_part | with_reducible exact h_newRow | with_reducible exact h_newVar | with_reducible exact h_rtp | with_reducible exact h_bnd | with_reducible exact h_isAgg | with_reducible exact h_shift | with_reducible exact h_intArith | with_reducible exact h_intDiv | with_reducible exact h_intBits | with_reducible exact h_intCmp | with_reducible exact h_floatArith | with_reducible exact h_floatCmp | with_reducible exact h_complexOp | with_reducible exact h_stringOp | with_reducible exact h_equal ht | with_reducible exact h_movedP | with_reducible exact h_movedN | with_reducible exact h_behind | with_reducible exact h_addrSub | with_reducible exact h_addrCmp | with_reducible exact h_addrMod | (intro _) | (dsimp only) | split)
theorem h_unary {P : Program} {o : UnOp} {x : Value} : Hsh P (Op.unary o x) := by
  unfold Op.unary
  repeat' (first | (with_reducible refine hbind ?_ ?_) | (with_reducible refine hite ?_ ?_) | with_reducible exact hpure | with_reducible exact hhalt | with_reducible exact huns | with_reducible exact hpan | with_reducible exact hld | with_reducible exact hst | with_reducible exact hnew | with_reducible exact hshp | with_reducible exact hfrz | with_reducible exact hfzn | with_reducible exact hgo | with_reducible exact hso | with_reducible exact hch | with_reducible exact hpg | with_reducible exact hroom | with_reducible exact h_und | with_reducible exact h_typeInfo | with_reducible exact h_sizeOf | with_reducible exact h_zero | with_reducible exact h_asInt | with_reducible exact h_asIntOf | with_reducible exact h_asBool | with_reducible exact h_asAddr | with_reducible exact h_part | with_reducible exact h_newRow | with_reducible exact h_newVar | with_reducible exact h_rtp | with_reducible exact h_bnd | with_reducible exact h_isAgg | with_reducible exact h_intArith | with_reducible exact h_intBits | (intro _) | (dsimp only) | split)
theorem h_b2s {P : Program} {x : Value} : Hsh P (Conv.bytesToString x) := by
  unfold Conv.bytesToString
  split
  · exact hpure
  · refine hbind h_loadCells (fun cs => ?_)
    refine hbind (hforA ?_) (fun _ => hpure)
    intro c s
    repeat' (first | (with_reducible refine hbind ?_ ?_) | (with_reducible refine hite ?_ ?_) | with_reducible exact hpure | with_reducible exact hhalt | with_reducible exact huns | with_reducible exact hpan | with_reducible exact hld | with_reducible exact hst | with_reducible exact hnew | with_reducible exact hshp | with_reducible exact hfrz | with_reducible exact hfzn | with_reducible exact hgo | with_reducible exact hso | with_reducible exact hch | with_reducible exact hpg | with_reducible exact hroom | with_reducible exact h_und | with_reducible exact h_typeInfo | with_reducible exact h_sizeOf | with_reducible exact h_zero | with_reducible exact h_asInt | with_reducible exact h_asIntOf | with_reducible exact h_asBool | with_reducible exact h_asAddr | with_reducible exact h_part | with_reducible exact h_newRow | with_reducible exact h_newVar | with_reducible exact h_rtp | with_reducible exact h_bnd | with_reducible exact h_isAgg | (intro _) | (dsimp only) | split)
  · exact hhalt
theorem h_f2i {P : Program} {k : FloatKind} {b : Nat} {k' : IntKind} : Hsh P (Conv.floatToInt k b k') := by
  unfold Conv.floatToInt
  repeat' (first | (with_reducible refine hbind ?_ ?_) | (with_reducible refine hite ?_ ?_) | with_reducible exact hpure | with_reducible exact hhalt | with_reducible exact huns | with_reducible exact hpan | with_reducible exact hld | with_reducible exact hst | with_reducible exact hnew | with_reducible exact hshp | with_reducible exact hfrz | with_reducible exact hfzn | with_reducible exact hgo | with_reducible exact hso | with_reducible exact hch | with_reducible exact hpg | with_reducible exact hroom | with_reducible exact h_und | with_reducible exact h_typeInfo | with_reducible exact h_sizeOf | with_reducible exact h_zero | with_reducible exact h_asInt | with_reducible exact h_asIntOf | with_reducible exact h_asBool | with_reducible exact h_asAddr | with_reducible exact h_part | with_reducible exact h_newRow | with_reducible exact h_newVar | with_reducible exact h_rtp | with_reducible exact h_bnd | with_reducible exact h_isAgg | (intro _) | (dsimp only) | split)
/-- The conversions that are used. -/
def okConv (P : Program) (s d : TypeId) : Bool := match P.underlying s, P.underlying d with | some (.int _), some (.int _) => true | some (.slice e), some .string => (match P.underlying e with | some (.int .u8) => true | _ => false) | _, _ => false
theorem h_convert {P : Program} {s d : TypeId} {x : Value} (h : okConv P s d = true) : Hsh P (convert s d x) := by
  unfold okConv at h
  unfold Go.convert
  split at h
  · rename_i h1 h2
    refine h_undT h1 (h_undT h2 ?_)
    cases x <;> first | exact True.intro | exact h_f2i | (rename_i a; cases a <;> exact True.intro)
  · rename_i e h1 h2
    split at h
    · rename_i h3
      refine h_undT h1 (h_undT h2 ?_)
      cases x <;> first | exact True.intro | (exact h_undT h3 h_b2s) | exact h_undT h3 True.intro
    · cases h
  · cases h
theorem h_sure {P : Program} {x : Value} : Hsh P (Instr.sureAddr x) := by
  unfold Instr.sureAddr
  repeat' (first | (with_reducible refine hbind ?_ ?_) | (with_reducible refine hite ?_ ?_) | with_reducible exact hpure | with_reducible exact hhalt | with_reducible exact huns | with_reducible exact hpan | with_reducible exact hld | with_reducible exact hst | with_reducible exact hnew | with_reducible exact hshp | with_reducible exact hfrz | with_reducible exact hfzn | with_reducible exact hgo | with_reducible exact hso | with_reducible exact hch | with_reducible exact hpg | with_reducible exact hroom | with_reducible exact h_und | with_reducible exact h_typeInfo | with_reducible exact h_sizeOf | with_reducible exact h_zero | with_reducible exact h_asInt | with_reducible exact h_asIntOf | with_reducible exact h_asBool | with_reducible exact h_asAddr | with_reducible exact h_part | with_reducible exact h_newRow | with_reducible exact h_newVar | with_reducible exact h_rtp | with_reducible exact h_bnd | with_reducible exact h_isAgg | (intro _) | (dsimp only) | split)
theorem h_alloc {P : Program} {t : TypeId} {h : Bool} {x : Value} : Hsh P (Instr.alloc t h x) := by
  unfold Instr.alloc
  repeat' (first | (with_reducible refine hbind ?_ ?_) | (with_reducible refine hite ?_ ?_) | with_reducible exact hpure | with_reducible exact hhalt | with_reducible exact huns | with_reducible exact hpan | with_reducible exact hld | with_reducible exact hst | with_reducible exact hnew | with_reducible exact hshp | with_reducible exact hfrz | with_reducible exact hfzn | with_reducible exact hgo | with_reducible exact hso | with_reducible exact hch | with_reducible exact hpg | with_reducible exact hroom | with_reducible exact h_und | with_reducible exact h_typeInfo | with_reducible exact h_sizeOf | with_reducible exact h_zero | with_reducible exact h_asInt | with_reducible exact h_asIntOf | with_reducible exact h_asBool | with_reducible exact h_asAddr | with_reducible exact h_part | with_reducible exact h_newRow | with_reducible exact h_newVar | with_reducible exact h_rtp | with_reducible exact h_bnd | with_reducible exact h_isAgg | with_reducible exact h_storeVar | (intro _) | (dsimp only) | split)
theorem h_box {P : Program} {t : TypeId} {x : Value} : Hsh P (Instr.box t x) := by
  unfold Instr.box
  repeat' (first | (with_reducible refine hbind ?_ ?_) | (with_reducible refine hite ?_ ?_) | with_reducible exact hpure | with_reducible exact hhalt | with_reducible exact huns | with_reducible exact hpan | with_reducible exact hld | with_reducible exact hst | with_reducible exact hnew | with_reducible exact hshp | with_reducible exact hfrz | with_reducible exact hfzn | with_reducible exact hgo | with_reducible exact hso | with_reducible exact hch | with_reducible exact hpg | with_reducible exact hroom | with_reducible exact h_und | with_reducible exact h_typeInfo | with_reducible exact h_sizeOf | with_reducible exact h_zero | with_reducible exact h_asInt | with_reducible exact h_asIntOf | with_reducible exact h_asBool | with_reducible exact h_asAddr | with_reducible exact h_part | with_reducible exact h_newRow | with_reducible exact h_newVar | with_reducible exact h_rtp | with_reducible exact h_bnd | with_reducible exact h_isAgg | (intro _) | (dsimp only) | split)
theorem h_build {P : Program} {t : TypeId} {p : Array (Nat × Value)} : Hsh P (Instr.build t p) := by
  unfold Instr.build
  repeat' (first | (with_reducible refine hbind ?_ ?_) | (with_reducible refine hite ?_ ?_) | with_reducible exact hpure | with_reducible exact hhalt | with_reducible exact huns | with_reducible exact hpan | with_reducible exact hld | with_reducible exact hst | with_reducible exact hnew | with_reducible exact hshp | with_reducible exact hfrz | with_reducible exact hfzn | with_reducible exact hgo | with_reducible exact hso | with_reducible exact hch | with_reducible exact hpg | with_reducible exact hroom | with_reducible exact h_und | with_reducible exact h_typeInfo | with_reducible exact h_sizeOf | with_reducible exact h_zero | with_reducible exact h_asInt | with_reducible exact h_asIntOf | with_reducible exact h_asBool | with_reducible exact h_asAddr | with_reducible exact h_part | with_reducible exact h_newRow | with_reducible exact h_newVar | with_reducible exact h_rtp | with_reducible exact h_bnd | with_reducible exact h_isAgg | (refine hmapMA ?_) | (intro _) | (dsimp only) | split)
theorem h_buildS {P : Program} {t : TypeId} {n : Nat} {p : Array (Nat × Value)} : Hsh P (Instr.buildSlice t n p) := by
  unfold Instr.buildSlice
  repeat' (first | (with_reducible refine hbind ?_ ?_) | (with_reducible refine hite ?_ ?_) | with_reducible exact hpure | with_reducible exact hhalt | with_reducible exact huns | with_reducible exact hpan | with_reducible exact hld | with_reducible exact hst | with_reducible exact hnew | with_reducible exact hshp | with_reducible exact hfrz | with_reducible exact hfzn | with_reducible exact hgo | with_reducible exact hso | with_reducible exact hch | with_reducible exact hpg | with_reducible exact hroom | with_reducible exact h_und | with_reducible exact h_typeInfo | with_reducible exact h_sizeOf | with_reducible exact h_zero | with_reducible exact h_asInt | with_reducible exact h_asIntOf | with_reducible exact h_asBool | with_reducible exact h_asAddr | with_reducible exact h_part | with_reducible exact h_newRow | with_reducible exact h_newVar | with_reducible exact h_rtp | with_reducible exact h_bnd | with_reducible exact h_isAgg | (intro _) | (dsimp only) | split)
theorem h_loadAt {P : Program} {t : TypeId} {x : Value} : Hsh P (Instr.loadAt t x) := by
  unfold Instr.loadAt
  repeat' (first | (with_reducible refine hbind ?_ ?_) | (with_reducible refine hite ?_ ?_) | with_reducible exact hpure | with_reducible exact hhalt | with_reducible exact huns | with_reducible exact hpan | with_reducible exact hld | with_reducible exact hst | with_reducible exact hnew | with_reducible exact hshp | with_reducible exact hfrz | with_reducible exact hfzn | with_reducible exact hgo | with_reducible exact hso | with_reducible exact hch | with_reducible exact hpg | with_reducible exact hroom | with_reducible exact h_und | with_reducible exact h_typeInfo | with_reducible exact h_sizeOf | with_reducible exact h_zero | with_reducible exact h_asInt | with_reducible exact h_asIntOf | with_reducible exact h_asBool | with_reducible exact h_asAddr | with_reducible exact h_part | with_reducible exact h_newRow | with_reducible exact h_newVar | with_reducible exact h_rtp | with_reducible exact h_bnd | with_reducible exact h_isAgg | with_reducible exact h_sure | with_reducible exact h_loadVar | (intro _) | (dsimp only) | split)
theorem h_storeAt {P : Program} {t : TypeId} {x y : Value} : Hsh P (Instr.storeAt t x y) := by
  unfold Instr.storeAt
  repeat' (first | (with_reducible refine hbind ?_ ?_) | (with_reducible refine hite ?_ ?_) | with_reducible exact hpure | with_reducible exact hhalt | with_reducible exact huns | with_reducible exact hpan | with_reducible exact hld | with_reducible exact hst | with_reducible exact hnew | with_reducible exact hshp | with_reducible exact hfrz | with_reducible exact hfzn | with_reducible exact hgo | with_reducible exact hso | with_reducible exact hch | with_reducible exact hpg | with_reducible exact hroom | with_reducible exact h_und | with_reducible exact h_typeInfo | with_reducible exact h_sizeOf | with_reducible exact h_zero | with_reducible exact h_asInt | with_reducible exact h_asIntOf | with_reducible exact h_asBool | with_reducible exact h_asAddr | with_reducible exact h_part | with_reducible exact h_newRow | with_reducible exact h_newVar | with_reducible exact h_rtp | with_reducible exact h_bnd | with_reducible exact h_isAgg | with_reducible exact h_sure | with_reducible exact h_storeVar | (intro _) | (dsimp only) | split)
theorem h_extract {P : Program} {x : Value} {i : Nat} : Hsh P (Instr.extract x i) := by
  unfold Instr.extract
  repeat' (first | (with_reducible refine hbind ?_ ?_) | (with_reducible refine hite ?_ ?_) | with_reducible exact hpure | with_reducible exact hhalt | with_reducible exact huns | with_reducible exact hpan | with_reducible exact hld | with_reducible exact hst | with_reducible exact hnew | with_reducible exact hshp | with_reducible exact hfrz | with_reducible exact hfzn | with_reducible exact hgo | with_reducible exact hso | with_reducible exact hch | with_reducible exact hpg | with_reducible exact hroom | with_reducible exact h_und | with_reducible exact h_typeInfo | with_reducible exact h_sizeOf | with_reducible exact h_zero | with_reducible exact h_asInt | with_reducible exact h_asIntOf | with_reducible exact h_asBool | with_reducible exact h_asAddr | with_reducible exact h_part | with_reducible exact h_newRow | with_reducible exact h_newVar | with_reducible exact h_rtp | with_reducible exact h_bnd | with_reducible exact h_isAgg | (intro _) | (dsimp only) | split)
theorem h_makeFunc {P : Program} {f : Fn} {a b : Array Value} : Hsh P (Instr.makeFunc f a b) := by
  exact hpure
theorem h_makeChan {P : Program} {t : TypeId} {x : Value} : Hsh P (Instr.makeChan t x) := by
  unfold Instr.makeChan
  repeat' (first | (with_reducible refine hbind ?_ ?_) | (with_reducible refine hite ?_ ?_) | with_reducible exact hpure | with_reducible exact hhalt | with_reducible exact huns | with_reducible exact hpan | with_reducible exact hld | with_reducible exact hst | with_reducible exact hnew | with_reducible exact hshp | with_reducible exact hfrz | with_reducible exact hfzn | with_reducible exact hgo | with_reducible exact hso | with_reducible exact hch | with_reducible exact hpg | with_reducible exact hroom | with_reducible exact h_und | with_reducible exact h_typeInfo | with_reducible exact h_sizeOf | with_reducible exact h_zero | with_reducible exact h_asInt | with_reducible exact h_asIntOf | with_reducible exact h_asBool | with_reducible exact h_asAddr | with_reducible exact h_part | with_reducible exact h_newRow | with_reducible exact h_newVar | with_reducible exact h_rtp | with_reducible exact h_bnd | with_reducible exact h_isAgg | (intro _) | (dsimp only) | split)
theorem h_makeSlice {P : Program} {t : TypeId} {x y : Value} : Hsh P (Instr.makeSlice t x y) := by
  unfold Instr.makeSlice
  repeat' (first | (with_reducible refine hbind ?_ ?_) | (with_reducible refine hite ?_ ?_) | with_reducible exact hpure | with_reducible exact hhalt | with_reducible exact huns | with_reducible exact hpan | with_reducible exact hld | with_reducible exact hst | with_reducible exact hnew | with_reducible exact hshp | with_reducible exact hfrz | with_reducible exact hfzn | with_reducible exact hgo | with_reducible exact hso | with_reducible exact hch | with_reducible exact hpg | with_reducible exact hroom | with_reducible exact h_und | with_reducible exact h_typeInfo | with_reducible exact h_sizeOf | with_reducible exact h_zero | with_reducible exact h_asInt | with_reducible exact h_asIntOf | with_reducible exact h_asBool | with_reducible exact h_asAddr | with_reducible exact h_part | with_reducible exact h_newRow | with_reducible exact h_newVar | with_reducible exact h_rtp | with_reducible exact h_bnd | with_reducible exact h_isAgg | (intro _) | (dsimp only) | split)
theorem h_sliceBound {P : Program} {x : Value} {y : Nat} {c : BoundsCode} : Hsh P (Instr.sliceBound x y c) := by
  unfold Instr.sliceBound
  repeat' (first | (with_reducible refine hbind ?_ ?_) | (with_reducible refine hite ?_ ?_) | with_reducible exact hpure | with_reducible exact hhalt | with_reducible exact huns | with_reducible exact hpan | with_reducible exact hld | with_reducible exact hst | with_reducible exact hnew | with_reducible exact hshp | with_reducible exact hfrz | with_reducible exact hfzn | with_reducible exact hgo | with_reducible exact hso | with_reducible exact hch | with_reducible exact hpg | with_reducible exact hroom | with_reducible exact h_und | with_reducible exact h_typeInfo | with_reducible exact h_sizeOf | with_reducible exact h_zero | with_reducible exact h_asInt | with_reducible exact h_asIntOf | with_reducible exact h_asBool | with_reducible exact h_asAddr | with_reducible exact h_part | with_reducible exact h_newRow | with_reducible exact h_newVar | with_reducible exact h_rtp | with_reducible exact h_bnd | with_reducible exact h_isAgg | (intro _) | (dsimp only) | split)
theorem h_sliceBounds {P : Program} {s : Bool} {l c : Nat} {a b d : Option Value} : Hsh P (Instr.sliceBounds s l c a b d) := by
  unfold Instr.sliceBounds
  repeat' (first | (with_reducible refine hbind ?_ ?_) | (with_reducible refine hite ?_ ?_) | with_reducible exact hpure | with_reducible exact hhalt | with_reducible exact huns | with_reducible exact hpan | with_reducible exact hld | with_reducible exact hst | with_reducible exact hnew | with_reducible exact hshp | with_reducible exact hfrz | with_reducible exact hfzn | with_reducible exact hgo | with_reducible exact hso | with_reducible exact hch | with_reducible exact hpg | with_reducible exact hroom | with_reducible exact h_und | with_reducible exact h_typeInfo | with_reducible exact h_sizeOf | with_reducible exact h_zero | with_reducible exact h_asInt | with_reducible exact h_asIntOf | with_reducible exact h_asBool | with_reducible exact h_asAddr | with_reducible exact h_part | with_reducible exact h_newRow | with_reducible exact h_newVar | with_reducible exact h_rtp | with_reducible exact h_bnd | with_reducible exact h_isAgg | with_reducible exact h_sliceBound | (intro _) | (dsimp only) | split)
theorem h_slice {P : Program} {t : TypeId} {x : Value} {a b d : Option Value} : Hsh P (Instr.slice t x a b d) := by
  unfold Instr.slice
  repeat' (first | (with_reducible refine hbind ?_ ?_) | (with_reducible refine hite ?_ ?_) | with_reducible exact hpure | with_reducible exact hhalt | with_reducible exact huns | with_reducible exact hpan | with_reducible exact hld | with_reducible exact hst | with_reducible exact hnew | with_reducible exact hshp | with_reducible exact hfrz | with_reducible exact hfzn | with_reducible exact hgo | with_reducible exact hso | with_reducible exact hch | with_reducible exact hpg | with_reducible exact hroom | with_reducible exact h_und | with_reducible exact h_typeInfo | with_reducible exact h_sizeOf | with_reducible exact h_zero | with_reducible exact h_asInt | with_reducible exact h_asIntOf | with_reducible exact h_asBool | with_reducible exact h_asAddr | with_reducible exact h_part | with_reducible exact h_newRow | with_reducible exact h_newVar | with_reducible exact h_rtp | with_reducible exact h_bnd | with_reducible exact h_isAgg | with_reducible exact h_sliceBounds | (intro _) | (dsimp only) | split)
theorem h_sliceAt {P : Program} {t : TypeId} {x : Value} {a b d : Option Value} : Hsh P (Instr.sliceAt t x a b d) := by
  unfold Instr.sliceAt
  repeat' (first | (with_reducible refine hbind ?_ ?_) | (with_reducible refine hite ?_ ?_) | with_reducible exact hpure | with_reducible exact hhalt | with_reducible exact huns | with_reducible exact hpan | with_reducible exact hld | with_reducible exact hst | with_reducible exact hnew | with_reducible exact hshp | with_reducible exact hfrz | with_reducible exact hfzn | with_reducible exact hgo | with_reducible exact hso | with_reducible exact hch | with_reducible exact hpg | with_reducible exact hroom | with_reducible exact h_und | with_reducible exact h_typeInfo | with_reducible exact h_sizeOf | with_reducible exact h_zero | with_reducible exact h_asInt | with_reducible exact h_asIntOf | with_reducible exact h_asBool | with_reducible exact h_asAddr | with_reducible exact h_part | with_reducible exact h_newRow | with_reducible exact h_newVar | with_reducible exact h_rtp | with_reducible exact h_bnd | with_reducible exact h_isAgg | with_reducible exact h_sliceBounds | with_reducible exact h_slice | with_reducible exact h_sure | (intro _) | (dsimp only) | split)
theorem h_partAt {P : Program} {a : Addr} {x y : Nat} : Hsh P (partAt a x y) := by
  unfold partAt
  repeat' (first | (with_reducible refine hbind ?_ ?_) | (with_reducible refine hite ?_ ?_) | with_reducible exact hpure | with_reducible exact hhalt | with_reducible exact huns | with_reducible exact hpan | with_reducible exact hld | with_reducible exact hst | with_reducible exact hnew | with_reducible exact hshp | with_reducible exact hfrz | with_reducible exact hfzn | with_reducible exact hgo | with_reducible exact hso | with_reducible exact hch | with_reducible exact hpg | with_reducible exact hroom | with_reducible exact h_und | with_reducible exact h_typeInfo | with_reducible exact h_sizeOf | with_reducible exact h_zero | with_reducible exact h_asInt | with_reducible exact h_asIntOf | with_reducible exact h_asBool | with_reducible exact h_asAddr | with_reducible exact h_part | with_reducible exact h_newRow | with_reducible exact h_newVar | with_reducible exact h_rtp | with_reducible exact h_bnd | with_reducible exact h_isAgg | with_reducible exact h_byteOf | (intro _) | (dsimp only) | split)
theorem h_fieldPlace {P : Program} {a : Addr} {f : Field} : Hsh P (fieldPlace a f) := by
  unfold fieldPlace
  repeat' (first | (with_reducible refine hbind ?_ ?_) | (with_reducible refine hite ?_ ?_) | with_reducible exact hpure | with_reducible exact hhalt | with_reducible exact huns | with_reducible exact hpan | with_reducible exact hld | with_reducible exact hst | with_reducible exact hnew | with_reducible exact hshp | with_reducible exact hfrz | with_reducible exact hfzn | with_reducible exact hgo | with_reducible exact hso | with_reducible exact hch | with_reducible exact hpg | with_reducible exact hroom | with_reducible exact h_und | with_reducible exact h_typeInfo | with_reducible exact h_sizeOf | with_reducible exact h_zero | with_reducible exact h_asInt | with_reducible exact h_asIntOf | with_reducible exact h_asBool | with_reducible exact h_asAddr | with_reducible exact h_part | with_reducible exact h_newRow | with_reducible exact h_newVar | with_reducible exact h_rtp | with_reducible exact h_bnd | with_reducible exact h_isAgg | with_reducible exact h_partAt | (intro _) | (dsimp only) | split)
theorem h_fieldAt {P : Program} {t : TypeId} {x : Value} {i : Nat} : Hsh P (Instr.fieldAt t x i) := by
  unfold Instr.fieldAt
  repeat' (first | (with_reducible refine hbind ?_ ?_) | (with_reducible refine hite ?_ ?_) | with_reducible exact hpure | with_reducible exact hhalt | with_reducible exact huns | with_reducible exact hpan | with_reducible exact hld | with_reducible exact hst | with_reducible exact hnew | with_reducible exact hshp | with_reducible exact hfrz | with_reducible exact hfzn | with_reducible exact hgo | with_reducible exact hso | with_reducible exact hch | with_reducible exact hpg | with_reducible exact hroom | with_reducible exact h_und | with_reducible exact h_typeInfo | with_reducible exact h_sizeOf | with_reducible exact h_zero | with_reducible exact h_asInt | with_reducible exact h_asIntOf | with_reducible exact h_asBool | with_reducible exact h_asAddr | with_reducible exact h_part | with_reducible exact h_newRow | with_reducible exact h_newVar | with_reducible exact h_rtp | with_reducible exact h_bnd | with_reducible exact h_isAgg | with_reducible exact h_sure | with_reducible exact h_fieldPlace | (intro _) | (dsimp only) | split)
theorem h_indexAt {P : Program} {t : TypeId} {x y : Value} : Hsh P (Instr.indexAt t x y) := by
  unfold Instr.indexAt
  repeat' (first | (with_reducible refine hbind ?_ ?_) | (with_reducible refine hite ?_ ?_) | with_reducible exact hpure | with_reducible exact hhalt | with_reducible exact huns | with_reducible exact hpan | with_reducible exact hld | with_reducible exact hst | with_reducible exact hnew | with_reducible exact hshp | with_reducible exact hfrz | with_reducible exact hfzn | with_reducible exact hgo | with_reducible exact hso | with_reducible exact hch | with_reducible exact hpg | with_reducible exact hroom | with_reducible exact h_und | with_reducible exact h_typeInfo | with_reducible exact h_sizeOf | with_reducible exact h_zero | with_reducible exact h_asInt | with_reducible exact h_asIntOf | with_reducible exact h_asBool | with_reducible exact h_asAddr | with_reducible exact h_part | with_reducible exact h_newRow | with_reducible exact h_newVar | with_reducible exact h_rtp | with_reducible exact h_bnd | with_reducible exact h_isAgg | with_reducible exact h_sure | (intro _) | (dsimp only) | split)
theorem h_index {P : Program} {t : TypeId} {x y : Value} : Hsh P (Instr.index t x y) := by
  unfold Instr.index
  repeat' (first | (with_reducible refine hbind ?_ ?_) | (with_reducible refine hite ?_ ?_) | with_reducible exact hpure | with_reducible exact hhalt | with_reducible exact huns | with_reducible exact hpan | with_reducible exact hld | with_reducible exact hst | with_reducible exact hnew | with_reducible exact hshp | with_reducible exact hfrz | with_reducible exact hfzn | with_reducible exact hgo | with_reducible exact hso | with_reducible exact hch | with_reducible exact hpg | with_reducible exact hroom | with_reducible exact h_und | with_reducible exact h_typeInfo | with_reducible exact h_sizeOf | with_reducible exact h_zero | with_reducible exact h_asInt | with_reducible exact h_asIntOf | with_reducible exact h_asBool | with_reducible exact h_asAddr | with_reducible exact h_part | with_reducible exact h_newRow | with_reducible exact h_newVar | with_reducible exact h_rtp | with_reducible exact h_bnd | with_reducible exact h_isAgg | (intro _) | (dsimp only) | split)
end Go.Proofs.Ytlbkhiphnllfpac
namespace Go.Proofs.Ytlbkhiphnllfpac
open Go.Conc
set_option linter.unusedVariables false
set_option maxRecDepth 100000
set_option maxHeartbeats 1000000
/-- As 'Hsh', and whatever it yields is good. -/
def HshG {α : Type} (P : Program) (Good : α → Prop) : Sem α → Prop
  | .pure a => Good a
  | .load _ _ k => ∀ v, HshG P Good (k v)
  | .store _ _ _ k => HshG P Good k
  | .new _ k => ∀ r, HshG P Good (k r)
  | .shape _ k => ∀ x, HshG P Good (k x)
  | .freeze _ _ k => HshG P Good k
  | .frozen _ k => ∀ b, HshG P Good (k b)
  | .getObj _ k => ∀ o, HshG P Good (k o)
  | .setObj _ _ k => HshG P Good k
  | .choose _ k => ∀ n, HshG P Good (k n)
  | .sys _ _ => False
  | .program k => HshG P Good (k P)
  | .mark m k => m = .noRoom ∧ HshG P Good k
  | .halt h => match h with | .panic _ => True | .stuck _ => True | .unsupported _ => True | _ => False
theorem Hsh.bindG {α β : Type} {P : Program} {Good : β → Prop} : ∀ {s : Sem α} {f : α → Sem β}, Hsh P s → (∀ a, HshG P Good (f a)) → HshG P Good (s.bind f)
  | .pure a, f, _, h => h a
  | .load _ _ k, f, hs, h => fun v => Hsh.bindG (hs v) h
  | .store _ _ _ k, f, hs, h => Hsh.bindG (s := k) hs h
  | .new _ k, f, hs, h => fun v => Hsh.bindG (hs v) h
  | .shape _ k, f, hs, h => fun v => Hsh.bindG (hs v) h
  | .freeze _ _ k, f, hs, h => Hsh.bindG (s := k) hs h
  | .frozen _ k, f, hs, h => fun v => Hsh.bindG (hs v) h
  | .getObj _ k, f, hs, h => fun v => Hsh.bindG (hs v) h
  | .setObj _ _ k, f, hs, h => Hsh.bindG (s := k) hs h
  | .choose _ k, f, hs, h => fun v => Hsh.bindG (hs v) h
  | .program k, f, hs, h => Hsh.bindG (s := k P) hs h
  | .mark m k, f, hs, h => ⟨hs.1, Hsh.bindG (s := k) hs.2 h⟩
  | .halt _, f, hs, _ => hs
theorem HshG.hsh {α : Type} {P : Program} {Good : α → Prop} : ∀ {s : Sem α}, HshG P Good s → Hsh P s
  | .pure a, _ => True.intro
  | .load _ _ k, hs => fun v => HshG.hsh (hs v)
  | .store _ _ _ k, hs => HshG.hsh (s := k) hs
  | .new _ k, hs => fun v => HshG.hsh (hs v)
  | .shape _ k, hs => fun v => HshG.hsh (hs v)
  | .freeze _ _ k, hs => HshG.hsh (s := k) hs
  | .frozen _ k, hs => fun v => HshG.hsh (hs v)
  | .getObj _ k, hs => fun v => HshG.hsh (hs v)
  | .setObj _ _ k, hs => HshG.hsh (s := k) hs
  | .choose _ k, hs => fun v => HshG.hsh (hs v)
  | .program k, hs => HshG.hsh (s := k P) hs
  | .mark m k, hs => ⟨hs.1, HshG.hsh (s := k) hs.2⟩
  | .halt _, hs => hs
/-- How it can end. -/
def EndOk {α : Type} (Good : α → Prop) : Result α → Prop
  | .ok a _ => Good a
  | .halt (.panic _) _ => True
  | .halt (.stuck _) _ => True
  | .halt (.unsupported _) _ => True
  | _ => False
/-- An entry without a word of deafness. -/
def Meek (e : Event) : Prop := e.loc ≠ .mark .disable ∧ e.loc ≠ .mark .enable
theorem meek_cells {es : Array Event} (h : ∀ e ∈ es, Meek e) (l : List Addr) (wr s : Bool) : ∀ e ∈ es ++ l.toArray.map (⟨.cell ·, wr, s⟩), Meek e := fun e he => by
  rcases Array.mem_append.1 he with he | he
  · exact h e he
  · obtain ⟨a, _, rfl⟩ := Array.mem_map.1 he; exact ⟨by simp, by simp⟩
theorem meek_push {es : Array Event} (h : ∀ e ∈ es, Meek e) {x : Event} (hx : Meek x) : ∀ e ∈ es.push x, Meek e := fun e he => by
  rcases Array.mem_push.1 he with he | rfl
  · exact h e he
  · exact hx
theorem noCell_uns (w : World) (a : Addr) (s : String) : EndOk (α := Unit) (fun _ => True) (.halt (w.noCell a s) w) := by
  unfold World.noCell
  split <;> exact True.intro
theorem farLoad_ok {P : Program} {w : World} {a : Addr} {b : Bool} {h : Halt} (e : w.farLoad P a b = .error h) : (∃ s, h = .stuck s) ∨ ∃ u, h = .unsupported u := by
  unfold World.farLoad at e
  split at e
  · split at e
    · cases e
    · cases e; exact .inr ⟨_, rfl⟩
  · cases e
    unfold World.noCell
    split
    · exact .inr ⟨_, rfl⟩
    · exact .inr ⟨_, rfl⟩
    · exact .inl ⟨_, rfl⟩
theorem farStore_ok {P : Program} {w : World} {a : Addr} {v : Value} {b : Bool} {h : Halt} (e : w.farStore P a v b = .error h) : (∃ s, h = .stuck s) ∨ ∃ u, h = .unsupported u := by
  unfold World.farStore at e
  split at e
  · split at e
    · cases e
    · cases e; exact .inr ⟨_, rfl⟩
  · cases e
    unfold World.noCell
    split
    · exact .inr ⟨_, rfl⟩
    · exact .inr ⟨_, rfl⟩
    · exact .inl ⟨_, rfl⟩
theorem HshG.runs {α : Type} {P : Program} {Good : α → Prop} (s : Sem α) (hs : HshG P Good s) : ∀ (w : World) (es : Array Event), (∀ e ∈ es, Meek e) → EndOk Good (s.runT P w es).1 ∧ ∀ e ∈ (s.runT P w es).2, Meek e := by
  induction s with
  | pure a => exact fun w es h => ⟨hs, h⟩
  | load m a k ih =>
    intro w es h
    cases h1 : w.cell? a with
    | some v => simp only [Sem.runT, h1]; exact ih v (hs v) w _ (meek_push h ⟨by simp, by simp⟩)
    | none =>
      cases h5 : w.farLoad P a (m == .atomic) with
      | error e =>
        simp only [Sem.runT, h1, h5]
        rcases farLoad_ok h5 with ⟨s, rfl⟩ | ⟨u, rfl⟩ <;> exact ⟨True.intro, h⟩
      | ok r => obtain ⟨v, ts⟩ := r; simp only [Sem.runT, h1, h5]; exact ih v (hs v) w _ (meek_cells h ts _ _)
  | store m a v k ih =>
    intro w es h
    have key : (∃ c, v = .agg c) ∨ (∃ c, v = .tuple c) ∨ (∀ W es', (Sem.store m a v k).runT P W es' = (match W.cell? a with
      | some _ => if W.frozen? a then (.halt (.unsupported (.unsafePointer "a write to bytes that a string shares")) W, es') else k.runT P (W.setCell a v) (es'.push ⟨.cell a, true, m == .atomic⟩)
      | none => match W.farStore P a v (m == .atomic) with
        | .ok (W, touched) => k.runT P W (es' ++ touched.toArray.map (⟨.cell ·, true, m == .atomic⟩))
        | .error h => (.halt h W, es'))) := by
      cases v <;> first | exact .inl ⟨_, rfl⟩ | exact .inr (.inl ⟨_, rfl⟩) | exact .inr (.inr fun W es' => rfl)
    rcases key with ⟨c, rfl⟩ | ⟨c, rfl⟩ | key
    · exact ⟨True.intro, h⟩
    · exact ⟨True.intro, h⟩
    · rw [key]
      cases h1 : w.cell? a with
      | some old =>
        by_cases h2 : w.frozen? a = true
        · simp only [h2, if_true]; exact ⟨True.intro, h⟩
        · simp only [h2]; exact ih hs _ _ (meek_push h ⟨by simp, by simp⟩)
      | none =>
        cases h2 : w.farStore P a v (m == .atomic) with
        | error e => rcases farStore_ok h2 with ⟨s, rfl⟩ | ⟨u, rfl⟩ <;> exact ⟨True.intro, h⟩
        | ok x => obtain ⟨W, ts⟩ := x; exact ih hs _ _ (meek_cells h ts _ _)
  | new o k ih => exact fun w es h => ih _ (hs _) _ _ h
  | shape r k ih => exact fun w es h => ih _ (hs _) _ _ h
  | freeze a n k ih => exact fun w es h => ih hs _ _ h
  | frozen a k ih => exact fun w es h => ih _ (hs _) _ _ h
  | getObj r k ih =>
    intro w es h
    cases h1 : w.heap[r]? with
    | none => simp only [Sem.runT, h1]; exact ⟨True.intro, h⟩
    | some o =>
      cases o with
      | cells c e f => simp only [Sem.runT, h1]; exact ⟨True.intro, h⟩
      | _ => simp only [Sem.runT, h1]; exact ih _ (hs _) _ _ (meek_push h ⟨by simp, by simp⟩)
  | setObj r o k ih =>
    intro w es h
    cases h1 : w.heap[r]? with
    | none => simp only [Sem.runT, h1]; exact ⟨True.intro, h⟩
    | some o' =>
      cases o' with
      | cells c e f => simp only [Sem.runT, h1]; exact ⟨True.intro, h⟩
      | _ => simp only [Sem.runT, h1]; exact ih hs _ _ (meek_push h ⟨by simp, by simp⟩)
  | choose q k ih =>
    intro w es h
    simp only [Sem.runT]
    split
    · exact ih _ (hs _) _ _ h
    · exact ih _ (hs _) _ _ h
  | sys c k ih => exact hs.elim
  | program k ih => exact fun w es h => ih P hs _ _ h
  | mark m k ih => exact fun w es h => ih hs.2 _ _ (meek_push h ⟨by rw [hs.1]; simp, by rw [hs.1]; simp⟩)
  | halt x =>
    intro w es h
    refine ⟨?_, h⟩
    cases x <;> first | exact True.intro | exact hs.elim

/-! ### the operations -/
/-- What a step may come to: a value, nothing, a call of a function of the list. -/
def OkN (L : FuncId → Bool) : Next → Prop
  | .value _ => True
  | .skip => True
  | .enter f _ => L f = true
  | _ => False
/-- An operation of the kinds that are used. -/
def okOp (P : Program) (L : FuncId → Bool) (o : Oper) : Bool :=
  match o.op with
  | .move _ | .assign _ | .pick .. | .alloc _ | .box .. | .build .. | .buildSlice .. | .load .. | .store .. | .unOp .. | .extract .. | .makeFunc .. | .makeChan .. | .makeSlice .. | .slice .. | .fieldAddr .. | .indexAddr .. | .index .. | .nilCheck _ => true
  | .binOp _ t _ _ _ => plainTy P t
  | .convert s d _ => okConv P s d
  | .call c =>
    match c.callee with
    | .value (.func f) => L f && (P.funcs[f]?).any fun fn => fn.body.isSome && fn.name != "runtime.NumGoroutine"
    | .builtin .append | .builtin .copy | .builtin .len | .builtin .max => true
    | _ => false
  | _ => false
theorem h_followBlind {P : Program} : ∀ (l : List FieldStep) (t : TypeId) (x : Option Value), Hsh P (followBlind l t x)
  | [], t, x => True.intro
  | s :: rest, t, x => by
    have ih := @h_followBlind P rest
    unfold followBlind
    repeat' (first | (with_reducible refine hbind ?_ ?_) | (with_reducible refine hite ?_ ?_) | with_reducible exact hpure | with_reducible exact hhalt | with_reducible exact h_und | with_reducible exact h_part | exact ih _ _ | (intro _) | (dsimp only) | split)
theorem h_nilAhead {P : Program} : ∀ (n : Nat) (t : TypeId) (v : Value) (s : String), Hsh P (nilAhead n t v s)
  | 0, t, v, s => True.intro
  | n + 1, t, v, s => by
    have ih := @h_nilAhead P n
    unfold nilAhead
    repeat' (first | (with_reducible refine hbind ?_ ?_) | (with_reducible refine hite ?_ ?_) | with_reducible exact hpure | with_reducible exact hhalt | with_reducible exact h_und | with_reducible exact h_typeInfo | with_reducible exact h_followBlind _ _ _ | exact ih _ _ _ | (intro _) | (dsimp only) | split)
theorem gv {P : Program} {L : FuncId → Bool} {s : Sem Value} (h : Hsh P s) : HshG P (OkN L) (do pure (.value (← s)) : Sem Next) := Hsh.bindG h (fun _ => True.intro)
theorem gu {P : Program} {L : FuncId → Bool} {s : Sem Unit} (h : Hsh P s) : HshG P (OkN L) (do s; pure .skip : Sem Next) := Hsh.bindG h (fun _ => True.intro)
theorem h_nilCheck {P : Program} {L : FuncId → Bool} {ρ : Operand → Value} {o : Oper} {x : Operand} (h : o.op = .nilCheck x) : HshG P (OkN L) (execOp ρ o) := by
  unfold execOp
  simp only [h]
  generalize ρ x = v
  have hp : HshG P (OkN L) (runtimePanic .nilDeref : Sem Next) := True.intro
  split
  · exact hp
  · exact hp
  · exact hp
  · split
    · exact hp
    · refine Hsh.bindG hpg (fun p => ?_)
      refine Hsh.bindG (h_nilAhead _ _ _ _) (fun r => ?_)
      split
      · exact True.intro
      · exact True.intro
    · exact True.intro
  · exact True.intro
theorem h_callee {P : Program} {L : FuncId → Bool} {f : FuncId} {args : Array Value} (hL : L f = true) (hf : ((P.funcs[f]?).any fun fn => fn.body.isSome && fn.name != "runtime.NumGoroutine") = true) : HshG P (OkN L) (callFunc f args) := by
  show HshG P (OkN L) (match P.funcs[f]? with
    | none => stuck "call: no such function"
    | some fn => _)
  cases h : P.funcs[f]? with
  | none => exact True.intro
  | some fn =>
    rw [h] at hf
    simp only [Option.any_some, Bool.and_eq_true, bne_iff_ne, ne_eq] at hf
    have h1 : (fn.name == "runtime.NumGoroutine") = false := by simpa using hf.2
    have h2 : fn.body.isNone = false := by cases hb : fn.body <;> simp_all
    simp only [h1, h2, Bool.false_eq_true, if_false]
    exact hL
theorem execOp_ok {P : Program} {L : FuncId → Bool} {ρ : Operand → Value} {o : Oper} (hρ : ∀ f, ρ (.func f) = .func (.func f) #[] #[]) (h : okOp P L o = true) : HshG P (OkN L) (execOp ρ o) := by
  unfold okOp at h
  cases hop : o.op with
  | move x => unfold execOp; simp only [hop]; exact True.intro
  | assign x => unfold execOp; simp only [hop]; exact True.intro
  | pick c a b => unfold execOp; simp only [hop]; exact Hsh.bindG h_asBool (fun _ => True.intro)
  | alloc t => unfold execOp; simp only [hop]; exact gv h_alloc
  | box t x => unfold execOp; simp only [hop]; exact gv h_box
  | build t p => unfold execOp; simp only [hop]; exact gv h_build
  | buildSlice t n p => unfold execOp; simp only [hop]; exact gv h_buildS
  | load t a => unfold execOp; simp only [hop]; exact gv h_loadAt
  | store t a x => unfold execOp; simp only [hop]; exact gu h_storeAt
  | unOp p t x => unfold execOp; simp only [hop]; exact gv h_unary
  | extract t i => unfold execOp; simp only [hop]; exact gv h_extract
  | makeFunc f a b => unfold execOp; simp only [hop]; exact gv h_makeFunc
  | makeChan t s => unfold execOp; simp only [hop]; exact gv h_makeChan
  | makeSlice t l c => unfold execOp; simp only [hop]; exact gv h_makeSlice
  | slice t x a b c => unfold execOp; simp only [hop]; exact gv h_sliceAt
  | fieldAddr s x f => unfold execOp; simp only [hop]; exact gv h_fieldAt
  | indexAddr t x i => unfold execOp; simp only [hop]; exact gv h_indexAt
  | index t x i => unfold execOp; simp only [hop]; exact gv h_index
  | nilCheck x => exact h_nilCheck hop
  | binOp p t x y u => rw [hop] at h; unfold execOp; simp only [hop]; exact gv (hbind (h_eqGuard h) (fun _ => h_binOp h))
  | convert s d x => rw [hop] at h; unfold execOp; simp only [hop]; exact gv (h_convert h)
  | call c =>
    rw [hop] at h
    unfold execOp
    simp only [hop]
    dsimp only at h
    split at h
    · rename_i f hc
      simp only [Bool.and_eq_true] at h
      have e : (do let d ← resolve ρ c o.type; invoke d.target d.args : Sem Next) = callFunc f (#[] ++ c.args.map ρ ++ #[]) := by
        unfold resolve
        simp only [hc, hρ]
        rfl
      rw [e]
      exact h_callee h.1 h.2
    · rename_i hc
      have e : (do let d ← resolve ρ c o.type; invoke d.target d.args : Sem Next) = (do pure (.value (← Builtin.append_ c.argTypes o.type (c.args.map ρ)))) := by unfold resolve; simp only [hc]; rfl
      rw [e]; exact gv h_append
    · rename_i hc
      have e : (do let d ← resolve ρ c o.type; invoke d.target d.args : Sem Next) = (do pure (.value (← Builtin.copy_ c.argTypes o.type (c.args.map ρ)))) := by unfold resolve; simp only [hc]; rfl
      rw [e]; exact gv h_copy
    · rename_i hc
      have e : (do let d ← resolve ρ c o.type; invoke d.target d.args : Sem Next) = (do pure (.value (← Builtin.len_ c.argTypes o.type (c.args.map ρ)))) := by unfold resolve; simp only [hc]; rfl
      rw [e]; exact gv h_len
    · rename_i hc
      have e : (do let d ← resolve ρ c o.type; invoke d.target d.args : Sem Next) = (do pure (.value (← Builtin.max_ c.argTypes o.type (c.args.map ρ)))) := by unfold resolve; simp only [hc]; rfl
      rw [e]; exact gv h_max
    · cases h
  | _ => rw [hop] at h; cases h
theorem h_results {P : Program} {fn : Func} {tmps : Array Value} : Hsh P (results fn tmps) := by
  unfold results
  refine hbind (hmapMA (fun r => ?_)) (fun _ => hpure)
  cases r with
  | tmp t => exact hpure
  | cell a t => exact hbind h_asAddr (fun _ => h_loadVar)
end Go.Proofs.Ytlbkhiphnllfpac
namespace Go.Proofs.Ytlbkhiphnllfpac
open Go.Conc
set_option linter.unusedVariables false
set_option maxRecDepth 100000
def okCode (P : Program) (L : FuncId → Bool) : Code → Bool
  | .skip => true
  | .region _ ops _ => ops.all (okOp P L)
  | .seq a b => okCode P L a && okCode P L b
  | .cond _ a b => okCode P L a && okCode P L b
  | .block _ c => okCode P L c
  | .loop c => okCode P L c
  | .scope c => okCode P L c
  | .exit _ => true
  | .label _ => true
  | .ret => true
  | _ => false
def okItem (P : Program) (L : FuncId → Bool) : Item → Bool
  | .code c => okCode P L c
  | .inBlock _ => true
  | .inLoop c => okCode P L c
  | .inScope c => okCode P L c
  | .inRegion ops _ => ops.all (okOp P L)
  | _ => false
/-- A frame of the local stack. -/
structure Fm where
  fn : FuncId
  x : Array Value
  t : List Item
def Fm.fr (m : Fm) : Frame := (base m.fn).at ⟨m.x, []⟩ m.t
def Fm.rt (m : Fm) : Frame := { m.fr with mode := .returning }
def Fm.put (m : Fm) (dst : Option Tmp) (v : Value) (t : List Item) : Fm := ⟨m.fn, (Act.put ⟨m.x, []⟩ dst v).tmps, t⟩
structure St where
  top : Fm
  ret : Bool
  rest : List Fm
def addK (k : List Item) (rest : List Fm) (m : Fm) : Fm := { m with t := m.t ++ (if rest.isEmpty then k else []) }
def stk (k : List Item) (cs : List Frame) : List Fm → List Frame
  | [] => cs
  | m :: r => (addK k r m).fr :: stk k cs r
def gOf (k : List Item) (cs : List Frame) (s : St) : Goroutine := G (if s.ret then (addK k s.rest s.top).rt else (addK k s.rest s.top).fr) (stk k cs s.rest)
def OkFm (P : Program) (L : FuncId → Bool) (m : Fm) : Prop := ∀ i ∈ m.t, okItem P L i = true
def Waits (m : Fm) : Prop := ∃ ops i r t, m.t = .inRegion ops (i :: r) :: t
structure OkSt (P : Program) (L : FuncId → Bool) (s : St) : Prop where
  top : OkFm P L s.top
  rest : ∀ m ∈ s.rest, OkFm P L m ∧ Waits m
/-- The programs that are served. -/
structure OkP (P : Program) (L : FuncId → Bool) : Prop where
  code : ∀ f, L f = true → ∃ fn c, P.funcs[f]? = some fn ∧ fn.body = some c ∧ okCode P L c = true
  wide : P.follows .staticDataAhead = true
  step : ∀ g, P.stepOf g = none
def kR : List Item := [.code (.refuse "")]
def trap : Frame := { (default : Frame) with defers := [{ target := .nil, args := #[] }], todo := [.code (.refuse "")], mode := .run, kind := .normal }
theorem put_eq (x : Array Value) (dst : Option Tmp) (v : Value) : Act.put ⟨x, []⟩ dst v = ⟨(Act.put ⟨x, []⟩ dst v).tmps, []⟩ := by cases dst <;> rfl
theorem exit_app {id : Nat} : ∀ {t u k : List Item}, exitTo id t = some u → exitTo id (t ++ k) = some (u ++ k)
  | [], u, k, h => by cases h
  | .inBlock i :: t, u, k, h => by
    simp only [exitTo, List.cons_append] at h ⊢
    split at h
    · rename_i e; rw [if_pos e]; cases h; rfl
    · rename_i e; rw [if_neg e]; exact exit_app h
  | .code _ :: t, u, k, h => by simp only [exitTo, List.cons_append] at h ⊢; exact exit_app h
  | .inLoop _ :: t, u, k, h => by simp only [exitTo, List.cons_append] at h ⊢; exact exit_app h
  | .inScope _ :: t, u, k, h => by simp only [exitTo, List.cons_append] at h ⊢; exact exit_app h
  | .inRegion _ _ :: t, u, k, h => by simp only [exitTo, List.cons_append] at h ⊢; exact exit_app h
  | .inRangeFunc _ :: t, u, k, h => by simp only [exitTo, List.cons_append] at h ⊢; exact exit_app h
  | .endRangeFunc _ :: t, u, k, h => by simp only [exitTo, List.cons_append] at h ⊢; exact exit_app h
  | .beginRound :: t, u, k, h => by simp only [exitTo, List.cons_append] at h ⊢; exact exit_app h
  | .call _ _ _ _ :: t, u, k, h => by simp only [exitTo, List.cons_append] at h ⊢; exact exit_app h
  | .extern _ _ :: t, u, k, h => by simp only [exitTo, List.cons_append] at h ⊢; exact exit_app h
theorem exit_none {id : Nat} {k : List Item} (hk : exitTo id k = none) : ∀ {t : List Item}, exitTo id t = none → exitTo id (t ++ k) = none
  | [], h => hk
  | .inBlock i :: t, h => by
    simp only [exitTo, List.cons_append] at h ⊢
    split at h
    · cases h
    · rename_i e; rw [if_neg e]; exact exit_none hk h
  | .code _ :: t, h => by simp only [exitTo, List.cons_append] at h ⊢; exact exit_none hk h
  | .inLoop _ :: t, h => by simp only [exitTo, List.cons_append] at h ⊢; exact exit_none hk h
  | .inScope _ :: t, h => by simp only [exitTo, List.cons_append] at h ⊢; exact exit_none hk h
  | .inRegion _ _ :: t, h => by simp only [exitTo, List.cons_append] at h ⊢; exact exit_none hk h
  | .inRangeFunc _ :: t, h => by simp only [exitTo, List.cons_append] at h ⊢; exact exit_none hk h
  | .endRangeFunc _ :: t, h => by simp only [exitTo, List.cons_append] at h ⊢; exact exit_none hk h
  | .beginRound :: t, h => by simp only [exitTo, List.cons_append] at h ⊢; exact exit_none hk h
  | .call _ _ _ _ :: t, h => by simp only [exitTo, List.cons_append] at h ⊢; exact exit_none hk h
  | .extern _ _ :: t, h => by simp only [exitTo, List.cons_append] at h ⊢; exact exit_none hk h
theorem exit_mem {id : Nat} : ∀ {t u : List Item}, exitTo id t = some u → ∀ i ∈ u, i ∈ t
  | [], u, h => by cases h
  | .inBlock j :: t, u, h => by
    simp only [exitTo] at h
    split at h
    · cases h; exact fun i hi => List.mem_cons_of_mem _ hi
    · exact fun i hi => List.mem_cons_of_mem _ (exit_mem h i hi)
  | .code _ :: t, u, h => fun i hi => List.mem_cons_of_mem _ (exit_mem (t := t) (by simpa only [exitTo] using h) i hi)
  | .inLoop _ :: t, u, h => fun i hi => List.mem_cons_of_mem _ (exit_mem (t := t) (by simpa only [exitTo] using h) i hi)
  | .inScope _ :: t, u, h => fun i hi => List.mem_cons_of_mem _ (exit_mem (t := t) (by simpa only [exitTo] using h) i hi)
  | .inRegion _ _ :: t, u, h => fun i hi => List.mem_cons_of_mem _ (exit_mem (t := t) (by simpa only [exitTo] using h) i hi)
  | .inRangeFunc _ :: t, u, h => fun i hi => List.mem_cons_of_mem _ (exit_mem (t := t) (by simpa only [exitTo] using h) i hi)
  | .endRangeFunc _ :: t, u, h => fun i hi => List.mem_cons_of_mem _ (exit_mem (t := t) (by simpa only [exitTo] using h) i hi)
  | .beginRound :: t, u, h => fun i hi => List.mem_cons_of_mem _ (exit_mem (t := t) (by simpa only [exitTo] using h) i hi)
  | .call _ _ _ _ :: t, u, h => fun i hi => List.mem_cons_of_mem _ (exit_mem (t := t) (by simpa only [exitTo] using h) i hi)
  | .extern _ _ :: t, u, h => fun i hi => List.mem_cons_of_mem _ (exit_mem (t := t) (by simpa only [exitTo] using h) i hi)
/-- What a halt comes to. -/
def Dies (P : Program) (k : List Item) (cs : List Frame) (s : St) (g : GStep) : Prop :=
  (∃ chain w es, g = .go (G ((if s.ret then (addK k s.rest s.top).rt else (addK k s.rest s.top).fr).raise chain) (stk k cs s.rest)) w es) ∨ ∃ o w es, g = .ended o w es
/-- THE STEP: a computation, and what it leads to; or, over the stand-ins, the end. -/
def LS (P : Program) (L : FuncId → Bool) (s : St) : Prop :=
  (∃ (f : FuncId) (c : Sem Next) (F : Next → St), HshG P (OkN L) c ∧ (∀ x, OkN L x → OkSt P L (F x)) ∧
    (∀ k cs w x w' es, c.runT P w #[] = (.ok x w', es) → OkN L x → stepG P true (gOf k cs s) w = .go (gOf k cs (F x)) w' (seen P f es)) ∧
    (∀ k cs w h w' es, c.runT P w #[] = (.halt h w', es) → EndOk (α := Next) (fun _ => True) (.halt h w') → Dies P k cs s (stepG P true (gOf k cs s) w))) ∨
  (∀ w, ∃ o w' es, stepG P true (gOf kR [trap] s) w = .ended o w' es)
theorem LS.ctl {P : Program} {L : FuncId → Bool} {s s' : St} (hok : OkSt P L s') (h : ∀ k cs w, stepG P true (gOf k cs s) w = .go (gOf k cs s') w) : LS P L s :=
  .inl ⟨0, .pure .skip, fun _ => s', True.intro, fun _ _ => hok, fun k cs w x w' es e _ => by
    cases e
    rw [h]
    have : seen P 0 #[] = #[] := by rw [seen_def]; rfl
    rw [this], fun k cs w h' w' es e _ => by cases e⟩
end Go.Proofs.Ytlbkhiphnllfpac
namespace Go.Proofs.Ytlbkhiphnllfpac
open Go.Conc
set_option linter.unusedVariables false
set_option maxRecDepth 100000
section
variable {P : Program} {L : FuncId → Bool}
def entF (P : Program) (g : FuncId) (args : Array Value) : Fm := ⟨g, args ++ Array.replicate (((P.funcs[g]?).map (·.ntmps)).getD 0 - args.size) undef, match (P.funcs[g]?).bind (·.body) with | some c => [.code c] | none => []⟩
theorem enter_fm {g : FuncId} {args : Array Value} {fn : Func} {c : Code} (hf : P.funcs[g]? = some fn) (hb : fn.body = some c) : Frame.enter P g args .normal = (entF P g args).fr := by
  rw [enter_at args hf hb]
  unfold entF Fm.fr
  simp only [hf, hb, Option.map_some, Option.getD_some, Option.bind_some]
def nextOf (P : Program) (f : FuncId) (x : Array Value) (ops : Array Oper) (i : Nat) (r : List Nat) (t : List Item) (rest : List Fm) (o : Oper) : Next → St
  | .value v => ⟨⟨f, (Act.put ⟨x, []⟩ o.dst v).tmps, .inRegion ops r :: t⟩, false, rest⟩
  | .skip => ⟨⟨f, (Act.put ⟨x, []⟩ o.dst undef).tmps, .inRegion ops r :: t⟩, false, rest⟩
  | .enter g args => ⟨entF P g args, false, ⟨f, x, .inRegion ops (i :: r) :: t⟩ :: rest⟩
  | _ => ⟨⟨f, x, []⟩, false, []⟩
theorem early_ends (hP : OkP P L) (fr : Frame) (cs : List Frame) (g : Nat) (w : World) : ∃ o w', early P fr cs none g w = .ended o w' := by
  unfold early
  simp only [hP.wide, hP.step, Bool.not_true, Bool.false_eq_true, if_false]
  exact ⟨_, _, rfl⟩
theorem apply_panic {fr : Frame} {cs : List Frame} {s : Sem Next} {w w' : World} {v : Value} {es : Array Event} (e : s.runT P w #[] = (.halt (.panic v) w', es)) (hk : fr.kind = .normal) :
    stepG.apply P true fr cs none s w = .go { frame := fr.raise [{ v, recovered := false }], callers := cs, status := .running, dying := none } w' (seen P fr.fn es ++ #[]) := by
  unfold stepG.apply
  simp only [e, if_true, hk]
  rfl
theorem apply_stuck {fr : Frame} {cs : List Frame} {s : Sem Next} {w w' : World} {v : String} {es : Array Event} (e : s.runT P w #[] = (.halt (.stuck v) w', es)) (hk : fr.kind = .normal) :
    ∃ o w'' es', stepG.apply P true fr cs none s w = .ended o w'' es' := by
  unfold stepG.apply
  simp only [e, if_true, hk]
  exact ⟨_, _, _, rfl⟩
theorem apply_uns (hP : OkP P L) {fr : Frame} {cs : List Frame} {s : Sem Next} {w w' : World} {u : Unsupported} {es : Array Event} (e : s.runT P w #[] = (.halt (.unsupported u) w', es)) (hk : fr.kind = .normal) :
    ∃ o w'' es', stepG.apply P true fr cs none s w = .ended o w'' es' := by
  cases u with
  | initOrder g =>
    obtain ⟨o', w'', he⟩ := early_ends hP fr cs g w'
    unfold stepG.apply
    simp only [e, if_true, hk, he]
    exact ⟨_, _, _, rfl⟩
  | _ =>
    unfold stepG.apply
    simp only [e, if_true, hk]
    exact ⟨_, _, _, rfl⟩
theorem ls_op (hP : OkP P L) {f : FuncId} {x : Array Value} {ops : Array Oper} {i : Nat} {r : List Nat} {t : List Item} {rest : List Fm} {o : Oper} (hS : OkSt P L ⟨⟨f, x, .inRegion ops (i :: r) :: t⟩, false, rest⟩)
    (ho : ops[i]? = some o) (hw : Region.wanted o (yielded ops x) = true) : LS P L ⟨⟨f, x, .inRegion ops (i :: r) :: t⟩, false, rest⟩ := by
  have hitems := hS.top
  have hops : ops.all (okOp P L) = true := hitems _ (List.mem_cons_self ..)
  have hokop : okOp P L o = true := by
    rw [Array.all_eq_true] at hops
    obtain ⟨hlt, rfl⟩ := Array.getElem?_eq_some_iff.1 ho
    exact hops i hlt
  have ht : ∀ y ∈ t, okItem P L y = true := fun y hy => hitems y (List.mem_cons_of_mem _ hy)
  have hG := execOp_ok (P := P) (L := L) (ρ := Act.eval ⟨x, []⟩) (o := o) (fun _ => rfl) hokop
  refine .inl ⟨f, execOp (Act.eval ⟨x, []⟩) o, nextOf P f x ops i r t rest o, hG, fun y hy => ?_, fun k cs w y w' es e hy => ?_, fun k cs w h w' es e hE => ?_⟩
  · cases y with
    | value v => exact ⟨fun z hz => by rcases List.mem_cons.1 hz with rfl | hz; exact hops; exact ht z hz, hS.rest⟩
    | skip => exact ⟨fun z hz => by rcases List.mem_cons.1 hz with rfl | hz; exact hops; exact ht z hz, hS.rest⟩
    | enter g args =>
      obtain ⟨fn, c, hf, hb, hc⟩ := hP.code g hy
      refine ⟨fun z hz => ?_, fun m hm => ?_⟩
      · simp only [nextOf, entF, hf, Option.bind_some, hb, List.mem_cons, List.not_mem_nil, or_false] at hz
        subst hz
        exact hc
      · rcases List.mem_cons.1 hm with rfl | hm
        · exact ⟨hitems, _, _, _, _, rfl⟩
        · exact hS.rest m hm
    | _ => exact hy.elim
  · have hrun : (execOp (Act.eval ⟨x, []⟩) o).run P w = .ok y w' := by rw [← Sem.runT_fst P _ w #[], e]
    have hev : listed P f ⟨x, []⟩ o w = seen P f es := by unfold listed Sem.events; rw [e]
    cases y with
    | value v =>
      have := stepG_value (P := P) (main := true) (b := base f) (a := ⟨x, []⟩) (k := t ++ (if rest.isEmpty then k else [])) (cs := stk k cs rest) (rest := r) ho hw (by simp [base]) hrun
      rw [put_eq] at this
      exact this.trans (by rw [show listed P (base f).fn ⟨x, []⟩ o w = seen P f es from hev]; rfl)
    | skip =>
      have := stepG_none (P := P) (main := true) (b := base f) (a := ⟨x, []⟩) (k := t ++ (if rest.isEmpty then k else [])) (cs := stk k cs rest) (rest := r) ho hw (by simp [base]) hrun
      rw [put_eq] at this
      exact this.trans (by rw [show listed P (base f).fn ⟨x, []⟩ o w = seen P f es from hev]; rfl)
    | enter g args =>
      obtain ⟨fn, c, hf, hb, hc⟩ := hP.code g hy
      have := stepG_enter (P := P) (main := true) (b := base f) (a := ⟨x, []⟩) (k := t ++ (if rest.isEmpty then k else [])) (cs := stk k cs rest) (rest := r) ho hw (by simp [base]) hrun
      rw [enter_fm hf hb] at this
      refine this.trans ?_
      rw [show listed P (base f).fn ⟨x, []⟩ o w = seen P f es from hev]
      have e2 : addK k (⟨f, x, .inRegion ops (i :: r) :: t⟩ :: rest) (entF P g args) = entF P g args := by unfold addK; simp
      show _ = GStep.go (G (if false = true then _ else (addK k (⟨f, x, .inRegion ops (i :: r) :: t⟩ :: rest) (entF P g args)).fr) _) w' _
      rw [e2]
      rfl
    | _ => exact hy.elim
  · have hst : stepG P true (gOf k cs ⟨⟨f, x, .inRegion ops (i :: r) :: t⟩, false, rest⟩) w = stepG.apply P true ((base f).at ⟨x, []⟩ (.inRegion ops (i :: r) :: (t ++ (if rest.isEmpty then k else [])))) (stk k cs rest) none (execOp (Act.eval ⟨x, []⟩) o) w :=
      stepG_oper (P := P) (main := true) (b := base f) (a := ⟨x, []⟩) (k := t ++ (if rest.isEmpty then k else [])) (cs := stk k cs rest) ho hw
    rw [hst]
    cases h with
    | panic v => exact .inl ⟨_, w', _, apply_panic e rfl⟩
    | stuck s => exact .inr (apply_stuck e rfl)
    | unsupported u => exact .inr (apply_uns hP e rfl)
    | _ => exact hE.elim
theorem okSt_top {f : FuncId} {x : Array Value} {t t' : List Item} {rest : List Fm} {b : Bool} (hS : OkSt P L ⟨⟨f, x, t⟩, b, rest⟩) (h : ∀ i ∈ t', okItem P L i = true) (x' : Array Value) : OkSt P L ⟨⟨f, x', t'⟩, false, rest⟩ := ⟨h, hS.rest⟩
theorem ls_item (hP : OkP P L) {f : FuncId} {x : Array Value} {it : Item} {t : List Item} {rest : List Fm} (hS : OkSt P L ⟨⟨f, x, it :: t⟩, false, rest⟩) : LS P L ⟨⟨f, x, it :: t⟩, false, rest⟩ := by
  have hitems := hS.top
  have hit : okItem P L it = true := hitems _ (List.mem_cons_self ..)
  have ht : ∀ y ∈ t, okItem P L y = true := fun y hy => hitems y (List.mem_cons_of_mem _ hy)
  have two : ∀ {u v : Item}, okItem P L u = true → okItem P L v = true → ∀ i ∈ u :: v :: t, okItem P L i = true := fun hu hv i hi => by
    rcases List.mem_cons.1 hi with rfl | hi
    · exact hu
    · rcases List.mem_cons.1 hi with rfl | hi
      · exact hv
      · exact ht i hi
  have one : ∀ {u : Item}, okItem P L u = true → ∀ i ∈ u :: t, okItem P L i = true := fun hu i hi => by
    rcases List.mem_cons.1 hi with rfl | hi
    · exact hu
    · exact ht i hi
  cases it with
  | code c =>
    cases c with
    | skip => exact .ctl (okSt_top hS ht x) (fun k cs w => stepG_skip (P := P) (b := base f) (a := ⟨x, []⟩))
    | label l => exact .ctl (okSt_top hS ht x) (fun k cs w => stepG_label (P := P) (b := base f) (a := ⟨x, []⟩))
    | seq a b =>
      have h : okCode P L a = true ∧ okCode P L b = true := by simpa [okItem, okCode] using hit
      exact .ctl (okSt_top hS (two (u := .code a) (v := .code b) h.1 h.2) x) (fun k cs w => stepG_seq (P := P) (b := base f) (a := ⟨x, []⟩))
    | cond c a b =>
      have h : okCode P L a = true ∧ okCode P L b = true := by simpa [okItem, okCode] using hit
      by_cases hb : ∃ v, Act.eval ⟨x, []⟩ c = .bool v
      · obtain ⟨v, hv⟩ := hb
        exact .ctl (okSt_top hS (one (u := .code (if v then a else b)) (by cases v; exact h.2; exact h.1)) x) (fun k cs w => stepG_cond (P := P) (b := base f) (a := ⟨x, []⟩) hv)
      · refine .inr fun w => ?_
        show ∃ o w' es, stepG P true (G ((base f).at ⟨x, []⟩ (.code (.cond c a b) :: (t ++ (if rest.isEmpty then kR else [])))) (stk kR [trap] rest)) w = _
        generalize t ++ (if rest.isEmpty then kR else []) = tt
        have h' : ∀ v, ((base f).at ⟨x, []⟩ (.code (.cond c a b) :: tt)).eval c ≠ .bool v := fun v e => hb ⟨v, by rw [← Frame.eval_at (base f) ⟨x, []⟩]; exact e⟩
        cases hz : ((base f).at ⟨x, []⟩ (.code (.cond c a b) :: tt)).eval c with
        | bool v => exact absurd hz (h' v)
        | _ => simp only [Frame.at] at hz; simp only [G, stepG, stepG.exec, Frame.at, hz]; exact ⟨_, _, _, rfl⟩
    | block i c => exact .ctl (okSt_top hS (two (u := .code c) (v := .inBlock i) hit rfl) x) (fun k cs w => stepG_block (P := P) (b := base f) (a := ⟨x, []⟩))
    | loop c => exact .ctl (okSt_top hS (two (u := .code c) (v := .inLoop c) hit hit) x) (fun k cs w => stepG_loop (P := P) (b := base f) (a := ⟨x, []⟩))
    | scope c =>
      refine .ctl (s' := ⟨⟨f, x, .code c :: .inScope c :: t⟩, false, rest⟩) (okSt_top hS (two (u := .code c) (v := .inScope c) hit hit) x) (fun k cs w => ?_)
      show stepG P true (G ((base f).at ⟨x, []⟩ (.code (.scope c) :: (t ++ (if rest.isEmpty then k else [])))) (stk k cs rest)) w = _
      simp [G, stepG, stepG.exec, Frame.at, gOf, addK, Fm.fr]
    | exit id =>
      cases he : exitTo id t with
      | some u => exact .ctl (okSt_top hS (fun i hi => ht i (exit_mem he i hi)) x) (fun k cs w => stepG_exit (P := P) (b := base f) (a := ⟨x, []⟩) (exit_app he))
      | none =>
        refine .inr fun w => ?_
        have hn : exitTo id (t ++ (if rest.isEmpty then kR else [])) = none := exit_none (by cases rest.isEmpty <;> rfl) he
        show ∃ o w' es, stepG P true (G ((base f).at ⟨x, []⟩ (.code (.exit id) :: (t ++ (if rest.isEmpty then kR else [])))) (stk kR [trap] rest)) w = _
        simp only [G, stepG, stepG.exec, Frame.at, hn, Option.elim]
        exact ⟨_, _, _, rfl⟩
    | ret =>
      refine .ctl (s' := ⟨⟨f, x, .code .ret :: t⟩, true, rest⟩) ⟨hitems, hS.rest⟩ (fun k cs w => ?_)
      exact stepG_ret' (P := P) (b := base f) (a := ⟨x, []⟩)
    | region id ops draw =>
      cases draw with
      | false => exact .ctl (okSt_top hS (one (u := .inRegion ops (List.range ops.size)) hit) x) (fun k cs w => stepG_region (P := P) (b := base f) (a := ⟨x, []⟩))
      | true =>
        have hF : ∀ n, OkSt P L ⟨⟨f, x, .inRegion ops (Region.schedule (P.follows .mixedOrders) ops n) :: t⟩, false, rest⟩ := fun n => okSt_top hS (one (u := .inRegion ops _) hit) x
        refine .inl ⟨0, .choose (.order f id) fun n => .pure (.value (.int .i64 n)), fun y => match y with
          | .value (.int _ n) => ⟨⟨f, x, .inRegion ops (Region.schedule (P.follows .mixedOrders) ops n.toNat) :: t⟩, false, rest⟩
          | _ => ⟨⟨f, x, .inRegion ops (Region.schedule (P.follows .mixedOrders) ops 0) :: t⟩, false, rest⟩, fun _ => True.intro, fun y hy => ?_, fun k cs w y w' es e hy => ?_, fun k cs w h w' es e hE => ?_⟩
        · cases y with
          | value v => cases v <;> exact hF _
          | _ => exact hF _
        · have hq : (Question.order f id).forced = false := rfl
          simp only [Sem.runT, hq, Bool.false_eq_true, if_false] at e
          cases e
          have es : seen P 0 #[] = #[] := by rw [seen_def]; rfl
          rw [es]
          show stepG P true (G ((base f).at ⟨x, []⟩ (.code (.region id ops true) :: (t ++ (if rest.isEmpty then k else [])))) (stk k cs rest)) w = _
          generalize ht' : t ++ (if rest.isEmpty then k else []) = tt
          have : stepG P true (G ((base f).at ⟨x, []⟩ (.code (.region id ops true) :: tt)) (stk k cs rest)) w = .go (G ((base f).at ⟨x, []⟩ (.inRegion ops (Region.schedule (P.follows .mixedOrders) ops (Question.cut (.order f id) (w.tape w.drawn (.order f id)))) :: tt)) (stk k cs rest)) { w with drawn := w.drawn + 1 } := by
            simp [G, stepG, stepG.exec, Frame.at, base, choose, Sem.run, hq]
          rw [this, ← ht']
          rfl
        · have hq : (Question.order f id).forced = false := rfl
          simp only [Sem.runT, hq, Bool.false_eq_true, if_false] at e
          cases e
    | _ => cases hit
  | inBlock i => exact .ctl (okSt_top hS ht x) (fun k cs w => stepG_inBlock (P := P) (b := base f) (a := ⟨x, []⟩))
  | inLoop c => exact .ctl (okSt_top hS (two (u := .code c) (v := .inLoop c) hit hit) x) (fun k cs w => stepG_inLoop (P := P) (b := base f) (a := ⟨x, []⟩))
  | inScope c =>
    refine .ctl (s' := ⟨⟨f, x, t⟩, false, rest⟩) (okSt_top hS ht x) (fun k cs w => ?_)
    show stepG P true (G ((base f).at ⟨x, []⟩ (.inScope c :: (t ++ (if rest.isEmpty then k else [])))) (stk k cs rest)) w = _
    simp [G, stepG, stepG.exec, Frame.at, gOf, addK, Fm.fr]
  | inRegion ops l =>
    cases l with
    | nil => exact .ctl (okSt_top hS ht x) (fun k cs w => stepG_region_end (P := P) (b := base f) (a := ⟨x, []⟩))
    | cons i r =>
      cases ho : ops[i]? with
      | none =>
        refine .ctl (s' := ⟨⟨f, x, .inRegion ops r :: t⟩, false, rest⟩) (okSt_top hS (one (u := .inRegion ops r) hit) x) (fun k cs w => ?_)
        show stepG P true (G ((base f).at ⟨x, []⟩ (.inRegion ops (i :: r) :: (t ++ (if rest.isEmpty then k else [])))) (stk k cs rest)) w = _
        have hfin : ((base f).at ⟨x, []⟩ (.inRegion ops (i :: r) :: (t ++ (if rest.isEmpty then k else [])))).finish undef = (base f).at ⟨x, []⟩ (.inRegion ops r :: (t ++ (if rest.isEmpty then k else []))) := by rw [Frame.finish_at, ho]; rfl
        have : stepG P true (G ((base f).at ⟨x, []⟩ (.inRegion ops (i :: r) :: (t ++ (if rest.isEmpty then k else [])))) (stk k cs rest)) w = .go (G (((base f).at ⟨x, []⟩ (.inRegion ops (i :: r) :: (t ++ (if rest.isEmpty then k else [])))).finish undef) (stk k cs rest)) w := by
          simp [G, stepG, stepG.exec, Frame.at, ho]
        rw [this, hfin]
        rfl
      | some o =>
        cases hw : Region.wanted o (yielded ops x) with
        | true => exact ls_op hP hS ho hw
        | false =>
          refine .ctl (s' := ⟨⟨f, (Act.put ⟨x, []⟩ o.dst undef).tmps, .inRegion ops r :: t⟩, false, rest⟩) (okSt_top hS (one (u := .inRegion ops r) hit) _) (fun k cs w => ?_)
          have := stepG_unwanted (P := P) (main := true) (b := base f) (a := ⟨x, []⟩) (k := t ++ (if rest.isEmpty then k else [])) (cs := stk k cs rest) (rest := r) (w := w) ho hw
          rw [put_eq] at this
          exact this
  | _ => cases hit
def mapR {α β : Type} (g : α → β) : Result α → Result β
  | .ok a w => .ok (g a) w
  | .halt h w => .halt h w
theorem runT_map {α β : Type} (P : Program) (g : α → β) (s : Sem α) : ∀ (w : World) (es : Array Event), (s.bind fun v => .pure (g v)).runT P w es = (mapR g (s.runT P w es).1, (s.runT P w es).2) := by
  induction s with
  | pure a => exact fun w es => rfl
  | load m a k ih =>
    intro w es
    simp only [Sem.bind, Sem.runT]
    split
    · exact ih _ _ _
    · split
      · exact ih _ _ _
      · rfl
  | store m a v k ih =>
    intro w es
    cases v <;> first
      | rfl
      | (simp only [Sem.bind, Sem.runT]
         split
         · split
           · rfl
           · exact ih _ _
         · split
           · exact ih _ _
           · rfl)
  | new o k ih => exact fun w es => ih _ _ _
  | shape r k ih => exact fun w es => ih _ _ _
  | freeze a n k ih => exact fun w es => ih _ _
  | frozen a k ih => exact fun w es => ih _ _ _
  | getObj r k ih =>
    intro w es
    simp only [Sem.bind, Sem.runT]
    split
    · rfl
    · exact ih _ _ _
    · rfl
  | setObj r o k ih =>
    intro w es
    simp only [Sem.bind, Sem.runT]
    split
    · rfl
    · exact ih _ _
    · rfl
  | choose q k ih =>
    intro w es
    simp only [Sem.bind, Sem.runT]
    split
    · exact ih _ _ _
    · exact ih _ _ _
  | sys c k ih => exact fun w es => ih _ _ _
  | program k ih => exact fun w es => ih _ _ _
  | mark m k ih => exact fun w es => ih _ _
  | halt h => exact fun w es => rfl
/-- The return to a frame of the stack's own. -/
theorem ls_ret (hP : OkP P L) {m c : Fm} {rest : List Fm} (hS : OkSt P L ⟨m, true, c :: rest⟩) : LS P L ⟨m, true, c :: rest⟩ := by
  obtain ⟨hc, ops, i, r, t, ht⟩ := hS.rest c (List.mem_cons_self ..)
  have hfin : ∀ v k, ((addK k rest c).fr).finish v = (addK k rest ⟨c.fn, (Act.put ⟨c.x, []⟩ ((ops[i]?).bind (·.dst)) v).tmps, .inRegion ops r :: t⟩).fr := fun v k => by
    unfold addK Fm.fr
    simp only [ht, List.cons_append]
    rw [Frame.finish_at, put_eq]
  have hok : ∀ v, OkSt P L ⟨⟨c.fn, (Act.put ⟨c.x, []⟩ ((ops[i]?).bind (·.dst)) v).tmps, .inRegion ops r :: t⟩, false, rest⟩ := fun v => by
    refine ⟨fun y hy => ?_, fun y hy => hS.rest y (List.mem_cons_of_mem _ hy)⟩
    rcases List.mem_cons.1 hy with rfl | hy
    · have := hc (.inRegion ops (i :: r)) (by rw [ht]; exact List.mem_cons_self ..)
      exact this
    · exact hc y (by rw [ht]; exact List.mem_cons_of_mem _ hy)
  have haM : ∀ k, addK k (c :: rest) m = m := fun k => by unfold addK; simp
  let F : Next → St := fun y => match y with
    | .value v => ⟨⟨c.fn, (Act.put ⟨c.x, []⟩ ((ops[i]?).bind (·.dst)) v).tmps, .inRegion ops r :: t⟩, false, rest⟩
    | _ => ⟨⟨c.fn, (Act.put ⟨c.x, []⟩ ((ops[i]?).bind (·.dst)) undef).tmps, .inRegion ops r :: t⟩, false, rest⟩
  have hF : ∀ y, OkSt P L (F y) := fun y => by cases y <;> exact hok _
  have hg : ∀ k cs, gOf k cs ⟨m, true, c :: rest⟩ = G m.rt ((addK k rest c).fr :: stk k cs rest) := fun k cs => by
    show G (if true = true then (addK k (c :: rest) m).rt else _) _ = _
    rw [haM]; rfl
  cases hf : P.funcs[m.fn]? with
  | none =>
    refine .ctl (hF (.value (m.x.getD 0 undef))) (fun k cs w => ?_)
    rw [hg]
    have : stepG P true (G m.rt ((addK k rest c).fr :: stk k cs rest)) w = .go (G ((addK k rest c).fr.finish (m.x.getD 0 undef)) (stk k cs rest)) w := by
      simp [G, stepG, unwind, doReturn, Fm.rt, Fm.fr, Frame.at, base, hf]
    rw [this, hfin]
    rfl
  | some fn =>
    refine .inl ⟨m.fn, (results fn m.x).bind fun v => .pure (.value v), F, Hsh.bindG h_results (fun _ => True.intro), fun y _ => hF y, fun k cs w y w' es e hy => ?_, fun k cs w h w' es e hE => ?_⟩
    · rw [runT_map] at e
      cases hr : (results fn m.x).runT P w #[] with
      | mk r es' =>
        rw [hr] at e
        cases r with
        | halt h w'' => cases e
        | ok v w'' =>
          simp only [mapR, Prod.mk.injEq, Result.ok.injEq] at e
          obtain ⟨⟨rfl, rfl⟩, rfl⟩ := e
          rw [hg]
          have : stepG P true (G m.rt ((addK k rest c).fr :: stk k cs rest)) w = .go (G ((addK k rest c).fr.finish v) (stk k cs rest)) w'' (seen P m.fn es') := by
            have hr' : (results fn (m.rt).tmps).runT P w #[] = (.ok v w'', es') := hr
            have hk : m.rt.kind = .normal := rfl
            have hd : m.rt.defers = [] := rfl
            have hm : m.rt.mode = .returning := rfl
            have hf' : P.funcs[m.rt.fn]? = some fn := hf
            simp only [G, stepG, hm, unwind, hd, hf', hr', doReturn, hk, GStep.after, Array.append_empty]
            rfl
          rw [this, hfin]
          rfl
    · rw [runT_map] at e
      cases hr : (results fn m.x).runT P w #[] with
      | mk r es' =>
        rw [hr] at e
        cases r with
        | ok v w'' => cases e
        | halt h' w'' =>
          right
          rw [hg]
          have hr' : (results fn (m.rt).tmps).runT P w #[] = (.halt h' w'', es') := hr
          have hd : m.rt.defers = [] := rfl
          have hm : m.rt.mode = .returning := rfl
          have hf' : P.funcs[m.rt.fn]? = some fn := hf
          simp only [G, stepG, hm, unwind, hd, hf', hr']
          cases h' <;> exact ⟨_, _, _, rfl⟩
theorem ls_all (hP : OkP P L) {s : St} (hS : OkSt P L s) (hn : ¬ (s.rest = [] ∧ (s.ret = true ∨ s.top.t = []))) : LS P L s := by
  obtain ⟨⟨f, x, t⟩, b, rest⟩ := s
  cases b with
  | true =>
    cases rest with
    | nil => exact absurd ⟨rfl, .inl rfl⟩ hn
    | cons c rest => exact ls_ret hP hS
  | false =>
    cases t with
    | nil =>
      cases rest with
      | nil => exact absurd ⟨rfl, .inr rfl⟩ hn
      | cons c rest => exact .ctl (s' := ⟨⟨f, x, []⟩, true, c :: rest⟩) ⟨hS.top, hS.rest⟩ (fun k cs w => stepG_end (P := P) (b := base f) (a := ⟨x, []⟩))
    | cons it t => exact ls_item hP hS
end
end Go.Proofs.Ytlbkhiphnllfpac
namespace Go.Proofs.Ytlbkhiphnllfpac
open Go.Conc
set_option linter.unusedVariables false
set_option maxRecDepth 100000
section
variable {P : Program} {L : FuncId → Bool}
def mOf (k : List Item) (cs : List Frame) (s : St) (w : World) : Machine := lone (if s.ret then (addK k s.rest s.top).rt else (addK k s.rest s.top).fr) (stk k cs s.rest) w
theorem lone_go {fr fr' : Frame} {cs cs' : List Frame} {w w' : World} {es : Array Event} (h : stepG P true (G fr cs) w = .go (G fr' cs') w' es) : step P (lone fr cs w) = .next (lone fr' cs' w') :=
  step_lone_go (by show (stepG P true (G fr cs) w).bare = _; rw [h]; rfl)
theorem lone_end {fr : Frame} {cs : List Frame} {w w' : World} {o : Outcome} {es : Array Event} (h : stepG P true (G fr cs) w = .ended o w' es) : step P (lone fr cs w) = .ended o w' :=
  step_lone_ended (by show (stepG P true (G fr cs) w).bare = _; rw [h]; rfl)
theorem m_go {k : List Item} {cs : List Frame} {s s' : St} {w w' : World} {es : Array Event} (h : stepG P true (gOf k cs s) w = .go (gOf k cs s') w' es) : step P (mOf k cs s w) = .next (mOf k cs s' w') := lone_go h
/-- It stands where nothing of its own is left to do. -/
def AtT (s : St) : Prop := s.rest = [] ∧ (s.ret = true ∨ s.top.t = [])
def Agree (T' : Nat → Question → Nat) (d' : Nat) (T : Nat → Question → Nat) (d n : Nat) : Prop := ∀ i, i < n → T' (d' + i) = T (d + i)
def Step1 (P : Program) (L : FuncId → Bool) (s : St) (w : World) (T : Nat → Question → Nat) (d n : Nat) : Option (St × World) → Prop
  | some q => OkSt P L q.1 ∧ ∃ es, (∀ e ∈ es, Meek e) ∧ ∀ k cs T' d', Agree T' d' T d n → stepG P true (gOf k cs s) (w.on T' d') = .go (gOf k cs q.1) (q.2.on T' (d' + n)) es
  | none => ∀ T' d', Agree T' d' T d n → Dies P kR [trap] s (stepG P true (gOf kR [trap] s) (w.on T' d'))
theorem step1_ex (hP : OkP P L) {s : St} (hS : OkSt P L s) (hn : ¬ AtT s) (w : World) (T : Nat → Question → Nat) (d : Nat) : ∃ n o, Step1 P L s w T d n o := by
  rcases ls_all hP hS hn with ⟨f, c, F, hG, hF, h1, h2⟩ | hB
  · obtain ⟨n, hn1, hn2, hn3⟩ := runT_on P c hG.hsh (w.on T d) #[]
    obtain ⟨hE, hM⟩ := HshG.runs c hG (w.on T d) #[] (by simp)
    cases hr : c.runT P (w.on T d) #[] with
    | mk r es =>
      rw [hr] at hE hM
      cases r with
      | ok x w' =>
        refine ⟨n, some (F x, w'), hF x hE, seen P f es, fun e he => hM e (mem_seen he), fun k cs T' d' hA => ?_⟩
        have := hn3 T' d' hA
        rw [hr] at this
        exact h1 k cs _ x _ es this hE
      | halt h w' =>
        refine ⟨n, none, fun T' d' hA => ?_⟩
        have := hn3 T' d' hA
        rw [hr] at this
        refine h2 kR [trap] _ h _ es this ?_
        cases h <;> first | exact True.intro | exact hE
  · exact ⟨0, none, fun T' d' _ => .inr (hB _)⟩

/-- The steps one by one, over every tape. -/
def Goal (P : Program) (Tg : St → World → Prop) (s : St) (w : World) : Prop :=
  ∀ Q : St → World → Prop, (∀ s w, (∃ T d, Tg s (w.on T d)) → Q s w) →
    (∀ s w, ∀ nx : (Nat → Question → Nat) → Nat → St × World × Array Event, (∀ T d, (∀ e ∈ (nx T d).2.2, Meek e) ∧ ∀ k cs, stepG P true (gOf k cs s) (w.on T d) = .go (gOf k cs (nx T d).1) (nx T d).2.1 (nx T d).2.2) → (∀ T d, Q (nx T d).1 (nx T d).2.1) → Q s w) → Q s w
theorem ey_fst {p : Prop} {q : p → Prop} (h : ∃ t, q t) : p := h.elim fun t _ => t
theorem ey_snd {p : Prop} {q : p → Prop} (h : ∃ t, q t) : q (ey_fst h) := by obtain ⟨t, ht⟩ := h; exact ht
theorem Goal.here {P : Program} {Tg : St → World → Prop} {s : St} {w : World} (h : ∃ T d, Tg s (w.on T d)) : Goal P Tg s w := fun Q a b => a s w h
theorem Goal.step {P : Program} {Tg : St → World → Prop} {s : St} {w : World} (nx : (Nat → Question → Nat) → Nat → St × World × Array Event)
    (h : ∀ T d, (∀ e ∈ (nx T d).2.2, Meek e) ∧ ∀ k cs, stepG P true (gOf k cs s) (w.on T d) = .go (gOf k cs (nx T d).1) (nx T d).2.1 (nx T d).2.2) (hn : ∀ T d, Goal P Tg (nx T d).1 (nx T d).2.1) : Goal P Tg s w := fun Q a b => b s w nx h fun T d => hn T d Q a b
theorem Goal.ind {P : Program} {Tg : St → World → Prop} {motive : ∀ (s : St) (w : World), Goal P Tg s w → Prop}
    (here : ∀ {s : St} {w : World} (h : ∃ T d, Tg s (w.on T d)), motive s w (Goal.here h))
    (step : ∀ {s : St} {w : World} (nx : (Nat → Question → Nat) → Nat → St × World × Array Event) (h : ∀ T d, (∀ e ∈ (nx T d).2.2, Meek e) ∧ ∀ k cs, stepG P true (gOf k cs s) (w.on T d) = .go (gOf k cs (nx T d).1) (nx T d).2.1 (nx T d).2.2) (hn : ∀ T d, Goal P Tg (nx T d).1 (nx T d).2.1) (ih : ∀ T d, motive (nx T d).1 (nx T d).2.1 (hn T d)), motive s w (Goal.step nx h hn))
    {s : St} {w : World} (t : Goal P Tg s w) : motive s w t := by
  have h : ∃ t : Goal P Tg s w, motive s w t := t (fun s w => ∃ t : Goal P Tg s w, motive s w t) (fun s w h => ⟨Goal.here h, here h⟩)
    (fun s w nx h hn => ⟨Goal.step nx h fun T d => ey_fst (hn T d), step nx h (fun T d => ey_fst (hn T d)) fun T d => ey_snd (hn T d)⟩)
  exact ey_snd h
theorem Goal.next {Tg : St → World → Prop} {s : St} {w : World} (h : ∀ T d, ∃ s' w' es, (∀ e ∈ es, Meek e) ∧ (∀ k cs, stepG P true (gOf k cs s) (w.on T d) = .go (gOf k cs s') w' es) ∧ Goal P Tg s' w') : Goal P Tg s w := by
  have hex : ∀ T d, ∃ x : St × World × Array Event, (∀ e ∈ x.2.2, Meek e) ∧ (∀ k cs, stepG P true (gOf k cs s) (w.on T d) = .go (gOf k cs x.1) x.2.1 x.2.2) ∧ Goal P Tg x.1 x.2.1 := fun T d => by
    obtain ⟨s', w', es, h1, h2, h3⟩ := h T d
    exact ⟨(s', w', es), h1, h2, h3⟩
  exact .step (fun T d => Classical.choose (hex T d)) (fun T d => ⟨(Classical.choose_spec (hex T d)).1, (Classical.choose_spec (hex T d)).2.1⟩) (fun T d => (Classical.choose_spec (hex T d)).2.2)
/-- A goal stays one over another tape. -/
theorem Goal.on {Tg : St → World → Prop} {s : St} {w : World} (h : Goal P Tg s w) (T : Nat → Question → Nat) (d : Nat) : Goal P Tg s (w.on T d) := by
  induction h using Goal.ind with
  | here h => exact .here h
  | step nx h hn _ => exact .step nx h hn
/-- Where no goal is: it stands at the end; or some tape leads to where no goal is, or to the stand-ins' end. -/
theorem not_goal (hP : OkP P L) {Tg : St → World → Prop} {s : St} {w : World} (hS : OkSt P L s) (hg : ¬ Goal P Tg s w) :
    AtT s ∨ ∃ T d n, Step1 P L s w T d n none ∨ ∃ s' w', Step1 P L s w T d n (some (s', w')) ∧ OkSt P L s' ∧ ¬ Goal P Tg s' w' := by
  by_cases hT : AtT s
  · exact .inl hT
  · right
    by_cases hx : ∃ T d n, Step1 P L s w T d n none ∨ ∃ s' w', Step1 P L s w T d n (some (s', w')) ∧ OkSt P L s' ∧ ¬ Goal P Tg s' w'
    · exact hx
    · exfalso
      refine hg (Goal.next fun T d => ?_)
      obtain ⟨n, o, h1⟩ := step1_ex hP hS hT w T d
      cases o with
      | none => exact absurd ⟨T, d, n, .inl h1⟩ hx
      | some q =>
        obtain ⟨s', w'⟩ := q
        by_cases hg' : Goal P Tg s' w'
        · obtain ⟨hok, es, hm, hst⟩ := h1
          refine ⟨s', w'.on T (d + n), es, hm, fun k cs => hst k cs T d (fun _ _ => rfl), ?_⟩
          exact hg'.on T (d + n)
        · exact absurd ⟨T, d, n, .inr ⟨s', w', h1, h1.1, hg'⟩⟩ hx
/-! ### the stand-ins' end -/
/-- No later machine is one in which goroutine 0 runs or returns right above the stand-in. -/
def Never (P : Program) (m : Machine) : Prop := ∀ n fr w, runN P n m = .next (lone fr [trap] w) → fr.mode = .run ∨ fr.mode = .returning → False
theorem runN_end {m : Machine} {o : Outcome} {w : World} (h : step P m = .ended o w) (n : Nat) (m' : Machine) : runN P (n + 1) m ≠ .next m' := by simp [runN, h]
theorem never_end {m : Machine} {o : Outcome} {w : World} (h : step P m = .ended o w) (h0 : ∀ fr w, m = lone fr [trap] w → fr.mode = .run ∨ fr.mode = .returning → False) : Never P m := fun n fr w' hr hm => by
  cases n with
  | zero => simp [runN] at hr; exact h0 fr w' hr hm
  | succ n => exact runN_end h n _ hr
theorem never_step {m m' : Machine} (h : step P m = .next m') (hn : Never P m') (h0 : ∀ fr w, m = lone fr [trap] w → fr.mode = .run ∨ fr.mode = .returning → False) : Never P m := fun n fr w' hr hm => by
  cases n with
  | zero => simp [runN] at hr; exact h0 fr w' hr hm
  | succ n => simp only [runN, h] at hr; exact hn n fr w' hr hm
theorem stk_pre (k : List Item) : ∀ (rest : List Fm), ∃ fs : List Frame, (∀ cs, stk k cs rest = fs ++ cs) ∧ ∀ f ∈ fs, f.defers = [] ∧ f.mode = .run
  | [] => ⟨[], fun _ => rfl, by simp⟩
  | m :: r => by
    obtain ⟨fs, h1, h2⟩ := stk_pre k r
    refine ⟨(addK k r m).fr :: fs, fun cs => by simp [stk, h1], fun f hf => ?_⟩
    rcases List.mem_cons.1 hf with rfl | hf
    · exact ⟨rfl, rfl⟩
    · exact h2 f hf
theorem raise_never : ∀ (fs : List Frame), (∀ f ∈ fs, f.defers = [] ∧ f.mode = .run) → ∀ (f : Frame) (chain : List PanicEntry) (w : World), f.defers = [] → f.mode = .panicking chain → Never P (lone f (fs ++ [trap]) w)
  | [], _, f, chain, w, hd, hm => by
    have h0 : ∀ fr w', lone f ([] ++ [trap]) w = lone fr [trap] w' → fr.mode = .run ∨ fr.mode = .returning → False := fun fr w' e h => by
      simp [lone] at e
      obtain ⟨_, rfl⟩ := e
      rw [hm] at h
      rcases h with h | h <;> cases h
    by_cases hc : f.catches P = true
    · exact never_end (o := _) (w := w) (lone_end (es := #[]) (by simp only [G, stepG, hm, unwind, hd, hc, if_true, List.nil_append]; rfl)) h0
    · refine never_step (m' := lone (trap.raise chain) [] w) (lone_go (es := #[]) (by simp only [G, stepG, hm, unwind, hd, hc, List.nil_append]; rfl)) ?_ h0
      refine never_end (o := _) (w := w) (lone_end (es := #[]) (by rfl)) (fun fr w' e h => ?_)
      simp [lone] at e
  | c :: fs, hfs, f, chain, w, hd, hm => by
    have h0 : ∀ fr w', lone f ((c :: fs) ++ [trap]) w = lone fr [trap] w' → fr.mode = .run ∨ fr.mode = .returning → False := fun fr w' e h => by
      simp [lone] at e
    obtain ⟨hcd, hcm⟩ := hfs c (List.mem_cons_self ..)
    by_cases hc : f.catches P = true
    · exact never_end (o := _) (w := w) (lone_end (es := #[]) (by simp only [G, stepG, hm, unwind, hd, hc, if_true, List.cons_append]; rfl)) h0
    · refine never_step (m' := lone (c.raise chain) (fs ++ [trap]) w) (lone_go (es := #[]) (by simp only [G, stepG, hm, unwind, hd, hc, List.cons_append]; rfl)) ?_ h0
      have e : c.raise chain = { c with mode := .panicking chain } := by unfold Frame.raise; rw [hcm]
      rw [e]
      exact raise_never fs (fun f hf => hfs f (List.mem_cons_of_mem _ hf)) _ chain w hcd rfl
/-- Not behind a step. -/
def NeverS (P : Program) (m : Machine) : Prop := ∀ n fr w, runN P (n + 1) m = .next (lone fr [trap] w) → fr.mode = .run ∨ fr.mode = .returning → False
theorem neverS_step {m m' : Machine} (h : step P m = .next m') (hn : Never P m') : NeverS P m := fun n fr w' hr hm => by
  simp only [runN, h] at hr
  exact hn n fr w' hr hm
theorem neverS_end {m : Machine} {o : Outcome} {w : World} (h : step P m = .ended o w) : NeverS P m := fun n fr w' hr hm => runN_end h n _ hr
theorem dies_never {s : St} {W : World} (h : Dies P kR [trap] s (stepG P true (gOf kR [trap] s) W)) : NeverS P (mOf kR [trap] s W) := by
  rcases h with ⟨chain, w, es, h⟩ | ⟨o, w, es, h⟩
  · refine neverS_step (lone_go h) ?_
    obtain ⟨fs, h1, h2⟩ := stk_pre kR s.rest
    rw [h1]
    have hm : ∃ ch, ((if s.ret then (addK kR s.rest s.top).rt else (addK kR s.rest s.top).fr).raise chain).mode = .panicking ch ∧ ((if s.ret then (addK kR s.rest s.top).rt else (addK kR s.rest s.top).fr).raise chain).defers = [] := by
      cases s.ret <;> exact ⟨chain, rfl, rfl⟩
    obtain ⟨ch, hm1, hm2⟩ := hm
    exact raise_never fs h2 _ ch w hm2 hm1
  · exact neverS_end (lone_end h)
theorem atT_never {s : St} (h : AtT s) (W : World) : NeverS P (mOf kR [trap] s W) := by
  obtain ⟨⟨f, x, t⟩, b, rest⟩ := s
  obtain ⟨rfl, h⟩ := h
  cases b with
  | false =>
    obtain rfl : t = [] := h.resolve_left (by simp)
    exact neverS_end (o := _) (w := W) (lone_end (es := #[]) (by rfl))
  | true =>
    have hN : ∀ w', Never P (lone trap [] w') := fun w' => never_end (o := _) (w := w') (lone_end (es := #[]) (by rfl)) (fun fr w'' e _ => by simp [lone] at e)
    have hg : mOf kR [trap] ⟨⟨f, x, t⟩, true, []⟩ W = lone (addK kR [] ⟨f, x, t⟩).rt [trap] W := rfl
    rw [hg]
    generalize hm : (addK kR [] ⟨f, x, t⟩).rt = fr
    have h1 : fr.mode = .returning := by rw [← hm]; rfl
    have h2 : fr.defers = [] := by rw [← hm]; rfl
    have h3 : fr.kind = .normal := by rw [← hm]; rfl
    cases hf : P.funcs[fr.fn]? with
    | none => exact neverS_step (m' := lone trap [] W) (lone_go (es := #[]) (by simp only [G, stepG, h1, unwind, h2, hf, doReturn, h3]; rfl)) (hN W)
    | some fn =>
      cases hr : (results fn fr.tmps).runT P W #[] with
      | mk r es =>
        cases r with
        | ok v w' => exact neverS_step (m' := lone trap [] w') (lone_go (es := seen P fr.fn es ++ #[]) (by simp only [G, stepG, h1, unwind, h2, hf, hr, doReturn, h3]; rfl)) (hN w')
        | halt x w' =>
          have : ∃ o w'' es', stepG P true (G fr [trap]) W = .ended o w'' es' := by
            simp only [G, stepG, h1, unwind, h2, hf, hr]
            cases x <;> exact ⟨_, _, _, rfl⟩
          obtain ⟨o, w'', es', h⟩ := this
          exact neverS_end (lone_end h)
end
end Go.Proofs.Ytlbkhiphnllfpac
namespace Go.Proofs.Ytlbkhiphnllfpac
open Go.Conc
open Go.ConcN (sumTo upd sumTo_upd upd_ne upd_same)
set_option linter.unusedVariables false
set_option maxRecDepth 100000
section
variable {P : Program} {L : FuncId → Bool}
theorem runN_more {m m' : Machine} : ∀ {n : Nat} {i : Nat}, runN P i m = .next m' → runN P (i + n) m = runN P n m' := by
  intro n i
  induction i generalizing m with
  | zero => intro h; simp [runN] at h; subst h; rw [Nat.zero_add]
  | succ i ih =>
    intro h
    rw [show i + 1 + n = (i + n) + 1 by omega]
    simp only [runN] at h ⊢
    cases hs : step P m with
    | next m1 => rw [hs] at h; exact ih h
    | ended o w => rw [hs] at h; cases h
theorem goal_of_contract (hP : OkP P L) {Tg : St → World → Prop} {s0 : St} {w0 : World} (hS0 : OkSt P L s0)
    (hC : ∀ T, ∃ n fr w, runN P n (mOf kR [trap] s0 (w0.on T 0)) = .next (lone fr [trap] w) ∧ (fr.mode = .run ∨ fr.mode = .returning) ∧ ∀ s, mOf kR [trap] s w = lone fr [trap] w → Tg s w) : Goal P Tg s0 w0 := by
  refine Classical.byContradiction fun hng => ?_
  let Sub := { p : St × World // OkSt P L p.1 ∧ ¬ Goal P Tg p.1 p.2 }
  let p0 : Sub := ⟨(s0, w0), hS0, hng⟩
  have hdt : ∀ p : Sub, ∃ x : (Nat → Question → Nat) × Nat × Nat × Option Sub, match x.2.2.2 with
      | some q => Step1 P L p.1.1 p.1.2 x.1 x.2.1 x.2.2.1 (some q.1)
      | none => AtT p.1.1 ∨ Step1 P L p.1.1 p.1.2 x.1 x.2.1 x.2.2.1 none := fun p => by
    rcases not_goal hP p.2.1 p.2.2 with h | ⟨T, d, n, h | ⟨s', w', h, hok, hg⟩⟩
    · exact ⟨(fun _ _ => 0, 0, 0, none), .inl h⟩
    · exact ⟨(T, d, n, none), .inr h⟩
    · exact ⟨(T, d, n, some ⟨(s', w'), hok, hg⟩), h⟩
  let dt : Sub → (Nat → Question → Nat) × Nat × Nat × Option Sub := fun p => Classical.choose (hdt p)
  have hd : ∀ p : Sub, match (dt p).2.2.2 with
      | some q => Step1 P L p.1.1 p.1.2 (dt p).1 (dt p).2.1 (dt p).2.2.1 (some q.1)
      | none => AtT p.1.1 ∨ Step1 P L p.1.1 p.1.2 (dt p).1 (dt p).2.1 (dt p).2.2.1 none := fun p => Classical.choose_spec (hdt p)
  clear_value dt
  let sq : Nat → Option Sub := fun i => Nat.rec (some p0) (fun _ o => o.bind fun p => (dt p).2.2.2) i
  have sq0 : sq 0 = some p0 := rfl
  have sqS : ∀ i, sq (i + 1) = (sq i).bind fun p => (dt p).2.2.2 := fun i => rfl
  clear_value sq
  let off : Nat → Nat := fun i => Nat.rec 0 (fun i o => o + match sq i with | some p => (dt p).2.2.1 | none => 0) i
  have off0 : off 0 = 0 := rfl
  have offS : ∀ i, off (i + 1) = off i + match sq i with | some p => (dt p).2.2.1 | none => 0 := fun i => rfl
  clear_value off
  have mono : ∀ i j, i ≤ j → off i ≤ off j := fun i j h => by
    induction j with
    | zero => rw [Nat.le_zero.1 h]; exact Nat.le_refl _
    | succ j ih =>
      rcases Nat.lt_or_ge i (j + 1) with h' | h'
      · exact Nat.le_trans (ih (by omega)) (by rw [offS]; omega)
      · rw [show i = j + 1 by omega]; exact Nat.le_refl _
  have hTx : ∃ T' : Nat → Question → Nat, ∀ i p, sq i = some p → Agree T' (off i) (dt p).1 (dt p).2.1 (dt p).2.2.1 := by
    have hx : ∀ x, ∃ f : Question → Nat, ∀ i p, sq i = some p → off i ≤ x → x < off (i + 1) → f = (dt p).1 ((dt p).2.1 + (x - off i)) := fun x => by
      by_cases h : ∃ i p, sq i = some p ∧ off i ≤ x ∧ x < off (i + 1)
      · obtain ⟨i, p, h1, h2, h3⟩ := h
        refine ⟨(dt p).1 ((dt p).2.1 + (x - off i)), fun i' p' h1' h2' h3' => ?_⟩
        have : i = i' := by
          rcases Nat.lt_trichotomy i i' with h | h | h
          · have := mono (i + 1) i' h; omega
          · exact h
          · have := mono (i' + 1) i h; omega
        subst this
        rw [h1] at h1'
        cases h1'
        rfl
      · exact ⟨fun _ => 0, fun i p h1 h2 h3 => absurd ⟨i, p, h1, h2, h3⟩ h⟩
    refine ⟨fun x => Classical.choose (hx x), fun i p hp y hy => ?_⟩
    have := Classical.choose_spec (hx (off i + y)) i p hp (by omega) (by rw [offS, hp]; dsimp only; omega)
    rw [show off i + y - off i = y by omega] at this
    exact this
  obtain ⟨T', hAg⟩ := hTx
  have hrun : ∀ i p, sq i = some p → runN P i (mOf kR [trap] s0 (w0.on T' 0)) = .next (mOf kR [trap] p.1.1 (p.1.2.on T' (off i))) := by
    intro i
    induction i with
    | zero => intro p hp; rw [sq0] at hp; cases hp; rw [off0]; rfl
    | succ i ih =>
      intro q hq
      rw [sqS] at hq
      cases hs : sq i with
      | none => rw [hs] at hq; cases hq
      | some p =>
        rw [hs] at hq
        have hq' : (dt p).2.2.2 = some q := hq
        have h1 := hd p
        rw [hq'] at h1
        obtain ⟨_, es, _, hst⟩ := h1
        have h2 := ih p hs
        have h3 := m_go (hst kR [trap] T' (off i) (hAg i p hs))
        rw [runN_more (n := 1) h2]
        simp only [runN, h3]
        rw [offS, hs]
  obtain ⟨n, fr, w, hr, hm, hTg⟩ := hC T'
  cases hsn : sq n with
  | some p =>
    have := hrun n p hsn
    rw [hr] at this
    have e : lone fr [trap] w = mOf kR [trap] p.1.1 (p.1.2.on T' (off n)) := Stepped.next.inj this
    have ew : w = p.1.2.on T' (off n) := by have := congrArg Machine.world e; exact this
    subst ew
    exact p.2.2 (.here ⟨T', off n, hTg _ e.symm⟩)
  | none =>
    have : ∃ i p, i < n ∧ sq i = some p ∧ (dt p).2.2.2 = none := by
      clear hr hm hTg
      induction n with
      | zero => rw [sq0] at hsn; cases hsn
      | succ n ih =>
        cases hs : sq n with
        | none => obtain ⟨i, p, h1, h2⟩ := ih hs; exact ⟨i, p, by omega, h2⟩
        | some p => exact ⟨n, p, by omega, hs, by rw [sqS, hs] at hsn; exact hsn⟩
    obtain ⟨i, p, hi, hp, hnone⟩ := this
    have h1 := hd p
    rw [hnone] at h1
    have hnev : NeverS P (mOf kR [trap] p.1.1 (p.1.2.on T' (off i))) := by
      rcases h1 with h1 | h1
      · exact atT_never h1 _
      · exact dies_never (h1 T' (off i) (hAg i p hp))
    have h2 := hrun i p hp
    obtain ⟨k, rfl⟩ : ∃ k, n = i + (k + 1) := ⟨n - i - 1, by omega⟩
    rw [runN_more h2] at hr
    exact hnev k fr w hr hm
end
end Go.Proofs.Ytlbkhiphnllfpac
namespace Go.Proofs.Ytlbkhiphnllfpac
open Go.Conc
open Go.ConcN (sumTo upd sumTo_upd upd_ne upd_same)
set_option linter.unusedVariables false
set_option maxRecDepth 100000
section
variable {P : Program}
theorem low_ex : ∀ (l : List Event), ∃ B, ∀ e ∈ l, (MemAct.ofEvent e).low B
  | [] => ⟨0, by simp⟩
  | e :: l => by
    obtain ⟨B, h⟩ := low_ex l
    have he : ∃ B, (MemAct.ofEvent e).low B := by
      cases h : MemAct.ofEvent e with
      | access e =>
        cases hl : e.loc with
        | cell a => exact ⟨a.block + 1, by simp [MemAct.low, hl, Loc.low]⟩
        | obj r => exact ⟨r + 1, by simp [MemAct.low, hl, Loc.low]⟩
        | output => exact ⟨0, by simp [MemAct.low, hl, Loc.low]⟩
        | goroutines => exact ⟨0, by simp [MemAct.low, hl, Loc.low]⟩
        | mark m => exact ⟨0, by simp [MemAct.low, hl, Loc.low]⟩
      | mark m => cases m <;> first | exact ⟨0, True.intro⟩ | (rename_i a; exact ⟨a.block + 1, Nat.lt_succ_self _⟩)
      | go _ => exact ⟨0, True.intro⟩
      | start => exact ⟨0, True.intro⟩
      | send c _ => exact ⟨c + 1, Nat.lt_succ_self _⟩
      | sendDone c _ => exact ⟨c + 1, Nat.lt_succ_self _⟩
      | recv c _ _ => exact ⟨c + 1, Nat.lt_succ_self _⟩
      | recvDone c _ => exact ⟨c + 1, Nat.lt_succ_self _⟩
      | close c => exact ⟨c + 1, Nat.lt_succ_self _⟩
      | recvClosed c => exact ⟨c + 1, Nat.lt_succ_self _⟩
    obtain ⟨B', h'⟩ := he
    refine ⟨max B B', fun x hx => ?_⟩
    rcases List.mem_cons.1 hx with rfl | hx
    · exact MemAct.low_mono (Nat.le_max_right _ _) h'
    · exact MemAct.low_mono (Nat.le_max_left _ _) (h x hx)
theorem past_meek {B : Nat} {T : Trace} (h : Past (fun _ => False) B T) {es : Array Event} (hes : ∀ e ∈ es, Meek e) (fn : FuncId) (pos : String) : ∃ B', Past (fun _ => False) B' (T ++ MemOp.ofEvents 0 fn pos es) := by
  obtain ⟨l⟩ := es
  obtain ⟨B', hB⟩ := low_ex l
  exact ⟨max B B', (h.mono (Nat.le_max_left _ _)).own fun e he => ⟨fun _ _ hf => hf.elim, (hes e he).1, (hes e he).2, MemAct.low_mono (Nat.le_max_right _ _) (hB e (by simpa using he))⟩⟩
/-- Where the goroutine has come to. -/
def FinG (k : List Item) (cs : List Frame) (Tg : St → World → Prop) (M : Nat → Prop) (a : Goroutine) (w : World) : Prop := ∃ s, a = gOf k cs s ∧ ∃ T d, Tg s (w.on T d)
theorem gOf_run (k : List Item) (cs : List Frame) (s : St) : (gOf k cs s).status = .running := by
  unfold gOf; rfl
theorem goal_run {Tg : St → World → Prop} {s : St} {w : World} (k : List Item) (cs : List Frame) (h : Goal P Tg s w) :
    ∀ (T2 : Nat → Question → Nat) (d2 : Nat) (gs : Array Goroutine) (T : Trace) (q : Nat → Nat) (sl : Option (Nat × Nat)), gs[0]? = some (gOf k cs s) → Leavers P T gs q → (∃ B, Past (fun _ => False) B T) → Reach P (FinG k cs Tg) gs.size (crowd gs (w.on T2 d2) sl) T := by
  induction h using Goal.ind with
  | here h =>
    intro T2 d2 gs T q sl h0 hL hP
    obtain ⟨B, hP⟩ := hP
    exact ⟨0, gs, _, _, sl, T, q, B, fun _ => False, rfl, rfl, h0, ⟨_, rfl, h⟩, hL, hP⟩
  | step nx h hn ih =>
    rename_i s w
    intro T2 d2 gs T q sl h0 hL hP
    generalize hn : sumTo gs.size q = n
    induction n using Nat.strongRecOn generalizing d2 gs T q sl with
    | _ n ihn =>
      have hra : (gOf k cs s).status = .running := gOf_run k cs s
      have haw : ∀ g ∈ gs, awake g := by
        intro g hg
        obtain ⟨i, hi, rfl⟩ := Array.mem_iff_getElem.1 hg
        rcases Nat.eq_zero_or_pos i with rfl | hpos
        · have : gs[0] = gOf k cs s := by simpa [Array.getElem?_eq_getElem hi] using h0
          rw [this]; exact awake_of (.inl hra)
        · exact awake_of ((hL.old i _ hpos (Array.getElem?_eq_getElem hi)).status.elim .inl fun x => .inr (.inr x))
      obtain ⟨i, g, d, sl', hi, hg, hst⟩ := crowd_pick (P := P) (w := w.on T2 d2) (sl := sl) haw ⟨0, _, h0, hra⟩
      have hlt0 : 0 < gs.size := (Array.getElem?_eq_some_iff.1 h0).1
      rcases Nat.eq_zero_or_pos i with rfl | hpos
      · obtain rfl : g = gOf k cs s := by rw [h0] at hi; exact (Option.some.inj hi).symm
        obtain ⟨hm, hgo⟩ := h T2 d
        have hrun := runT_crowd_go (P := P) (sl := sl') (i := 0) hi (show stepG P (0 == 0) (gOf k cs s) ((w.on T2 d2).at d) = _ from hgo k cs)
        refine Reach.step (hst.trans hrun) ?_
        obtain ⟨B, hP⟩ := hP
        have := ih T2 d (nx T2 d).2.1.tape (nx T2 d).2.1.drawn ((gs.map (Conc.woken P (gOf k cs s) (gOf k cs (nx T2 d).1) (nx T2 d).2.1)).setIfInBounds 0 (gOf k cs (nx T2 d).1)) (T ++ MemOp.ofEvents 0 (gOf k cs s).frame.fn (gOf k cs s).frame.place (nx T2 d).2.2) q sl' (get_set_same (by simpa using hlt0) _)
          ⟨fun x y hx hy => by
            rw [get_set_ne (show (0 : Nat) ≠ x by omega), Array.getElem?_map] at hy
            obtain ⟨u, hu, rfl⟩ := Option.map_eq_some_iff.1 hy
            have hq := hL.old x u hx hu
            rw [woken_quitsD hq, Deaf_other T (g' := 0) (by omega) _ (fun op hop => by obtain ⟨e, _, rfl⟩ := mem_ofEv hop; rfl)]
            exact hq, fun x hx => by
            rw [Deaf_other T (g' := 0) (by simp at hx; omega) _ (fun op hop => by obtain ⟨e, _, rfl⟩ := mem_ofEv hop; rfl)]
            exact hL.above x (by simpa using hx)⟩ (past_meek hP hm _ _)
        rw [show ((gs.map (Conc.woken P (gOf k cs s) (gOf k cs (nx T2 d).1) (nx T2 d).2.1)).setIfInBounds 0 (gOf k cs (nx T2 d).1)).size = gs.size by simp] at this
        exact this
      · have hq := hL.old i g hpos hi
        have hi0 : (i == 0) = false := by simp; omega
        have hlt : i < gs.size := (Array.getElem?_eq_some_iff.1 hi).1
        cases hqi : q i with
        | zero => rw [hqi] at hq; rw [hq.1] at hg; cases hg
        | succ k' =>
          rw [hqi] at hq
          rcases hq with ⟨hf, _⟩ | ⟨_, g', es, hm, hstp, hq'⟩
          · rw [hf] at hg; cases hg
          have hrunT := runT_crowd_go (P := P) (sl := sl') (i := i) hi (by rw [hi0]; exact hstp ((w.on T2 d2).at d))
          have hsum : sumTo gs.size (upd q i k') + (k' + 1) = sumTo gs.size q + k' := by
            have := sumTo_upd q k' id hlt
            simpa [hqi] using this
          have hz : ((gs.map (Conc.woken P g g' ((w.on T2 d2).at d))).setIfInBounds i g').size = gs.size := by simp
          obtain ⟨B, hP⟩ := hP
          have := ihn (sumTo gs.size (upd q i k')) (by omega) d ((gs.map (Conc.woken P g g' ((w.on T2 d2).at d))).setIfInBounds i g') (T ++ MemOp.ofEvents i g.frame.fn g.frame.place es) (upd q i k') sl' (by rw [get_set_ne (show i ≠ 0 by omega), Array.getElem?_map, h0]; simp [woken_run hra])
            ⟨fun x y hx hy => Leave.slip (Who := fun _ => True) hlt hpos trivial (fun i g h _ => hL.old i g h) hq' _ _ x y hx trivial hy, fun x hx => by
              rw [Deaf_other T (g' := i) (by simp at hx; omega) _ (fun op hop => by obtain ⟨e, _, rfl⟩ := mem_ofEv hop; rfl)]
              exact hL.above x (by simpa using hx)⟩ ⟨B, hP.mute (by omega) hm⟩ (by rw [hz])
          rw [hz] at this
          exact Reach.step (hst.trans hrunT) this
end
end Go.Proofs.Ytlbkhiphnllfpac
