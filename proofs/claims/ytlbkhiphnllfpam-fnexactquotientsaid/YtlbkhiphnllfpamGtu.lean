/-
  Goroutine 0 beside others that only leave: a piece of code of its own, by the lone walk over it, on every tape.
-/
import Derived.Test.YtlbkhiphnllfpamGtq
namespace Go.Proofs.Ytlbkhiphnllfpam
open Go.Conc
set_option linter.unusedVariables false
section
variable {P : Program} {L' : FuncId → Bool} {Post : Value → World → Prop} {w : World}
theorem mOf_inv2 {f0 : FuncId} {x : Array Value} {todo : List Item} {s : St} {w w' : World} (e : mOf kR [trap] s w = lone { (base f0).at ⟨x, []⟩ todo with mode := .returning } [trap] w') : ∃ t, s = ⟨⟨f0, x, t⟩, true, []⟩ := by
  obtain ⟨⟨f, y, u⟩, b, rest⟩ := s
  have hc : stk kR [trap] rest = [trap] := congrArg (fun m : Machine => (m.gs[0]?.getD default).callers) e
  have hr : rest = [] := by
    cases rest with
    | nil => rfl
    | cons m r =>
      have hl : ∀ r : List Fm, (stk kR [trap] r).length = r.length + 1 := fun r => by
        induction r with
        | nil => rfl
        | cons m r ih => simp [stk, ih]
      have := congrArg List.length hc
      rw [hl] at this
      simp at this
  subst hr
  have hf : (if b then (addK kR [] ⟨f, y, u⟩).rt else (addK kR [] ⟨f, y, u⟩).fr) = { (base f0).at ⟨x, []⟩ todo with mode := .returning } := congrArg (fun m : Machine => (m.gs[0]?.getD default).frame) e
  cases b with
  | false => have := congrArg Frame.mode hf; cases this
  | true =>
    have h1 : f = f0 := congrArg Frame.fn hf
    have h2 : y = x := congrArg Frame.tmps hf
    subst h1 h2
    exact ⟨u, rfl⟩
/-- A PIECE OF CODE of its own, by the lone walk over it. -/
theorem BW.code (hP : OkP P L') {f0 : FuncId} {x : Array Value} {c : Code} {k : List Item} {cs : List Frame} (hok : okCode P L' c = true) {Q : World → Exit → Act → World → Prop}
    (hC : ∀ T d, c.wp P (Q (w.on T d)) ⟨x, []⟩ (w.on T d)) (hQ : ∀ W e a' w', Q W e a' w' → (e = .normal ∨ e = .ret) ∧ a'.defers = [])
    (hn : ∀ T d y w', Q (w.on T d) .normal ⟨y, []⟩ w' → BW P Post (G ((base f0).at ⟨y, []⟩ k) cs) w')
    (hr : ∀ T d y w' todo, Q (w.on T d) .ret ⟨y, []⟩ w' → BW P Post (G { (base f0).at ⟨y, []⟩ todo with mode := .returning } cs) w') :
    BW P Post (G ((base f0).at ⟨x, []⟩ (.code c :: k)) cs) w := by
  have hm : ∀ W : World, mOf kR [trap] ⟨⟨f0, x, [.code c]⟩, false, []⟩ W = lone ((base f0).at ⟨x, []⟩ (.code c :: kR)) [trap] W := fun W => rfl
  have hg : Goal P (fun s w' => ∃ T y, (s = ⟨⟨f0, y, []⟩, false, []⟩ ∧ Q (w.on T 0) .normal ⟨y, []⟩ w') ∨ ∃ t, s = ⟨⟨f0, y, t⟩, true, []⟩ ∧ Q (w.on T 0) .ret ⟨y, []⟩ w') ⟨⟨f0, x, [.code c]⟩, false, []⟩ w := by
    refine goal_of_contract hP ⟨fun it hit => ?_, fun m hm => by cases hm⟩ fun T => ?_
    · obtain rfl := List.mem_singleton.1 hit
      exact hok
    · obtain ⟨e, a', w', hq, harr⟩ := hC T 0 (base f0) kR [trap]
      obtain ⟨he, hd⟩ := hQ _ _ _ _ hq
      obtain ⟨y, df⟩ := a'
      obtain rfl : df = [] := hd
      rcases he with rfl | rfl
      · obtain ⟨n, hn⟩ := (show Steps P _ _ from harr)
        exact ⟨n, _, w', by rw [hm]; exact hn, .inl rfl, fun s hs => ⟨T, y, .inl ⟨mOf_inv (t := []) hs, hq⟩⟩⟩
      · obtain ⟨todo, n, hn⟩ := (show ∃ todo, Steps P _ _ from harr)
        exact ⟨n, _, w', by rw [hm]; exact hn, .inr rfl, fun s hs => by
          obtain ⟨t, ht⟩ := mOf_inv2 hs
          exact ⟨T, y, .inr ⟨t, ht, hq⟩⟩⟩
  have hB := BW.goal (Post := Post) k cs hg fun s w' ⟨T, y, h⟩ => by
    rcases h with ⟨rfl, hq⟩ | ⟨t, rfl, hq⟩
    · exact hn T 0 y w' hq
    · exact hr T 0 y w' _ hq
  exact hB
/-- .. the last piece: it returns. -/
theorem BW.tail (hP : OkP P L') {f0 : FuncId} {x : Array Value} {c : Code} {fn : Func} (hf : P.funcs[f0]? = some fn) (hi : P.inits.idxOf? f0 = none) (hok : okCode P L' c = true)
    (hev : ∀ (y : Array Value) (W : World), ∀ e ∈ (results fn y).events P W #[], Meek e)
    (hC : ∀ T d, c.wp P (bodyPost P fn fun e w' => ∃ v, e = .returned v ∧ Post v w') ⟨x, []⟩ (w.on T d)) (hpost : ∀ v W T d, Post v W → Post v (W.on T d)) (hres : ∀ y v W T d, (results fn y).run P W = .ok v W → (results fn y).run P (W.on T d) = .ok v (W.on T d)) :
    BW P Post (G ((base f0).at ⟨x, []⟩ [.code c]) []) w := by
  have hend : ∀ (y : Array Value) (todo : List Item) (w' : World) (v : Value), (results fn y).run P w' = .ok v w' → Post v w' → BW P Post (G { (base f0).at ⟨y, []⟩ todo with mode := .returning } []) w' := fun y todo w' v h1 h2 =>
    BW.done rfl fun T d => ⟨v, seen P f0 ((results fn y).events P (w'.on T d) #[]), by
      have := hres y v w' T d h1
      simp [G, stepG, unwind, doReturn, Frame.at, base, hf, this, hi, GStep.after], fun e he => hev y _ e (mem_seen he), hpost v w' T d h2⟩
  refine BW.code hP (k := []) (Q := fun _ e a' w' => (e = .normal ∨ e = .ret) ∧ a'.defers = [] ∧ ∃ v, (results fn a'.tmps).run P w' = .ok v w' ∧ Post v w') hok (fun T d => wp_mono (hC T d) fun e a' w' h => ?_) (fun _ _ _ _ h => ⟨h.1, h.2.1⟩) (fun T d y w' h => ?_) (fun T d y w' todo h => ?_)
  · cases e with
    | normal => obtain ⟨h1, v, h2, v', h3, h4⟩ := h; cases h3; exact ⟨.inl rfl, h1, v, h2, h4⟩
    | ret => obtain ⟨h1, v, h2, v', h3, h4⟩ := h; cases h3; exact ⟨.inr rfl, h1, v, h2, h4⟩
    | panic ch => obtain ⟨h1, v', h3, h4⟩ := h; cases h3
    | outgrown => obtain ⟨v', h3, h4⟩ := h; cases h3
    | exit id => exact h.elim
    | goto l => exact h.elim
  · obtain ⟨-, -, v, h1, h2⟩ := h
    exact BW.ctl rfl (fun _ => stepG_end) (hend y [] w' v h1 h2)
  · obtain ⟨-, -, v, h1, h2⟩ := h
    exact hend y todo w' v h1 h2
/-- .. with one result, in a slot. -/
theorem BW.tail1 (hP : OkP P L') {f0 : FuncId} {x : Array Value} {c : Code} {fn : Func} {t : Tmp} (hf : P.funcs[f0]? = some fn) (hi : P.inits.idxOf? f0 = none) (hrs : fn.results = #[.tmp t]) (hok : okCode P L' c = true)
    (hC : ∀ T d, c.wp P (bodyPost P fn fun e w' => ∃ v, e = .returned v ∧ Post v w') ⟨x, []⟩ (w.on T d)) (hpost : ∀ v W T d, Post v W → Post v (W.on T d)) :
    BW P Post (G ((base f0).at ⟨x, []⟩ [.code c]) []) w := by
  have h1 : ∀ (y : Array Value) (W : World), (results fn y).run P W = .ok (y.getD t undef) W ∧ (results fn y).events P W #[] = #[] := fun y W => by
    simp [results, hrs]
  refine BW.tail hP hf hi hok (fun y W e he => ?_) hC hpost (fun y v W T d h => ?_)
  · rw [(h1 y W).2] at he; simp at he
  · rw [(h1 y W).1] at h
    cases h
    exact (h1 y _).1
end
end Go.Proofs.Ytlbkhiphnllfpam
