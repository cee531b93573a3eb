/-
  Goroutines: the trace and the machine of a pipe whose two ends make memory; a whole phase.
-/
import Derived.Conc.TokenTrace
import Derived.Conc.CrowdComm
import Derived.Conc.TokenWalk
namespace Go.Proofs.Ytlbkhiphnllfpac
open Go.Conc
set_option linter.unusedVariables false
set_option maxRecDepth 100000
/-- A touch that one of the two may make while the other works: of a cell of its own; a read of a cell that was there at the start; an atomic one of the channel. -/
def His (c L : Nat) (M : Nat → Prop) (a : Touch) : Prop := (∃ ad, a.loc = .cell ad ∧ M ad.block) ∨ (a.write = false ∧ ∃ ad, a.loc = .cell ad ∧ ad.block < L) ∨ (a.loc = .obj c ∧ a.kind = .atomic)
theorem His.mono {c L : Nat} {M M' : Nat → Prop} {a : Touch} (h : His c L M a) (hm : ∀ k, M k → M' k) : His c L M' a := by
  rcases h with ⟨ad, e, k⟩ | h | h
  · exact .inl ⟨ad, e, hm _ k⟩
  · exact .inr (.inl h)
  · exact .inr (.inr h)
/-- 'me' knows every touch but those that the other has made so. -/
def Kn (me him c L : Nat) (M : Nat → Prop) (t : Trace) : Prop := ∀ i a, touchAt t i = some a → a.loc.isMemory = true → Knows t me i ∨ ∃ x, t[i]? = some x ∧ x.g = him ∧ His c L M a
theorem Kn.app {me him c L : Nat} {M M' : Nat → Prop} {t u : Trace} (h : Kn me him c L M t) (hm : ∀ k, M k → M' k)
    (hu : ∀ op ∈ u, op.g = me ∨ (op.g = him ∧ ∀ b, op.act.touch? = some b → His c L M' b) ∨ op.act.touch? = none) : Kn me him c L M' (t ++ u) := by
  intro i a ha hmem
  obtain ⟨x, hx, hxa⟩ := touch_of ha
  rcases getElem?_append_cases hx with ⟨hi, hx'⟩ | ⟨_, hxu⟩
  · rcases h i a (by rw [touchAt_of hx']; exact hxa) hmem with hk | ⟨y, hy, hg, hh⟩
    · exact .inl (hk.app u)
    · exact .inr ⟨y, by rw [getElem?_append_old hi]; exact hy, hg, hh.mono hm⟩
  · rcases hu x hxu with e | ⟨e, hb⟩ | e
    · have := knows_own hx
      rw [e] at this
      exact .inl this
    · exact .inr ⟨x, hx, e, hb a hxa⟩
    · rw [e] at hxa; cases hxa

/-- What a step of one of the two may list. -/
def EvO (L : Nat) (M : Nat → Prop) (B : Nat) (e : Event) : Prop := (∃ ad wr sy, e = ⟨.cell ad, wr, sy⟩ ∧ ad.block < B ∧ (M ad.block ∨ (wr = false ∧ ad.block < L))) ∨ e = ⟨.mark .noRoom, false, true⟩
theorem EvO.touch {c L B : Nat} {M : Nat → Prop} {e : Event} (h : EvO L M B e) {b : Touch} (hb : (MemAct.ofEvent e).touch? = some b) : His c L M b ∧ ∃ ad, b.loc = .cell ad ∧ (M ad.block ∨ (b.write = false ∧ ad.block < L)) := by
  rcases h with ⟨ad, wr, sy, rfl, hB, hM⟩ | rfl
  · simp only [ofEvent_cell0, MemAct.touch?, Option.some.injEq] at hb
    subst hb
    refine ⟨?_, ad, rfl, hM⟩
    rcases hM with hM | ⟨rfl, hM⟩
    · exact .inl ⟨ad, rfl, hM⟩
    · exact .inr (.inl ⟨rfl, ad, rfl, hM⟩)
  · simp [MemAct.ofEvent, MemAct.touch?] at hb
theorem EvO.low {L B : Nat} {M : Nat → Prop} {e : Event} (h : EvO L M B e) : (MemAct.ofEvent e).low B := by
  rcases h with ⟨ad, wr, sy, rfl, hB, _⟩ | rfl
  · exact hB
  · simp [MemAct.ofEvent, MemAct.low]
theorem EvO.quiet {L B : Nat} {M : Nat → Prop} {e : Event} (h : EvO L M B e) : e.loc ≠ .mark .disable ∧ e.loc ≠ .mark .enable := by
  rcases h with ⟨ad, wr, sy, rfl, _, _⟩ | rfl <;> simp

/-- What is held of the trace while goroutines 0 and j work over channel c. -/
structure PhT (j c L : Nat) (MA MB : Nat → Prop) (t : Trace) : Prop where
  clean : ∀ said, ¬ Race said t
  kA : Kn 0 j c L MB t
  kB : Kn j 0 c L MA t
  over : ∀ i g, t.g? i = some g → g ≠ 0 → g ≠ j → t.counts i → ∃ q, t.g? q = some 0 ∧ HappensBefore t i q
  hA : Deaf t 0 = 0
  hB : Deaf t j = 0
  seen : ∃ B, ∀ op ∈ t, op.act.low B

section
variable {j c L : Nat} {MA MB MA' MB' : Nat → Prop} {t u : Trace}
theorem seen_app2 (h : ∃ B, ∀ op ∈ t, op.act.low B) (hu : ∃ B, ∀ op ∈ u, op.act.low B) : ∃ B, ∀ op ∈ t ++ u, op.act.low B := by
  obtain ⟨B, h⟩ := h
  obtain ⟨B', hu⟩ := hu
  exact ⟨max B B', seen_app (fun op ho => MemAct.low_mono (Nat.le_max_left _ _) (h op ho)) (fun op ho => MemAct.low_mono (Nat.le_max_right _ _) (hu op ho))⟩
theorem over_app (h : ∀ i g, t.g? i = some g → g ≠ 0 → g ≠ j → t.counts i → ∃ q, t.g? q = some 0 ∧ HappensBefore t i q) (hu : ∀ op ∈ u, op.g = 0 ∨ op.g = j ∨ op.act.touch? = none) :
    ∀ i g, (t ++ u).g? i = some g → g ≠ 0 → g ≠ j → (t ++ u).counts i → ∃ q, (t ++ u).g? q = some 0 ∧ HappensBefore (t ++ u) i q := by
  intro i g hg hne hnj hc
  obtain ⟨x, hx, _⟩ := hc
  obtain ⟨op, hop, hox⟩ := touch_of hx
  rcases getElem?_append_cases hop with ⟨hi, hop'⟩ | ⟨_, hopu⟩
  · obtain ⟨q, hq, hb⟩ := h i g (by simpa [Trace.g?, getElem?_append_old hi] using hg) hne hnj ((counts_old hi).1 ⟨x, hx, ‹_›⟩)
    have hql : q < t.size := by
      unfold Trace.g? at hq
      obtain ⟨z, hz, _⟩ := Option.map_eq_some_iff.1 hq
      exact lt_size_of_getElem? hz
    exact ⟨q, by simpa [Trace.g?, getElem?_append_old hql] using hq, hb_app u hb⟩
  · have hgo : g = op.g := by have := g?_of hop; rw [hg] at this; exact Option.some.inj this
    rcases hu op hopu with h0 | h0 | h0
    · exact absurd (hgo.trans h0) hne
    · exact absurd (hgo.trans h0) hnj
    · rw [h0] at hox; cases hox
/-- Operations that touch nothing, of whomever, without a word of deafness. -/
theorem PhT.mute (h : PhT j c L MA MB t) (hn : ∀ op ∈ u, op.act.touch? = none) (hq : ∀ op ∈ u, ∀ g d, g = 0 ∨ g = j → deafStep g d op = d) (hl : ∃ B, ∀ op ∈ u, op.act.low B) : PhT j c L MA MB (t ++ u) :=
  ⟨fun said => noRace_appendMute (h.clean said) hn, h.kA.app (fun _ k => k) (fun op ho => .inr (.inr (hn op ho))), h.kB.app (fun _ k => k) (fun op ho => .inr (.inr (hn op ho))),
    over_app h.over (fun op ho => .inr (.inr (hn op ho))), (Deaf_quiet fun op ho d => hq op ho 0 d (.inl rfl)).trans h.hA, (Deaf_quiet fun op ho d => hq op ho j d (.inr rfl)).trans h.hB, seen_app2 h.seen hl⟩
/-- No race: the doer knows what conflicts. -/
theorem race_free {me him : Nat} {M N N' : Nat → Prop} (h : Kn me him c L N t) (hN : ∀ k, N k → L ≤ k) (hap : ∀ k, M k → ¬ N k) (hM : ∀ k, M k → L ≤ k)
    (hu : ∀ op ∈ u, ∀ b, op.act.touch? = some b → ∃ ad, b.loc = .cell ad ∧ (M ad.block ∨ (b.write = false ∧ ad.block < L))) (said : Bool) :
    ∀ i a, touchAt t i = some a → ∀ op ∈ u, ∀ b, op.act.touch? = some b → a.conflicts said b → Knows t me i := by
  intro i a ha op hop b hb hc
  obtain ⟨hloc, hmem, hwr, hk⟩ := hc
  rcases h i a ha hmem with hkn | ⟨x, hx, hg, hh⟩
  · exact hkn
  · exfalso
    obtain ⟨ad, e, hM'⟩ := hu op hop b hb
    rcases hh with ⟨ad', e', hN'⟩ | ⟨hw', ad', e', hL'⟩ | ⟨e', _⟩
    · rw [e', e] at hloc; cases hloc
      rcases hM' with hM' | ⟨hw, hl⟩
      · exact hap _ hM' hN'
      · have := hN _ hN'; omega
    · rw [e', e] at hloc; cases hloc
      rcases hM' with hM' | ⟨hw, hl⟩
      · have := hM _ hM'; omega
      · rcases hwr with h1 | h1
        · rw [hw'] at h1; cases h1
        · rw [hw] at h1; cases h1
    · rw [e', e] at hloc; cases hloc
theorem mem_ofEv {g : Nat} {fn : FuncId} {pos : String} {es : Array Event} {op : MemOp} (h : op ∈ MemOp.ofEvents g fn pos es) : ∃ e ∈ es, op = { g, fn, pos, act := .ofEvent e } := Go.Conc.mem_ofEvents h
theorem quiet_ofEv {g : Nat} {fn : FuncId} {pos : String} {es : Array Event} {M : Nat → Prop} {B : Nat} (h : ∀ e ∈ es, EvO L M B e) (x : Nat) : Deaf (t ++ MemOp.ofEvents g fn pos es) x = Deaf t x := by
  refine Deaf_quiet fun op ho d => ?_
  obtain ⟨e, he, rfl⟩ := mem_ofEv ho
  rcases h e he with ⟨ad, wr, sy, rfl, _, _⟩ | rfl <;> rfl
/-- A step of goroutine 0's own. -/
theorem PhT.ownA {fn : FuncId} {pos : String} {es : Array Event} {B : Nat} (h : PhT j c L MA MB t) (hB : ∀ k, MB k → L ≤ k) (hA : ∀ k, MA' k → L ≤ k) (hap : ∀ k, MA' k → ¬ MB k) (hsub : ∀ k, MA k → MA' k)
    (hes : ∀ e ∈ es, EvO L MA' B e) : PhT j c L MA' MB (t ++ MemOp.ofEvents 0 fn pos es) := by
  have hall : ∀ op ∈ MemOp.ofEvents 0 fn pos es, op.g = 0 := fun op ho => by obtain ⟨e, _, rfl⟩ := mem_ofEv ho; rfl
  have hto : ∀ op ∈ MemOp.ofEvents 0 fn pos es, ∀ b, op.act.touch? = some b → His c L MA' b ∧ ∃ ad, b.loc = .cell ad ∧ (MA' ad.block ∨ (b.write = false ∧ ad.block < L)) := fun op ho b hb => by
    obtain ⟨e, he, rfl⟩ := mem_ofEv ho; exact (hes e he).touch hb
  exact ⟨fun said => noRace_append (h.clean said) hall (race_free (N' := MB) h.kA hB hap hA (fun op ho b hb => (hto op ho b hb).2) said), h.kA.app (fun _ k => k) (fun op ho => .inl (hall op ho)),
    h.kB.app hsub (fun op ho => .inr (.inl ⟨hall op ho, fun b hb => (hto op ho b hb).1⟩)), over_app h.over (fun op ho => .inl (hall op ho)), (quiet_ofEv hes 0).trans h.hA, (quiet_ofEv hes j).trans h.hB,
    seen_app2 h.seen ⟨B, fun op ho => by obtain ⟨e, he, rfl⟩ := mem_ofEv ho; exact (hes e he).low⟩⟩
/-- A step of goroutine j's own. -/
theorem PhT.ownB {fn : FuncId} {pos : String} {es : Array Event} {B : Nat} (h : PhT j c L MA MB t) (hA : ∀ k, MA k → L ≤ k) (hB : ∀ k, MB' k → L ≤ k) (hap : ∀ k, MB' k → ¬ MA k) (hsub : ∀ k, MB k → MB' k)
    (hes : ∀ e ∈ es, EvO L MB' B e) : PhT j c L MA MB' (t ++ MemOp.ofEvents j fn pos es) := by
  have hall : ∀ op ∈ MemOp.ofEvents j fn pos es, op.g = j := fun op ho => by obtain ⟨e, _, rfl⟩ := mem_ofEv ho; rfl
  have hto : ∀ op ∈ MemOp.ofEvents j fn pos es, ∀ b, op.act.touch? = some b → His c L MB' b ∧ ∃ ad, b.loc = .cell ad ∧ (MB' ad.block ∨ (b.write = false ∧ ad.block < L)) := fun op ho b hb => by
    obtain ⟨e, he, rfl⟩ := mem_ofEv ho; exact (hes e he).touch hb
  exact ⟨fun said => noRace_append (h.clean said) hall (race_free (N' := MA) h.kB hA hap hB (fun op ho b hb => (hto op ho b hb).2) said), h.kA.app hsub (fun op ho => .inr (.inl ⟨hall op ho, fun b hb => (hto op ho b hb).1⟩)),
    h.kB.app (fun _ k => k) (fun op ho => .inl (hall op ho)), over_app h.over (fun op ho => .inr (.inl (hall op ho))), (quiet_ofEv hes 0).trans h.hA, (quiet_ofEv hes j).trans h.hB,
    seen_app2 h.seen ⟨B, fun op ho => by obtain ⟨e, he, rfl⟩ := mem_ofEv ho; exact (hes e he).low⟩⟩

/-- THE BEGINNING: the go statement. -/
theorem PhT.begin {B : Nat} (H : Past (fun _ => False) B t) (hj0 : j ≠ 0) (hj : Deaf t j = 0) (fh : FuncId) (ph : String) (fc : FuncId) :
    PhT j c L (fun _ => False) (fun _ => False) (t ++ #[{ g := 0, fn := fh, pos := ph, act := .go j }, { g := j, fn := fc, pos := ph, act := .start }]) := by
  generalize hu : (#[{ g := 0, fn := fh, pos := ph, act := .go j }, { g := j, fn := fc, pos := ph, act := .start }] : Trace) = u
  have hn : ∀ op ∈ u, op.act.touch? = none := by
    intro op hop
    subst hu
    simp only [List.mem_toArray, List.mem_cons, List.not_mem_nil, or_false] at hop
    rcases hop with rfl | rfl <;> rfl
  have hq : ∀ g, ∀ op ∈ u, ∀ d, deafStep g d op = d := by
    intro g op hop d
    subst hu
    simp only [List.mem_toArray, List.mem_cons, List.not_mem_nil, or_false] at hop
    rcases hop with rfl | rfl <;> rfl
  have e0 : (t ++ u)[t.size]? = some { g := 0, fn := fh, pos := ph, act := .go j } := by subst hu; simp
  have e1 : (t ++ u)[t.size + 1]? = some { g := j, fn := fc, pos := ph, act := .start } := by subst hu; simp
  have edge : HappensBefore (t ++ u) t.size (t.size + 1) :=
    Relation.TransGen.single (.inr ⟨.spawn (act?_of e0) (act?_of e1) (g?_of e1), ⟨0, g?_of e0, by rw [deaf_old (Nat.le_refl _)]; exact H.hears⟩, ⟨j, g?_of e1, by rw [deaf_quiet (hq j) 1 (by subst hu; simp)]; exact hj⟩⟩)
  have hk0 : ∀ i a, touchAt (t ++ u) i = some a → a.loc.isMemory = true → i < t.size ∧ Knows t 0 i := by
    intro i a ha hm
    obtain ⟨x, hx, hxa⟩ := touch_of ha
    rcases getElem?_append_cases hx with ⟨hi, hx'⟩ | ⟨_, hxu⟩
    · rcases H.known i a (by rw [touchAt_of hx']; exact hxa) hm with hk | ⟨hf, _⟩
      · exact ⟨hi, hk⟩
      · exact hf.elim
    · rw [hn x hxu] at hxa; cases hxa
  refine ⟨fun said => noRace_appendMute (H.clean said) hn, fun i a ha hm => .inl ((hk0 i a ha hm).2.app u), fun i a ha hm => .inl ⟨t.size + 1, _, e1, rfl, .inr (((hk0 i a ha hm).2.hb_new (Nat.le_refl _) e0 rfl).trans edge)⟩,
    over_app (fun i g hg hne _ hc => H.over i g hg hne hc) (fun op ho => .inr (.inr (hn op ho))), (Deaf_quiet (hq 0)).trans H.hears, (Deaf_quiet (hq j)).trans hj, seen_app2 ⟨B, H.seen⟩ ⟨0, fun op hop => ?_⟩⟩
  subst hu
  simp only [List.mem_toArray, List.mem_cons, List.not_mem_nil, or_false] at hop
  rcases hop with rfl | rfl <;> trivial

/-- Goroutine j has closed the channel: operation m; behind it it touches nothing. -/
def ShutT (j c m : Nat) (t : Trace) : Prop := t.act? m = some (.close c) ∧ t.g? m = some j ∧ t.heard m ∧ ∀ i a x, t[i]? = some x → x.g = j → touchAt t i = some a → i < m
theorem ShutT.app {m : Nat} (h : ShutT j c m t) (hu : ∀ op ∈ u, op.g = j → op.act.touch? = none) : ShutT j c m (t ++ u) := by
  obtain ⟨h1, h2, h3, h4⟩ := h
  have hm := lt_of_act? h1
  refine ⟨by rw [act?_old hm]; exact h1, by rw [g?_old hm]; exact h2, (heard_old hm).2 h3, fun i a x hx hg ha => ?_⟩
  rcases getElem?_append_cases hx with ⟨hi, hx'⟩ | ⟨_, hxu⟩
  · exact h4 i a x hx' hg (by rw [touchAt_old hi] at ha; exact ha)
  · rw [touchAt_of hx, hu x hxu hg] at ha; cases ha
/-- The close. -/
theorem PhT.close {fn : FuncId} {pos : String} (h : PhT j c L MA MB t) (hj0 : j ≠ 0) :
    PhT j c L MA MB (t ++ #[{ g := j, fn := fn, pos := pos, act := .access ⟨.obj c, false, true⟩ }, { g := j, fn := fn, pos := pos, act := .close c }]) ∧
    ShutT j c (t.size + 1) (t ++ #[{ g := j, fn := fn, pos := pos, act := .access ⟨.obj c, false, true⟩ }, { g := j, fn := fn, pos := pos, act := .close c }]) := by
  generalize hu : (#[{ g := j, fn := fn, pos := pos, act := .access ⟨.obj c, false, true⟩ }, { g := j, fn := fn, pos := pos, act := .close c }] : Trace) = u
  have hall : ∀ op ∈ u, op.g = j := by
    intro op hop
    subst hu
    simp only [List.mem_toArray, List.mem_cons, List.not_mem_nil, or_false] at hop
    rcases hop with rfl | rfl <;> rfl
  have hto : ∀ op ∈ u, ∀ b, op.act.touch? = some b → b.loc = .obj c ∧ b.kind = .atomic := by
    intro op hop b hb
    subst hu
    simp only [List.mem_toArray, List.mem_cons, List.not_mem_nil, or_false] at hop
    rcases hop with rfl | rfl
    · simp [MemAct.touch?] at hb; subst hb; exact ⟨rfl, rfl⟩
    · simp [MemAct.touch?] at hb
  have hq : ∀ g, ∀ op ∈ u, ∀ d, deafStep g d op = d := by
    intro g op hop d
    subst hu
    simp only [List.mem_toArray, List.mem_cons, List.not_mem_nil, or_false] at hop
    rcases hop with rfl | rfl <;> rfl
  have e1 : (t ++ u)[t.size + 1]? = some { g := j, fn := fn, pos := pos, act := .close c } := by subst hu; simp
  refine ⟨⟨fun said => noRace_append (h.clean said) hall fun i a ha op hop b hb hc => ?_, h.kA.app (fun _ k => k) (fun op ho => .inr (.inl ⟨hall op ho, fun b hb => .inr (.inr (hto op ho b hb))⟩)), h.kB.app (fun _ k => k) (fun op ho => .inl (hall op ho)),
    over_app h.over (fun op ho => .inr (.inl (hall op ho))), (Deaf_quiet (hq 0)).trans h.hA, (Deaf_quiet (hq j)).trans h.hB, seen_app2 h.seen ⟨c + 1, fun op hop => ?_⟩⟩, act?_of e1, g?_of e1, ⟨j, g?_of e1, by rw [deaf_quiet (hq j) 1 (by subst hu; simp)]; exact h.hB⟩, fun i a x hx hg ha => ?_⟩
  · obtain ⟨hloc, hmem, hwr, hk⟩ := hc
    rcases h.kB i a ha hmem with hkn | ⟨x, hx, hg, hh⟩
    · exact hkn
    · exfalso
      obtain ⟨eb, ek⟩ := hto op hop b hb
      rcases hh with ⟨ad', e', _⟩ | ⟨_, ad', e', _⟩ | ⟨e', k'⟩
      · rw [e', eb] at hloc; cases hloc
      · rw [e', eb] at hloc; cases hloc
      · rw [k', ek] at hk
        rcases hk with x | x | ⟨_, x, _⟩ <;> cases x
  · subst hu
    simp only [List.mem_toArray, List.mem_cons, List.not_mem_nil, or_false] at hop
    rcases hop with rfl | rfl
    · exact Nat.lt_succ_self c
    · exact Nat.lt_succ_self c
  · rcases getElem?_append_cases hx with ⟨hi, hx'⟩ | ⟨hi, hxu⟩
    · omega
    · have : i ≠ t.size + 1 := by
        intro e
        subst e
        rw [touchAt_of e1] at ha
        simp [MemAct.touch?] at ha
      have := lt_size_of_getElem? hx
      subst hu
      simp at this
      omega
/-- What is held of the trace once the channel is closed. -/
structure PhS (j c L : Nat) (MB : Nat → Prop) (t : Trace) : Prop where
  clean : ∀ said, ¬ Race said t
  kA : Kn 0 j c L MB t
  over : ∀ i g, t.g? i = some g → g ≠ 0 → g ≠ j → t.counts i → ∃ q, t.g? q = some 0 ∧ HappensBefore t i q
  hA : Deaf t 0 = 0
  seen : ∃ B, ∀ op ∈ t, op.act.low B
theorem PhT.toS (h : PhT j c L MA MB t) : PhS j c L MB t := ⟨h.clean, h.kA, h.over, h.hA, h.seen⟩
theorem PhS.mute (h : PhS j c L MB t) (hn : ∀ op ∈ u, op.act.touch? = none) (hq : ∀ op ∈ u, ∀ d, deafStep 0 d op = d) (hl : ∃ B, ∀ op ∈ u, op.act.low B) : PhS j c L MB (t ++ u) :=
  ⟨fun said => noRace_appendMute (h.clean said) hn, h.kA.app (fun _ k => k) (fun op ho => .inr (.inr (hn op ho))), over_app h.over (fun op ho => .inr (.inr (hn op ho))), (Deaf_quiet fun op ho d => hq op ho d).trans h.hA, seen_app2 h.seen hl⟩
theorem PhS.ownA {fn : FuncId} {pos : String} {es : Array Event} {B : Nat} (h : PhS j c L MB t) (hB : ∀ k, MB k → L ≤ k) (hA : ∀ k, MA' k → L ≤ k) (hap : ∀ k, MA' k → ¬ MB k)
    (hes : ∀ e ∈ es, EvO L MA' B e) : PhS j c L MB (t ++ MemOp.ofEvents 0 fn pos es) := by
  have hall : ∀ op ∈ MemOp.ofEvents 0 fn pos es, op.g = 0 := fun op ho => by obtain ⟨e, _, rfl⟩ := mem_ofEv ho; rfl
  have hto : ∀ op ∈ MemOp.ofEvents 0 fn pos es, ∀ b, op.act.touch? = some b → His c L MA' b ∧ ∃ ad, b.loc = .cell ad ∧ (MA' ad.block ∨ (b.write = false ∧ ad.block < L)) := fun op ho b hb => by
    obtain ⟨e, he, rfl⟩ := mem_ofEv ho; exact (hes e he).touch hb
  exact ⟨fun said => noRace_append (h.clean said) hall (race_free (N' := MB) h.kA hB hap hA (fun op ho b hb => (hto op ho b hb).2) said), h.kA.app (fun _ k => k) (fun op ho => .inl (hall op ho)),
    over_app h.over (fun op ho => .inl (hall op ho)), (quiet_ofEv hes 0).trans h.hA, seen_app2 h.seen ⟨B, fun op ho => by obtain ⟨e, he, rfl⟩ := mem_ofEv ho; exact (hes e he).low⟩⟩
/-- THE END: goroutine 0 has found the channel closed: it knows all. -/
theorem PhS.finish {m : Nat} (h : PhS j c L MB t) (hs : ShutT j c m t) (hj0 : j ≠ 0) (fn : FuncId) (pos : String) : ∃ B, Past (fun _ => False) B (t ++ #[{ g := 0, fn := fn, pos := pos, act := .recvClosed c }]) := by
  generalize hu : (#[{ g := 0, fn := fn, pos := pos, act := .recvClosed c }] : Trace) = u
  have hn : ∀ op ∈ u, op.act.touch? = none := by
    intro op hop
    subst hu
    simp only [List.mem_toArray, List.mem_cons, List.not_mem_nil, or_false] at hop
    rcases hop with rfl; rfl
  have hq : ∀ g, ∀ op ∈ u, ∀ d, deafStep g d op = d := by
    intro g op hop d
    subst hu
    simp only [List.mem_toArray, List.mem_cons, List.not_mem_nil, or_false] at hop
    rcases hop with rfl; rfl
  have e0 : (t ++ u)[t.size]? = some { g := 0, fn := fn, pos := pos, act := .recvClosed c } := by subst hu; simp
  obtain ⟨h1, h2, h3, h4⟩ := hs
  have hm := lt_of_act? h1
  have edge : HappensBefore (t ++ u) m t.size :=
    Relation.TransGen.single (.inr ⟨.closed (by rw [act?_old hm]; exact h1) (act?_of e0), (heard_old hm).2 h3, ⟨0, g?_of e0, by rw [deaf_old (Nat.le_refl _)]; exact h.hA⟩⟩)
  obtain ⟨xm, hxm, hxg⟩ : ∃ x, t[m]? = some x ∧ x.g = j := by
    unfold Trace.g? at h2
    obtain ⟨z, hz, e⟩ := Option.map_eq_some_iff.1 h2
    exact ⟨z, hz, e⟩
  have hbj : ∀ i a x, t[i]? = some x → x.g = j → touchAt t i = some a → HappensBefore (t ++ u) i t.size := by
    intro i a x hx hg ha
    have hlt := h4 i a x hx hg ha
    have hi := lt_size_of_getElem? hx
    exact (hb_po hlt (by rw [getElem?_append_old hi]; exact hx) (by rw [getElem?_append_old hm]; exact hxm) (hg.trans hxg.symm)).trans edge
  obtain ⟨B, hseen⟩ := h.seen
  refine ⟨max B (c + 1), fun said => noRace_appendMute (h.clean said) hn, fun i a ha hmem => ?_, fun i g hg hne hc => ?_, (Deaf_quiet (hq 0)).trans h.hA, seen_app (fun op ho => MemAct.low_mono (Nat.le_max_left _ _) (hseen op ho)) (fun op hop => ?_)⟩
  · obtain ⟨x, hx, hxa⟩ := touch_of ha
    rcases getElem?_append_cases hx with ⟨hi, hx'⟩ | ⟨_, hxu⟩
    · have ha' : touchAt t i = some a := by rw [touchAt_of hx']; exact hxa
      rcases h.kA i a ha' hmem with hk | ⟨y, hy, hg, _⟩
      · exact .inl (hk.app u)
      · exact .inl ⟨t.size, _, e0, rfl, .inr (hbj i a y hy hg ha')⟩
    · rw [hn x hxu] at hxa; cases hxa
  · by_cases hgj : g = j
    · obtain ⟨x, hx, _⟩ := hc
      obtain ⟨op, hop, hox⟩ := touch_of hx
      rcases getElem?_append_cases hop with ⟨hi, hop'⟩ | ⟨_, hopu⟩
      · refine ⟨t.size, g?_of e0, hbj i x op hop' ?_ (by rw [touchAt_of hop']; exact hox)⟩
        have := g?_of hop
        rw [hg] at this
        exact (Option.some.inj this).symm.trans hgj
      · rw [hn op hopu] at hox; cases hox
    · exact over_app h.over (fun op ho => .inr (.inr (hn op ho))) i g hg hne hgj hc
  · subst hu
    simp only [List.mem_toArray, List.mem_cons, List.not_mem_nil, or_false] at hop
    rcases hop with rfl
    exact Nat.lt_of_lt_of_le (Nat.lt_succ_self c) (Nat.le_max_right _ _)
end
end Go.Proofs.Ytlbkhiphnllfpac
namespace Go.Proofs.Ytlbkhiphnllfpac
open Go.Conc
open Go.ConcN (sumTo upd sumTo_upd upd_ne upd_same)
set_option linter.unusedVariables false
set_option maxRecDepth 100000
/-- What the others' doing keeps for whoever owns M: its own blocks, and all that was there at the start but the channel. -/
structure Keep (c L : Nat) (M : Nat → Prop) (w w₁ : World) : Prop where
  tape : w₁.tape = w.tape
  os : w₁.os = w.os
  output : w₁.output = w.output
  size : w.heap.size ≤ w₁.heap.size
  old : ∀ k, k < L → k ≠ c → w₁.heap[k]? = w.heap[k]?
  own : ∀ k, M k → w₁.heap[k]? = w.heap[k]?
section
variable {c L : Nat} {M N M' : Nat → Prop} {w w₁ w₂ w' : World} {es : Array Event}
theorem Keep.refl (c L : Nat) (M : Nat → Prop) (w : World) : Keep c L M w w := ⟨rfl, rfl, rfl, Nat.le_refl _, fun _ _ _ => rfl, fun _ _ => rfl⟩
theorem Keep.trans (h : Keep c L M w w₁) (k : Keep c L M w₁ w₂) : Keep c L M w w₂ :=
  ⟨k.tape.trans h.tape, k.os.trans h.os, k.output.trans h.output, Nat.le_trans h.size k.size, fun i a b => (k.old i a b).trans (h.old i a b), fun i a => (k.own i a).trans (h.own i a)⟩
theorem Keep.at (c L : Nat) (M : Nat → Prop) (w : World) (d : Nat) : Keep c L M w (w.at d) := ⟨rfl, rfl, rfl, Nat.le_refl _, fun _ _ _ => rfl, fun _ _ => rfl⟩
theorem Keep.chan (hM : ¬ M c) (w : World) (cap : Nat) (buf : Array Value) (cl : Bool) (s r : Nat) (tm : Bool) : Keep c L M w (w.setChan c cap buf cl s r tm) :=
  ⟨rfl, rfl, rfl, by simp [World.setChan], fun k _ hk => by simp [World.setChan, Ne.symm hk], fun k hk => by have : c ≠ k := fun e => hM (e ▸ hk); simp [World.setChan, this]⟩
/-- What a step of the owner's own may do. -/
structure Mv (c L : Nat) (M M' : Nat → Prop) (w₁ w' : World) (es : Array Event) : Prop where
  tape : w'.tape = w₁.tape
  os : w'.os = w₁.os
  output : w'.output = w₁.output
  size : w₁.heap.size ≤ w'.heap.size
  rest : ∀ k, k < w₁.heap.size → ¬ M k → w'.heap[k]? = w₁.heap[k]?
  sub : ∀ k, M k → M' k
  new : ∀ k, M' k → M k ∨ (w₁.heap.size ≤ k ∧ k < w'.heap.size)
  evs : ∀ e ∈ es, EvO L M' w'.heap.size e
theorem Mv.keep (h : Mv c L M M' w₁ w' es) (hL : L ≤ w₁.heap.size) (hM : ∀ k, M k → L ≤ k) (hN : ∀ k, N k → k < w₁.heap.size ∧ ¬ M k) : Keep c L N w₁ w' :=
  ⟨h.tape, h.os, h.output, h.size, fun k hk _ => h.rest k (by omega) (fun hm => by have := hM k hm; omega), fun k hk => h.rest k (hN k hk).1 (hN k hk).2⟩
theorem Mv.chan (h : Mv c L M M' w₁ w' es) (hL : L ≤ w₁.heap.size) (hM : ∀ k, M k → L ≤ k) (hc : c < L) : w'.heap[c]? = w₁.heap[c]? := h.rest c (by omega) (fun hm => by have := hM c hm; omega)
end

/-- On its way to a stop, whatever the others do meanwhile. -/
def GoO (P : Program) (main : Bool) (c L : Nat) (Stop : (Nat → Prop) → Goroutine → World → Prop) (M : Nat → Prop) (g : Goroutine) (w : World) : Prop :=
  ∀ Q : (Nat → Prop) → Goroutine → World → Prop, (∀ M g w, (∀ w₁, Keep c L M w w₁ → Stop M g w₁) → Q M g w) →
    (∀ M g w, g.status = .running → ∀ nx : World → Goroutine × World × Array Event × (Nat → Prop),
      (∀ w₁, Keep c L M w w₁ → stepG P main g w₁ = .go (nx w₁).1 (nx w₁).2.1 (nx w₁).2.2.1 ∧ Mv c L M (nx w₁).2.2.2 w₁ (nx w₁).2.1 (nx w₁).2.2.1) →
      (∀ w₁, Keep c L M w w₁ → Q (nx w₁).2.2.2 (nx w₁).1 (nx w₁).2.1) → Q M g w) → Q M g w
theorem ex_fst {p : Prop} {q : p → Prop} (h : ∃ t, q t) : p := h.elim fun t _ => t
theorem ex_snd {p : Prop} {q : p → Prop} (h : ∃ t, q t) : q (ex_fst h) := by obtain ⟨t, ht⟩ := h; exact ht
theorem GoO.stop {P : Program} {main : Bool} {c L : Nat} {Stop : (Nat → Prop) → Goroutine → World → Prop} {M : Nat → Prop} {g : Goroutine} {w : World} (h : ∀ w₁, Keep c L M w w₁ → Stop M g w₁) : GoO P main c L Stop M g w := fun Q a b => a M g w h
theorem GoO.step {P : Program} {main : Bool} {c L : Nat} {Stop : (Nat → Prop) → Goroutine → World → Prop} {M : Nat → Prop} {g : Goroutine} {w : World} (hs : g.status = .running) (nx : World → Goroutine × World × Array Event × (Nat → Prop))
    (h : ∀ w₁, Keep c L M w w₁ → stepG P main g w₁ = .go (nx w₁).1 (nx w₁).2.1 (nx w₁).2.2.1 ∧ Mv c L M (nx w₁).2.2.2 w₁ (nx w₁).2.1 (nx w₁).2.2.1)
    (hn : ∀ w₁, Keep c L M w w₁ → GoO P main c L Stop (nx w₁).2.2.2 (nx w₁).1 (nx w₁).2.1) : GoO P main c L Stop M g w := fun Q a b => b M g w hs nx h fun w₁ k => hn w₁ k Q a b
theorem GoO.ind {P : Program} {main : Bool} {c L : Nat} {Stop : (Nat → Prop) → Goroutine → World → Prop} {motive : ∀ (M : Nat → Prop) (g : Goroutine) (w : World), GoO P main c L Stop M g w → Prop}
    (stop : ∀ {M : Nat → Prop} {g : Goroutine} {w : World} (h : ∀ w₁, Keep c L M w w₁ → Stop M g w₁), motive M g w (GoO.stop h))
    (step : ∀ {M : Nat → Prop} {g : Goroutine} {w : World} (hs : g.status = .running) (nx : World → Goroutine × World × Array Event × (Nat → Prop))
      (h : ∀ w₁, Keep c L M w w₁ → stepG P main g w₁ = .go (nx w₁).1 (nx w₁).2.1 (nx w₁).2.2.1 ∧ Mv c L M (nx w₁).2.2.2 w₁ (nx w₁).2.1 (nx w₁).2.2.1)
      (hn : ∀ w₁, Keep c L M w w₁ → GoO P main c L Stop (nx w₁).2.2.2 (nx w₁).1 (nx w₁).2.1) (ih : ∀ w₁ (k : Keep c L M w w₁), motive (nx w₁).2.2.2 (nx w₁).1 (nx w₁).2.1 (hn w₁ k)), motive M g w (GoO.step hs nx h hn))
    {M : Nat → Prop} {g : Goroutine} {w : World} (t : GoO P main c L Stop M g w) : motive M g w t := by
  have h : ∃ t : GoO P main c L Stop M g w, motive M g w t := t (fun M g w => ∃ t : GoO P main c L Stop M g w, motive M g w t) (fun M g w h => ⟨GoO.stop h, stop h⟩)
    (fun M g w hs nx h hn => ⟨GoO.step hs nx h fun w₁ k => ex_fst (hn w₁ k), step hs nx h (fun w₁ k => ex_fst (hn w₁ k)) fun w₁ k => ex_snd (hn w₁ k)⟩)
  exact ex_snd h
section
variable {P : Program} {main : Bool} {c L : Nat} {Stop : (Nat → Prop) → Goroutine → World → Prop} {M : Nat → Prop} {g : Goroutine} {w w₂ : World}
theorem GoO.keep (h : GoO P main c L Stop M g w) (hk : Keep c L M w w₂) : GoO P main c L Stop M g w₂ := by
  induction h using GoO.ind with
  | stop h => exact .stop fun w₁ k => h w₁ (hk.trans k)
  | step hs nx h hn _ => exact .step hs nx (fun w₁ k => h w₁ (hk.trans k)) (fun w₁ k => hn w₁ (hk.trans k))
theorem GoO.next (hs : g.status = .running) (h : ∀ w₁, Keep c L M w w₁ → ∃ g' w' es M', stepG P main g w₁ = .go g' w' es ∧ Mv c L M M' w₁ w' es ∧ GoO P main c L Stop M' g' w') : GoO P main c L Stop M g w := by
  have hex : ∀ w₁, ∃ x : Goroutine × World × Array Event × (Nat → Prop), Keep c L M w w₁ → (stepG P main g w₁ = .go x.1 x.2.1 x.2.2.1 ∧ Mv c L M x.2.2.2 w₁ x.2.1 x.2.2.1 ∧ GoO P main c L Stop x.2.2.2 x.1 x.2.1) := fun w₁ => by
    by_cases hk : Keep c L M w w₁
    · obtain ⟨g', w', es, M', h1, h2, h3⟩ := h w₁ hk
      exact ⟨(g', w', es, M'), fun _ => ⟨h1, h2, h3⟩⟩
    · exact ⟨(g, w, #[], M), fun hk' => absurd hk' hk⟩
  exact .step hs (fun w₁ => Classical.choose (hex w₁)) (fun w₁ hk => ⟨(Classical.choose_spec (hex w₁) hk).1, (Classical.choose_spec (hex w₁) hk).2.1⟩) (fun w₁ hk => (Classical.choose_spec (hex w₁) hk).2.2)
theorem GoO.running (hst : ∀ M g w, Stop M g w → g.status = .running) (h : GoO P main c L Stop M g w) : g.status = .running := by
  induction h using GoO.ind with
  | stop h => exact hst _ _ _ (h _ (Keep.refl _ _ _ _))
  | step hs _ _ _ _ => exact hs
end

/-! ### the scripts -/
section
variable (P : Program) (c L : Nat) (z : Value)
/-- It stands at a receive. -/
def AtR (Next : (Nat → Prop) → Goroutine → World → Prop) (M : Nat → Prop) (g : Goroutine) (w : World) : Prop :=
  g.status = .running ∧ stepG P true g w = .comm (core g) #[rcase c z] true (.recv true) w #[] ∧ Next M (core g) w
def RecvsO (Fin : (Nat → Prop) → Goroutine → World → Prop) : List Value → (Nat → Prop) → Goroutine → World → Prop
  | [] => GoO P true c L (AtR P c z fun M g w => Fin M (Conc.served g (recvd true z false)) w)
  | v :: vs => GoO P true c L (AtR P c z fun M g w => RecvsO Fin vs M (Conc.served g (recvd true v true)) w)
/-- It stands at a send. -/
def AtS (v : Value) (Next : (Nat → Prop) → Goroutine → World → Prop) (M : Nat → Prop) (g : Goroutine) (w : World) : Prop :=
  g.status = .running ∧ (∃ z', stepG P false g w = .comm (core g) #[scase c v z'] true .send w #[]) ∧ Next M (Conc.served (core g) undef) w
/-- It stands at the close; behind it it only leaves. -/
def AtC (M : Nat → Prop) (g : Goroutine) (w : World) : Prop :=
  g.status = .running ∧ mayWake P g = true ∧ ∃ g₂ n, (∀ s r tm, w.heap[c]? = some (.chan 0 #[] false s r tm) → stepG P false g w = .go g₂ (w.setChan c 0 #[] true s r tm) (closeEvents c)) ∧ QuitsIn P n g₂
def SendsO : List Value → (Nat → Prop) → Goroutine → World → Prop
  | [] => GoO P false c L (AtC P c)
  | v :: vs => GoO P false c L (AtS P c v (SendsO vs))
end
section
variable {P : Program} {c L : Nat} {z : Value} {Fin : (Nat → Prop) → Goroutine → World → Prop} {M : Nat → Prop} {g : Goroutine} {w w₂ : World}
theorem RecvsO.keep : ∀ {vs : List Value}, RecvsO P c L z Fin vs M g w → Keep c L M w w₂ → RecvsO P c L z Fin vs M g w₂
  | [], h, k => GoO.keep h k
  | _ :: _, h, k => GoO.keep h k
theorem SendsO.keep : ∀ {vs : List Value}, SendsO P c L vs M g w → Keep c L M w w₂ → SendsO P c L vs M g w₂
  | [], h, k => GoO.keep h k
  | _ :: _, h, k => GoO.keep h k
theorem AtR.running {Next : (Nat → Prop) → Goroutine → World → Prop} : ∀ (M : Nat → Prop) (g : Goroutine) (w : World), AtR P c z Next M g w → g.status = .running := fun _ _ _ h => h.1
end

/-- Where the run comes to. -/
def Reach (P : Program) (Fin : (Nat → Prop) → Goroutine → World → Prop) (n : Nat) (m : Machine) (T : Trace) : Prop :=
  ∃ (N : Nat) (gs' : Array Goroutine) (a' : Goroutine) (w' : World) (sl' : Option (Nat × Nat)) (T' : Trace) (q' : Nat → Nat) (B' : Nat) (M : Nat → Prop),
    runNT P N m T = (.next (crowd gs' w' sl'), T') ∧ gs'.size = n ∧ gs'[0]? = some a' ∧ Fin M a' w' ∧ Leavers P T' gs' q' ∧ Past (fun _ => False) B' T'
theorem Reach.step {P : Program} {Fin : (Nat → Prop) → Goroutine → World → Prop} {n : Nat} {m m' : Machine} {T : Trace} {ops : Array MemOp} (h : stepT P m = (.next m', ops)) (hr : Reach P Fin n m' (T ++ ops)) : Reach P Fin n m T := by
  obtain ⟨N, gs', a', w', sl', T', q', B', M, h1, h2⟩ := hr
  exact ⟨N + 1, gs', a', w', sl', T', q', B', M, by rw [runNT_succ_next h]; exact h1, h2⟩

theorem awake_st {g : Goroutine} (h : g.status = .running ∨ g.status = .blocked ∨ g.status = .finished) : awake g := awake_of h
theorem get_set_ne {gs : Array Goroutine} {i k : Nat} (h : i ≠ k) (x : Goroutine) : (gs.setIfInBounds i x)[k]? = gs[k]? := Array.getElem?_setIfInBounds_ne h
theorem get_set_same {gs : Array Goroutine} {i : Nat} (h : i < gs.size) (x : Goroutine) : (gs.setIfInBounds i x)[i]? = some x := Array.getElem?_setIfInBounds_self_of_lt h

/-! ### behind the close -/
structure CoS (P : Program) (c L j m : Nat) (MA MB : Nat → Prop) (gs : Array Goroutine) (w : World) (T : Trace) (q : Nat → Nat) (a : Goroutine) : Prop where
  hA : gs[0]? = some a
  oth : ∀ i g, 0 < i → gs[i]? = some g → QuitsD P (q i) (Deaf T i) g
  abv : ∀ i, gs.size ≤ i → Deaf T i = 0
  tr : PhS j c L MB T
  sh : ShutT j c m T
  mA : ∀ k, MA k → L ≤ k ∧ k < w.heap.size
  mB : ∀ k, MB k → L ≤ k ∧ k < w.heap.size
  ap : ∀ k, MA k → ¬ MB k
  lw : L ≤ w.heap.size
  ch : ∃ s r tm, w.heap[c]? = some (.chan 0 #[] true s r tm)
section
variable {P : Program} {c L j m : Nat} {z : Value} {Fin : (Nat → Prop) → Goroutine → World → Prop} {MA MB : Nat → Prop}
theorem deaf_none {i : Nat} {fn : FuncId} {pos : String} {es : Array Event} (hm : ∀ e ∈ es, e.mute = true) {g : Nat} (hg : g ≠ i) : ∀ op ∈ MemOp.ofEvents i fn pos es, ∀ d, deafStep g d op = d := by
  intro op ho d
  obtain ⟨e, he, rfl⟩ := mem_ofEv ho
  unfold deafStep
  split <;> simp [Ne.symm hg]
theorem slip_tr {i : Nat} {fn : FuncId} {pos : String} {es : Array Event} (hm : ∀ e ∈ es, e.mute = true) : (∀ op ∈ MemOp.ofEvents i fn pos es, op.act.touch? = none) ∧ ∃ B, ∀ op ∈ MemOp.ofEvents i fn pos es, op.act.low B :=
  ⟨fun op ho => by obtain ⟨e, he, rfl⟩ := mem_ofEv ho; exact touch_mute (hm e he), 0, fun op ho => by obtain ⟨e, he, rfl⟩ := mem_ofEv ho; exact low_mute (hm e he) 0⟩
theorem Leave.slip {i : Nat} {g g' : Goroutine} {gs : Array Goroutine} {w : World} {T : Trace} {q : Nat → Nat} {k : Nat} {es : Array Event} {Who : Nat → Prop} (hlt : i < gs.size) (hi0 : 0 < i) (hW : Who i)
    (oth : ∀ i g, 0 < i → Who i → gs[i]? = some g → QuitsD P (q i) (Deaf T i) g) (hq : QuitsD P k (deafBehind (Deaf T i) es) g') (fn : FuncId) (pos : String) :
    ∀ x y, 0 < x → Who x → ((gs.map (woken P g g' w)).setIfInBounds i g')[x]? = some y → QuitsD P (upd q i k x) (Deaf (T ++ MemOp.ofEvents i fn pos es) x) y := by
  intro x y hx hWx hy
  by_cases hxi : i = x
  · subst hxi
    rw [get_set_same (by simpa using hlt)] at hy
    obtain rfl := Option.some.inj hy
    rw [upd_same, Deaf_own]
    exact hq
  · rw [get_set_ne hxi, Array.getElem?_map] at hy
    obtain ⟨u, hu, rfl⟩ := Option.map_eq_some_iff.1 hy
    have hqx := oth x u hx hWx hu
    rw [woken_quitsD hqx, upd_ne q k (Ne.symm hxi), Deaf_other T hxi _ (fun op hop => by obtain ⟨e, _, rfl⟩ := mem_ofEv hop; rfl)]
    exact hqx
theorem CoS.pick {gs : Array Goroutine} {w : World} {T : Trace} {q : Nat → Nat} {a : Goroutine} (C : CoS P c L j m MA MB gs w T q a) (hj : 0 < j) (hra : a.status = .running) (sl : Option (Nat × Nat)) :
    ∃ d sl', stepT P (crowd gs w sl) = runT P (crowd gs (w.at d) sl') 0 ∨
      ∃ gs' ops q', stepT P (crowd gs w sl) = (.next (crowd gs' (w.at d) sl'), ops) ∧ gs'.size = gs.size ∧ CoS P c L j m MA MB gs' (w.at d) (T ++ ops) q' a ∧ sumTo gs.size q' < sumTo gs.size q := by
  have haw : ∀ g ∈ gs, awake g := by
    intro g hg
    obtain ⟨i, hi, rfl⟩ := Array.mem_iff_getElem.1 hg
    rcases Nat.eq_zero_or_pos i with rfl | hpos
    · have : gs[0] = a := by simpa [Array.getElem?_eq_getElem hi] using C.hA
      rw [this]; exact awake_of (.inl hra)
    · exact awake_of ((C.oth i _ hpos (Array.getElem?_eq_getElem hi)).status.elim .inl fun x => .inr (.inr x))
  obtain ⟨i, g, d, sl', hi, hg, hst⟩ := crowd_pick (P := P) (w := w) (sl := sl) haw ⟨0, a, C.hA, hra⟩
  refine ⟨d, sl', ?_⟩
  rcases Nat.eq_zero_or_pos i with rfl | hpos
  · exact .inl hst
  · right
    have hq := C.oth i g hpos hi
    have hi0 : (i == 0) = false := by simp; omega
    have hlt : i < gs.size := (Array.getElem?_eq_some_iff.1 hi).1
    cases hqi : q i with
    | zero => rw [hqi] at hq; rw [hq.1] at hg; cases hg
    | succ k =>
      rw [hqi] at hq
      rcases hq with ⟨hf, _⟩ | ⟨_, g', es, hm, hstp, hq'⟩
      · rw [hf] at hg; cases hg
      have hrunT := runT_crowd_go (P := P) (sl := sl') (i := i) hi (by rw [hi0]; exact hstp (w.at d))
      have hsum : sumTo gs.size (upd q i k) + (k + 1) = sumTo gs.size q + k := by
        have := sumTo_upd q k id hlt
        simpa [hqi] using this
      refine ⟨_, _, upd q i k, hst.trans hrunT, by simp, ⟨?_, fun x y hx hy => Leave.slip (Who := fun _ => True) hlt hpos trivial (fun i g h _ => C.oth i g h) hq' _ _ x y hx trivial hy, fun x hx => ?_, C.tr.mute (slip_tr hm).1 (deaf_none hm (by omega)) (slip_tr hm).2, C.sh.app (fun op ho _ => (slip_tr hm).1 op ho), C.mA, C.mB, C.ap, C.lw, C.ch⟩, by omega⟩
      · rw [get_set_ne (by omega), Array.getElem?_map, C.hA]
        simp [woken_run hra]
      · rw [Deaf_other T (g' := i) (by simp at hx; omega) _ (fun op hop => by obtain ⟨e, _, rfl⟩ := mem_ofEv hop; rfl)]
        exact C.abv x (by simpa using hx)
theorem shut_run (hj : 0 < j) (hcL : c < L) {a : Goroutine} {w : World} (h : GoO P true c L (AtR P c z fun M g w => Fin M (Conc.served g (recvd true z false)) w) MA a w) :
    ∀ w₂, Keep c L MA w w₂ → ∀ (gs : Array Goroutine) (T : Trace) (q : Nat → Nat) (sl : Option (Nat × Nat)), CoS P c L j m MA MB gs w₂ T q a → Reach P Fin gs.size (crowd gs w₂ sl) T := by
  induction h using GoO.ind with
  | stop hst =>
    rename_i MA a w
    intro w₂ hk gs T q sl C
    generalize hn : sumTo gs.size q = n
    induction n using Nat.strongRecOn generalizing w₂ gs T q sl with
    | _ n ih =>
      have hra : a.status = .running := (hst w (Keep.refl _ _ _ _)).1
      obtain ⟨d, sl', hp | ⟨gs', ops, q', hs, hz, C', hlt⟩⟩ := C.pick hj hra sl
      · have hk' : Keep c L MA w (w₂.at d) := hk.trans (Keep.at _ _ _ _ d)
        obtain ⟨-, hcm, hfin⟩ := hst _ hk'
        obtain ⟨s, r, tm, hch⟩ := C.ch
        have hch' : (w₂.at d).heap[c]? = some (.chan 0 #[] true s r tm) := hch
        have hpn : partners (gs.setIfInBounds 0 ph) c true = [] := partners_nil fun x y hy => by
          rcases getElem?_stand gs 0 x y hy with ⟨_, rfl⟩ | ⟨hx, hy'⟩
          · exact offersAt_ph _ _
          · exact offersAt_of_not_blocked (by rcases (C.oth x y (by omega) hy').status with e | e <;> rw [e] <;> simp) _ _
        have hrun := crowd_recv_closed (P := P) (sl := sl') (i := 0) C.hA (show stepG P (0 == 0) a (w₂.at d) = _ from hcm) hch' hpn
        rw [finishComm_recv] at hrun
        refine Reach.step (hp.trans hrun) ?_
        obtain ⟨B', hP⟩ := C.tr.finish C.sh (by omega) (core a).frame.fn (core a).frame.place
        have hlt0 : 0 < gs.size := (Array.getElem?_eq_some_iff.1 C.hA).1
        have e0 : MemOp.ofEvents 0 a.frame.fn a.frame.place #[] = #[] := rfl
        rw [e0, Array.empty_append]
        refine ⟨0, _, _, _, sl', _, q, B', MA, rfl, by simp, get_set_same hlt0 _, hfin, ⟨fun i g hi hg => ?_, fun i hi => ?_⟩, hP⟩
        · rw [get_set_ne (show (0 : Nat) ≠ i by omega)] at hg
          rw [Deaf_other T (g' := 0) (by omega) _ (fun op hop => by simp at hop; subst hop; rfl)]
          exact C.oth i g hi hg
        · rw [Deaf_other T (g' := 0) (by simp at hi; omega) _ (fun op hop => by simp at hop; subst hop; rfl)]
          exact C.abv i (by simpa using hi)
      · have := ih _ (by rw [← hn, ← hz] at *; omega) (w₂.at d) (hk.trans (Keep.at _ _ _ _ d)) gs' (T ++ ops) q' sl' C' (by rw [hz])
        rw [hz] at this
        exact Reach.step hs this
  | step hs nx hstep hn ih =>
    rename_i MA a w
    intro w₂ hk gs T q sl C
    generalize hnn : sumTo gs.size q = n
    induction n using Nat.strongRecOn generalizing w₂ gs T q sl with
    | _ n ihn =>
      obtain ⟨d, sl', hp | ⟨gs', ops, q', hs', hz, C', hlt⟩⟩ := C.pick hj hs sl
      · have hk' : Keep c L MA w (w₂.at d) := hk.trans (Keep.at _ _ _ _ d)
        obtain ⟨hgo, hmv⟩ := hstep _ hk'
        have hih := ih _ hk' _ (Keep.refl _ _ _ _)
        generalize (nx (w₂.at d)).1 = a' at *
        generalize (nx (w₂.at d)).2.1 = w' at *
        generalize (nx (w₂.at d)).2.2.1 = es at *
        generalize (nx (w₂.at d)).2.2.2 = M' at *
        have hrun := runT_crowd_go (P := P) (sl := sl') (i := 0) C.hA (show stepG P (0 == 0) a (w₂.at d) = _ from hgo)
        have hlt0 : 0 < gs.size := (Array.getElem?_eq_some_iff.1 C.hA).1
        have hL : L ≤ (w₂.at d).heap.size := C.lw
        have hM'L : ∀ k, M' k → L ≤ k ∧ k < w'.heap.size := fun k hk => by
          rcases hmv.new k hk with h | ⟨h1, h2⟩
          · have h3 := C.mA k h; have h4 := hmv.size; exact ⟨h3.1, Nat.lt_of_lt_of_le h3.2 h4⟩
          · exact ⟨Nat.le_trans hL h1, h2⟩
        have hap : ∀ k, M' k → ¬ MB k := fun k hk hb => by
          rcases hmv.new k hk with h | ⟨h1, h2⟩
          · exact C.ap k h hb
          · have := (C.mB k hb).2; exact absurd this (Nat.not_lt.2 h1)
        have := hih ((gs.map (woken P a a' w')).setIfInBounds 0 a') (T ++ MemOp.ofEvents 0 a.frame.fn a.frame.place es) q sl' ⟨get_set_same (by simpa using hlt0) _, fun i g hi hg => ?_, fun i hi => ?_, C.tr.ownA (fun k hk => (C.mB k hk).1) (fun k hk => (hM'L k hk).1) hap hmv.evs, C.sh.app (fun op ho hg => ?_), hM'L, fun k hk => ⟨(C.mB k hk).1, Nat.lt_of_lt_of_le (C.mB k hk).2 hmv.size⟩, hap, Nat.le_trans hL hmv.size, ?_⟩
        · rw [show ((gs.map (woken P a a' w')).setIfInBounds 0 a').size = gs.size by simp] at this
          exact Reach.step (hp.trans hrun) this
        · rw [get_set_ne (show (0 : Nat) ≠ i by omega), Array.getElem?_map] at hg
          obtain ⟨y, hy, rfl⟩ := Option.map_eq_some_iff.1 hg
          have hq := C.oth i y hi hy
          rw [woken_quitsD hq, Deaf_other T (g' := 0) (by omega) _ (fun op hop => by obtain ⟨e, _, rfl⟩ := mem_ofEv hop; rfl)]
          exact hq
        · rw [Deaf_other T (g' := 0) (by simp at hi; omega) _ (fun op hop => by obtain ⟨e, _, rfl⟩ := mem_ofEv hop; rfl)]
          exact C.abv i (by simpa using hi)
        · obtain ⟨e, he, rfl⟩ := mem_ofEv ho
          exact absurd hg (by show ¬ (0 = j); omega)
        · obtain ⟨s, r, tm, hch⟩ := C.ch
          exact ⟨s, r, tm, (hmv.chan hL (fun k hk => (C.mA k hk).1) hcL).trans hch⟩
      · have := ihn _ (by rw [← hnn, ← hz] at *; omega) (w₂.at d) (hk.trans (Keep.at _ _ _ _ d)) gs' (T ++ ops) q' sl' C' (by rw [hz])
        rw [hz] at this
        exact Reach.step hs' this
end
end Go.Proofs.Ytlbkhiphnllfpac
namespace Go.Proofs.Ytlbkhiphnllfpac
open Go.Conc
open Go.ConcN (sumTo upd sumTo_upd upd_ne upd_same)
set_option linter.unusedVariables false
set_option maxRecDepth 100000
structure Co (P : Program) (c L j : Nat) (MA MB : Nat → Prop) (gs : Array Goroutine) (w : World) (T : Trace) (q : Nat → Nat) (a b : Goroutine) : Prop where
  hA : gs[0]? = some a
  hB : gs[j]? = some b
  oth : ∀ i g, 0 < i → i ≠ j → gs[i]? = some g → QuitsD P (q i) (Deaf T i) g
  abv : ∀ i, gs.size ≤ i → Deaf T i = 0
  tr : PhT j c L MA MB T
  mA : ∀ k, MA k → L ≤ k ∧ k < w.heap.size
  mB : ∀ k, MB k → L ≤ k ∧ k < w.heap.size
  ap : ∀ k, MA k → ¬ MB k
  lw : L ≤ w.heap.size
  ch : ∃ s r tm, w.heap[c]? = some (.chan 0 #[] false s r tm)
/-- It runs; or it waits at the channel, and nobody but who meets it lets it go on. -/
def Sure (P : Program) (c : Nat) (w : World) (x : Goroutine) : Prop := x.status = .running ∨ (x.status = .blocked ∧ ∀ g g' w', w'.heap[c]? = w.heap[c]? → Conc.woken P g g' w' x = x)
section
variable {P : Program} {c L j : Nat} {z : Value} {Fin : (Nat → Prop) → Goroutine → World → Prop} {MA MB MA' MB' : Nat → Prop} {gs : Array Goroutine} {w : World} {T : Trace} {q : Nat → Nat} {a b : Goroutine}
theorem Sure.woken {x : Goroutine} (h : Sure P c w x) (g g' : Goroutine) {w' : World} (hc : w'.heap[c]? = w.heap[c]?) : Conc.woken P g g' w' x = x := by
  rcases h with h | ⟨_, h⟩
  · exact woken_run h
  · exact h g g' w' hc
theorem sure_recv {g : Goroutine} {sh : CommShape} (h : ∃ s r tm, w.heap[c]? = some (.chan 0 #[] false s r tm)) : Sure P c w (Conc.parked g #[rcase c z] sh) := by
  obtain ⟨s, r, tm, h⟩ := h
  exact .inr ⟨rfl, fun g g' w' e => woken_recv_open g g' (e.trans h)⟩
theorem sure_send {g : Goroutine} {v z' : Value} {sh : CommShape} (h : ∃ s r tm, w.heap[c]? = some (.chan 0 #[] false s r tm)) : Sure P c w (Conc.parked g #[scase c v z'] sh) := by
  obtain ⟨s, r, tm, h⟩ := h
  exact .inr ⟨rfl, fun g g' w' e => woken_send_open g g' (e.trans h)⟩
theorem Co.pick (C : Co P c L j MA MB gs w T q a b) (hj : 0 < j) (hsA : Sure P c w a) (hsB : Sure P c w b) (h1 : a.status = .running ∨ b.status = .running) (sl : Option (Nat × Nat)) :
    ∃ d sl', (a.status = .running ∧ stepT P (crowd gs w sl) = runT P (crowd gs (w.at d) sl') 0) ∨ (b.status = .running ∧ stepT P (crowd gs w sl) = runT P (crowd gs (w.at d) sl') j) ∨
      ∃ gs' ops q', stepT P (crowd gs w sl) = (.next (crowd gs' (w.at d) sl'), ops) ∧ gs'.size = gs.size ∧ Co P c L j MA MB gs' (w.at d) (T ++ ops) q' a b ∧ sumTo gs.size q' < sumTo gs.size q := by
  have st : ∀ x, Sure P c w x → x.status = .running ∨ x.status = .blocked ∨ x.status = .finished := fun x h => h.elim .inl fun h => .inr (.inl h.1)
  have haw : ∀ g ∈ gs, awake g := by
    intro g hg
    obtain ⟨i, hi, rfl⟩ := Array.mem_iff_getElem.1 hg
    rcases Nat.eq_zero_or_pos i with rfl | hpos
    · have : gs[0] = a := by simpa [Array.getElem?_eq_getElem hi] using C.hA
      rw [this]; exact awake_of (st _ hsA)
    · by_cases hij : i = j
      · subst hij
        have : gs[i] = b := by simpa [Array.getElem?_eq_getElem hi] using C.hB
        rw [this]; exact awake_of (st _ hsB)
      · exact awake_of ((C.oth i _ hpos hij (Array.getElem?_eq_getElem hi)).status.elim .inl fun x => .inr (.inr x))
  obtain ⟨i, g, d, sl', hi, hg, hst⟩ := crowd_pick (P := P) (w := w) (sl := sl) haw (h1.elim (fun h => ⟨0, a, C.hA, h⟩) (fun h => ⟨j, b, C.hB, h⟩))
  refine ⟨d, sl', ?_⟩
  rcases Nat.eq_zero_or_pos i with rfl | hpos
  · have : g = a := by rw [C.hA] at hi; exact (Option.some.inj hi).symm
    exact .inl ⟨this ▸ hg, hst⟩
  · by_cases hij : i = j
    · subst hij
      have : g = b := by rw [C.hB] at hi; exact (Option.some.inj hi).symm
      exact .inr (.inl ⟨this ▸ hg, hst⟩)
    · right; right
      have hq := C.oth i g hpos hij hi
      have hi0 : (i == 0) = false := by simp; omega
      have hlt : i < gs.size := (Array.getElem?_eq_some_iff.1 hi).1
      cases hqi : q i with
      | zero => rw [hqi] at hq; rw [hq.1] at hg; cases hg
      | succ k =>
        rw [hqi] at hq
        rcases hq with ⟨hf, _⟩ | ⟨_, g', es, hm, hstp, hq'⟩
        · rw [hf] at hg; cases hg
        have hrunT := runT_crowd_go (P := P) (sl := sl') (i := i) hi (by rw [hi0]; exact hstp (w.at d))
        have hsum : sumTo gs.size (upd q i k) + (k + 1) = sumTo gs.size q + k := by
          have := sumTo_upd q k id hlt
          simpa [hqi] using this
        refine ⟨_, _, upd q i k, hst.trans hrunT, by simp, ⟨?_, ?_, fun x y hx hxj hy => Leave.slip (Who := fun x => x ≠ j) hlt hpos hij (fun i g h h' => C.oth i g h h') hq' _ _ x y hx hxj hy, fun x hx => ?_,
          C.tr.mute (slip_tr hm).1 (fun op ho g d hg => deaf_none hm (by rcases hg with rfl | rfl <;> omega) op ho d) (slip_tr hm).2, C.mA, C.mB, C.ap, C.lw, C.ch⟩, by omega⟩
        · rw [get_set_ne (show i ≠ 0 by omega), Array.getElem?_map, C.hA]
          simp [hsA.woken g g' (w' := w.at d) rfl]
        · rw [get_set_ne hij, Array.getElem?_map, C.hB]
          simp [hsB.woken g g' (w' := w.at d) rfl]
        · rw [Deaf_other T (g' := i) (by simp at hx; omega) _ (fun op hop => by obtain ⟨e, _, rfl⟩ := mem_ofEv hop; rfl)]
          exact C.abv x (by simpa using hx)
theorem Co.stepA {d : Nat} {a' : Goroutine} {w' : World} {es : Array Event} (C : Co P c L j MA MB gs w T q a b) (hj : 0 < j) (hcL : c < L) (hsB : Sure P c w b) (hmv : Mv c L MA MA' (w.at d) w' es) (fn : FuncId) (pos : String) :
    Co P c L j MA' MB ((gs.map (Conc.woken P a a' w')).setIfInBounds 0 a') w' (T ++ MemOp.ofEvents 0 fn pos es) q a' b ∧ Keep c L MB w w' ∧ ((gs.map (Conc.woken P a a' w')).setIfInBounds 0 a').size = gs.size := by
  have hL : L ≤ (w.at d).heap.size := C.lw
  have hlt0 : 0 < gs.size := (Array.getElem?_eq_some_iff.1 C.hA).1
  have hML : ∀ k, MA' k → L ≤ k ∧ k < w'.heap.size := fun k hk => by
    rcases hmv.new k hk with h | ⟨h1, h2⟩
    · have h3 := C.mA k h; have h4 := hmv.size; exact ⟨h3.1, Nat.lt_of_lt_of_le h3.2 h4⟩
    · exact ⟨Nat.le_trans hL h1, h2⟩
  have hap : ∀ k, MA' k → ¬ MB k := fun k hk hb => by
    rcases hmv.new k hk with h | ⟨h1, h2⟩
    · exact C.ap k h hb
    · have := (C.mB k hb).2; exact absurd this (Nat.not_lt.2 h1)
  have hch : w'.heap[c]? = w.heap[c]? := hmv.chan hL (fun k hk => (C.mA k hk).1) hcL
  refine ⟨⟨get_set_same (by simpa using hlt0) _, ?_, fun i g hi hij hg => ?_, fun i hi => ?_, C.tr.ownA (fun k hk => (C.mB k hk).1) (fun k hk => (hML k hk).1) hap hmv.sub hmv.evs, hML,
    fun k hk => ⟨(C.mB k hk).1, Nat.lt_of_lt_of_le (C.mB k hk).2 hmv.size⟩, hap, Nat.le_trans hL hmv.size, ?_⟩, ?_, by simp⟩
  · rw [get_set_ne (show (0 : Nat) ≠ j by omega), Array.getElem?_map, C.hB]
    simp [hsB.woken a a' hch]
  · rw [get_set_ne (show (0 : Nat) ≠ i by omega), Array.getElem?_map] at hg
    obtain ⟨y, hy, rfl⟩ := Option.map_eq_some_iff.1 hg
    have hq := C.oth i y hi hij hy
    rw [woken_quitsD hq, Deaf_other T (g' := 0) (by omega) _ (fun op hop => by obtain ⟨e, _, rfl⟩ := mem_ofEv hop; rfl)]
    exact hq
  · rw [Deaf_other T (g' := 0) (by simp at hi; omega) _ (fun op hop => by obtain ⟨e, _, rfl⟩ := mem_ofEv hop; rfl)]
    exact C.abv i (by simpa using hi)
  · obtain ⟨s, r, tm, h⟩ := C.ch
    exact ⟨s, r, tm, hch.trans h⟩
  · exact (Keep.at c L MB w d).trans (hmv.keep hL (fun k hk => (C.mA k hk).1) (fun k hk => ⟨(C.mB k hk).2, fun h => C.ap k h hk⟩))
theorem Co.stepB {d : Nat} {b' : Goroutine} {w' : World} {es : Array Event} (C : Co P c L j MA MB gs w T q a b) (hj : 0 < j) (hcL : c < L) (hsA : Sure P c w a) (hmv : Mv c L MB MB' (w.at d) w' es) (fn : FuncId) (pos : String) :
    Co P c L j MA MB' ((gs.map (Conc.woken P b b' w')).setIfInBounds j b') w' (T ++ MemOp.ofEvents j fn pos es) q a b' ∧ Keep c L MA w w' ∧ ((gs.map (Conc.woken P b b' w')).setIfInBounds j b').size = gs.size := by
  have hL : L ≤ (w.at d).heap.size := C.lw
  have hltj : j < gs.size := (Array.getElem?_eq_some_iff.1 C.hB).1
  have hML : ∀ k, MB' k → L ≤ k ∧ k < w'.heap.size := fun k hk => by
    rcases hmv.new k hk with h | ⟨h1, h2⟩
    · have h3 := C.mB k h; have h4 := hmv.size; exact ⟨h3.1, Nat.lt_of_lt_of_le h3.2 h4⟩
    · exact ⟨Nat.le_trans hL h1, h2⟩
  have hap : ∀ k, MB' k → ¬ MA k := fun k hk ha => by
    rcases hmv.new k hk with h | ⟨h1, h2⟩
    · exact C.ap k ha h
    · have := (C.mA k ha).2; exact absurd this (Nat.not_lt.2 h1)
  have hch : w'.heap[c]? = w.heap[c]? := hmv.chan hL (fun k hk => (C.mB k hk).1) hcL
  refine ⟨⟨?_, get_set_same (by simpa using hltj) _, fun i g hi hij hg => ?_, fun i hi => ?_, C.tr.ownB (fun k hk => (C.mA k hk).1) (fun k hk => (hML k hk).1) hap hmv.sub hmv.evs,
    fun k hk => ⟨(C.mA k hk).1, Nat.lt_of_lt_of_le (C.mA k hk).2 hmv.size⟩, hML, fun k h1 h2 => hap k h2 h1, Nat.le_trans hL hmv.size, ?_⟩, ?_, by simp⟩
  · rw [get_set_ne (show j ≠ 0 by omega), Array.getElem?_map, C.hA]
    simp [hsA.woken b b' hch]
  · rw [get_set_ne (show j ≠ i from fun e => hij e.symm), Array.getElem?_map] at hg
    obtain ⟨y, hy, rfl⟩ := Option.map_eq_some_iff.1 hg
    have hq := C.oth i y hi hij hy
    rw [woken_quitsD hq, Deaf_other T (g' := j) (fun e => hij e.symm) _ (fun op hop => by obtain ⟨e, _, rfl⟩ := mem_ofEv hop; rfl)]
    exact hq
  · rw [Deaf_other T (g' := j) (by simp at hi; omega) _ (fun op hop => by obtain ⟨e, _, rfl⟩ := mem_ofEv hop; rfl)]
    exact C.abv i (by simpa using hi)
  · obtain ⟨s, r, tm, h⟩ := C.ch
    exact ⟨s, r, tm, hch.trans h⟩
  · exact (Keep.at c L MA w d).trans (hmv.keep hL (fun k hk => (C.mB k hk).1) (fun k hk => ⟨(C.mA k hk).2, fun h => C.ap k hk h⟩))
/-- Both records are laid anew; the channel alone turns in the world; what is listed touches nothing. -/
theorem Co.both {a' b' : Goroutine} {d s r : Nat} {tm : Bool} {u : Trace} (C : Co P c L j MA MB gs w T q a b) (hj : 0 < j) (hcL : c < L) (gs' : Array Goroutine) (hz : gs'.size = gs.size) (h0 : gs'[0]? = some a') (hjj : gs'[j]? = some b') (ho : ∀ i, 0 < i → i ≠ j → gs'[i]? = gs[i]?)
    (hn : ∀ op ∈ u, op.act.touch? = none) (hq : ∀ op ∈ u, ∀ g d, deafStep g d op = d) (hl : ∃ B, ∀ op ∈ u, op.act.low B) :
    Co P c L j MA MB gs' ((w.at d).setChan c 0 #[] false s r tm) (T ++ u) q a' b' := by
  have hsz : ((w.at d).setChan c 0 #[] false s r tm).heap.size = w.heap.size := by simp [World.setChan, World.at]
  refine ⟨h0, hjj, fun i g hi hij hg => ?_, fun i hi => ?_, C.tr.mute hn (fun op ho g d _ => hq op ho g d) hl, by rw [hsz]; exact C.mA, by rw [hsz]; exact C.mB, C.ap, by rw [hsz]; exact C.lw, s, r, tm, ?_⟩
  · rw [Deaf_quiet fun op ho d => hq op ho i d]
    exact C.oth i g hi hij (by rw [← ho i hi hij]; exact hg)
  · rw [Deaf_quiet fun op ho d => hq op ho i d]
    exact C.abv i (by rw [← hz]; exact hi)
  · have : c < w.heap.size := Nat.lt_of_lt_of_le hcL C.lw
    simp [World.setChan, World.at, this]
/-- One record is laid anew (it waits now); the world stands but for the count of draws. -/
theorem Co.park {a' b' : Goroutine} {d : Nat} (C : Co P c L j MA MB gs w T q a b) (gs' : Array Goroutine) (hz : gs'.size = gs.size) (h0 : gs'[0]? = some a') (hjj : gs'[j]? = some b') (ho : ∀ i, 0 < i → i ≠ j → gs'[i]? = gs[i]?) :
    Co P c L j MA MB gs' (w.at d) T q a' b' :=
  ⟨h0, hjj, fun i g hi hij hg => C.oth i g hi hij (by rw [← ho i hi hij]; exact hg), fun i hi => C.abv i (by rw [← hz]; exact hi), C.tr, C.mA, C.mB, C.ap, C.lw, C.ch⟩
theorem Co.nobody (C : Co P c L j MA MB gs w T q a b) {i : Nat} {send : Bool} (h0 : i = 0 ∨ offersAt a c send = []) (h1 : i = j ∨ offersAt b c send = []) : partners (gs.setIfInBounds i ph) c send = [] :=
  partners_nil fun x y hy => by
    rcases getElem?_stand gs i x y hy with ⟨_, rfl⟩ | ⟨hx, hy'⟩
    · exact offersAt_ph _ _
    · by_cases hx0 : x = 0
      · subst hx0
        rw [C.hA] at hy'
        cases hy'
        exact h0.resolve_left (Ne.symm hx)
      · by_cases hxj : x = j
        · subst hxj
          rw [C.hB] at hy'
          cases hy'
          exact h1.resolve_left (Ne.symm hx)
        · exact offersAt_of_not_blocked (by rcases (C.oth x y (by omega) hxj hy').status with e | e <;> rw [e] <;> simp) _ _
end
end Go.Proofs.Ytlbkhiphnllfpac
namespace Go.Proofs.Ytlbkhiphnllfpac
open Go.Conc
open Go.ConcN (sumTo upd sumTo_upd upd_ne upd_same)
set_option linter.unusedVariables false
set_option maxRecDepth 100000
section
variable {P : Program} {c L j : Nat} {z : Value} {Fin : (Nat → Prop) → Goroutine → World → Prop}
def NextA (P : Program) (c L : Nat) (z : Value) (Fin : (Nat → Prop) → Goroutine → World → Prop) : List Value → (Nat → Prop) → Goroutine → World → Prop
  | [] => fun M g w => Fin M (Conc.served g (recvd true z false)) w
  | v :: vs => fun M g w => RecvsO P c L z Fin vs M (Conc.served g (recvd true v true)) w
theorem recvsO_eq (vs : List Value) : RecvsO P c L z Fin vs = GoO P true c L (AtR P c z (NextA P c L z Fin vs)) := by cases vs <;> rfl
/-- Let try again, it stands at the receive as before. -/
theorem AtR.again {Next : (Nat → Prop) → Goroutine → World → Prop} {M : Nat → Prop} {g : Goroutine} {w : World} (h : AtR P c z Next M g w) {cs : Array CommCase} {sh : CommShape} : AtR P c z Next M { Conc.parked (core g) cs sh with status := .running } w :=
  ⟨rfl, (stepG_same (h := g) rfl rfl rfl w).trans h.2.1, h.2.2⟩
/-- The close. -/
theorem close_run (hj : 0 < j) (hcL : c < L) {MA MB : Nat → Prop} {gs : Array Goroutine} {w : World} {T : Trace} {q : Nat → Nat} {a b g₂ : Goroutine} {s r n d : Nat} {tm : Bool} {sl sl' : Option (Nat × Nat)} (C : Co P c L j MA MB gs w T q a b)
    (hp : stepT P (crowd gs w sl) = runT P (crowd gs (w.at d) sl') j) (hch : w.heap[c]? = some (.chan 0 #[] false s r tm)) (hcl : stepG P false b (w.at d) = .go g₂ ((w.at d).setChan c 0 #[] true s r tm) (closeEvents c)) (hq : QuitsIn P n g₂)
    (ha : GoO P true c L (AtR P c z (NextA P c L z Fin [])) MA (Conc.woken P b g₂ ((w.at d).setChan c 0 #[] true s r tm) a) ((w.at d).setChan c 0 #[] true s r tm)) : Reach P Fin gs.size (crowd gs w sl) T := by
  have hj0 : (j == 0) = false := by simp; omega
  have hrun := runT_crowd_go (P := P) (sl := sl') (i := j) C.hB (by rw [hj0]; exact hcl)
  have hltj : j < gs.size := (Array.getElem?_eq_some_iff.1 C.hB).1
  have hcs : c < w.heap.size := Nat.lt_of_lt_of_le hcL C.lw
  have hsz : ((w.at d).setChan c 0 #[] true s r tm).heap.size = w.heap.size := by simp [World.setChan, World.at]
  have hT := C.tr.close (fn := b.frame.fn) (pos := b.frame.place) (by omega)
  have hcl2 : MemOp.ofEvents j b.frame.fn b.frame.place (closeEvents c) = #[{ g := j, fn := b.frame.fn, pos := b.frame.place, act := .access ⟨.obj c, false, true⟩ }, { g := j, fn := b.frame.fn, pos := b.frame.place, act := .close c }] := closeOps j b.frame.fn b.frame.place c
  have hg : ∀ op ∈ MemOp.ofEvents j b.frame.fn b.frame.place (closeEvents c), op.g = j := fun op hop => by obtain ⟨e, _, rfl⟩ := mem_ofEv hop; rfl
  have := shut_run (j := j) (m := T.size + 1) (MB := MB) hj hcL ha _ (Keep.refl _ _ _ _) ((gs.map (Conc.woken P b g₂ ((w.at d).setChan c 0 #[] true s r tm))).setIfInBounds j g₂) (T ++ MemOp.ofEvents j b.frame.fn b.frame.place (closeEvents c)) (upd q j n) sl'
    ⟨by rw [get_set_ne (show j ≠ 0 by omega), Array.getElem?_map, C.hA]; rfl, fun i g hi hg' => ?_, fun i hi => ?_, by rw [hcl2]; exact hT.1.toS, by rw [hcl2]; exact hT.2, by rw [hsz]; exact C.mA, by rw [hsz]; exact C.mB, C.ap, by rw [hsz]; exact C.lw, s, r, tm, by simp [World.setChan, World.at, hcs]⟩
  · rw [show ((gs.map (Conc.woken P b g₂ ((w.at d).setChan c 0 #[] true s r tm))).setIfInBounds j g₂).size = gs.size by simp] at this
    exact Reach.step (hp.trans hrun) this
  · by_cases hij : j = i
    · subst hij
      rw [get_set_same (by simpa using hltj)] at hg'
      obtain rfl := Option.some.inj hg'
      rw [upd_same, hcl2, hT.1.hB]
      exact QuitsD.of_quitsIn hq
    · rw [get_set_ne hij, Array.getElem?_map] at hg'
      obtain ⟨y, hy, rfl⟩ := Option.map_eq_some_iff.1 hg'
      have hqi := C.oth i y hi (Ne.symm hij) hy
      rw [woken_quitsD hqi, upd_ne q n (Ne.symm hij), Deaf_other T hij _ hg]
      exact hqi
  · rw [Deaf_other T (g' := j) (by simp at hi; omega) _ hg]
    exact C.abv i (by simpa using hi)
theorem woken_again {b g₂ x : Goroutine} {w : World} {n : Nat} (hw : mayWake P b = true) (hq : QuitsIn P n g₂) : Conc.woken P b g₂ w x = x.again w := by
  unfold Conc.woken
  rcases hq.status with h | h <;> simp [hw, h]
theorem not_mine {M : Nat → Prop} {w : World} (hcL : c < L) (h : ∀ k, M k → L ≤ k ∧ k < w.heap.size) : ¬ M c := fun e => by have := (h c e).1; omega
theorem met_all (u v : Nat) (fu : FuncId) (pu : String) (fv : FuncId) (pv : String) (s r cap : Nat) : ∀ op ∈ (#[{ g := u, fn := fu, pos := pu, act := .send c s }, { g := v, fn := fv, pos := pv, act := .recv c r cap }, { g := u, fn := fu, pos := pu, act := .sendDone c s }, { g := v, fn := fv, pos := pv, act := .recvDone c r }] : Trace),
    op.act.touch? = none ∧ (∀ g d, deafStep g d op = d) ∧ op.act.low (c + 1) := by
  intro op hop
  simp only [List.mem_toArray, List.mem_cons, List.not_mem_nil, or_false] at hop
  rcases hop with rfl | rfl | rfl | rfl <;> exact ⟨rfl, fun _ _ => rfl, Nat.lt_succ_self c⟩

/-- What is to be shown of the values that are left. -/
def Both (P : Program) (c L j : Nat) (z : Value) (Fin : (Nat → Prop) → Goroutine → World → Prop) (vs : List Value) : Prop :=
  ∀ (MA MB : Nat → Prop) (a b : Goroutine) (w : World) (gs : Array Goroutine) (T : Trace) (q : Nat → Nat) (sl : Option (Nat × Nat)), RecvsO P c L z Fin vs MA a w → SendsO P c L vs MB b w → Co P c L j MA MB gs w T q a b → Reach P Fin gs.size (crowd gs w sl) T

/-- The receiver waits, nothing is left to be sent. -/
theorem parkA_nil (hj : 0 < j) (hcL : c < L) {MB : Nat → Prop} {b : Goroutine} {w : World} (h : GoO P false c L (AtC P c) MB b w) :
    ∀ w₂, Keep c L MB w w₂ → ∀ (MA : Nat → Prop) (ga : Goroutine) (gs : Array Goroutine) (T : Trace) (q : Nat → Nat) (sl : Option (Nat × Nat)), (∀ w₁, Keep c L MA w₂ w₁ → AtR P c z (NextA P c L z Fin []) MA ga w₁) →
      Co P c L j MA MB gs w₂ T q (Conc.parked (core ga) #[rcase c z] (.recv true)) b → Reach P Fin gs.size (crowd gs w₂ sl) T := by
  induction h using GoO.ind with
  | stop hst =>
    rename_i MB b w
    intro w₂ hk MA ga gs T q sl hA C
    generalize hn : sumTo gs.size q = n
    induction n using Nat.strongRecOn generalizing w₂ gs T q sl with
    | _ n ih =>
      have hrb : b.status = .running := (hst w (Keep.refl _ _ _ _)).1
      obtain ⟨d, sl', ⟨hx, _⟩ | ⟨_, hp⟩ | ⟨gs', ops, q', hs', hz, C', hlt⟩⟩ := C.pick hj (sure_recv C.ch) (.inl hrb) (.inr hrb) sl
      · cases hx
      · obtain ⟨s, r, tm, hch⟩ := C.ch
        obtain ⟨_, hw, g₂, nq, hcl, hq⟩ := hst _ (hk.trans (Keep.at _ _ _ _ d))
        refine close_run (z := z) hj hcL C hp hch (hcl s r tm hch) hq ?_
        have hcs : c < w₂.heap.size := Nat.lt_of_lt_of_le hcL C.lw
        rw [woken_again hw hq, again_recv_closed (cap := 0) (buf := #[]) (s := s) (r := r) (tm := tm) (by simp [World.setChan, World.at, hcs])]
        exact .stop fun w₁ hk₁ => (hA w₁ (((Keep.at _ _ _ _ d).trans (Keep.chan (not_mine hcL C.mA) _ _ _ _ _ _ _)).trans hk₁)).again
      · have := ih _ (by rw [← hn]; rw [hz]; exact hlt) (w₂.at d) (hk.trans (Keep.at _ _ _ _ d)) gs' (T ++ ops) q' sl' (fun w₁ k => hA w₁ ((Keep.at _ _ _ _ d).trans k)) C' rfl
        rw [hz] at this
        exact Reach.step hs' this
  | step hs nx hstep hnx ih =>
    rename_i MB b w
    intro w₂ hk MA ga gs T q sl hA C
    generalize hn : sumTo gs.size q = n
    induction n using Nat.strongRecOn generalizing w₂ gs T q sl with
    | _ n ihn =>
      obtain ⟨d, sl', ⟨hx, _⟩ | ⟨_, hp⟩ | ⟨gs', ops, q', hs', hz, C', hlt⟩⟩ := C.pick hj (sure_recv C.ch) (.inl hs) (.inr hs) sl
      · cases hx
      · have hk' : Keep c L MB w (w₂.at d) := hk.trans (Keep.at _ _ _ _ d)
        obtain ⟨hgo, hmv⟩ := hstep _ hk'
        have hj0 : (j == 0) = false := by simp; omega
        have hrun := runT_crowd_go (P := P) (sl := sl') (i := j) C.hB (by rw [hj0]; exact hgo)
        obtain ⟨C', hkA, hz⟩ := C.stepB hj hcL (sure_recv C.ch) hmv b.frame.fn b.frame.place (b' := (nx (w₂.at d)).1)
        have := ih _ hk' _ (Keep.refl _ _ _ _) MA ga _ _ q sl' (fun w₁ k => hA w₁ (hkA.trans k)) C'
        rw [hz] at this
        exact Reach.step (hp.trans hrun) this
      · have := ihn _ (by rw [← hn]; rw [hz]; exact hlt) (w₂.at d) (hk.trans (Keep.at _ _ _ _ d)) gs' (T ++ ops) q' sl' (fun w₁ k => hA w₁ ((Keep.at _ _ _ _ d).trans k)) C' rfl
        rw [hz] at this
        exact Reach.step hs' this

/-- The receiver waits, a value is to be sent. -/
theorem parkA_cons (hj : 0 < j) (hcL : c < L) {v : Value} {vs : List Value} (hB : Both P c L j z Fin vs) {MB : Nat → Prop} {b : Goroutine} {w : World} (h : GoO P false c L (AtS P c v (SendsO P c L vs)) MB b w) :
    ∀ w₂, Keep c L MB w w₂ → ∀ (MA : Nat → Prop) (ga : Goroutine) (gs : Array Goroutine) (T : Trace) (q : Nat → Nat) (sl : Option (Nat × Nat)), (∀ w₁, Keep c L MA w₂ w₁ → AtR P c z (NextA P c L z Fin (v :: vs)) MA ga w₁) →
      Co P c L j MA MB gs w₂ T q (Conc.parked (core ga) #[rcase c z] (.recv true)) b → Reach P Fin gs.size (crowd gs w₂ sl) T := by
  induction h using GoO.ind with
  | stop hst =>
    rename_i MB b w
    intro w₂ hk MA ga gs T q sl hA C
    generalize hn : sumTo gs.size q = n
    induction n using Nat.strongRecOn generalizing w₂ gs T q sl with
    | _ n ih =>
      have hrb : b.status = .running := (hst w (Keep.refl _ _ _ _)).1
      obtain ⟨d, sl', ⟨hx, _⟩ | ⟨_, hp⟩ | ⟨gs', ops, q', hs', hz, C', hlt⟩⟩ := C.pick hj (sure_recv C.ch) (.inl hrb) (.inr hrb) sl
      · cases hx
      · obtain ⟨s, r, tm, hch⟩ := C.ch
        obtain ⟨_, ⟨z', hcm⟩, hnext⟩ := hst _ (hk.trans (Keep.at _ _ _ _ d))
        obtain ⟨_, _, hnA⟩ := hA _ (Keep.at _ _ _ _ d)
        have hj0 : (j == 0) = false := by simp; omega
        have hlt0 : 0 < gs.size := (Array.getElem?_eq_some_iff.1 C.hA).1
        have hltj : j < gs.size := (Array.getElem?_eq_some_iff.1 C.hB).1
        have hpar : partners (gs.setIfInBounds j ph) c false = [(0, 0)] := by
          rw [partners_one (j := 0) (g := Conc.parked (core ga) #[rcase c z] (.recv true)) (by rw [get_set_ne (show j ≠ 0 by omega)]; exact C.hA) (fun x y hx hy => ?_), offersAt_parked_recv, if_pos rfl]
          · rfl
          · rcases getElem?_stand gs j x y hy with ⟨_, rfl⟩ | ⟨hxj, hy'⟩
            · exact offersAt_ph _ _
            · exact offersAt_of_not_blocked (by rcases (C.oth x y (by omega) hxj hy').status with e | e <;> rw [e] <;> simp) _ _
        have hrun := crowd_send_meets (P := P) (sl := sl') (i := j) (j := 0) C.hB (by rw [hj0]; exact hcm) (show (w₂.at d).heap[c]? = _ from hch) (show (0 : Nat) ≠ j by omega) C.hA hpar
        rw [finishComm_recv, finishComm_send] at hrun
        have hm := met_all (c := c) j 0 (core b).frame.fn (core b).frame.place (core ga).frame.fn (core ga).frame.place s r 0
        have C2 := C.both (u := #[{ g := j, fn := (core b).frame.fn, pos := (core b).frame.place, act := .send c s }, { g := 0, fn := (core ga).frame.fn, pos := (core ga).frame.place, act := .recv c r 0 }, { g := j, fn := (core b).frame.fn, pos := (core b).frame.place, act := .sendDone c s }, { g := 0, fn := (core ga).frame.fn, pos := (core ga).frame.place, act := .recvDone c r }]) hj hcL (d := d) (s := s + 1) (r := r + 1) (tm := tm) ((gs.setIfInBounds 0 (Conc.served (core ga) (recvd true v true))).setIfInBounds j (Conc.served (core b) undef)) (by simp)
          (by rw [get_set_ne (show j ≠ 0 by omega)]; exact get_set_same hlt0 _) (get_set_same (by simpa using hltj) _) (fun i hi hij => by rw [get_set_ne (Ne.symm hij), get_set_ne (show (0 : Nat) ≠ i by omega)]) (fun op ho => (hm op ho).1) (fun op ho => (hm op ho).2.1) ⟨c + 1, fun op ho => (hm op ho).2.2⟩
        have := hB MA MB _ _ _ _ _ q sl' (RecvsO.keep hnA (Keep.chan (not_mine hcL C.mA) _ _ _ _ _ _ _)) (SendsO.keep hnext (Keep.chan (not_mine hcL C.mB) _ _ _ _ _ _ _)) C2
        rw [show ((gs.setIfInBounds 0 (Conc.served (core ga) (recvd true v true))).setIfInBounds j (Conc.served (core b) undef)).size = gs.size by simp] at this
        exact Reach.step (hp.trans hrun) this
      · have := ih _ (by rw [← hn]; rw [hz]; exact hlt) (w₂.at d) (hk.trans (Keep.at _ _ _ _ d)) gs' (T ++ ops) q' sl' (fun w₁ k => hA w₁ ((Keep.at _ _ _ _ d).trans k)) C' rfl
        rw [hz] at this
        exact Reach.step hs' this
  | step hs nx hstep hnx ih =>
    rename_i MB b w
    intro w₂ hk MA ga gs T q sl hA C
    generalize hn : sumTo gs.size q = n
    induction n using Nat.strongRecOn generalizing w₂ gs T q sl with
    | _ n ihn =>
      obtain ⟨d, sl', ⟨hx, _⟩ | ⟨_, hp⟩ | ⟨gs', ops, q', hs', hz, C', hlt⟩⟩ := C.pick hj (sure_recv C.ch) (.inl hs) (.inr hs) sl
      · cases hx
      · have hk' : Keep c L MB w (w₂.at d) := hk.trans (Keep.at _ _ _ _ d)
        obtain ⟨hgo, hmv⟩ := hstep _ hk'
        have hj0 : (j == 0) = false := by simp; omega
        have hrun := runT_crowd_go (P := P) (sl := sl') (i := j) C.hB (by rw [hj0]; exact hgo)
        obtain ⟨C', hkA, hz⟩ := C.stepB hj hcL (sure_recv C.ch) hmv b.frame.fn b.frame.place (b' := (nx (w₂.at d)).1)
        have := ih _ hk' _ (Keep.refl _ _ _ _) MA ga _ _ q sl' (fun w₁ k => hA w₁ (hkA.trans k)) C'
        rw [hz] at this
        exact Reach.step (hp.trans hrun) this
      · have := ihn _ (by rw [← hn]; rw [hz]; exact hlt) (w₂.at d) (hk.trans (Keep.at _ _ _ _ d)) gs' (T ++ ops) q' sl' (fun w₁ k => hA w₁ ((Keep.at _ _ _ _ d).trans k)) C' rfl
        rw [hz] at this
        exact Reach.step hs' this

/-- The sender waits. -/
theorem parkB (hj : 0 < j) (hcL : c < L) {v z' : Value} {vs : List Value} (hB : Both P c L j z Fin vs) {MA : Nat → Prop} {a : Goroutine} {w : World} (h : GoO P true c L (AtR P c z (NextA P c L z Fin (v :: vs))) MA a w) :
    ∀ w₂, Keep c L MA w w₂ → ∀ (MB : Nat → Prop) (gb : Goroutine) (gs : Array Goroutine) (T : Trace) (q : Nat → Nat) (sl : Option (Nat × Nat)), (∀ w₁, Keep c L MB w₂ w₁ → AtS P c v (SendsO P c L vs) MB gb w₁) →
      Co P c L j MA MB gs w₂ T q a (Conc.parked (core gb) #[scase c v z'] .send) → Reach P Fin gs.size (crowd gs w₂ sl) T := by
  induction h using GoO.ind with
  | stop hst =>
    rename_i MA a w
    intro w₂ hk MB gb gs T q sl hS C
    generalize hn : sumTo gs.size q = n
    induction n using Nat.strongRecOn generalizing w₂ gs T q sl with
    | _ n ih =>
      have hra : a.status = .running := (hst w (Keep.refl _ _ _ _)).1
      obtain ⟨d, sl', ⟨_, hp⟩ | ⟨hx, _⟩ | ⟨gs', ops, q', hs', hz, C', hlt⟩⟩ := C.pick hj (.inl hra) (sure_send C.ch) (.inl hra) sl
      · obtain ⟨s, r, tm, hch⟩ := C.ch
        obtain ⟨_, hcm, hnA⟩ := hst _ (hk.trans (Keep.at _ _ _ _ d))
        obtain ⟨_, _, hnext⟩ := hS _ (Keep.at _ _ _ _ d)
        have hlt0 : 0 < gs.size := (Array.getElem?_eq_some_iff.1 C.hA).1
        have hltj : j < gs.size := (Array.getElem?_eq_some_iff.1 C.hB).1
        have hpar : partners (gs.setIfInBounds 0 ph) c true = [(j, 0)] := by
          rw [partners_one (j := j) (g := Conc.parked (core gb) #[scase c v z'] .send) (by rw [get_set_ne (show (0 : Nat) ≠ j by omega)]; exact C.hB) (fun x y hx hy => ?_), offersAt_parked_send, if_pos rfl]
          · rfl
          · rcases getElem?_stand gs 0 x y hy with ⟨_, rfl⟩ | ⟨hx0, hy'⟩
            · exact offersAt_ph _ _
            · exact offersAt_of_not_blocked (by rcases (C.oth x y (by omega) hx hy').status with e | e <;> rw [e] <;> simp) _ _
        have hrun := crowd_recv_meets (P := P) (sl := sl') (i := 0) (j := j) C.hA (show stepG P (0 == 0) a (w₂.at d) = _ from hcm) (show (w₂.at d).heap[c]? = _ from hch) (show j ≠ 0 by omega) C.hB hpar
        rw [finishComm_recv, finishComm_send] at hrun
        have hm := met_all (c := c) j 0 (core gb).frame.fn (core gb).frame.place (core a).frame.fn (core a).frame.place s r 0
        have C2 := C.both (u := #[{ g := j, fn := (core gb).frame.fn, pos := (core gb).frame.place, act := .send c s }, { g := 0, fn := (core a).frame.fn, pos := (core a).frame.place, act := .recv c r 0 }, { g := j, fn := (core gb).frame.fn, pos := (core gb).frame.place, act := .sendDone c s }, { g := 0, fn := (core a).frame.fn, pos := (core a).frame.place, act := .recvDone c r }]) hj hcL (d := d) (s := s + 1) (r := r + 1) (tm := tm) ((gs.setIfInBounds j (Conc.served (core gb) undef)).setIfInBounds 0 (Conc.served (core a) (recvd true v true))) (by simp)
          (get_set_same (by simpa using hlt0) _) (by rw [get_set_ne (show (0 : Nat) ≠ j by omega)]; exact get_set_same hltj _) (fun i hi hij => by rw [get_set_ne (show (0 : Nat) ≠ i by omega), get_set_ne (Ne.symm hij)]) (fun op ho => (hm op ho).1) (fun op ho => (hm op ho).2.1) ⟨c + 1, fun op ho => (hm op ho).2.2⟩
        have := hB MA MB _ _ _ _ _ q sl' (RecvsO.keep hnA (Keep.chan (not_mine hcL C.mA) _ _ _ _ _ _ _)) (SendsO.keep hnext (Keep.chan (not_mine hcL C.mB) _ _ _ _ _ _ _)) C2
        rw [show ((gs.setIfInBounds j (Conc.served (core gb) undef)).setIfInBounds 0 (Conc.served (core a) (recvd true v true))).size = gs.size by simp] at this
        exact Reach.step (hp.trans hrun) this
      · cases hx
      · have := ih _ (by rw [← hn]; rw [hz]; exact hlt) (w₂.at d) (hk.trans (Keep.at _ _ _ _ d)) gs' (T ++ ops) q' sl' (fun w₁ k => hS w₁ ((Keep.at _ _ _ _ d).trans k)) C' rfl
        rw [hz] at this
        exact Reach.step hs' this
  | step hs nx hstep hnx ih =>
    rename_i MA a w
    intro w₂ hk MB gb gs T q sl hS C
    generalize hn : sumTo gs.size q = n
    induction n using Nat.strongRecOn generalizing w₂ gs T q sl with
    | _ n ihn =>
      obtain ⟨d, sl', ⟨_, hp⟩ | ⟨hx, _⟩ | ⟨gs', ops, q', hs', hz, C', hlt⟩⟩ := C.pick hj (.inl hs) (sure_send C.ch) (.inl hs) sl
      · have hk' : Keep c L MA w (w₂.at d) := hk.trans (Keep.at _ _ _ _ d)
        obtain ⟨hgo, hmv⟩ := hstep _ hk'
        have hrun := runT_crowd_go (P := P) (sl := sl') (i := 0) C.hA (show stepG P (0 == 0) a (w₂.at d) = _ from hgo)
        obtain ⟨C', hkB, hz⟩ := C.stepA hj hcL (sure_send C.ch) hmv a.frame.fn a.frame.place (a' := (nx (w₂.at d)).1)
        have := ih _ hk' _ (Keep.refl _ _ _ _) MB gb _ _ q sl' (fun w₁ k => hS w₁ (hkB.trans k)) C'
        rw [hz] at this
        exact Reach.step (hp.trans hrun) this
      · cases hx
      · have := ihn _ (by rw [← hn]; rw [hz]; exact hlt) (w₂.at d) (hk.trans (Keep.at _ _ _ _ d)) gs' (T ++ ops) q' sl' (fun w₁ k => hS w₁ ((Keep.at _ _ _ _ d).trans k)) C' rfl
        rw [hz] at this
        exact Reach.step hs' this
/-- Both are on their way; whoever is picked. -/
theorem both_turn (hj : 0 < j) {MA MB : Nat → Prop} {gs : Array Goroutine} {w : World} {T : Trace} {q : Nat → Nat} {a b : Goroutine} (C : Co P c L j MA MB gs w T q a b) (hra : a.status = .running) (hrb : b.status = .running) (sl : Option (Nat × Nat))
    (kA : ∀ d sl', ∃ m' ops, runT P (crowd gs (w.at d) sl') 0 = (.next m', ops) ∧ Reach P Fin gs.size m' (T ++ ops)) (kB : ∀ d sl', stepT P (crowd gs w sl) = runT P (crowd gs (w.at d) sl') j → Reach P Fin gs.size (crowd gs w sl) T)
    (kS : ∀ d gs' ops q' sl', gs'.size = gs.size → Co P c L j MA MB gs' (w.at d) (T ++ ops) q' a b → sumTo gs'.size q' < sumTo gs.size q → Reach P Fin gs'.size (crowd gs' (w.at d) sl') (T ++ ops)) : Reach P Fin gs.size (crowd gs w sl) T := by
  obtain ⟨d, sl', ⟨_, hp⟩ | ⟨_, hp⟩ | ⟨gs', ops, q', hs', hz, C', hlt⟩⟩ := C.pick hj (.inl hra) (.inl hrb) (.inl hra) sl
  · obtain ⟨m', ops, h1, h2⟩ := kA d sl'
    exact Reach.step (hp.trans h1) h2
  · exact kB d sl' hp
  · have := kS d gs' ops q' sl' hz C' (by rw [hz]; exact hlt)
    rw [hz] at this
    exact Reach.step hs' this
/-- The receiver, at its receive, waits: the sender is on its way. -/
theorem waitA {MA MB : Nat → Prop} {gs : Array Goroutine} {w : World} {T : Trace} {q : Nat → Nat} {a b : Goroutine} (hj : 0 < j) (C : Co P c L j MA MB gs w T q a b) (hrb : b.status = .running) {d : Nat} {sl' : Option (Nat × Nat)}
    (hcm : stepG P true a (w.at d) = .comm (core a) #[rcase c z] true (.recv true) (w.at d) #[]) : ∃ gs', runT P (crowd gs (w.at d) sl') 0 = (.next (crowd gs' (w.at d) sl'), #[]) ∧ gs'.size = gs.size ∧ Co P c L j MA MB gs' (w.at d) T q (Conc.parked (core a) #[rcase c z] (.recv true)) b := by
  obtain ⟨s, r, tm, hch⟩ := C.ch
  have hlt0 : 0 < gs.size := (Array.getElem?_eq_some_iff.1 C.hA).1
  have hrun := crowd_waits (P := P) (sl := sl') (i := 0) C.hA (show stepG P (0 == 0) a (w.at d) = _ from hcm) (fun cc hcc => by
    simp only [List.mem_toArray, List.mem_cons, List.not_mem_nil, or_false] at hcc
    subst hcc
    exact ways_recv_none (show (w.at d).heap[c]? = _ from hch) (C.nobody (.inl rfl) (.inr (offersAt_of_not_blocked (by rw [hrb]; simp) _ _))))
  exact ⟨_, hrun, by simp, C.park _ (by simp) (get_set_same hlt0 _) (by rw [get_set_ne (show (0 : Nat) ≠ j by omega)]; exact C.hB) (fun i hi _ => get_set_ne (show (0 : Nat) ≠ i by omega) _)⟩
/-- The sender, at its send, waits: the receiver is on its way. -/
theorem waitB {MA MB : Nat → Prop} {gs : Array Goroutine} {w : World} {T : Trace} {q : Nat → Nat} {a b : Goroutine} {v z' : Value} (hj : 0 < j) (C : Co P c L j MA MB gs w T q a b) (hra : a.status = .running) {d : Nat} {sl' : Option (Nat × Nat)}
    (hcm : stepG P false b (w.at d) = .comm (core b) #[scase c v z'] true .send (w.at d) #[]) : ∃ gs', runT P (crowd gs (w.at d) sl') j = (.next (crowd gs' (w.at d) sl'), #[]) ∧ gs'.size = gs.size ∧ Co P c L j MA MB gs' (w.at d) T q a (Conc.parked (core b) #[scase c v z'] .send) := by
  obtain ⟨s, r, tm, hch⟩ := C.ch
  have hltj : j < gs.size := (Array.getElem?_eq_some_iff.1 C.hB).1
  have hj0 : (j == 0) = false := by simp; omega
  have hrun := crowd_waits (P := P) (sl := sl') (i := j) C.hB (by rw [hj0]; exact hcm) (fun cc hcc => by
    simp only [List.mem_toArray, List.mem_cons, List.not_mem_nil, or_false] at hcc
    subst hcc
    exact ways_send_none (show (w.at d).heap[c]? = _ from hch) (by simp) (C.nobody (.inr (offersAt_of_not_blocked (by rw [hra]; simp) _ _)) (.inl rfl)))
  exact ⟨_, hrun, by simp, C.park _ (by simp) (by rw [get_set_ne (show j ≠ 0 by omega)]; exact C.hA) (get_set_same hltj _) (fun i _ hij => get_set_ne (Ne.symm hij) _)⟩
theorem push_lt (gs : Array Goroutine) (x : Goroutine) {i : Nat} (h : i < gs.size) : (gs.push x)[i]? = gs[i]? := by rw [Array.getElem?_push, if_neg (by omega)]
theorem push_eq (gs : Array Goroutine) (x : Goroutine) {i : Nat} (h : i = gs.size) : (gs.push x)[i]? = some x := by subst h; simp
theorem app_none (T : Trace) : T ++ (#[] : Array MemOp) = T := Array.append_empty
theorem both_nil (hj : 0 < j) (hcL : c < L) : Both P c L j z Fin [] := by
  intro MA MB a b w gs T q sl hA hB C
  rw [recvsO_eq] at hA
  have hB' : GoO P false c L (AtC P c) MB b w := hB
  clear hB
  suffices H : ∀ w₂, Keep c L MA w w₂ → ∀ (MB : Nat → Prop) (b : Goroutine), GoO P false c L (AtC P c) MB b w₂ → ∀ (gs : Array Goroutine) (T : Trace) (q : Nat → Nat) (sl : Option (Nat × Nat)), Co P c L j MA MB gs w₂ T q a b → Reach P Fin gs.size (crowd gs w₂ sl) T from
    H w (Keep.refl _ _ _ _) MB b hB' gs T q sl C
  clear C hB' MB b gs T q sl
  induction hA using GoO.ind with
  | stop hstA =>
    rename_i MA a w
    intro w₂ hkA MB b hB
    have hra : a.status = .running := (hstA w (Keep.refl _ _ _ _)).1
    suffices H : ∀ w₃, Keep c L MB w₂ w₃ → Keep c L MA w w₃ → ∀ (gs : Array Goroutine) (T : Trace) (q : Nat → Nat) (sl : Option (Nat × Nat)), Co P c L j MA MB gs w₃ T q a b → Reach P Fin gs.size (crowd gs w₃ sl) T from
      fun gs T q sl C => H w₂ (Keep.refl _ _ _ _) hkA gs T q sl C
    clear hkA
    induction hB using GoO.ind with
    | stop hstB =>
      rename_i MB b w₂
      intro w₃ hkB hkA gs T q sl C
      generalize hn : sumTo gs.size q = n
      induction n using Nat.strongRecOn generalizing w₃ gs T q sl with
      | _ n ih =>
        have hrb : b.status = .running := (hstB w₂ (Keep.refl _ _ _ _)).1
        refine both_turn hj C hra hrb sl (fun d sl' => ?_) (fun d sl' hp => ?_) (fun d gs' ops q' sl' hz C' hlt => ih _ (by rw [← hn]; exact hlt) _ (hkB.trans (Keep.at _ _ _ _ d)) (hkA.trans (Keep.at _ _ _ _ d)) gs' _ q' sl' C' rfl)
        · obtain ⟨_, hcm, _⟩ := hstA _ (hkA.trans (Keep.at _ _ _ _ d))
          obtain ⟨gs', hrun, hz, C'⟩ := waitA hj C hrb (sl' := sl') hcm
          refine ⟨_, _, hrun, ?_⟩
          rw [app_none, ← hz]
          exact parkA_nil hj hcL (.stop hstB) _ (hkB.trans (Keep.at _ _ _ _ d)) MA a gs' T q sl' (fun w₁ k => hstA w₁ ((hkA.trans (Keep.at _ _ _ _ d)).trans k)) C'
        · obtain ⟨s, r, tm, hch⟩ := C.ch
          obtain ⟨_, hw, g₂, nq, hcl, hq⟩ := hstB _ (hkB.trans (Keep.at _ _ _ _ d))
          refine close_run (z := z) hj hcL C hp hch (hcl s r tm hch) hq ?_
          rw [woken_run hra]
          exact GoO.keep (.stop hstA) (hkA.trans ((Keep.at _ _ _ _ d).trans (Keep.chan (not_mine hcL C.mA) _ _ _ _ _ _ _)))
    | step hsB nxB hstepB hnB ihB =>
      rename_i MB b w₂
      intro w₃ hkB hkA gs T q sl C
      generalize hn : sumTo gs.size q = n
      induction n using Nat.strongRecOn generalizing w₃ gs T q sl with
      | _ n ih =>
        refine both_turn hj C hra hsB sl (fun d sl' => ?_) (fun d sl' hp => ?_) (fun d gs' ops q' sl' hz C' hlt => ih _ (by rw [← hn]; exact hlt) _ (hkB.trans (Keep.at _ _ _ _ d)) (hkA.trans (Keep.at _ _ _ _ d)) gs' _ q' sl' C' rfl)
        · obtain ⟨_, hcm, _⟩ := hstA _ (hkA.trans (Keep.at _ _ _ _ d))
          obtain ⟨gs', hrun, hz, C'⟩ := waitA hj C hsB (sl' := sl') hcm
          refine ⟨_, _, hrun, ?_⟩
          rw [app_none, ← hz]
          exact parkA_nil hj hcL (.step hsB nxB hstepB hnB) _ (hkB.trans (Keep.at _ _ _ _ d)) MA a gs' T q sl' (fun w₁ k => hstA w₁ ((hkA.trans (Keep.at _ _ _ _ d)).trans k)) C'
        · have hkB' := hkB.trans (Keep.at _ _ _ _ d)
          obtain ⟨hgo, hmv⟩ := hstepB _ hkB'
          have hj0 : (j == 0) = false := by simp; omega
          have hrun := runT_crowd_go (P := P) (sl := sl') (i := j) C.hB (by rw [hj0]; exact hgo)
          obtain ⟨C', hkA', hz⟩ := C.stepB hj hcL (.inl hra) hmv b.frame.fn b.frame.place (b' := (nxB (w₃.at d)).1)
          have := ihB _ hkB' _ (Keep.refl _ _ _ _) (hkA.trans hkA') _ _ q sl' C'
          rw [hz] at this
          exact Reach.step (hp.trans hrun) this
  | step hsA nxA hstepA hnA ihA =>
    rename_i MA a w
    intro w₂ hkA MB b hB
    suffices H : ∀ w₃, Keep c L MB w₂ w₃ → Keep c L MA w w₃ → ∀ (gs : Array Goroutine) (T : Trace) (q : Nat → Nat) (sl : Option (Nat × Nat)), Co P c L j MA MB gs w₃ T q a b → Reach P Fin gs.size (crowd gs w₃ sl) T from
      fun gs T q sl C => H w₂ (Keep.refl _ _ _ _) hkA gs T q sl C
    clear hkA
    induction hB using GoO.ind with
    | stop hstB =>
      rename_i MB b w₂
      intro w₃ hkB hkA gs T q sl C
      generalize hn : sumTo gs.size q = n
      induction n using Nat.strongRecOn generalizing w₃ gs T q sl with
      | _ n ih =>
        have hrb : b.status = .running := (hstB w₂ (Keep.refl _ _ _ _)).1
        refine both_turn hj C hsA hrb sl (fun d sl' => ?_) (fun d sl' hp => ?_) (fun d gs' ops q' sl' hz C' hlt => ih _ (by rw [← hn]; exact hlt) _ (hkB.trans (Keep.at _ _ _ _ d)) (hkA.trans (Keep.at _ _ _ _ d)) gs' _ q' sl' C' rfl)
        · have hkA' := hkA.trans (Keep.at _ _ _ _ d)
          obtain ⟨hgo, hmv⟩ := hstepA _ hkA'
          have hrun := runT_crowd_go (P := P) (sl := sl') (i := 0) C.hA (show stepG P (0 == 0) a (w₃.at d) = _ from hgo)
          obtain ⟨C', hkB', hz⟩ := C.stepA hj hcL (.inl hrb) hmv a.frame.fn a.frame.place (a' := (nxA (w₃.at d)).1)
          refine ⟨_, _, hrun, ?_⟩
          rw [← hz]
          exact ihA _ hkA' _ (Keep.refl _ _ _ _) MB b (GoO.keep (.stop hstB) (hkB.trans hkB')) _ _ q sl' C'
        · obtain ⟨s, r, tm, hch⟩ := C.ch
          obtain ⟨_, hw, g₂, nq, hcl, hq⟩ := hstB _ (hkB.trans (Keep.at _ _ _ _ d))
          refine close_run (z := z) hj hcL C hp hch (hcl s r tm hch) hq ?_
          rw [woken_run hsA]
          exact GoO.keep (.step hsA nxA hstepA hnA) (hkA.trans ((Keep.at _ _ _ _ d).trans (Keep.chan (not_mine hcL C.mA) _ _ _ _ _ _ _)))
    | step hsB nxB hstepB hnB ihB =>
      rename_i MB b w₂
      intro w₃ hkB hkA gs T q sl C
      generalize hn : sumTo gs.size q = n
      induction n using Nat.strongRecOn generalizing w₃ gs T q sl with
      | _ n ih =>
        refine both_turn hj C hsA hsB sl (fun d sl' => ?_) (fun d sl' hp => ?_) (fun d gs' ops q' sl' hz C' hlt => ih _ (by rw [← hn]; exact hlt) _ (hkB.trans (Keep.at _ _ _ _ d)) (hkA.trans (Keep.at _ _ _ _ d)) gs' _ q' sl' C' rfl)
        · have hkA' := hkA.trans (Keep.at _ _ _ _ d)
          obtain ⟨hgo, hmv⟩ := hstepA _ hkA'
          have hrun := runT_crowd_go (P := P) (sl := sl') (i := 0) C.hA (show stepG P (0 == 0) a (w₃.at d) = _ from hgo)
          obtain ⟨C', hkB', hz⟩ := C.stepA hj hcL (.inl hsB) hmv a.frame.fn a.frame.place (a' := (nxA (w₃.at d)).1)
          refine ⟨_, _, hrun, ?_⟩
          rw [← hz]
          exact ihA _ hkA' _ (Keep.refl _ _ _ _) MB b (GoO.keep (.step hsB nxB hstepB hnB) (hkB.trans hkB')) _ _ q sl' C'
        · have hkB' := hkB.trans (Keep.at _ _ _ _ d)
          obtain ⟨hgo, hmv⟩ := hstepB _ hkB'
          have hj0 : (j == 0) = false := by simp; omega
          have hrun := runT_crowd_go (P := P) (sl := sl') (i := j) C.hB (by rw [hj0]; exact hgo)
          obtain ⟨C', hkA', hz⟩ := C.stepB hj hcL (.inl hsA) hmv b.frame.fn b.frame.place (b' := (nxB (w₃.at d)).1)
          have := ihB _ hkB' _ (Keep.refl _ _ _ _) (hkA.trans hkA') _ _ q sl' C'
          rw [hz] at this
          exact Reach.step (hp.trans hrun) this
theorem both_cons (hj : 0 < j) (hcL : c < L) {v : Value} {vs : List Value} (hV : Both P c L j z Fin vs) : Both P c L j z Fin (v :: vs) := by
  intro MA MB a b w gs T q sl hA hB C
  rw [recvsO_eq] at hA
  have hB' : GoO P false c L (AtS P c v (SendsO P c L vs)) MB b w := hB
  clear hB
  suffices H : ∀ w₂, Keep c L MA w w₂ → ∀ (MB : Nat → Prop) (b : Goroutine), GoO P false c L (AtS P c v (SendsO P c L vs)) MB b w₂ → ∀ (gs : Array Goroutine) (T : Trace) (q : Nat → Nat) (sl : Option (Nat × Nat)), Co P c L j MA MB gs w₂ T q a b → Reach P Fin gs.size (crowd gs w₂ sl) T from
    H w (Keep.refl _ _ _ _) MB b hB' gs T q sl C
  clear C hB' MB b gs T q sl
  induction hA using GoO.ind with
  | stop hstA =>
    rename_i MA a w
    intro w₂ hkA MB b hB
    have hra : a.status = .running := (hstA w (Keep.refl _ _ _ _)).1
    suffices H : ∀ w₃, Keep c L MB w₂ w₃ → Keep c L MA w w₃ → ∀ (gs : Array Goroutine) (T : Trace) (q : Nat → Nat) (sl : Option (Nat × Nat)), Co P c L j MA MB gs w₃ T q a b → Reach P Fin gs.size (crowd gs w₃ sl) T from
      fun gs T q sl C => H w₂ (Keep.refl _ _ _ _) hkA gs T q sl C
    clear hkA
    induction hB using GoO.ind with
    | stop hstB =>
      rename_i MB b w₂
      intro w₃ hkB hkA gs T q sl C
      generalize hn : sumTo gs.size q = n
      induction n using Nat.strongRecOn generalizing w₃ gs T q sl with
      | _ n ih =>
        have hrb : b.status = .running := (hstB w₂ (Keep.refl _ _ _ _)).1
        refine both_turn hj C hra hrb sl (fun d sl' => ?_) (fun d sl' hp => ?_) (fun d gs' ops q' sl' hz C' hlt => ih _ (by rw [← hn]; exact hlt) _ (hkB.trans (Keep.at _ _ _ _ d)) (hkA.trans (Keep.at _ _ _ _ d)) gs' _ q' sl' C' rfl)
        · obtain ⟨_, hcm, _⟩ := hstA _ (hkA.trans (Keep.at _ _ _ _ d))
          obtain ⟨gs', hrun, hz, C'⟩ := waitA hj C hrb (sl' := sl') hcm
          refine ⟨_, _, hrun, ?_⟩
          rw [app_none, ← hz]
          exact parkA_cons hj hcL hV (.stop hstB) _ (hkB.trans (Keep.at _ _ _ _ d)) MA a gs' T q sl' (fun w₁ k => hstA w₁ ((hkA.trans (Keep.at _ _ _ _ d)).trans k)) C'
        · obtain ⟨_, ⟨z', hcm⟩, _⟩ := hstB _ (hkB.trans (Keep.at _ _ _ _ d))
          obtain ⟨gs', hrun, hz, C'⟩ := waitB hj C hra (sl' := sl') hcm
          have := parkB hj hcL hV (.stop hstA) _ (hkA.trans (Keep.at _ _ _ _ d)) MB b gs' T q sl' (fun w₁ k => hstB w₁ ((hkB.trans (Keep.at _ _ _ _ d)).trans k)) C'
          rw [hz] at this
          exact Reach.step (hp.trans hrun) (by rw [app_none]; exact this)
    | step hsB nxB hstepB hnB ihB =>
      rename_i MB b w₂
      intro w₃ hkB hkA gs T q sl C
      generalize hn : sumTo gs.size q = n
      induction n using Nat.strongRecOn generalizing w₃ gs T q sl with
      | _ n ih =>
        refine both_turn hj C hra hsB sl (fun d sl' => ?_) (fun d sl' hp => ?_) (fun d gs' ops q' sl' hz C' hlt => ih _ (by rw [← hn]; exact hlt) _ (hkB.trans (Keep.at _ _ _ _ d)) (hkA.trans (Keep.at _ _ _ _ d)) gs' _ q' sl' C' rfl)
        · obtain ⟨_, hcm, _⟩ := hstA _ (hkA.trans (Keep.at _ _ _ _ d))
          obtain ⟨gs', hrun, hz, C'⟩ := waitA hj C hsB (sl' := sl') hcm
          refine ⟨_, _, hrun, ?_⟩
          rw [app_none, ← hz]
          exact parkA_cons hj hcL hV (.step hsB nxB hstepB hnB) _ (hkB.trans (Keep.at _ _ _ _ d)) MA a gs' T q sl' (fun w₁ k => hstA w₁ ((hkA.trans (Keep.at _ _ _ _ d)).trans k)) C'
        · have hkB' := hkB.trans (Keep.at _ _ _ _ d)
          obtain ⟨hgo, hmv⟩ := hstepB _ hkB'
          have hj0 : (j == 0) = false := by simp; omega
          have hrun := runT_crowd_go (P := P) (sl := sl') (i := j) C.hB (by rw [hj0]; exact hgo)
          obtain ⟨C', hkA', hz⟩ := C.stepB hj hcL (.inl hra) hmv b.frame.fn b.frame.place (b' := (nxB (w₃.at d)).1)
          have := ihB _ hkB' _ (Keep.refl _ _ _ _) (hkA.trans hkA') _ _ q sl' C'
          rw [hz] at this
          exact Reach.step (hp.trans hrun) this
  | step hsA nxA hstepA hnA ihA =>
    rename_i MA a w
    intro w₂ hkA MB b hB
    suffices H : ∀ w₃, Keep c L MB w₂ w₃ → Keep c L MA w w₃ → ∀ (gs : Array Goroutine) (T : Trace) (q : Nat → Nat) (sl : Option (Nat × Nat)), Co P c L j MA MB gs w₃ T q a b → Reach P Fin gs.size (crowd gs w₃ sl) T from
      fun gs T q sl C => H w₂ (Keep.refl _ _ _ _) hkA gs T q sl C
    clear hkA
    induction hB using GoO.ind with
    | stop hstB =>
      rename_i MB b w₂
      intro w₃ hkB hkA gs T q sl C
      generalize hn : sumTo gs.size q = n
      induction n using Nat.strongRecOn generalizing w₃ gs T q sl with
      | _ n ih =>
        have hrb : b.status = .running := (hstB w₂ (Keep.refl _ _ _ _)).1
        refine both_turn hj C hsA hrb sl (fun d sl' => ?_) (fun d sl' hp => ?_) (fun d gs' ops q' sl' hz C' hlt => ih _ (by rw [← hn]; exact hlt) _ (hkB.trans (Keep.at _ _ _ _ d)) (hkA.trans (Keep.at _ _ _ _ d)) gs' _ q' sl' C' rfl)
        · have hkA' := hkA.trans (Keep.at _ _ _ _ d)
          obtain ⟨hgo, hmv⟩ := hstepA _ hkA'
          have hrun := runT_crowd_go (P := P) (sl := sl') (i := 0) C.hA (show stepG P (0 == 0) a (w₃.at d) = _ from hgo)
          obtain ⟨C', hkB', hz⟩ := C.stepA hj hcL (.inl hrb) hmv a.frame.fn a.frame.place (a' := (nxA (w₃.at d)).1)
          refine ⟨_, _, hrun, ?_⟩
          rw [← hz]
          exact ihA _ hkA' _ (Keep.refl _ _ _ _) MB b (GoO.keep (.stop hstB) (hkB.trans hkB')) _ _ q sl' C'
        · obtain ⟨_, ⟨z', hcm⟩, _⟩ := hstB _ (hkB.trans (Keep.at _ _ _ _ d))
          obtain ⟨gs', hrun, hz, C'⟩ := waitB hj C hsA (sl' := sl') hcm
          have := parkB hj hcL hV (.step hsA nxA hstepA hnA) _ (hkA.trans (Keep.at _ _ _ _ d)) MB b gs' T q sl' (fun w₁ k => hstB w₁ ((hkB.trans (Keep.at _ _ _ _ d)).trans k)) C'
          rw [hz] at this
          exact Reach.step (hp.trans hrun) (by rw [app_none]; exact this)
    | step hsB nxB hstepB hnB ihB =>
      rename_i MB b w₂
      intro w₃ hkB hkA gs T q sl C
      generalize hn : sumTo gs.size q = n
      induction n using Nat.strongRecOn generalizing w₃ gs T q sl with
      | _ n ih =>
        refine both_turn hj C hsA hsB sl (fun d sl' => ?_) (fun d sl' hp => ?_) (fun d gs' ops q' sl' hz C' hlt => ih _ (by rw [← hn]; exact hlt) _ (hkB.trans (Keep.at _ _ _ _ d)) (hkA.trans (Keep.at _ _ _ _ d)) gs' _ q' sl' C' rfl)
        · have hkA' := hkA.trans (Keep.at _ _ _ _ d)
          obtain ⟨hgo, hmv⟩ := hstepA _ hkA'
          have hrun := runT_crowd_go (P := P) (sl := sl') (i := 0) C.hA (show stepG P (0 == 0) a (w₃.at d) = _ from hgo)
          obtain ⟨C', hkB', hz⟩ := C.stepA hj hcL (.inl hsB) hmv a.frame.fn a.frame.place (a' := (nxA (w₃.at d)).1)
          refine ⟨_, _, hrun, ?_⟩
          rw [← hz]
          exact ihA _ hkA' _ (Keep.refl _ _ _ _) MB b (GoO.keep (.step hsB nxB hstepB hnB) (hkB.trans hkB')) _ _ q sl' C'
        · have hkB' := hkB.trans (Keep.at _ _ _ _ d)
          obtain ⟨hgo, hmv⟩ := hstepB _ hkB'
          have hj0 : (j == 0) = false := by simp; omega
          have hrun := runT_crowd_go (P := P) (sl := sl') (i := j) C.hB (by rw [hj0]; exact hgo)
          obtain ⟨C', hkA', hz⟩ := C.stepB hj hcL (.inl hsA) hmv b.frame.fn b.frame.place (b' := (nxB (w₃.at d)).1)
          have := ihB _ hkB' _ (Keep.refl _ _ _ _) (hkA.trans hkA') _ _ q sl' C'
          rw [hz] at this
          exact Reach.step (hp.trans hrun) this
theorem both_all (hj : 0 < j) (hcL : c < L) : ∀ vs, Both P c L j z Fin vs
  | [] => both_nil hj hcL
  | _ :: vs => both_cons hj hcL (both_all hj hcL vs)
/-- THE PHASE: from a go statement, beside others that only leave, to the channel's end. -/
theorem pipe_phase {gs : Array Goroutine} {w w' : World} {T : Trace} {q : Nat → Nat} {sl : Option (Nat × Nat)} {B : Nat} {a a' child : Goroutine} {vs : List Value} {es : Array Event} (hcL : c < L) (hLw : L ≤ w'.heap.size) (h0 : gs[0]? = some a) (hra : a.status = .running) (hL : Leavers P T gs q) (hP : Past (fun _ => False) B T)
    (hsp : ∀ d, stepG P true a (w.at d) = .spawn a' child (w'.at d) #[]) (hch : ∃ s r tm, w'.heap[c]? = some (.chan 0 #[] false s r tm)) (hA : RecvsO P c L z Fin vs (fun _ => False) a' w') (hB : SendsO P c L vs (fun _ => False) child w') :
    Reach P Fin (gs.size + 1) (crowd gs w sl) T := by
  suffices H : ∀ n, ∀ (gs : Array Goroutine) (w : World) (T : Trace) (q : Nat → Nat) (sl : Option (Nat × Nat)), sumTo gs.size q = n → gs[0]? = some a → Leavers P T gs q → Past (fun _ => False) B T → (∀ d, stepG P true a (w.at d) = .spawn a' child (w'.at d) #[]) → Reach P Fin (gs.size + 1) (crowd gs w sl) T from
    H _ gs w T q sl rfl h0 hL hP hsp
  intro n
  induction n using Nat.strongRecOn with
  | _ n ih =>
    intro gs w T q sl hn h0 hL hP hsp
    have haw : ∀ g ∈ gs, awake g := by
      intro g hg
      obtain ⟨i, hi, rfl⟩ := Array.mem_iff_getElem.1 hg
      rcases Nat.eq_zero_or_pos i with rfl | hpos
      · have : gs[0] = a := by simpa [Array.getElem?_eq_getElem hi] using h0
        rw [this]; exact awake_of (.inl hra)
      · exact awake_of ((hL.old i _ hpos (Array.getElem?_eq_getElem hi)).status.elim .inl fun x => .inr (.inr x))
    obtain ⟨i, g, d, sl', hi, hg, hst⟩ := crowd_pick (P := P) (w := w) (sl := sl) haw ⟨0, a, h0, hra⟩
    have hlt0 : 0 < gs.size := (Array.getElem?_eq_some_iff.1 h0).1
    rcases Nat.eq_zero_or_pos i with rfl | hpos
    · obtain rfl : g = a := by rw [h0] at hi; exact (Option.some.inj hi).symm
      have hrun := runT_crowd_spawn (P := P) (sl := sl') (i := 0) hi (show stepG P (0 == 0) g (w.at d) = _ from hsp d)
      refine Reach.step (hst.trans hrun) ?_
      have e0 : ((MemOp.ofEvents 0 g.frame.fn g.frame.place #[]).push { g := 0, fn := g.frame.fn, pos := g.frame.place, act := .go gs.size } |>.push { g := gs.size, fn := child.frame.fn, pos := g.frame.place, act := .start }) = #[{ g := 0, fn := g.frame.fn, pos := g.frame.place, act := .go gs.size }, { g := gs.size, fn := child.frame.fn, pos := g.frame.place, act := .start }] := rfl
      rw [e0]
      have hq : ∀ x, ∀ op ∈ (#[{ g := 0, fn := g.frame.fn, pos := g.frame.place, act := .go gs.size }, { g := gs.size, fn := child.frame.fn, pos := g.frame.place, act := .start }] : Trace), ∀ d, deafStep x d op = d := by
        intro x op hop d
        simp only [List.mem_toArray, List.mem_cons, List.not_mem_nil, or_false] at hop
        rcases hop with rfl | rfl <;> rfl
      have hne : gs.size ≠ 0 := by omega
      have := both_all (P := P) (j := gs.size) (z := z) (Fin := Fin) (c := c) (L := L) hlt0 hcL vs (fun _ => False) (fun _ => False) a' child (w'.at d) ((gs.setIfInBounds 0 a').push child) _ q sl' (RecvsO.keep hA (Keep.at _ _ _ _ d)) (SendsO.keep hB (Keep.at _ _ _ _ d))
        ⟨by rw [push_lt _ _ (by simpa using hlt0)]; exact get_set_same hlt0 _, push_eq _ _ (by simp), fun x y hx hxj hy => ?_, fun x hx => ?_, PhT.begin (c := c) (L := L) hP hne (hL.above _ (Nat.le_refl _)) g.frame.fn g.frame.place child.frame.fn, fun k hk => hk.elim, fun k hk => hk.elim, fun k hk => hk.elim, hLw, hch⟩
      · rw [show ((gs.setIfInBounds 0 a').push child).size = gs.size + 1 by simp] at this
        exact this
      · have hxl : x < gs.size := by
          have := (Array.getElem?_eq_some_iff.1 hy).1
          simp at this
          omega
        rw [push_lt _ _ (by simpa using hxl), get_set_ne (show (0 : Nat) ≠ x by omega)] at hy
        rw [Deaf_quiet (hq x)]
        exact hL.old x y hx hy
      · rw [Deaf_quiet (hq x)]
        exact hL.above x (by simp at hx; omega)
    · have hq := hL.old i g hpos hi
      have hi0 : (i == 0) = false := by simp; omega
      have hlt : i < gs.size := (Array.getElem?_eq_some_iff.1 hi).1
      cases hqi : q i with
      | zero => rw [hqi] at hq; rw [hq.1] at hg; cases hg
      | succ k =>
        rw [hqi] at hq
        rcases hq with ⟨hf, _⟩ | ⟨_, g', es, hm, hstp, hq'⟩
        · rw [hf] at hg; cases hg
        have hrunT := runT_crowd_go (P := P) (sl := sl') (i := i) hi (by rw [hi0]; exact hstp (w.at d))
        have hsum : sumTo gs.size (upd q i k) + (k + 1) = sumTo gs.size q + k := by
          have := sumTo_upd q k id hlt
          simpa [hqi] using this
        have hz : ((gs.map (Conc.woken P g g' (w.at d))).setIfInBounds i g').size = gs.size := by simp
        have := ih (sumTo gs.size (upd q i k)) (by omega) ((gs.map (Conc.woken P g g' (w.at d))).setIfInBounds i g') (w.at d) (T ++ MemOp.ofEvents i g.frame.fn g.frame.place es) (upd q i k) sl' (by rw [hz]) (by rw [get_set_ne (show i ≠ 0 by omega), Array.getElem?_map, h0]; simp [woken_run hra])
          ⟨fun x y hx hy => Leave.slip (Who := fun _ => True) hlt hpos trivial (fun i g h _ => hL.old i g h) hq' _ _ x y hx trivial hy, fun x hx => by
            rw [Deaf_other T (g' := i) (by simp at hx; omega) _ (fun op hop => by obtain ⟨e, _, rfl⟩ := mem_ofEv hop; rfl)]
            exact hL.above x (by simpa using hx)⟩ (hP.mute (by omega) hm) (fun d' => hsp d')
        rw [hz] at this
        exact Reach.step (hst.trans hrunT) this
end
end Go.Proofs.Ytlbkhiphnllfpac
