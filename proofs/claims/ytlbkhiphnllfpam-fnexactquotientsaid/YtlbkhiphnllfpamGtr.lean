/-
  Two goroutines over one channel, each writing memory of its own making: what is held of the trace meanwhile.
-/
import Derived.Conc.TokenTrace
namespace Go.Proofs.Ytlbkhiphnllfpam
open Go.Conc
set_option linter.unusedVariables false
/-- A touch that one of the two may make while the other works: of a cell of its own; a read of a cell that was there at the start; an atomic one of the channel. -/
def His (c L : Nat) (M : Nat → Prop) (a : Touch) : Prop := (∃ ad, a.loc = .cell ad ∧ M ad.block) ∨ (a.write = false ∧ ∃ ad, a.loc = .cell ad ∧ ad.block < L) ∨ (a.loc = .obj c ∧ a.kind = .atomic)
theorem His.mono {c L : Nat} {M M' : Nat → Prop} {a : Touch} (h : His c L M a) (hm : ∀ k, M k → M' k) : His c L M' a := by
  rcases h with ⟨ad, e, k⟩ | h | h
  · exact .inl ⟨ad, e, hm _ k⟩
  · exact .inr (.inl h)
  · exact .inr (.inr h)
/-- 'me' knows every touch but those that the other has made so. -/
def Kn (me him c L : Nat) (M : Nat → Prop) (t : Trace) : Prop := ∀ i a, touchAt t i = some a → a.loc.isMemory = true → Knows t me i ∨ ∃ x, t[i]? = some x ∧ x.g = him ∧ His c L M a
theorem Kn.app {me him c L : Nat} {M M' : Nat → Prop} {t u : Trace} (h : Kn me him c L M t) (hm : ∀ k, M k → M' k)
    (hu : ∀ op ∈ u, op.g = me ∨ (op.g = him ∧ ∀ b, op.act.touch? = some b → His c L M' b) ∨ op.act.touch? = none) : Kn me him c L M' (t ++ u) := by
  intro i a ha hmem
  obtain ⟨x, hx, hxa⟩ := touch_of ha
  rcases getElem?_append_cases hx with ⟨hi, hx'⟩ | ⟨_, hxu⟩
  · rcases h i a (by rw [touchAt_of hx']; exact hxa) hmem with hk | ⟨y, hy, hg, hh⟩
    · exact .inl (hk.app u)
    · exact .inr ⟨y, by rw [getElem?_append_old hi]; exact hy, hg, hh.mono hm⟩
  · rcases hu x hxu with e | ⟨e, hb⟩ | e
    · have := knows_own hx
      rw [e] at this
      exact .inl this
    · exact .inr ⟨x, hx, e, hb a hxa⟩
    · rw [e] at hxa; cases hxa

/-- What a step of one of the two may list. -/
def EvO (L : Nat) (M : Nat → Prop) (B : Nat) (e : Event) : Prop := (∃ ad wr sy, e = ⟨.cell ad, wr, sy⟩ ∧ ad.block < B ∧ (M ad.block ∨ (wr = false ∧ ad.block < L))) ∨ e = ⟨.mark .noRoom, false, true⟩
theorem EvO.touch {c L B : Nat} {M : Nat → Prop} {e : Event} (h : EvO L M B e) {b : Touch} (hb : (MemAct.ofEvent e).touch? = some b) : His c L M b ∧ ∃ ad, b.loc = .cell ad ∧ (M ad.block ∨ (b.write = false ∧ ad.block < L)) := by
  rcases h with ⟨ad, wr, sy, rfl, hB, hM⟩ | rfl
  · simp only [ofEvent_cell0, MemAct.touch?, Option.some.injEq] at hb
    subst hb
    refine ⟨?_, ad, rfl, hM⟩
    rcases hM with hM | ⟨rfl, hM⟩
    · exact .inl ⟨ad, rfl, hM⟩
    · exact .inr (.inl ⟨rfl, ad, rfl, hM⟩)
  · simp [MemAct.ofEvent, MemAct.touch?] at hb
theorem EvO.low {L B : Nat} {M : Nat → Prop} {e : Event} (h : EvO L M B e) : (MemAct.ofEvent e).low B := by
  rcases h with ⟨ad, wr, sy, rfl, hB, _⟩ | rfl
  · exact hB
  · simp [MemAct.ofEvent, MemAct.low]
theorem EvO.quiet {L B : Nat} {M : Nat → Prop} {e : Event} (h : EvO L M B e) : e.loc ≠ .mark .disable ∧ e.loc ≠ .mark .enable := by
  rcases h with ⟨ad, wr, sy, rfl, _, _⟩ | rfl <;> simp

/-- What is held of the trace while goroutines 0 and j work over channel c. -/
structure PhT (j c L : Nat) (MA MB : Nat → Prop) (t : Trace) : Prop where
  clean : ∀ said, ¬ Race said t
  kA : Kn 0 j c L MB t
  kB : Kn j 0 c L MA t
  over : ∀ i g, t.g? i = some g → g ≠ 0 → g ≠ j → t.counts i → ∃ q, t.g? q = some 0 ∧ HappensBefore t i q
  hA : Deaf t 0 = 0
  hB : Deaf t j = 0
  seen : ∃ B, ∀ op ∈ t, op.act.low B

section
variable {j c L : Nat} {MA MB MA' MB' : Nat → Prop} {t u : Trace}
theorem seen_app2 (h : ∃ B, ∀ op ∈ t, op.act.low B) (hu : ∃ B, ∀ op ∈ u, op.act.low B) : ∃ B, ∀ op ∈ t ++ u, op.act.low B := by
  obtain ⟨B, h⟩ := h
  obtain ⟨B', hu⟩ := hu
  exact ⟨max B B', seen_app (fun op ho => MemAct.low_mono (Nat.le_max_left _ _) (h op ho)) (fun op ho => MemAct.low_mono (Nat.le_max_right _ _) (hu op ho))⟩
theorem over_app (h : ∀ i g, t.g? i = some g → g ≠ 0 → g ≠ j → t.counts i → ∃ q, t.g? q = some 0 ∧ HappensBefore t i q) (hu : ∀ op ∈ u, op.g = 0 ∨ op.g = j ∨ op.act.touch? = none) :
    ∀ i g, (t ++ u).g? i = some g → g ≠ 0 → g ≠ j → (t ++ u).counts i → ∃ q, (t ++ u).g? q = some 0 ∧ HappensBefore (t ++ u) i q := by
  intro i g hg hne hnj hc
  obtain ⟨x, hx, _⟩ := hc
  obtain ⟨op, hop, hox⟩ := touch_of hx
  rcases getElem?_append_cases hop with ⟨hi, hop'⟩ | ⟨_, hopu⟩
  · obtain ⟨q, hq, hb⟩ := h i g (by simpa [Trace.g?, getElem?_append_old hi] using hg) hne hnj ((counts_old hi).1 ⟨x, hx, ‹_›⟩)
    have hql : q < t.size := by
      unfold Trace.g? at hq
      obtain ⟨z, hz, _⟩ := Option.map_eq_some_iff.1 hq
      exact lt_size_of_getElem? hz
    exact ⟨q, by simpa [Trace.g?, getElem?_append_old hql] using hq, hb_app u hb⟩
  · have hgo : g = op.g := by have := g?_of hop; rw [hg] at this; exact Option.some.inj this
    rcases hu op hopu with h0 | h0 | h0
    · exact absurd (hgo.trans h0) hne
    · exact absurd (hgo.trans h0) hnj
    · rw [h0] at hox; cases hox
/-- Operations that touch nothing, of whomever, without a word of deafness. -/
theorem PhT.mute (h : PhT j c L MA MB t) (hn : ∀ op ∈ u, op.act.touch? = none) (hq : ∀ op ∈ u, ∀ g d, g = 0 ∨ g = j → deafStep g d op = d) (hl : ∃ B, ∀ op ∈ u, op.act.low B) : PhT j c L MA MB (t ++ u) :=
  ⟨fun said => noRace_appendMute (h.clean said) hn, h.kA.app (fun _ k => k) (fun op ho => .inr (.inr (hn op ho))), h.kB.app (fun _ k => k) (fun op ho => .inr (.inr (hn op ho))),
    over_app h.over (fun op ho => .inr (.inr (hn op ho))), (Deaf_quiet fun op ho d => hq op ho 0 d (.inl rfl)).trans h.hA, (Deaf_quiet fun op ho d => hq op ho j d (.inr rfl)).trans h.hB, seen_app2 h.seen hl⟩
/-- No race: the doer knows what conflicts. -/
theorem race_free {me him : Nat} {M N N' : Nat → Prop} (h : Kn me him c L N t) (hN : ∀ k, N k → L ≤ k) (hap : ∀ k, M k → ¬ N k) (hM : ∀ k, M k → L ≤ k)
    (hu : ∀ op ∈ u, ∀ b, op.act.touch? = some b → ∃ ad, b.loc = .cell ad ∧ (M ad.block ∨ (b.write = false ∧ ad.block < L))) (said : Bool) :
    ∀ i a, touchAt t i = some a → ∀ op ∈ u, ∀ b, op.act.touch? = some b → a.conflicts said b → Knows t me i := by
  intro i a ha op hop b hb hc
  obtain ⟨hloc, hmem, hwr, hk⟩ := hc
  rcases h i a ha hmem with hkn | ⟨x, hx, hg, hh⟩
  · exact hkn
  · exfalso
    obtain ⟨ad, e, hM'⟩ := hu op hop b hb
    rcases hh with ⟨ad', e', hN'⟩ | ⟨hw', ad', e', hL'⟩ | ⟨e', _⟩
    · rw [e', e] at hloc; cases hloc
      rcases hM' with hM' | ⟨hw, hl⟩
      · exact hap _ hM' hN'
      · have := hN _ hN'; omega
    · rw [e', e] at hloc; cases hloc
      rcases hM' with hM' | ⟨hw, hl⟩
      · have := hM _ hM'; omega
      · rcases hwr with h1 | h1
        · rw [hw'] at h1; cases h1
        · rw [hw] at h1; cases h1
    · rw [e', e] at hloc; cases hloc
theorem mem_ofEv {g : Nat} {fn : FuncId} {pos : String} {es : Array Event} {op : MemOp} (h : op ∈ MemOp.ofEvents g fn pos es) : ∃ e ∈ es, op = { g, fn, pos, act := .ofEvent e } := Go.Conc.mem_ofEvents h
theorem quiet_ofEv {g : Nat} {fn : FuncId} {pos : String} {es : Array Event} {M : Nat → Prop} {B : Nat} (h : ∀ e ∈ es, EvO L M B e) (x : Nat) : Deaf (t ++ MemOp.ofEvents g fn pos es) x = Deaf t x := by
  refine Deaf_quiet fun op ho d => ?_
  obtain ⟨e, he, rfl⟩ := mem_ofEv ho
  rcases h e he with ⟨ad, wr, sy, rfl, _, _⟩ | rfl <;> rfl
/-- A step of goroutine 0's own. -/
theorem PhT.ownA {fn : FuncId} {pos : String} {es : Array Event} {B : Nat} (h : PhT j c L MA MB t) (hB : ∀ k, MB k → L ≤ k) (hA : ∀ k, MA' k → L ≤ k) (hap : ∀ k, MA' k → ¬ MB k) (hsub : ∀ k, MA k → MA' k)
    (hes : ∀ e ∈ es, EvO L MA' B e) : PhT j c L MA' MB (t ++ MemOp.ofEvents 0 fn pos es) := by
  have hall : ∀ op ∈ MemOp.ofEvents 0 fn pos es, op.g = 0 := fun op ho => by obtain ⟨e, _, rfl⟩ := mem_ofEv ho; rfl
  have hto : ∀ op ∈ MemOp.ofEvents 0 fn pos es, ∀ b, op.act.touch? = some b → His c L MA' b ∧ ∃ ad, b.loc = .cell ad ∧ (MA' ad.block ∨ (b.write = false ∧ ad.block < L)) := fun op ho b hb => by
    obtain ⟨e, he, rfl⟩ := mem_ofEv ho; exact (hes e he).touch hb
  exact ⟨fun said => noRace_append (h.clean said) hall (race_free (N' := MB) h.kA hB hap hA (fun op ho b hb => (hto op ho b hb).2) said), h.kA.app (fun _ k => k) (fun op ho => .inl (hall op ho)),
    h.kB.app hsub (fun op ho => .inr (.inl ⟨hall op ho, fun b hb => (hto op ho b hb).1⟩)), over_app h.over (fun op ho => .inl (hall op ho)), (quiet_ofEv hes 0).trans h.hA, (quiet_ofEv hes j).trans h.hB,
    seen_app2 h.seen ⟨B, fun op ho => by obtain ⟨e, he, rfl⟩ := mem_ofEv ho; exact (hes e he).low⟩⟩
/-- A step of goroutine j's own. -/
theorem PhT.ownB {fn : FuncId} {pos : String} {es : Array Event} {B : Nat} (h : PhT j c L MA MB t) (hA : ∀ k, MA k → L ≤ k) (hB : ∀ k, MB' k → L ≤ k) (hap : ∀ k, MB' k → ¬ MA k) (hsub : ∀ k, MB k → MB' k)
    (hes : ∀ e ∈ es, EvO L MB' B e) : PhT j c L MA MB' (t ++ MemOp.ofEvents j fn pos es) := by
  have hall : ∀ op ∈ MemOp.ofEvents j fn pos es, op.g = j := fun op ho => by obtain ⟨e, _, rfl⟩ := mem_ofEv ho; rfl
  have hto : ∀ op ∈ MemOp.ofEvents j fn pos es, ∀ b, op.act.touch? = some b → His c L MB' b ∧ ∃ ad, b.loc = .cell ad ∧ (MB' ad.block ∨ (b.write = false ∧ ad.block < L)) := fun op ho b hb => by
    obtain ⟨e, he, rfl⟩ := mem_ofEv ho; exact (hes e he).touch hb
  exact ⟨fun said => noRace_append (h.clean said) hall (race_free (N' := MA) h.kB hA hap hB (fun op ho b hb => (hto op ho b hb).2) said), h.kA.app hsub (fun op ho => .inr (.inl ⟨hall op ho, fun b hb => (hto op ho b hb).1⟩)),
    h.kB.app (fun _ k => k) (fun op ho => .inl (hall op ho)), over_app h.over (fun op ho => .inr (.inl (hall op ho))), (quiet_ofEv hes 0).trans h.hA, (quiet_ofEv hes j).trans h.hB,
    seen_app2 h.seen ⟨B, fun op ho => by obtain ⟨e, he, rfl⟩ := mem_ofEv ho; exact (hes e he).low⟩⟩

/-- THE BEGINNING: the go statement. -/
theorem PhT.begin {B : Nat} (H : Past (fun _ => False) B t) (hj0 : j ≠ 0) (hj : Deaf t j = 0) (fh : FuncId) (ph : String) (fc : FuncId) :
    PhT j c L (fun _ => False) (fun _ => False) (t ++ #[{ g := 0, fn := fh, pos := ph, act := .go j }, { g := j, fn := fc, pos := ph, act := .start }]) := by
  generalize hu : (#[{ g := 0, fn := fh, pos := ph, act := .go j }, { g := j, fn := fc, pos := ph, act := .start }] : Trace) = u
  have hn : ∀ op ∈ u, op.act.touch? = none := by
    intro op hop
    subst hu
    simp only [List.mem_toArray, List.mem_cons, List.not_mem_nil, or_false] at hop
    rcases hop with rfl | rfl <;> rfl
  have hq : ∀ g, ∀ op ∈ u, ∀ d, deafStep g d op = d := by
    intro g op hop d
    subst hu
    simp only [List.mem_toArray, List.mem_cons, List.not_mem_nil, or_false] at hop
    rcases hop with rfl | rfl <;> rfl
  have e0 : (t ++ u)[t.size]? = some { g := 0, fn := fh, pos := ph, act := .go j } := by subst hu; simp
  have e1 : (t ++ u)[t.size + 1]? = some { g := j, fn := fc, pos := ph, act := .start } := by subst hu; simp
  have edge : HappensBefore (t ++ u) t.size (t.size + 1) :=
    Relation.TransGen.single (.inr ⟨.spawn (act?_of e0) (act?_of e1) (g?_of e1), ⟨0, g?_of e0, by rw [deaf_old (Nat.le_refl _)]; exact H.hears⟩, ⟨j, g?_of e1, by rw [deaf_quiet (hq j) 1 (by subst hu; simp)]; exact hj⟩⟩)
  have hk0 : ∀ i a, touchAt (t ++ u) i = some a → a.loc.isMemory = true → i < t.size ∧ Knows t 0 i := by
    intro i a ha hm
    obtain ⟨x, hx, hxa⟩ := touch_of ha
    rcases getElem?_append_cases hx with ⟨hi, hx'⟩ | ⟨_, hxu⟩
    · rcases H.known i a (by rw [touchAt_of hx']; exact hxa) hm with hk | ⟨hf, _⟩
      · exact ⟨hi, hk⟩
      · exact hf.elim
    · rw [hn x hxu] at hxa; cases hxa
  refine ⟨fun said => noRace_appendMute (H.clean said) hn, fun i a ha hm => .inl ((hk0 i a ha hm).2.app u), fun i a ha hm => .inl ⟨t.size + 1, _, e1, rfl, .inr (((hk0 i a ha hm).2.hb_new (Nat.le_refl _) e0 rfl).trans edge)⟩,
    over_app (fun i g hg hne _ hc => H.over i g hg hne hc) (fun op ho => .inr (.inr (hn op ho))), (Deaf_quiet (hq 0)).trans H.hears, (Deaf_quiet (hq j)).trans hj, seen_app2 ⟨B, H.seen⟩ ⟨0, fun op hop => ?_⟩⟩
  subst hu
  simp only [List.mem_toArray, List.mem_cons, List.not_mem_nil, or_false] at hop
  rcases hop with rfl | rfl <;> trivial

/-- Goroutine j has closed the channel: operation m; behind it it touches nothing. -/
def ShutT (j c m : Nat) (t : Trace) : Prop := t.act? m = some (.close c) ∧ t.g? m = some j ∧ t.heard m ∧ ∀ i a x, t[i]? = some x → x.g = j → touchAt t i = some a → i < m
theorem ShutT.app {m : Nat} (h : ShutT j c m t) (hu : ∀ op ∈ u, op.g = j → op.act.touch? = none) : ShutT j c m (t ++ u) := by
  obtain ⟨h1, h2, h3, h4⟩ := h
  have hm := lt_of_act? h1
  refine ⟨by rw [act?_old hm]; exact h1, by rw [g?_old hm]; exact h2, (heard_old hm).2 h3, fun i a x hx hg ha => ?_⟩
  rcases getElem?_append_cases hx with ⟨hi, hx'⟩ | ⟨_, hxu⟩
  · exact h4 i a x hx' hg (by rw [touchAt_old hi] at ha; exact ha)
  · rw [touchAt_of hx, hu x hxu hg] at ha; cases ha
/-- The close. -/
theorem PhT.close {fn : FuncId} {pos : String} (h : PhT j c L MA MB t) (hj0 : j ≠ 0) :
    PhT j c L MA MB (t ++ #[{ g := j, fn := fn, pos := pos, act := .access ⟨.obj c, false, true⟩ }, { g := j, fn := fn, pos := pos, act := .close c }]) ∧
    ShutT j c (t.size + 1) (t ++ #[{ g := j, fn := fn, pos := pos, act := .access ⟨.obj c, false, true⟩ }, { g := j, fn := fn, pos := pos, act := .close c }]) := by
  generalize hu : (#[{ g := j, fn := fn, pos := pos, act := .access ⟨.obj c, false, true⟩ }, { g := j, fn := fn, pos := pos, act := .close c }] : Trace) = u
  have hall : ∀ op ∈ u, op.g = j := by
    intro op hop
    subst hu
    simp only [List.mem_toArray, List.mem_cons, List.not_mem_nil, or_false] at hop
    rcases hop with rfl | rfl <;> rfl
  have hto : ∀ op ∈ u, ∀ b, op.act.touch? = some b → b.loc = .obj c ∧ b.kind = .atomic := by
    intro op hop b hb
    subst hu
    simp only [List.mem_toArray, List.mem_cons, List.not_mem_nil, or_false] at hop
    rcases hop with rfl | rfl
    · simp [MemAct.touch?] at hb; subst hb; exact ⟨rfl, rfl⟩
    · simp [MemAct.touch?] at hb
  have hq : ∀ g, ∀ op ∈ u, ∀ d, deafStep g d op = d := by
    intro g op hop d
    subst hu
    simp only [List.mem_toArray, List.mem_cons, List.not_mem_nil, or_false] at hop
    rcases hop with rfl | rfl <;> rfl
  have e1 : (t ++ u)[t.size + 1]? = some { g := j, fn := fn, pos := pos, act := .close c } := by subst hu; simp
  refine ⟨⟨fun said => noRace_append (h.clean said) hall fun i a ha op hop b hb hc => ?_, h.kA.app (fun _ k => k) (fun op ho => .inr (.inl ⟨hall op ho, fun b hb => .inr (.inr (hto op ho b hb))⟩)), h.kB.app (fun _ k => k) (fun op ho => .inl (hall op ho)),
    over_app h.over (fun op ho => .inr (.inl (hall op ho))), (Deaf_quiet (hq 0)).trans h.hA, (Deaf_quiet (hq j)).trans h.hB, seen_app2 h.seen ⟨c + 1, fun op hop => ?_⟩⟩, act?_of e1, g?_of e1, ⟨j, g?_of e1, by rw [deaf_quiet (hq j) 1 (by subst hu; simp)]; exact h.hB⟩, fun i a x hx hg ha => ?_⟩
  · obtain ⟨hloc, hmem, hwr, hk⟩ := hc
    rcases h.kB i a ha hmem with hkn | ⟨x, hx, hg, hh⟩
    · exact hkn
    · exfalso
      obtain ⟨eb, ek⟩ := hto op hop b hb
      rcases hh with ⟨ad', e', _⟩ | ⟨_, ad', e', _⟩ | ⟨e', k'⟩
      · rw [e', eb] at hloc; cases hloc
      · rw [e', eb] at hloc; cases hloc
      · rw [k', ek] at hk
        rcases hk with x | x | ⟨_, x, _⟩ <;> cases x
  · subst hu
    simp only [List.mem_toArray, List.mem_cons, List.not_mem_nil, or_false] at hop
    rcases hop with rfl | rfl
    · exact Nat.lt_succ_self c
    · exact Nat.lt_succ_self c
  · rcases getElem?_append_cases hx with ⟨hi, hx'⟩ | ⟨hi, hxu⟩
    · omega
    · have : i ≠ t.size + 1 := by
        intro e
        subst e
        rw [touchAt_of e1] at ha
        simp [MemAct.touch?] at ha
      have := lt_size_of_getElem? hx
      subst hu
      simp at this
      omega
/-- What is held of the trace once the channel is closed. -/
structure PhS (j c L : Nat) (MB : Nat → Prop) (t : Trace) : Prop where
  clean : ∀ said, ¬ Race said t
  kA : Kn 0 j c L MB t
  over : ∀ i g, t.g? i = some g → g ≠ 0 → g ≠ j → t.counts i → ∃ q, t.g? q = some 0 ∧ HappensBefore t i q
  hA : Deaf t 0 = 0
  seen : ∃ B, ∀ op ∈ t, op.act.low B
theorem PhT.toS (h : PhT j c L MA MB t) : PhS j c L MB t := ⟨h.clean, h.kA, h.over, h.hA, h.seen⟩
theorem PhS.mute (h : PhS j c L MB t) (hn : ∀ op ∈ u, op.act.touch? = none) (hq : ∀ op ∈ u, ∀ d, deafStep 0 d op = d) (hl : ∃ B, ∀ op ∈ u, op.act.low B) : PhS j c L MB (t ++ u) :=
  ⟨fun said => noRace_appendMute (h.clean said) hn, h.kA.app (fun _ k => k) (fun op ho => .inr (.inr (hn op ho))), over_app h.over (fun op ho => .inr (.inr (hn op ho))), (Deaf_quiet fun op ho d => hq op ho d).trans h.hA, seen_app2 h.seen hl⟩
theorem PhS.ownA {fn : FuncId} {pos : String} {es : Array Event} {B : Nat} (h : PhS j c L MB t) (hB : ∀ k, MB k → L ≤ k) (hA : ∀ k, MA' k → L ≤ k) (hap : ∀ k, MA' k → ¬ MB k)
    (hes : ∀ e ∈ es, EvO L MA' B e) : PhS j c L MB (t ++ MemOp.ofEvents 0 fn pos es) := by
  have hall : ∀ op ∈ MemOp.ofEvents 0 fn pos es, op.g = 0 := fun op ho => by obtain ⟨e, _, rfl⟩ := mem_ofEv ho; rfl
  have hto : ∀ op ∈ MemOp.ofEvents 0 fn pos es, ∀ b, op.act.touch? = some b → His c L MA' b ∧ ∃ ad, b.loc = .cell ad ∧ (MA' ad.block ∨ (b.write = false ∧ ad.block < L)) := fun op ho b hb => by
    obtain ⟨e, he, rfl⟩ := mem_ofEv ho; exact (hes e he).touch hb
  exact ⟨fun said => noRace_append (h.clean said) hall (race_free (N' := MB) h.kA hB hap hA (fun op ho b hb => (hto op ho b hb).2) said), h.kA.app (fun _ k => k) (fun op ho => .inl (hall op ho)),
    over_app h.over (fun op ho => .inl (hall op ho)), (quiet_ofEv hes 0).trans h.hA, seen_app2 h.seen ⟨B, fun op ho => by obtain ⟨e, he, rfl⟩ := mem_ofEv ho; exact (hes e he).low⟩⟩
/-- THE END: goroutine 0 has found the channel closed: it knows all. -/
theorem PhS.finish {m : Nat} (h : PhS j c L MB t) (hs : ShutT j c m t) (hj0 : j ≠ 0) (fn : FuncId) (pos : String) : ∃ B, Past (fun _ => False) B (t ++ #[{ g := 0, fn := fn, pos := pos, act := .recvClosed c }]) := by
  generalize hu : (#[{ g := 0, fn := fn, pos := pos, act := .recvClosed c }] : Trace) = u
  have hn : ∀ op ∈ u, op.act.touch? = none := by
    intro op hop
    subst hu
    simp only [List.mem_toArray, List.mem_cons, List.not_mem_nil, or_false] at hop
    rcases hop with rfl; rfl
  have hq : ∀ g, ∀ op ∈ u, ∀ d, deafStep g d op = d := by
    intro g op hop d
    subst hu
    simp only [List.mem_toArray, List.mem_cons, List.not_mem_nil, or_false] at hop
    rcases hop with rfl; rfl
  have e0 : (t ++ u)[t.size]? = some { g := 0, fn := fn, pos := pos, act := .recvClosed c } := by subst hu; simp
  obtain ⟨h1, h2, h3, h4⟩ := hs
  have hm := lt_of_act? h1
  have edge : HappensBefore (t ++ u) m t.size :=
    Relation.TransGen.single (.inr ⟨.closed (by rw [act?_old hm]; exact h1) (act?_of e0), (heard_old hm).2 h3, ⟨0, g?_of e0, by rw [deaf_old (Nat.le_refl _)]; exact h.hA⟩⟩)
  obtain ⟨xm, hxm, hxg⟩ : ∃ x, t[m]? = some x ∧ x.g = j := by
    unfold Trace.g? at h2
    obtain ⟨z, hz, e⟩ := Option.map_eq_some_iff.1 h2
    exact ⟨z, hz, e⟩
  have hbj : ∀ i a x, t[i]? = some x → x.g = j → touchAt t i = some a → HappensBefore (t ++ u) i t.size := by
    intro i a x hx hg ha
    have hlt := h4 i a x hx hg ha
    have hi := lt_size_of_getElem? hx
    exact (hb_po hlt (by rw [getElem?_append_old hi]; exact hx) (by rw [getElem?_append_old hm]; exact hxm) (hg.trans hxg.symm)).trans edge
  obtain ⟨B, hseen⟩ := h.seen
  refine ⟨max B (c + 1), fun said => noRace_appendMute (h.clean said) hn, fun i a ha hmem => ?_, fun i g hg hne hc => ?_, (Deaf_quiet (hq 0)).trans h.hA, seen_app (fun op ho => MemAct.low_mono (Nat.le_max_left _ _) (hseen op ho)) (fun op hop => ?_)⟩
  · obtain ⟨x, hx, hxa⟩ := touch_of ha
    rcases getElem?_append_cases hx with ⟨hi, hx'⟩ | ⟨_, hxu⟩
    · have ha' : touchAt t i = some a := by rw [touchAt_of hx']; exact hxa
      rcases h.kA i a ha' hmem with hk | ⟨y, hy, hg, _⟩
      · exact .inl (hk.app u)
      · exact .inl ⟨t.size, _, e0, rfl, .inr (hbj i a y hy hg ha')⟩
    · rw [hn x hxu] at hxa; cases hxa
  · by_cases hgj : g = j
    · obtain ⟨x, hx, _⟩ := hc
      obtain ⟨op, hop, hox⟩ := touch_of hx
      rcases getElem?_append_cases hop with ⟨hi, hop'⟩ | ⟨_, hopu⟩
      · refine ⟨t.size, g?_of e0, hbj i x op hop' ?_ (by rw [touchAt_of hop']; exact hox)⟩
        have := g?_of hop
        rw [hg] at this
        exact (Option.some.inj this).symm.trans hgj
      · rw [hn op hopu] at hox; cases hox
    · exact over_app h.over (fun op ho => .inr (.inr (hn op ho))) i g hg hne hgj hc
  · subst hu
    simp only [List.mem_toArray, List.mem_cons, List.not_mem_nil, or_false] at hop
    rcases hop with rfl
    exact Nat.lt_of_lt_of_le (Nat.lt_succ_self c) (Nat.le_max_right _ _)
end
end Go.Proofs.Ytlbkhiphnllfpam
