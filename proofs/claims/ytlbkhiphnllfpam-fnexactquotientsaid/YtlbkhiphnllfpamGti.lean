/-
  The steps one by one, carried out beside others that only leave.
-/
import Derived.Test.YtlbkhiphnllfpamGth
import Derived.Test.YtlbkhiphnllfpamGme
namespace Go.Proofs.Ytlbkhiphnllfpam
open Go.Conc
open Go.ConcN (sumTo upd sumTo_upd upd_ne upd_same)
set_option linter.unusedVariables false
section
variable {P : Program}
theorem low_ex : ∀ (l : List Event), ∃ B, ∀ e ∈ l, (MemAct.ofEvent e).low B
  | [] => ⟨0, by simp⟩
  | e :: l => by
    obtain ⟨B, h⟩ := low_ex l
    have he : ∃ B, (MemAct.ofEvent e).low B := by
      cases h : MemAct.ofEvent e with
      | access e =>
        cases hl : e.loc with
        | cell a => exact ⟨a.block + 1, by simp [MemAct.low, hl, Loc.low]⟩
        | obj r => exact ⟨r + 1, by simp [MemAct.low, hl, Loc.low]⟩
        | output => exact ⟨0, by simp [MemAct.low, hl, Loc.low]⟩
        | goroutines => exact ⟨0, by simp [MemAct.low, hl, Loc.low]⟩
        | mark m => exact ⟨0, by simp [MemAct.low, hl, Loc.low]⟩
      | mark m => cases m <;> first | exact ⟨0, True.intro⟩ | (rename_i a; exact ⟨a.block + 1, Nat.lt_succ_self _⟩)
      | go _ => exact ⟨0, True.intro⟩
      | start => exact ⟨0, True.intro⟩
      | send c _ => exact ⟨c + 1, Nat.lt_succ_self _⟩
      | sendDone c _ => exact ⟨c + 1, Nat.lt_succ_self _⟩
      | recv c _ _ => exact ⟨c + 1, Nat.lt_succ_self _⟩
      | recvDone c _ => exact ⟨c + 1, Nat.lt_succ_self _⟩
      | close c => exact ⟨c + 1, Nat.lt_succ_self _⟩
      | recvClosed c => exact ⟨c + 1, Nat.lt_succ_self _⟩
    obtain ⟨B', h'⟩ := he
    refine ⟨max B B', fun x hx => ?_⟩
    rcases List.mem_cons.1 hx with rfl | hx
    · exact MemAct.low_mono (Nat.le_max_right _ _) h'
    · exact MemAct.low_mono (Nat.le_max_left _ _) (h x hx)
theorem past_meek {B : Nat} {T : Trace} (h : Past (fun _ => False) B T) {es : Array Event} (hes : ∀ e ∈ es, Meek e) (fn : FuncId) (pos : String) : ∃ B', Past (fun _ => False) B' (T ++ MemOp.ofEvents 0 fn pos es) := by
  obtain ⟨l⟩ := es
  obtain ⟨B', hB⟩ := low_ex l
  exact ⟨max B B', (h.mono (Nat.le_max_left _ _)).own fun e he => ⟨fun _ _ hf => hf.elim, (hes e he).1, (hes e he).2, MemAct.low_mono (Nat.le_max_right _ _) (hB e (by simpa using he))⟩⟩
/-- Where the goroutine has come to. -/
def FinG (k : List Item) (cs : List Frame) (Tg : St → World → Prop) (M : Nat → Prop) (a : Goroutine) (w : World) : Prop := ∃ s, a = gOf k cs s ∧ ∃ T d, Tg s (w.on T d)
theorem gOf_run (k : List Item) (cs : List Frame) (s : St) : (gOf k cs s).status = .running := by
  unfold gOf; rfl
theorem goal_run {Tg : St → World → Prop} {s : St} {w : World} (k : List Item) (cs : List Frame) (h : Goal P Tg s w) :
    ∀ (T2 : Nat → Question → Nat) (d2 : Nat) (gs : Array Goroutine) (T : Trace) (q : Nat → Nat) (sl : Option (Nat × Nat)), gs[0]? = some (gOf k cs s) → Leavers P T gs q → (∃ B, Past (fun _ => False) B T) → Reach P (FinG k cs Tg) gs.size (crowd gs (w.on T2 d2) sl) T := by
  induction h using Goal.ind with
  | here h =>
    intro T2 d2 gs T q sl h0 hL hP
    obtain ⟨B, hP⟩ := hP
    exact ⟨0, gs, _, _, sl, T, q, B, fun _ => False, rfl, rfl, h0, ⟨_, rfl, h⟩, hL, hP⟩
  | step nx h hn ih =>
    rename_i s w
    intro T2 d2 gs T q sl h0 hL hP
    generalize hn : sumTo gs.size q = n
    induction n using Nat.strongRecOn generalizing d2 gs T q sl with
    | _ n ihn =>
      have hra : (gOf k cs s).status = .running := gOf_run k cs s
      have haw : ∀ g ∈ gs, awake g := by
        intro g hg
        obtain ⟨i, hi, rfl⟩ := Array.mem_iff_getElem.1 hg
        rcases Nat.eq_zero_or_pos i with rfl | hpos
        · have : gs[0] = gOf k cs s := by simpa [Array.getElem?_eq_getElem hi] using h0
          rw [this]; exact awake_of (.inl hra)
        · exact awake_of ((hL.old i _ hpos (Array.getElem?_eq_getElem hi)).status.elim .inl fun x => .inr (.inr x))
      obtain ⟨i, g, d, sl', hi, hg, hst⟩ := crowd_pick (P := P) (w := w.on T2 d2) (sl := sl) haw ⟨0, _, h0, hra⟩
      have hlt0 : 0 < gs.size := (Array.getElem?_eq_some_iff.1 h0).1
      rcases Nat.eq_zero_or_pos i with rfl | hpos
      · obtain rfl : g = gOf k cs s := by rw [h0] at hi; exact (Option.some.inj hi).symm
        obtain ⟨hm, hgo⟩ := h T2 d
        have hrun := runT_crowd_go (P := P) (sl := sl') (i := 0) hi (show stepG P (0 == 0) (gOf k cs s) ((w.on T2 d2).at d) = _ from hgo k cs)
        refine Reach.step (hst.trans hrun) ?_
        obtain ⟨B, hP⟩ := hP
        have := ih T2 d (nx T2 d).2.1.tape (nx T2 d).2.1.drawn ((gs.map (Conc.woken P (gOf k cs s) (gOf k cs (nx T2 d).1) (nx T2 d).2.1)).setIfInBounds 0 (gOf k cs (nx T2 d).1)) (T ++ MemOp.ofEvents 0 (gOf k cs s).frame.fn (gOf k cs s).frame.place (nx T2 d).2.2) q sl' (get_set_same (by simpa using hlt0) _)
          ⟨fun x y hx hy => by
            rw [get_set_ne (show (0 : Nat) ≠ x by omega), Array.getElem?_map] at hy
            obtain ⟨u, hu, rfl⟩ := Option.map_eq_some_iff.1 hy
            have hq := hL.old x u hx hu
            rw [woken_quitsD hq, Deaf_other T (g' := 0) (by omega) _ (fun op hop => by obtain ⟨e, _, rfl⟩ := mem_ofEv hop; rfl)]
            exact hq, fun x hx => by
            rw [Deaf_other T (g' := 0) (by simp at hx; omega) _ (fun op hop => by obtain ⟨e, _, rfl⟩ := mem_ofEv hop; rfl)]
            exact hL.above x (by simpa using hx)⟩ (past_meek hP hm _ _)
        rw [show ((gs.map (Conc.woken P (gOf k cs s) (gOf k cs (nx T2 d).1) (nx T2 d).2.1)).setIfInBounds 0 (gOf k cs (nx T2 d).1)).size = gs.size by simp] at this
        exact this
      · have hq := hL.old i g hpos hi
        have hi0 : (i == 0) = false := by simp; omega
        have hlt : i < gs.size := (Array.getElem?_eq_some_iff.1 hi).1
        cases hqi : q i with
        | zero => rw [hqi] at hq; rw [hq.1] at hg; cases hg
        | succ k' =>
          rw [hqi] at hq
          rcases hq with ⟨hf, _⟩ | ⟨_, g', es, hm, hstp, hq'⟩
          · rw [hf] at hg; cases hg
          have hrunT := runT_crowd_go (P := P) (sl := sl') (i := i) hi (by rw [hi0]; exact hstp ((w.on T2 d2).at d))
          have hsum : sumTo gs.size (upd q i k') + (k' + 1) = sumTo gs.size q + k' := by
            have := sumTo_upd q k' id hlt
            simpa [hqi] using this
          have hz : ((gs.map (Conc.woken P g g' ((w.on T2 d2).at d))).setIfInBounds i g').size = gs.size := by simp
          obtain ⟨B, hP⟩ := hP
          have := ihn (sumTo gs.size (upd q i k')) (by omega) d ((gs.map (Conc.woken P g g' ((w.on T2 d2).at d))).setIfInBounds i g') (T ++ MemOp.ofEvents i g.frame.fn g.frame.place es) (upd q i k') sl' (by rw [get_set_ne (show i ≠ 0 by omega), Array.getElem?_map, h0]; simp [woken_run hra])
            ⟨fun x y hx hy => Leave.slip (Who := fun _ => True) hlt hpos trivial (fun i g h _ => hL.old i g h) hq' _ _ x y hx trivial hy, fun x hx => by
              rw [Deaf_other T (g' := i) (by simp at hx; omega) _ (fun op hop => by obtain ⟨e, _, rfl⟩ := mem_ofEv hop; rfl)]
              exact hL.above x (by simpa using hx)⟩ ⟨B, hP.mute (by omega) hm⟩ (by rw [hz])
          rw [hz] at this
          exact Reach.step (hst.trans hrunT) this
end
end Go.Proofs.Ytlbkhiphnllfpam
