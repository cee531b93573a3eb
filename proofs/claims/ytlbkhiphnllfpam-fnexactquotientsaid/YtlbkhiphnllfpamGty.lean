/-
  A region that draws its order, in company: by what holds behind whatever operations are done.
-/
import Derived.Test.YtlbkhiphnllfpamGtj
import Derived.Conc.CompanyDraw
import Derived.Orders
namespace Go.Proofs.Ytlbkhiphnllfpam
open Go.Conc
set_option linter.unusedVariables false
theorem ready_mem {md : Region.Mode} {ops : Array Oper} {listed : Array Bool} {i : Nat} (h : i ∈ Region.ready md ops listed) : i < ops.size ∧ listed.getD i true = false ∧ ((ops[i]?).map (·.after.all fun e => !Region.binds md e || listed.getD e.on false)).getD false = true := by
  unfold Region.ready at h
  rw [List.mem_filter, Bool.and_eq_true] at h
  exact ⟨List.mem_range.1 h.1, by simpa using h.2.1, h.2.2⟩
theorem ready_none {md : Region.Mode} {ops : Array Oper} {listed : Array Bool} (h : Region.ready md ops listed = []) (i : Nat) (hi : i < ops.size) (hd : ((ops[i]?).map (·.after.all fun e => !Region.binds md e || listed.getD e.on false)).getD false = true) : listed.getD i true = true := by
  cases hl : listed.getD i true with
  | true => rfl
  | false =>
    have : i ∈ Region.ready md ops listed := by
      unfold Region.ready
      rw [List.mem_filter, Bool.and_eq_true]
      exact ⟨List.mem_range.2 hi, by rw [hl]; rfl, hd⟩
    rw [h] at this
    cases this
theorem listed_less {listed : Array Bool} {i : Nat} (h : listed.getD i true = false) : (listed.setIfInBounds i true).toList.count false < listed.toList.count false := by
  obtain ⟨l⟩ := listed
  have hi : i < l.length := by
    rcases Nat.lt_or_ge i l.length with g | g
    · exact g
    · simp [Array.getD, Nat.not_lt.2 g] at h
  have hg : l[i] = false := by simpa [Array.getD, hi] using h
  have hp : 0 < l.count false := List.count_pos_iff.2 (hg ▸ List.getElem_mem hi)
  simp only [List.setIfInBounds_toArray]
  rw [List.count_set hi]
  simp [hg]
  omega
section
variable {P : Program} {main : Bool} {c L : Nat} {w0 : World} {Stop : (Nat → Prop) → Goroutine → World → Prop} {h : Hl} {b : Frame} {a : Act} {k : List Item} {cs : List Frame} {ops : Array Oper}
theorem GO.anyOrder {Inv : Array Bool → Hl → Act → Prop}
    (step : ∀ listed h a i rest, Inv listed h a → i ∈ Region.ready .any ops listed → (∀ h' a', Inv (listed.setIfInBounds i true) h' a' → GO P main c L w0 Stop h' (G (b.at a' (.inRegion ops rest :: k)) cs)) → GO P main c L w0 Stop h (G (b.at a (.inRegion ops (i :: rest) :: k)) cs))
    (done : ∀ listed h a, Inv listed h a → Region.ready .any ops listed = [] → GO P main c L w0 Stop h (G (b.at a k) cs)) :
    ∀ (fuel t : Nat) (listed : Array Bool) (h : Hl) (a : Act), listed.toList.count false ≤ fuel → Inv listed h a → GO P main c L w0 Stop h (G (b.at a (.inRegion ops (Region.linearise.go .any ops fuel t listed []) :: k)) cs) := by
  intro fuel
  induction fuel with
  | zero =>
    intro t listed h a hc hI
    refine GO.regionEnd (done listed h a hI ?_)
    cases hr : Region.ready .any ops listed with
    | nil => rfl
    | cons i r =>
      have hi := ready_mem (md := .any) (ops := ops) (listed := listed) (i := i) (by rw [hr]; exact List.mem_cons_self)
      have := listed_less hi.2.1
      omega
  | succ fuel ih =>
    intro t listed h a hc hI
    simp only [Region.linearise.go]
    change GO P main c L w0 Stop h (G (b.at a (.inRegion ops (match (Region.ready .any ops listed)[t % (Region.ready .any ops listed).length]? with
      | some i => Region.linearise.go .any ops fuel (t / (Region.ready .any ops listed).length) (listed.setIfInBounds i true) [i]
      | none => [].reverse) :: k)) cs)
    cases hi : (Region.ready .any ops listed)[t % (Region.ready .any ops listed).length]? with
    | none =>
      have hnil : Region.ready .any ops listed = [] := by
        cases hr : Region.ready .any ops listed with
        | nil => rfl
        | cons x xs =>
          rw [hr] at hi
          have hlt : t % (x :: xs).length < (x :: xs).length := Nat.mod_lt _ (by simp)
          simp at hi
          simp at hlt
          omega
      exact GO.regionEnd (done listed h a hI hnil)
    | some i =>
      simp only []
      rw [linearise_go_acc, List.reverse_singleton, List.singleton_append]
      have hm := List.mem_of_getElem? hi
      have hl := listed_less (ready_mem hm).2.1
      exact step listed h a i _ hI hm fun h' a' hI' => ih _ _ _ _ (by omega) hI'
/-- THE REGION. -/
theorem GO.drawn {id : Nat} {Inv : Array Bool → Hl → Act → Prop} (hm : P.follows .mixedOrders = true) (start : Inv (Array.replicate ops.size false) h a)
    (step : ∀ listed h a i rest, Inv listed h a → i ∈ Region.ready .any ops listed → (∀ h' a', Inv (listed.setIfInBounds i true) h' a' → GO P main c L w0 Stop h' (G (b.at a' (.inRegion ops rest :: k)) cs)) → GO P main c L w0 Stop h (G (b.at a (.inRegion ops (i :: rest) :: k)) cs))
    (done : ∀ listed h a, Inv listed h a → Region.ready .any ops listed = [] → GO P main c L w0 Stop h (G (b.at a k) cs)) :
    GO P main c L w0 Stop h (G (b.at a (.code (.region id ops true) :: k)) cs) :=
  GO.step rfl fun w hS => by
    rw [stepG_region_draw]
    refine ⟨h, ⟨rfl, rfl, rfl, Nat.le_refl _, fun _ _ _ => rfl, fun _ k => k, fun _ k => .inl k, by simp⟩, ⟨hS.old, hS.own, hS.far, hS.size, hS.os, hS.output⟩, ?_⟩
    simp only [Region.schedule, hm, Bool.true_or, if_true]
    exact GO.anyOrder step done _ _ _ _ _ (by simp) start
end
end Go.Proofs.Ytlbkhiphnllfpam
