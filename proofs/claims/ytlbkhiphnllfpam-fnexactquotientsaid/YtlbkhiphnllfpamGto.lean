/-
  A row of turns that grows, in company.
-/
import Derived.Test.YtlbkhiphnllfpamGtj
import Derived.Test.YtlbkhiphnllfpamTrn
import Derived.Conc.AppendWalk
namespace Go.Proofs.Ytlbkhiphnllfpam
open Go.Conc Go.RowKit
set_option linter.unusedVariables false
set_option linter.unusedSimpArgs false
/-- What a growing append lists: reads of the two rows; or that room was asked for. -/
theorem events_grow {P : Program} (w : World) (t ty e : TypeId) (i : TypeInfo) (z : Value) (ht : P.underlying t = some (.slice e)) (hi : P.info? e = some i) (hz : i.zero = some z)
    (b : Addr) (n cap : Nat) (olds : List Value) (hlo : olds.length = n * i.size) (holds : ∀ j v, olds[j]? = some v → w.cell? (b.add j) = some v)
    (a : Addr) (m c : Nat) (news : List Value) (hl : news.length = m * i.size) (hnews : ∀ j v, news[j]? = some v → w.cell? (a.add j) = some v)
    (hg : cap < n + m) (h63 : n + m ≤ 9223372036854775807) (hfit : Builtin.nextslicecap (n + m) cap * i.bytes ≤ 281474976710656) :
    ∀ ev ∈ (Builtin.append_ #[t, t] ty #[.slice (some b) n cap, .slice (some a) m c]).events P w #[], ev.readsIn (fun g => g = a.block ∨ g = b.block) ∨ ev = ⟨.mark .noRoom, false, true⟩ := by
  have h1 : ¬ n + m ≤ cap := by omega
  have h2 : ¬ (9223372036854775807 < ((n : Int) + (m : Int))) := by omega
  have h3 : ¬ (281474976710656 < Builtin.nextslicecap (n + m) cap * i.bytes) := by omega
  have fa := run_firstCells_some (P := P) w.drew i.size m a m c news hl (by simpa using hnews)
  have fb := run_firstCells_some (P := P) w.drew i.size n b n cap olds hlo (by simpa using holds)
  intro ev hev
  simp [Builtin.append_, run_underlying ht, sizeOf, typeInfo, zeroValue, hi, hz, Builtin.lenOf, h1, h2, h3, Question.forced, fa, fb, newRow] at hev
  rcases events_firstCells_in (P := P) (fun g => g = a.block ∨ g = b.block) _ _ _ _ _ (fun a' l' c' e => by
    cases e
    exact ⟨.inl rfl, fun j hj => isSome_of_list (w := w.drew) (by simpa using hnews) (by rw [hl]; exact hj)⟩) ev hev with h | h
  · rcases events_firstCells_in (P := P) (fun g => g = a.block ∨ g = b.block) _ _ _ _ _ (fun a' l' c' e => by
      cases e
      exact ⟨.inr rfl, fun j hj => isSome_of_list (w := w.drew) (by simpa using holds) (by rw [hlo]; exact hj)⟩) ev h with h | h
    · rcases Conc.events_askRoom _ _ _ ev h with h | ⟨m, e, hm⟩
      · simp at h
      · right; rw [e, show m = .noRoom from hm]
    · exact .inl h
  · exact .inl h
/-- The slice v holds the turns l: in a row of its own; or it has no room, in a row that was there. -/
def RowS (w0 : World) (c L B : Nat) (h : Hl) (v : Value) (l : List (Int × Int)) : Prop :=
  ∃ g cap cur, v = .slice (some ⟨g, 0, none⟩) l.length cap ∧ l.length ≤ cap ∧ cap ≤ maxLen ∧ cur.size = cap * 2 ∧ cur.toList.take (l.length * 2) = tq l ∧
    (h g = some (.cells cur 50 (0, 0)) ∨ (cap = 0 ∧ B ≤ g ∧ g < L ∧ g ≠ c ∧ w0.heap[g]? = some (.cells cur 50 (0, 0))))
section
variable {main : Bool} {c L B : Nat} {w0 : World} {Stop : (Nat → Prop) → Goroutine → World → Prop} {h : Hl} {b : Frame} {a : Act} {k : List Item} {cs : List Frame} {ops : Array Oper} {i : Nat} {rest : List Nat} {o : Oper}
theorem GO.app {s x : Operand} {v : Value} {l : List (Int × Int)} {r : Nat} {q R : Int} (ho : ops[i]? = some o) (hw : Region.wanted o (yielded ops a.tmps) = true) (hk : b.kind ≠ .early)
    (hop : o.op = .call { callee := .builtin .append, args := #[s, x], argTypes := #[24, 24] }) (hs : a.eval s = v) (hx : a.eval x = .slice (some ⟨r, 0, none⟩) 1 1) (hrow : RowS w0 c L B h v l) (hr : h r = some (.cells #[.int .i64 q, .int .i64 R] 50)) (hlen : l.length ≤ 1000)
    (hnext : ∀ h' v', RowS w0 c L B h' v' (l ++ [(q, R)]) → GO Try.prog main c L w0 Stop h' (G (b.at (a.put o.dst v') (.inRegion ops rest :: k)) cs)) : GO Try.prog main c L w0 Stop h (G (b.at a (.inRegion ops (i :: rest) :: k)) cs) := by
  obtain ⟨i0, hi, hz0, hz1, hz2⟩ := info_parts infoTurn
  obtain ⟨g, cap, cur, rfl, hlc, hcm, hcs, htk, hgg⟩ := hrow
  refine GO.step rfl fun w hS => goes_oper_k ho hw hk fun K hK => ?_
  have hcr := hS.own _ _ hr
  have hnews : ∀ j u, ([.int .i64 q, .int .i64 R] : List Value)[j]? = some u → w.cell? ((⟨r, 0, none⟩ : Addr).add j) = some u := fun j u hu => by
    rw [Addr.add_lit, gcell_of hcr, Nat.zero_add]
    simpa using hu
  have hgw : w.heap[g]? = some (.cells cur 50 (0, 0)) := by
    rcases hgg with hgg | ⟨_, _, h1, h2, h3⟩
    · exact hS.own _ _ hgg
    · exact (hS.old g h1 h2).trans h3
  have htl : (tq l).length = l.length * 2 := tq_length l
  by_cases hroom : l.length + 1 ≤ cap
  · have hgo : h g = some (.cells cur 50 (0, 0)) := hgg.resolve_right fun h => by omega
    have hrun := run_append_room (P := Try.prog) w 24 o.type 50 i0 Try.underlying24 hi g l.length cap cur hgw ⟨r, 0, none⟩ 1 1 [.int .i64 q, .int .i64 R] (by rw [hz1]; rfl) hnews (by simp [Value.oneCell']) hroom (by rw [hz1, hcs]; simp; omega)
    rw [hz1] at hrun
    have hown : w.ownsRow 0 50 2 (.slice (some ⟨g, 0, none⟩) l.length cap) l.length (tq l) := ⟨htl, .inr ⟨g, cap, cur, rfl, Nat.zero_le _, hgw, hlc, hcm, hcs, htk⟩⟩
    have hev := events_append_where (P := Try.prog) w 0 24 o.type 50 i0 _ 2 16 Try.underlying24 hi hz0 hz1 hz2 _ _ _ hown ⟨r, 0, none⟩ 1 1 [.int .i64 q, .int .i64 R] rfl hnews (by simp [Value.oneCell']) (by unfold maxLen; omega) (by omega)
    refine uponK_append s x 24 hop hs hx hrun (hK _ _ ?_)
    obtain ⟨cu, hcu⟩ : ∃ cu, (cur.toList.take (l.length * 2) ++ [Value.int .i64 q, Value.int .i64 R] ++ cur.toList.drop (l.length * 2 + [Value.int .i64 q, Value.int .i64 R].length)).toArray = cu := ⟨_, rfl⟩
    rw [hcu]
    obtain ⟨hS', hm⟩ := hS.set (w' := w.setRow g cu) (o := .cells cu 50 (0, 0)) (es := listed Try.prog b.fn a o w) hgo rfl rfl rfl (by simp [World.setRow]) (fun k hk => by simp [World.setRow, Array.getElem?_modify, Ne.symm hk]) (by simp [World.setRow, Array.getElem?_modify, hgw]) (fun e he => by
      have he' := mem_listed he
      rw [events_append_op s x 24 hop hs hx] at he'
      rcases hev e he' with ⟨ad, h1, h2⟩ | ⟨m, h1, h2⟩
      · refine .inl ⟨ad, e.write, e.sync, by rw [← h1], ?_⟩
        rcases h2 with ⟨_, h2⟩ | h2
        · rw [h2]; exact ⟨hS.lt hr, .inl ⟨_, hr⟩⟩
        · obtain rfl : ad.block = g := by simpa [Value.ownBlock] using h2
          exact ⟨hS.lt hgo, .inl ⟨_, hgo⟩⟩
      · exact .inr (by rw [h1, show m = .noRoom from h2]))
    refine ⟨_, hm, hS', hnext _ _ ⟨g, cap, cu, by simp, by simpa using hroom, hcm, ?_, ?_, .inl (Hl.up_same _ _ _)⟩⟩
    · rw [← hcu]; simp [hcs]; omega
    · rw [← hcu, tq_append, ← htk]
      have e1 : (cur.toList.take (l.length * 2)).length = l.length * 2 := by rw [htk]; exact htl
      simp only [List.length_append, List.length_cons, List.length_nil, Nat.zero_add]
      rw [List.take_append_of_le_length (by simp only [List.length_append, e1, List.length_cons, List.length_nil]; omega), List.take_of_length_le (by simp only [List.length_append, e1, List.length_cons, List.length_nil]; omega)]
      rfl
  · have holds : ∀ j u, (tq l)[j]? = some u → w.cell? ((⟨g, 0, none⟩ : Addr).add j) = some u := World.ownsRow.cells (w := w) (base := 0) (e := 50) (size := 2) (v := .slice (some ⟨g, 0, none⟩) l.length cap) (n := l.length) ⟨htl, .inr ⟨g, cap, cur, rfl, Nat.zero_le _, hgw, hlc, hcm, hcs, htk⟩⟩ rfl
    have hb : (l.length + 1) * i0.bytes ≤ 140737488355328 := by rw [hz2]; omega
    have hfit : Builtin.nextslicecap (l.length + 1) cap * i0.bytes ≤ 281474976710656 := by have := growslice_fits (need := l.length + 1) (old := cap) (bytes := i0.bytes) (by omega) hb; omega
    have hrun := run_append_grow (P := Try.prog) w 24 o.type 50 i0 _ Try.underlying24 hi hz0 ⟨g, 0, none⟩ l.length cap (tq l) (by rw [hz1]; exact htl) holds ⟨r, 0, none⟩ 1 1 [.int .i64 q, .int .i64 R] (by rw [hz1]; rfl) hnews (by omega) (by omega) hfit
    have hev := events_grow (P := Try.prog) w 24 o.type 50 i0 _ Try.underlying24 hi hz0 ⟨g, 0, none⟩ l.length cap (tq l) (by rw [hz1]; exact htl) holds ⟨r, 0, none⟩ 1 1 [.int .i64 q, .int .i64 R] (by rw [hz1]; rfl) hnews (by omega) (by omega) hfit
    refine uponK_append s x 24 hop hs hx hrun (hK _ _ ?_)
    have hge := grownCap_ge w (l.length + 1) cap 50
    have hle := grownCap_le_maxLen w (l.length + 1) cap 50 (by unfold maxLen; omega)
    obtain ⟨C, hC⟩ : ∃ C, grownCap w (l.length + 1) cap 50 = C := ⟨_, rfl⟩
    rw [hC] at hge hle ⊢
    obtain ⟨cu, hcu⟩ : ∃ cu, (tq l).toArray ++ [Value.int .i64 q, .int .i64 R].toArray ++ Builtin.zeroCells (Value.agg #[.int .i64 0, .int .i64 0]).cells (C - (l.length + 1)) = cu := ⟨_, rfl⟩
    rw [hcu]
    have hSd : Sat w0 c L h w.drew := ⟨hS.old, hS.own, hS.far, hS.size, hS.os, hS.output⟩
    obtain ⟨hS', hm⟩ := hSd.alloc (.cells cu 50)
    refine ⟨_, ⟨hm.tape, hm.os, hm.output, hm.size, hm.rest, hm.sub, hm.new, fun e he => ?_⟩, hS', hnext _ _ ⟨w.heap.size, C, cu, by simp, by simpa using hge, hle, ?_, ?_, .inl (Hl.up_same _ _ _)⟩⟩
    · have he' := mem_listed he
      rw [events_append_op s x 24 hop hs hx] at he'
      rcases hev e he' with ⟨ad, h1, h2, h3⟩ | h1
      · refine .inl ⟨ad, e.write, e.sync, by rw [← h1], ?_⟩
        rcases h3 with h3 | h3
        · have h3' : ad.block = r := h3
          rw [h3']; exact ⟨Nat.lt_of_lt_of_le (hS.lt hr) hm.size, .inl (hm.sub _ ⟨_, hr⟩)⟩
        · have h3' : ad.block = g := h3
          rw [h3']
          rcases hgg with hgg | ⟨_, _, h4, h5, h6⟩
          · exact ⟨Nat.lt_of_lt_of_le (hS.lt hgg) hm.size, .inl (hm.sub _ ⟨_, hgg⟩)⟩
          · exact ⟨Nat.lt_of_lt_of_le (Nat.lt_of_lt_of_le h4 hS.size) hm.size, .inr ⟨h2, h4⟩⟩
      · exact .inr h1
    · rw [← hcu]; simp [size_zeroCells, htl, Value.cells]; omega
    · rw [← hcu, tq_append]
      simp only [List.length_append, List.length_cons, List.length_nil, Nat.zero_add, Array.toList_append, List.toList_toArray]
      rw [List.take_append_of_le_length (by simp only [List.length_append, htl, List.length_cons, List.length_nil]; omega), List.take_of_length_le (by simp only [List.length_append, htl, List.length_cons, List.length_nil]; omega)]
      rfl
theorem RowS.has {v : Value} {l : List (Int × Int)} {w w' : World} (hrow : RowS w0 c L B h v l) (hS : Sat w0 c L h w) (hBL : B ≤ L) (hw : w'.heap = w.heap) : HasT w' B v l := by
  obtain ⟨g, cap, cur, rfl, hlc, hcm, hcs, htk, hgg⟩ := hrow
  rcases hgg with hgg | ⟨_, h0, h1, h2, h3⟩
  · exact ⟨tq_length l, .inr ⟨g, cap, cur, rfl, Nat.le_trans hBL (hS.far _ _ hgg), by rw [hw]; exact hS.own _ _ hgg, hlc, hcm, hcs, htk⟩⟩
  · exact ⟨tq_length l, .inr ⟨g, cap, cur, rfl, h0, by rw [hw]; exact (hS.old g h1 h2).trans h3, hlc, hcm, hcs, htk⟩⟩
end
end Go.Proofs.Ytlbkhiphnllfpam
