/-
  Appends to slices of int64 of the call's own, of slices of the call's own.
-/
import Derived.Test.YtmeicjbeibmmganDoorSl
namespace Go.Proofs.YtmeicjbeibmmganDoor
open Go.RowKit
set_option linter.unusedVariables false
/-- The slice value v, not nil, holds the numbers zs in a row of its own. -/
def HasN (w : World) (base : Nat) (v : Value) (zs : List Int) : Prop := Has w base v zs ∧ v ≠ .slice none 0 0
theorem HasN.form {w : World} {base : Nat} {v : Value} {zs : List Int} (h : HasN w base v zs) : ∃ g cap, v = .slice (some ⟨g, 0, none⟩) zs.length cap ∧ base ≤ g ∧ g < w.heap.size ∧ ∀ i, i < zs.length → w.cell? ⟨g, i, none⟩ = some (.int .i64 (zs.getD i 0)) := by
  rcases h.1.form with ⟨e, -⟩ | ⟨g, cap, e, hb, hl, -, hc, -⟩
  · exact absurd e h.2
  · exact ⟨g, cap, e, hb, hl, hc⟩
theorem Has.mono {w : World} {base base' : Nat} {v : Value} {zs : List Int} (h : Has w base v zs) (hb : base' ≤ base) : Has w base' v zs := by
  obtain ⟨hl, h⟩ := h
  refine ⟨hl, ?_⟩
  rcases h with h | ⟨g, cap, cur, e, hgb, r⟩
  · exact .inl h
  · exact .inr ⟨g, cap, cur, e, Nat.le_trans hb hgb, r⟩
theorem HasN.mono {w : World} {base base' : Nat} {v : Value} {zs : List Int} (h : HasN w base v zs) (hb : base' ≤ base) : HasN w base' v zs := ⟨h.1.mono hb, h.2⟩
theorem HasN.below {w w' : World} {base B : Nat} {v : Value} {zs : List Int} (h : HasN w base v zs) (hb : Below B w w') (hB : w.heap.size ≤ B) : HasN w' base v zs := ⟨h.1.below hb hB, h.2⟩
theorem HasN.alloc {w : World} {base : Nat} {v : Value} {zs : List Int} (h : HasN w base v zs) (o : Obj) : HasN (w.alloc o) base v zs := ⟨World.ownsRow.alloc h.1 o, h.2⟩
theorem none_ownN (w : World) : HasN (w.alloc (.cells #[] 2)) w.heap.size (.slice (some ⟨w.heap.size, 0, none⟩) 0 0) [] := ⟨none_own w, by simp⟩
theorem one_ownN (w : World) (x : Int) : HasN (w.alloc (.cells #[.int .i64 x] 2)) w.heap.size (.slice (some ⟨w.heap.size, 0, none⟩) 1 1) [x] :=
  ⟨World.ownsRow_lit (base := w.heap.size) (e := 2) (size := 1) w #[.int .i64 x] 1 (Nat.le_refl _) (by decide) (by simp), by simp⟩
theorem HasN.own {w : World} {base : Nat} {v : Value} {zs : List Int} (h : HasN w base v zs) : ∀ k, v.ownBlock = some k → base ≤ k := fun k hk => by
  obtain ⟨g, cap, rfl, hb, -⟩ := h.form
  cases hk; exact hb
theorem wpList_app {w : World} {ops : Array Oper} {rest : List Oper} {o : Oper} {a : Act} {Q : Exit → Act → World → Prop} (hgd : o.guard = none) (s x : Operand)
    (ho : o.op = .call { callee := .builtin .append, args := #[s, x], argTypes := #[24, 24] }) (vd vs : Value) (hs : a.eval s = vd) (hx : a.eval x = vs)
    (base b2 : Nat) (X Y : List Int) (hX : HasN w base vd X) (hY : HasN w b2 vs Y) (hlen : X.length + Y.length ≤ 1000000) (hbase : base ≤ w.heap.size)
    (h : ∀ v' w', Hid (HasN w' base v' (X ++ Y)) → Hid (∀ B w0, Below B w0 w → B ≤ base → Below B w0 w') → wpList Tryd.prog ops Q rest (a.put o.dst v') w') : wpList Tryd.prog ops Q (o :: rest) a w := by
  obtain ⟨i0, hi, hz0, hz1, hz2⟩ := info_parts info64
  obtain ⟨g, cap, rfl, hb, hl, hc⟩ := hY.form
  refine wpList_append_own (P := Tryd.prog) w hgd s x 24 ho base 2 i0 (.int .i64 0) 1 8 Tryd.underlying24 hi hz0 hz1 hz2 rfl (by decide) vd X.length (X.map (Value.int .i64)) hs hX.1 ⟨g, 0, none⟩ Y.length cap (Y.map (Value.int .i64)) hx (by simp) (fun j u hu => ?_) (fun u hu => ?_) (by unfold maxLen; omega) (by omega) hbase ?_
  · have hj : j < Y.length := by
      have := (List.getElem?_eq_some_iff.1 hu).1
      simpa using this
    rw [show (⟨g, 0, none⟩ : Addr).add j = ⟨g, j, none⟩ by unfold Addr.add; split <;> simp_all, hc j hj, ← hu]
    simp [List.getD, List.getElem?_eq_getElem hj]
  · obtain ⟨y, -, rfl⟩ := List.mem_map.1 hu
    rfl
  · intro v' w' hown hgrow hnil
    refine h v' w' ⟨?_, fun e => hX.2 (hnil.1 e).1⟩ (fun B w0 hB hle => Below.grown hB hgrow (Nat.le_trans hle hbase) (fun k hk => Nat.le_trans hle (hX.own k hk)))
    unfold Has
    simpa using hown
end Go.Proofs.YtmeicjbeibmmganDoor
