/-
  The model's unpacked words, and words made canonical, walked.
-/
import Derived.Test.YtmjkpjmccdjkjadDoorWrd6
import Derived.Deep.AppendLies
namespace Go.Proofs.YtmjkpjmccdjkjadDoor
open Go.RowKit
set_option linter.unusedVariables false
set_option maxRecDepth 100000
/-- What a word of Fm64 stands for. -/
abbrev num64 (W : Int) : Value := numV (uK 8 5 W) (uB 8 5 W) (uX 8 5 398 W) (tx (uL 8 5 W))
abbrev num128 (W : Int) : Value := numV (uK 12 11 W) (uB 12 11 W) (uX 12 11 6176 W) (tx (uL 12 11 W))
/-- A Num's box with nothing in it. -/
abbrev nbz (w : World) : World := w.alloc (.cells #[.int .i64 0, .bool false, .int .i64 0, .string { data := #[] }] 25)
theorem nbz_at (w : World) : At4 (nbz w) w.heap.size (.int .i64 0) (.bool false) (.int .i64 0) (.string { data := #[] }) := at4_new w _ _ _ _
/-- A word made canonical. -/
def canW (W : Int) : Int := pkW 8 5 398 (uK 8 5 W) (uB 8 5 W) (uX 8 5 398 W) (uL 8 5 W)
/-- The boxes of a Wide and of a Num behind it. -/
abbrev wbz (w : World) (hi lo : Int) : World := (w.alloc (.cells #[.int .u64 hi, .int .u64 lo] 33)).alloc (.cells #[.int .i64 0, .bool false, .int .i64 0, .string { data := #[] }] 25)
def WS (w : World) (hi lo : Int) (W : World) : Prop := Below (w.heap.size + 2) (wbz w hi lo) W
theorem WS.next {w W w1 : World} {hi lo : Int} (h : WS w hi lo W) (hb : Below W.heap.size W w1) : WS w hi lo w1 := by
  have hs := h.size
  unfold WS at *
  exact h.trans (hb.mono (by simpa using hs))
theorem WS.cells {w W : World} {hi lo : Int} (h : WS w hi lo W) : W.cell? ⟨w.heap.size, 0, none⟩ = some (.int .u64 hi) ∧ W.cell? ⟨w.heap.size, 1, none⟩ = some (.int .u64 lo) := by
  refine ⟨(h.cell (p := ⟨w.heap.size, 0, none⟩) (by simp)).trans ?_, (h.cell (p := ⟨w.heap.size, 1, none⟩) (by simp)).trans ?_⟩ <;> simp [wbz]
theorem WS.room {w W : World} {hi lo : Int} (h : WS w hi lo W) : w.heap.size + 2 ≤ W.heap.size := by
  have hs := h.size
  simpa using hs
theorem WS.num {w W : World} {hi lo : Int} (h : WS w hi lo W) : At4 W (w.heap.size + 1) (.int .i64 0) (.bool false) (.int .i64 0) (.string { data := #[] }) := by
  have := at4_new (w.alloc (.cells #[.int .u64 hi, .int .u64 lo] 33)) (.int .i64 0) (.bool false) (.int .i64 0) (.string { data := #[] })
  have h2 : At4 (wbz w hi lo) (w.heap.size + 1) (.int .i64 0) (.bool false) (.int .i64 0) (.string { data := #[] }) := by simpa using this
  exact h2.below h (by omega)
theorem WS.out {w W : World} {hi lo : Int} (h : WS w hi lo W) : Below w.heap.size w W := (((Below.refl _ _).alloc (Nat.le_refl _) _).alloc (by simp) _).trans (Below.mono h (by omega))
/-- An append of one slice of the call's own to another, in a region that draws its order. -/
theorem step_app {w : World} {ops : Array Oper} {o : Oper} {a : Act} {K : Act → World → Prop} {Q : Exit → Act → World → Prop} {E : Prop} (hgd : o.guard = none) (s x : Operand)
    (ho : o.op = .call { callee := .builtin .append, args := #[s, x], argTypes := #[45, 45] }) (vd vs : Value) (hs : a.eval s = vd) (hx : a.eval x = vs)
    (base b2 : Nat) (X Y : List Int) (hX : HasN w base vd X) (hY : HasN w b2 vs Y) (hp : 0 < Y.length) (hlen : X.length + Y.length ≤ 1000000) (hbase : base ≤ w.heap.size)
    (h : ∀ v' w', Hid (HasN w' base v' (X ++ Y)) → Hid (∀ B w0, Below B w0 w → B ≤ base → Below B w0 w') → K (a.put o.dst v') w') :
    if Region.wanted o (yielded ops a.tmps) = true then Oper.wp Tryd.prog o a w K Q else E := by
  obtain ⟨i0, hi, hz0, hz1, hz2⟩ := info_parts info64
  obtain ⟨g, cap, rfl, hb, hl, hc⟩ := hY.form
  refine step_append_lies (P := Tryd.prog) w hgd s x 45 ho base 2 i0 (.int .i64 0) 1 8 Tryd.underlying45 hi hz0 hz1 hz2 rfl (by decide) vd X.length (X.map (Value.int .i64)) hs hX.1 ⟨g, 0, none⟩ Y.length cap (Y.map (Value.int .i64)) hx (by simp) (fun j u hu => ?_) (fun u hu => ?_) hp (by unfold maxLen; omega) (by omega) hbase _ rfl ?_
  · have hj : j < Y.length := by
      have := (List.getElem?_eq_some_iff.1 hu).1
      simpa using this
    rw [show (⟨g, 0, none⟩ : Addr).add j = ⟨g, j, none⟩ by unfold Addr.add; split <;> simp_all, hc j hj, ← hu]
    simp [List.getD, List.getElem?_eq_getElem hj]
  · obtain ⟨y, -, rfl⟩ := List.mem_map.1 hu
    rfl
  · intro g' cap' w' hown hgrow hat hgl
    refine h _ w' ⟨?_, by simp⟩ (fun B w0 hB hle => Below.grown hB hgrow (Nat.le_trans hle hbase) (fun k hk => Nat.le_trans hle (hX.own k hk)))
    unfold Has
    simpa using hown
theorem WS.app {w W w1 : World} {hi lo : Int} (h : WS w hi lo W) (hb : ∀ B w0, Below B w0 W → B ≤ w.heap.size + 2 → Below B w0 w1) : WS w hi lo w1 := hb _ _ h (Nat.le_refl _)
end Go.Proofs.YtmjkpjmccdjkjadDoor
