/-
  Sums of the model: NaNs, infinities, numbers that are not right, walked.
-/
import Derived.Test.YtdkpiofeidcffaaGreatDoorFinP
import Derived.Test.YtdkpiofeidcffaaGreatDoorRnd2
namespace Go.Proofs.YtdkpiofeidcffaaGreatDoor
open Go.RowKit
set_option linter.unusedVariables false
set_option maxRecDepth 100000
theorem one4 (k : Int) (b : Bool) (e : Int) (s : ByteArray) : (#[.int .i64 k, .bool b, .int .i64 e, .string s] : Array Value).all (·.oneCell') = true := by simp [Value.oneCell']
theorem build_nan (w : World) : (Instr.build 25 #[(0, .int .i64 3)]).run Tryz.prog w = .ok (numV 3 false 0 { data := #[] }) w := run_build w _ _ _ (by kernel_rfl)
/-- Numbers in a row, four cells each. -/
def NRw (W : World) (g n : Nat) (K : Nat → Int) (B : Nat → Bool) (E : Nat → Int) (S : Nat → ByteArray) : Prop :=
  ∀ i, i < n → W.cell? ⟨g, i * 4, none⟩ = some (.int .i64 (K i)) ∧ W.cell? ⟨g, i * 4 + 1, none⟩ = some (.bool (B i)) ∧ W.cell? ⟨g, i * 4 + 2, none⟩ = some (.int .i64 (E i)) ∧ W.cell? ⟨g, i * 4 + 3, none⟩ = some (.string (S i))
theorem NRw.below {W w1 : World} {g n Bd : Nat} {K : Nat → Int} {B : Nat → Bool} {E : Nat → Int} {S : Nat → ByteArray} (h : NRw W g n K B E S) (hb : Below Bd W w1) (hg : g < Bd) : NRw w1 g n K B E S := fun i hi =>
  ⟨(hb.cell (p := ⟨g, i * 4, none⟩) hg).trans (h i hi).1, (hb.cell (p := ⟨g, i * 4 + 1, none⟩) hg).trans (h i hi).2.1, (hb.cell (p := ⟨g, i * 4 + 2, none⟩) hg).trans (h i hi).2.2.1, (hb.cell (p := ⟨g, i * 4 + 3, none⟩) hg).trans (h i hi).2.2.2⟩
theorem l13Nan_any (w : World) : Calls Tryz.prog 37 #[] w fun x w' => x = .returned (numV 3 false 0 { data := #[] }) ∧ Below w.heap.size w w' := by
  have hb := build_nan
  go_enter Tryz.func37, Tryz.ntmps37
  go_wp2
  have hP := at4_new w (.int .i64 3) (.bool false) (.int .i64 0) (.string { data := #[] })
  refine bodyPost_ret (results_num rfl _ _ rfl hP.1 hP.2.1 hP.2.2.1 hP.2.2.2.1) rfl ?_
  exact ⟨rfl, (Below.refl _ _).alloc (Nat.le_refl _) _⟩
theorem l13Inf_any (b : Bool) (w : World) : Calls Tryz.prog 36 #[.bool b] w fun x w' => x = .returned (rsV 2 b 0 { data := #[] } 0) ∧ Below w.heap.size w w' := by
  have hbi := build_inf b
  have hbl := build_res0 2 b 0 { data := #[] }
  go_enter Tryz.func36, Tryz.ntmps36
  go_wp2
  have hP := (at5_new w (.int .i64 2) (.bool b) (.int .i64 0) (.string { data := #[] }) (.int .i64 0)).cells
  refine bodyPost_ret (results_res rfl _ _ rfl hP.1 hP.2.1 hP.2.2.1 hP.2.2.2.1 hP.2.2.2.2.1) rfl ?_
  exact ⟨rfl, (Below.refl _ _).alloc (Nat.le_refl _) _⟩
theorem bel_two (w : World) (o o' : Obj) : Below w.heap.size w ((w.alloc o).alloc o') := ((Below.refl _ _).alloc (Nat.le_refl _) _).alloc (by simp) _
theorem results_rt {fn : Func} {p t : Tmp} {b : Nat} {x y z u v : Value} (h : fn.results = #[.cell p 30, .tmp t]) (tmps : Array Value) (w : World) (hp : tmps[p]?.getD undef = .pointer (some ⟨b, 0, none⟩))
    (q0 : w.cell? ⟨b, 0, none⟩ = some x) (q1 : w.cell? ⟨b, 1, none⟩ = some y) (q2 : w.cell? ⟨b, 2, none⟩ = some z) (q3 : w.cell? ⟨b, 3, none⟩ = some u) (q4 : w.cell? ⟨b, 4, none⟩ = some v) : (results fn tmps).run Tryz.prog w = .ok (.tuple #[.agg #[x, y, z, u, v], tmps.getD t undef]) w := by
  simp [results, h, hp, go_sem, q0, q1, q2, q3, q4]
/-- The flags and whether there is a NaN. -/
def spF (n : Nat) (K : Nat → Int) : Int := if ∃ i, i < n ∧ K i = 4 then 1 else 0
def spB (n : Nat) (K : Nat → Int) : Bool := decide (∃ i, i < n ∧ (K i = 3 ∨ K i = 4))
end Go.Proofs.YtdkpiofeidcffaaGreatDoor
