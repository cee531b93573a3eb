/-
  What the drawn laws of two numbers share: the numbers' boxes, finite ones.
-/
import Derived.Test.YtnkoeidolmiheaaGreatDoorIsR2
import Derived.Laws.StructEq
import Derived.Test.YtnkoeidolmiheaaGreatDoorDrAd
import Derived.Test.YtnkoeidolmiheaaGreatDoorPsd
import Derived.Test.YtnkoeidolmiheaaGreatDoorQtl
namespace Go.Proofs.YtnkoeidolmiheaaGreatDoor
open Go.RowKit
set_option linter.unusedVariables false
set_option maxRecDepth 100000
theorem neq_num_same (k : Int) (b : Bool) (e : Int) (s : ByteArray) (w : World) : (binOp .neq 25 (.agg #[.int .i64 k, .bool b, .int .i64 e, .string s]) (.agg #[.int .i64 k, .bool b, .int .i64 e, .string s])).run Tryz.prog w = .ok (.bool false) w := by
  have hS : Tryz.prog.underlying 25 = some (.struct (Tryz.prog.fieldsOf 25)) := by kernel_rfl
  have hp : Tryz.prog.stoodInHeld 25 = false := by kernel_rfl
  rw [run_neq_struct, show (10000 : Nat) = 9999 + 1 from rfl, run_equalIn_agg w 9999 25 _ _ hS hp]
  simp only [Program.fieldsOf, Tryz.underlying25]
  go_simp
theorem eqn_num_same (d : Nat) (k : Int) (b : Bool) (e : Int) (s : ByteArray) (w : World) : (Op.equalIn (d + 2) 25 (.agg #[.int .i64 k, .bool b, .int .i64 e, .string s]) (.agg #[.int .i64 k, .bool b, .int .i64 e, .string s])).run Tryz.prog w = .ok true w := by
  rw [run_equalIn_agg w (d + 1) 25 _ _ (by kernel_rfl) (by kernel_rfl)]
  simp only [Program.fieldsOf, Tryz.underlying25]
  go_simp
theorem eql_res_same (k : Int) (b : Bool) (e : Int) (s : ByteArray) (f : Int) (w : World) : (binOp .eql 29 (rsV k b e s f) (rsV k b e s f)).run Tryz.prog w = .ok (.bool true) w := by
  have h2 := eqn_num_same 9997 k b e s w
  rw [run_eql_struct, show (10000 : Nat) = 9999 + 1 from rfl, run_equalIn_agg w 9999 29 _ _ (by kernel_rfl) (by kernel_rfl)]
  simp only [Program.fieldsOf, Tryz.underlying29]
  have hpt : ∀ w : World, (part 25 #[.int .i64 k, .bool b, .int .i64 e, .string s, .int .i64 f] 0).run Tryz.prog w = .ok (.agg #[.int .i64 k, .bool b, .int .i64 e, .string s]) w := by
    intro w; go_simp
  simp only [Op.eqFields, Sem.run_bind, Sem.run_ite]
  rw [if_pos (by decide)]
  simp only [Result.andThen_ok, hpt, h2, show (9999 : Nat) = 9997 + 2 from rfl]
  clear h2 hpt
  go_simp
theorem neq_res_same (k : Int) (b : Bool) (e : Int) (s : ByteArray) (f : Int) (w : World) : (binOp .neq 29 (rsV k b e s f) (rsV k b e s f)).run Tryz.prog w = .ok (.bool false) w := by
  have h := eql_res_same k b e s f w
  rw [run_eql_struct] at h
  rw [run_neq_struct]
  cases hq : (Op.equalIn 10000 29 (rsV k b e s f) (rsV k b e s f)).run Tryz.prog w with
  | ok v w' =>
    rw [hq] at h
    simp [go_sem] at h ⊢
    exact h
  | halt h1 w1 => rw [hq] at h; simp [go_sem] at h
end Go.Proofs.YtnkoeidolmiheaaGreatDoor
namespace Go.Proofs.YtnkoeidolmiheaaGreatDoor
open Go.RowKit
set_option linter.unusedVariables false
set_option maxRecDepth 100000
theorem numB_kind (f k : Int) (b : Bool) (e : Int) (s : ByteArray) (h : numB f k b e s = true) : k ≠ 0 := by
  intro hk
  subst hk
  unfold numB at h
  by_cases hp : limP f = 0
  · rw [if_pos hp] at h; cases h
  · rw [if_neg hp, if_neg (by decide), if_neg (by decide), if_neg (by decide)] at h; cases h
theorem numB_size (f k : Int) (b : Bool) (e : Int) (s : ByteArray) (h : numB f k b e s = true) : s.size ≤ 4611686018427387904 := by
  unfold numB at h
  by_cases hp : limP f = 0
  · rw [if_pos hp] at h; cases h
  rw [if_neg hp] at h
  have hl : limP f ≤ 34 := by unfold limP; split <;> (try split) <;> omega
  by_cases h1 : k = 1
  · rw [if_pos h1] at h
    unfold natB at h
    simp only [Bool.and_eq_true, decide_eq_true_eq] at h
    have := h.1.1.1.2
    omega
  · rw [if_neg h1] at h
    have hE : s.toList.isEmpty = true := by
      by_cases h2 : k = 2
      · rw [if_pos h2] at h; simp only [Bool.and_eq_true] at h; exact h.2
      · rw [if_neg h2] at h
        by_cases h3 : k = 3 ∨ k = 4
        · rw [if_pos h3] at h; simp only [Bool.and_eq_true] at h; exact h.2.1
        · rw [if_neg h3] at h; cases h
    have e : s.toList.length = s.size := by rw [ByteArray.toList_eq, Array.length_toList]; rfl
    rw [List.isEmpty_iff.1 hE] at e
    rw [← e]
    decide
theorem finite_any (k : Int) (b : Bool) (e : Int) (s : ByteArray) (w : World) : Calls Tryz.prog 12 #[numV k b e s] w fun x w' => x = .returned (.bool (decide (k = 1))) ∧ Below w.heap.size w w' := by
  go_enter Tryz.func12, Tryz.ntmps12
  go_wp2
  go_ret
  exact ⟨rfl, (Below.refl _ _).alloc (Nat.le_refl _) _⟩
/-- The two numbers in their blocks. -/
def MU (w : World) (p : Nat) (ka : Int) (na : Bool) (ea : Int) (sa : ByteArray) (kb : Int) (nb : Bool) (eb : Int) (sb : ByteArray) (W : World) : Prop :=
  At4r W p (.int .i64 ka) (.bool na) (.int .i64 ea) (.string sa) ∧ At4r W (p + 1) (.int .i64 kb) (.bool nb) (.int .i64 eb) (.string sb) ∧ Below w.heap.size w W
section
variable {w W W' : World} {p : Nat} {ka : Int} {na : Bool} {ea : Int} {sa : ByteArray} {kb : Int} {nb : Bool} {eb : Int} {sb : ByteArray}
theorem mu_new (w0 : World) (hw : Below w.heap.size w w0) (ka : Int) (na : Bool) (ea : Int) (sa : ByteArray) (kb : Int) (nb : Bool) (eb : Int) (sb : ByteArray) : MU w w0.heap.size ka na ea sa kb nb eb sb ((w0.alloc (.cells #[.int .i64 ka, .bool na, .int .i64 ea, .string sa] 25)).alloc (.cells #[.int .i64 kb, .bool nb, .int .i64 eb, .string sb] 25)) := by
  have h1 := at4r_new w0 (.int .i64 ka) (.bool na) (.int .i64 ea) (.string sa)
  have z1 : (w0.alloc (.cells #[.int .i64 ka, .bool na, .int .i64 ea, .string sa] 25)).heap.size = w0.heap.size + 1 := by simp
  have b1 : Below w0.heap.size w0 (w0.alloc (.cells #[.int .i64 ka, .bool na, .int .i64 ea, .string sa] 25)) := (Below.refl _ _).alloc (Nat.le_refl _) _
  generalize w0.alloc (.cells #[.int .i64 ka, .bool na, .int .i64 ea, .string sa] 25) = w1 at *
  have h2 := at4r_new w1 (.int .i64 kb) (.bool nb) (.int .i64 eb) (.string sb)
  have b2 : Below w1.heap.size w1 (w1.alloc (.cells #[.int .i64 kb, .bool nb, .int .i64 eb, .string sb] 25)) := (Below.refl _ _).alloc (Nat.le_refl _) _
  rw [z1] at h2
  exact ⟨h1.next b2, h2, hw.trans ((b1.trans (b2.mono b1.size)).mono hw.size)⟩
theorem MU.next (h : MU w p ka na ea sa kb nb eb sb W) (hb : Below W.heap.size W W') : MU w p ka na ea sa kb nb eb sb W' :=
  ⟨h.1.next hb, h.2.1.next hb, h.2.2.trans (hb.mono h.2.2.size)⟩
end
end Go.Proofs.YtnkoeidolmiheaaGreatDoor
