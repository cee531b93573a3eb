/-
  Results and numbers held against themselves.
-/
import Derived.Test.YtmndemegiimagafGreatDoorBx5
import Derived.Laws.StructEq
namespace Go.Proofs.YtmndemegiimagafGreatDoor
open Go.RowKit
set_option linter.unusedVariables false
set_option maxRecDepth 100000
theorem neq_num_same (k : Int) (b : Bool) (e : Int) (s : ByteArray) (w : World) : (binOp .neq 25 (.agg #[.int .i64 k, .bool b, .int .i64 e, .string s]) (.agg #[.int .i64 k, .bool b, .int .i64 e, .string s])).run Tryz.prog w = .ok (.bool false) w := by
  have hS : Tryz.prog.underlying 25 = some (.struct (Tryz.prog.fieldsOf 25)) := by kernel_rfl
  have hp : Tryz.prog.stoodInHeld 25 = false := by kernel_rfl
  rw [run_neq_struct, show (10000 : Nat) = 9999 + 1 from rfl, run_equalIn_agg w 9999 25 _ _ hS hp]
  simp only [Program.fieldsOf, Tryz.underlying25]
  go_simp
theorem eqn_num_same (d : Nat) (k : Int) (b : Bool) (e : Int) (s : ByteArray) (w : World) : (Op.equalIn (d + 2) 25 (.agg #[.int .i64 k, .bool b, .int .i64 e, .string s]) (.agg #[.int .i64 k, .bool b, .int .i64 e, .string s])).run Tryz.prog w = .ok true w := by
  rw [run_equalIn_agg w (d + 1) 25 _ _ (by kernel_rfl) (by kernel_rfl)]
  simp only [Program.fieldsOf, Tryz.underlying25]
  go_simp
theorem eql_res_same (k : Int) (b : Bool) (e : Int) (s : ByteArray) (f : Int) (w : World) : (binOp .eql 29 (rsV k b e s f) (rsV k b e s f)).run Tryz.prog w = .ok (.bool true) w := by
  have h2 := eqn_num_same 9997 k b e s w
  rw [run_eql_struct, show (10000 : Nat) = 9999 + 1 from rfl, run_equalIn_agg w 9999 29 _ _ (by kernel_rfl) (by kernel_rfl)]
  simp only [Program.fieldsOf, Tryz.underlying29]
  have hpt : ∀ w : World, (part 25 #[.int .i64 k, .bool b, .int .i64 e, .string s, .int .i64 f] 0).run Tryz.prog w = .ok (.agg #[.int .i64 k, .bool b, .int .i64 e, .string s]) w := by
    intro w; go_simp
  simp only [Op.eqFields, Sem.run_bind, Sem.run_ite]
  rw [if_pos (by decide)]
  simp only [Result.andThen_ok, hpt, h2, show (9999 : Nat) = 9997 + 2 from rfl]
  clear h2 hpt
  go_simp
theorem neq_res_same (k : Int) (b : Bool) (e : Int) (s : ByteArray) (f : Int) (w : World) : (binOp .neq 29 (rsV k b e s f) (rsV k b e s f)).run Tryz.prog w = .ok (.bool false) w := by
  have h := eql_res_same k b e s f w
  rw [run_eql_struct] at h
  rw [run_neq_struct]
  cases hq : (Op.equalIn 10000 29 (rsV k b e s f) (rsV k b e s f)).run Tryz.prog w with
  | ok v w' =>
    rw [hq] at h
    simp [go_sem] at h ⊢
    exact h
  | halt h1 w1 => rw [hq] at h; simp [go_sem] at h
end Go.Proofs.YtmndemegiimagafGreatDoor
