/-
  NARROWER THAN 'FOR EVERY INPUT', by the rows' own cells (each row's printed sentence says how): FnExactNines: laid · FnExactSave: laid · FnExactSaveAll: laid.
  DERIVED. THE GIVEN ROWS OF THIS SEAT. 3 by the template 'for every input the law returns true; each argument reads behind the call as it read before'; 0 by the template 'total and deterministic' (their statements: YtlbkhiphnllfpaiDoorTotals.lean).
  GIVEN WITH THE SEED: the statements are not yours to turn. If you find one false, say at which input.
  Laid BY PROGRAM, IN A SANDBOX (cutbox-rows.mjs): the forced cells as the released guide's own fill.sh prints them over the translation 51566046ff848c2d… (all of the seat's roots in one cut). By AI agents, Wed Nov 11 2026. No macro, syntax, notation, axiom, sorry.
-/
import Derived.Test.YtlbkhiphnllfpaiDoorChecked
import GoSem.Claim
import GoSem.ClaimJoined
import GoSem.ClaimMapViews
import Derived.JoinedTies
import Derived.KernelRfl
namespace Go.Proofs.YtlbkhiphnllfpaiDoor
/- THE CELL 'sum', in the pinned program and in every row, IS THE sha256 OF THE DUMP (.gsa) THAT YtlbkhiphnllfpaiDoorProg.lean LOADS. Nothing in Lean hashes anything: it is a label: what it is worth is what the hold of that sum in a sandbox is worth. -/
noncomputable def Tryd.pinned : Pinned := { name := "ytlbkhiphnllfpaidoor", sum := "51566046ff848c2d911740ae042c2375effc18c6731e1fc79bd3208247eef1e0", checked := Tryd.checked }
namespace Rows
def none {H : Type} : Left H := { results := [], args := [] }

/- WHAT THE LISTED PACKAGE-LEVEL VARIABLES READ AS WHEN THE CALL BEGINS. Each datum BY PROGRAM (the guide's laid-datum.mjs) off the statement by which the dump's own 'gosem.cut.vars' lays the variable. In a bare row this is a premise. The card (YtlbkhiphnllfpaiDoorCards.lean) ties it to the program's text. -/
def laid_loop_example_g00085_impl_bitWeights {H : Type} : DataW H := .agg [.agg [.lit (.int .i64 8), .lit (.int .i64 4), .lit (.int .i64 2), .lit (.int .i64 1)], .agg [.lit (.int .i64 4), .lit (.int .i64 2), .lit (.int .i64 2), .lit (.int .i64 1)], .agg [.lit (.int .i64 5), .lit (.int .i64 2), .lit (.int .i64 1), .lit (.int .i64 1)]]

/-- 'laws.FnExactNines': WHATEVER THE INPUT: true; the input reads as it did. -/
def fnExactNinesSpec : ChangeSpec := { name := "fnExactNines", vars := ["loop.example/g00085/impl.bitWeights"], fn := fun _ => fun
  | [d, g1] => { results := [.lit (.bool true)], args := [d], vars := [g1] }
  | _ => none }
def fnExactNinesRow : OpenClaim := { program := "ytlbkhiphnllfpaidoor", sum := "51566046ff848c2d911740ae042c2375effc18c6731e1fc79bd3208247eef1e0", func := "loop.example/g00085/laws.FnExactNines", spec := "fnExactNines", named := ["loop.example/g00085/impl.bitWeights"], apart := false, laid := [("loop.example/g00085/impl.bitWeights", laid_loop_example_g00085_impl_bitWeights)] }
def FnExactNinesSaid : Prop := fnExactNinesRow.holds Tryd.pinned (OpenSpec.ofChange fnExactNinesSpec)

/-- ITS FALSE NEIGHBOUR: 'it returns false'. Refute it at one input. -/
def fnExactNinesWrong : ChangeSpec := { name := "fnExactNines", vars := ["loop.example/g00085/impl.bitWeights"], fn := fun _ => fun
  | [d, g1] => { results := [.lit (.bool false)], args := [d], vars := [g1] }
  | _ => none }
def FnExactNinesWrongFalsely : Prop := fnExactNinesRow.holds Tryd.pinned (OpenSpec.ofChange fnExactNinesWrong)

/-- 'laws.FnExactSave': WHATEVER THE INPUT: true; the input reads as it did. -/
def fnExactSaveSpec : ChangeSpec := { name := "fnExactSave", vars := ["loop.example/g00085/impl.bitWeights"], fn := fun _ => fun
  | [d1, d2, d3, g1] => { results := [.lit (.bool true)], args := [d1, d2, d3], vars := [g1] }
  | _ => none }
def fnExactSaveRow : OpenClaim := { program := "ytlbkhiphnllfpaidoor", sum := "51566046ff848c2d911740ae042c2375effc18c6731e1fc79bd3208247eef1e0", func := "loop.example/g00085/laws.FnExactSave", spec := "fnExactSave", named := ["loop.example/g00085/impl.bitWeights"], apart := false, laid := [("loop.example/g00085/impl.bitWeights", laid_loop_example_g00085_impl_bitWeights)] }
def FnExactSaveSaid : Prop := fnExactSaveRow.holds Tryd.pinned (OpenSpec.ofChange fnExactSaveSpec)

/-- ITS FALSE NEIGHBOUR: 'it returns false'. Refute it at one input. -/
def fnExactSaveWrong : ChangeSpec := { name := "fnExactSave", vars := ["loop.example/g00085/impl.bitWeights"], fn := fun _ => fun
  | [d1, d2, d3, g1] => { results := [.lit (.bool false)], args := [d1, d2, d3], vars := [g1] }
  | _ => none }
def FnExactSaveWrongFalsely : Prop := fnExactSaveRow.holds Tryd.pinned (OpenSpec.ofChange fnExactSaveWrong)

/-- 'laws.FnExactSaveAll': WHATEVER THE INPUT: true; the input reads as it did. -/
def fnExactSaveAllSpec : ChangeSpec := { name := "fnExactSaveAll", vars := ["loop.example/g00085/impl.bitWeights"], fn := fun _ => fun
  | [d, g1] => { results := [.lit (.bool true)], args := [d], vars := [g1] }
  | _ => none }
def fnExactSaveAllRow : OpenClaim := { program := "ytlbkhiphnllfpaidoor", sum := "51566046ff848c2d911740ae042c2375effc18c6731e1fc79bd3208247eef1e0", func := "loop.example/g00085/laws.FnExactSaveAll", spec := "fnExactSaveAll", named := ["loop.example/g00085/impl.bitWeights"], apart := false, laid := [("loop.example/g00085/impl.bitWeights", laid_loop_example_g00085_impl_bitWeights)] }
def FnExactSaveAllSaid : Prop := fnExactSaveAllRow.holds Tryd.pinned (OpenSpec.ofChange fnExactSaveAllSpec)

/-- ITS FALSE NEIGHBOUR: 'it returns false'. Refute it at one input. -/
def fnExactSaveAllWrong : ChangeSpec := { name := "fnExactSaveAll", vars := ["loop.example/g00085/impl.bitWeights"], fn := fun _ => fun
  | [d, g1] => { results := [.lit (.bool false)], args := [d], vars := [g1] }
  | _ => none }
def FnExactSaveAllWrongFalsely : Prop := fnExactSaveAllRow.holds Tryd.pinned (OpenSpec.ofChange fnExactSaveAllWrong)

/- THE SECOND FORM. 'bulk': how many values and letters a reading holds, each counted each time it is reached (what is shared counts as often as it is met; a slice's spare places count too). A statement '..UptoSaid' is the law's where the arguments, and the package variables that the reading takes, are together of bulk at most 1048576: NARROWER than '..Said'. Prove '..Said' where nothing that the law and all that it calls make is longer than what came in: it says more and counts as full. Else prove '..UptoSaid'. A law counts once. -/
mutual
def uptoBulk {H : Type} : DataW H → Nat
  | .lit (.string bytes) => bytes.length + 1
  | .lit _ => 1
  | .nil => 1
  | .ptr d => uptoBulk d + 1
  | .slice elems spare => uptoBulkAll elems + uptoBulkAll spare + 1
  | .agg parts => uptoBulkAll parts + 1
  | .iface _ d => uptoBulk d + 1
  | .map entries => uptoBulkEntries entries + 1
  | .held _ => 1
def uptoBulkAll {H : Type} : List (DataW H) → Nat
  | [] => 0
  | d :: r => uptoBulk d + uptoBulkAll r
def uptoBulkEntries {H : Type} : List (Lit × DataW H) → Nat
  | [] => 0
  | x :: r => uptoBulkEntry x + uptoBulkEntries r
def uptoBulkEntry {H : Type} : Lit × DataW H → Nat
  | (.string bytes, d) => bytes.length + uptoBulk d + 1
  | (_, d) => uptoBulk d + 1
 end
def uptoSmall : (H : Type) → List (DataW H) → Bool := fun _ ds => decide (uptoBulkAll ds ≤ 1048576)
def OpenSpec.upto (s : _root_.Go.ChangeSpec) : _root_.Go.OpenSpec := { _root_.Go.OpenSpec.ofChange s with cond := some uptoSmall }

/-- 'laws.FnExactNines', WHERE WHAT IT READS IS OF BULK AT MOST 1048576: true; the input reads as it did. -/
def fnExactNinesUptoRow : OpenClaim := { program := "ytlbkhiphnllfpaidoor", sum := "51566046ff848c2d911740ae042c2375effc18c6731e1fc79bd3208247eef1e0", func := "loop.example/g00085/laws.FnExactNines", spec := "fnExactNines", named := ["loop.example/g00085/impl.bitWeights"], apart := false, laid := [("loop.example/g00085/impl.bitWeights", laid_loop_example_g00085_impl_bitWeights)], narrowed := true }
def FnExactNinesUptoSaid : Prop := fnExactNinesUptoRow.holds Tryd.pinned (OpenSpec.upto fnExactNinesSpec)

/-- 'laws.FnExactSave', WHERE WHAT IT READS IS OF BULK AT MOST 1048576: true; the input reads as it did. -/
def fnExactSaveUptoRow : OpenClaim := { program := "ytlbkhiphnllfpaidoor", sum := "51566046ff848c2d911740ae042c2375effc18c6731e1fc79bd3208247eef1e0", func := "loop.example/g00085/laws.FnExactSave", spec := "fnExactSave", named := ["loop.example/g00085/impl.bitWeights"], apart := false, laid := [("loop.example/g00085/impl.bitWeights", laid_loop_example_g00085_impl_bitWeights)], narrowed := true }
def FnExactSaveUptoSaid : Prop := fnExactSaveUptoRow.holds Tryd.pinned (OpenSpec.upto fnExactSaveSpec)

/-- 'laws.FnExactSaveAll', WHERE WHAT IT READS IS OF BULK AT MOST 1048576: true; the input reads as it did. -/
def fnExactSaveAllUptoRow : OpenClaim := { program := "ytlbkhiphnllfpaidoor", sum := "51566046ff848c2d911740ae042c2375effc18c6731e1fc79bd3208247eef1e0", func := "loop.example/g00085/laws.FnExactSaveAll", spec := "fnExactSaveAll", named := ["loop.example/g00085/impl.bitWeights"], apart := false, laid := [("loop.example/g00085/impl.bitWeights", laid_loop_example_g00085_impl_bitWeights)], narrowed := true }
def FnExactSaveAllUptoSaid : Prop := fnExactSaveAllUptoRow.holds Tryd.pinned (OpenSpec.upto fnExactSaveAllSpec)

end Rows
end Go.Proofs.YtlbkhiphnllfpaiDoor
