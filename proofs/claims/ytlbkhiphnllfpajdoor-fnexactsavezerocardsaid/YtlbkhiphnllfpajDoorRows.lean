/-
  NARROWER THAN 'FOR EVERY INPUT', by the rows' own cells (each row's printed sentence says how): FnExactSettle: laid · FnExactSaveZero: laid.
  DERIVED. THE GIVEN ROWS OF THIS SEAT. 2 by the template 'for every input the law returns true; each argument reads behind the call as it read before'; 0 by the template 'total and deterministic' (their statements: YtlbkhiphnllfpajDoorTotals.lean).
  GIVEN WITH THE SEED: the statements are not yours to turn. If you find one false, say at which input.
  Laid BY PROGRAM, IN A SANDBOX (cutbox-rows.mjs): the forced cells as the released guide's own fill.sh prints them over the translation 88eea57c74053792… (all of the seat's roots in one cut). By AI agents, Wed Nov 11 2026. No macro, syntax, notation, axiom, sorry.
-/
import Derived.Test.YtlbkhiphnllfpajDoorChecked
import GoSem.Claim
import GoSem.ClaimJoined
import GoSem.ClaimMapViews
import Derived.JoinedTies
import Derived.KernelRfl
namespace Go.Proofs.YtlbkhiphnllfpajDoor
/- THE CELL 'sum', in the pinned program and in every row, IS THE sha256 OF THE DUMP (.gsa) THAT YtlbkhiphnllfpajDoorProg.lean LOADS. Nothing in Lean hashes anything: it is a label: what it is worth is what the hold of that sum in a sandbox is worth. -/
noncomputable def Tryd.pinned : Pinned := { name := "ytlbkhiphnllfpajdoor", sum := "88eea57c740537923b3e691d36bffec71ccde6fe83413b61b79bb109f968f422", checked := Tryd.checked }
namespace Rows
def none {H : Type} : Left H := { results := [], args := [] }

/- WHAT THE LISTED PACKAGE-LEVEL VARIABLES READ AS WHEN THE CALL BEGINS. Each datum BY PROGRAM (the guide's laid-datum.mjs) off the statement by which the dump's own 'gosem.cut.vars' lays the variable. In a bare row this is a premise. The card (YtlbkhiphnllfpajDoorCards.lean) ties it to the program's text. -/
def laid_loop_example_g00085_impl_bitWeights {H : Type} : DataW H := .agg [.agg [.lit (.int .i64 8), .lit (.int .i64 4), .lit (.int .i64 2), .lit (.int .i64 1)], .agg [.lit (.int .i64 4), .lit (.int .i64 2), .lit (.int .i64 2), .lit (.int .i64 1)], .agg [.lit (.int .i64 5), .lit (.int .i64 2), .lit (.int .i64 1), .lit (.int .i64 1)]]

/-- 'laws.FnExactSettle': WHATEVER THE INPUT: true; the input reads as it did. -/
def fnExactSettleSpec : ChangeSpec := { name := "fnExactSettle", vars := ["loop.example/g00085/impl.bitWeights"], fn := fun _ => fun
  | [d1, d2, d3, g1] => { results := [.lit (.bool true)], args := [d1, d2, d3], vars := [g1] }
  | _ => none }
def fnExactSettleRow : OpenClaim := { program := "ytlbkhiphnllfpajdoor", sum := "88eea57c740537923b3e691d36bffec71ccde6fe83413b61b79bb109f968f422", func := "loop.example/g00085/laws.FnExactSettle", spec := "fnExactSettle", named := ["loop.example/g00085/impl.bitWeights"], apart := false, laid := [("loop.example/g00085/impl.bitWeights", laid_loop_example_g00085_impl_bitWeights)] }
def FnExactSettleSaid : Prop := fnExactSettleRow.holds Tryd.pinned (OpenSpec.ofChange fnExactSettleSpec)

/-- ITS FALSE NEIGHBOUR: 'it returns false'. Refute it at one input. -/
def fnExactSettleWrong : ChangeSpec := { name := "fnExactSettle", vars := ["loop.example/g00085/impl.bitWeights"], fn := fun _ => fun
  | [d1, d2, d3, g1] => { results := [.lit (.bool false)], args := [d1, d2, d3], vars := [g1] }
  | _ => none }
def FnExactSettleWrongFalsely : Prop := fnExactSettleRow.holds Tryd.pinned (OpenSpec.ofChange fnExactSettleWrong)

/-- 'laws.FnExactSaveZero': WHATEVER THE INPUT: true; the input reads as it did. -/
def fnExactSaveZeroSpec : ChangeSpec := { name := "fnExactSaveZero", vars := ["loop.example/g00085/impl.bitWeights"], fn := fun _ => fun
  | [d1, d2, g1] => { results := [.lit (.bool true)], args := [d1, d2], vars := [g1] }
  | _ => none }
def fnExactSaveZeroRow : OpenClaim := { program := "ytlbkhiphnllfpajdoor", sum := "88eea57c740537923b3e691d36bffec71ccde6fe83413b61b79bb109f968f422", func := "loop.example/g00085/laws.FnExactSaveZero", spec := "fnExactSaveZero", named := ["loop.example/g00085/impl.bitWeights"], apart := false, laid := [("loop.example/g00085/impl.bitWeights", laid_loop_example_g00085_impl_bitWeights)] }
def FnExactSaveZeroSaid : Prop := fnExactSaveZeroRow.holds Tryd.pinned (OpenSpec.ofChange fnExactSaveZeroSpec)

/-- ITS FALSE NEIGHBOUR: 'it returns false'. Refute it at one input. -/
def fnExactSaveZeroWrong : ChangeSpec := { name := "fnExactSaveZero", vars := ["loop.example/g00085/impl.bitWeights"], fn := fun _ => fun
  | [d1, d2, g1] => { results := [.lit (.bool false)], args := [d1, d2], vars := [g1] }
  | _ => none }
def FnExactSaveZeroWrongFalsely : Prop := fnExactSaveZeroRow.holds Tryd.pinned (OpenSpec.ofChange fnExactSaveZeroWrong)

/- THE SECOND FORM. 'bulk': how many values and letters a reading holds, each counted each time it is reached (what is shared counts as often as it is met; a slice's spare places count too). A statement '..UptoSaid' is the law's where the arguments, and the package variables that the reading takes, are together of bulk at most 1048576: NARROWER than '..Said'. Prove '..Said' where nothing that the law and all that it calls make is longer than what came in: it says more and counts as full. Else prove '..UptoSaid'. A law counts once. -/
mutual
def uptoBulk {H : Type} : DataW H → Nat
  | .lit (.string bytes) => bytes.length + 1
  | .lit _ => 1
  | .nil => 1
  | .ptr d => uptoBulk d + 1
  | .slice elems spare => uptoBulkAll elems + uptoBulkAll spare + 1
  | .agg parts => uptoBulkAll parts + 1
  | .iface _ d => uptoBulk d + 1
  | .map entries => uptoBulkEntries entries + 1
  | .held _ => 1
def uptoBulkAll {H : Type} : List (DataW H) → Nat
  | [] => 0
  | d :: r => uptoBulk d + uptoBulkAll r
def uptoBulkEntries {H : Type} : List (Lit × DataW H) → Nat
  | [] => 0
  | x :: r => uptoBulkEntry x + uptoBulkEntries r
def uptoBulkEntry {H : Type} : Lit × DataW H → Nat
  | (.string bytes, d) => bytes.length + uptoBulk d + 1
  | (_, d) => uptoBulk d + 1
 end
def uptoSmall : (H : Type) → List (DataW H) → Bool := fun _ ds => decide (uptoBulkAll ds ≤ 1048576)
def OpenSpec.upto (s : _root_.Go.ChangeSpec) : _root_.Go.OpenSpec := { _root_.Go.OpenSpec.ofChange s with cond := some uptoSmall }

/-- 'laws.FnExactSettle', WHERE WHAT IT READS IS OF BULK AT MOST 1048576: true; the input reads as it did. -/
def fnExactSettleUptoRow : OpenClaim := { program := "ytlbkhiphnllfpajdoor", sum := "88eea57c740537923b3e691d36bffec71ccde6fe83413b61b79bb109f968f422", func := "loop.example/g00085/laws.FnExactSettle", spec := "fnExactSettle", named := ["loop.example/g00085/impl.bitWeights"], apart := false, laid := [("loop.example/g00085/impl.bitWeights", laid_loop_example_g00085_impl_bitWeights)], narrowed := true }
def FnExactSettleUptoSaid : Prop := fnExactSettleUptoRow.holds Tryd.pinned (OpenSpec.upto fnExactSettleSpec)

/-- 'laws.FnExactSaveZero', WHERE WHAT IT READS IS OF BULK AT MOST 1048576: true; the input reads as it did. -/
def fnExactSaveZeroUptoRow : OpenClaim := { program := "ytlbkhiphnllfpajdoor", sum := "88eea57c740537923b3e691d36bffec71ccde6fe83413b61b79bb109f968f422", func := "loop.example/g00085/laws.FnExactSaveZero", spec := "fnExactSaveZero", named := ["loop.example/g00085/impl.bitWeights"], apart := false, laid := [("loop.example/g00085/impl.bitWeights", laid_loop_example_g00085_impl_bitWeights)], narrowed := true }
def FnExactSaveZeroUptoSaid : Prop := fnExactSaveZeroUptoRow.holds Tryd.pinned (OpenSpec.upto fnExactSaveZeroSpec)

end Rows
end Go.Proofs.YtlbkhiphnllfpajDoor
