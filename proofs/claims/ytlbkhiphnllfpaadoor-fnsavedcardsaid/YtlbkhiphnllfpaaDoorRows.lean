/-
  NARROWER THAN 'FOR EVERY INPUT', by the rows' own cells (each row's printed sentence says how): FnRecoded: laid · FnLaneSums: laid · FnSaved: laid.
  DERIVED. THE GIVEN ROWS OF THIS SEAT. 3 by the template 'for every input the law returns true; each argument reads behind the call as it read before'; 0 by the template 'total and deterministic' (their statements: YtlbkhiphnllfpaaDoorTotals.lean).
  GIVEN WITH THE SEED: the statements are not yours to turn. If you find one false, say at which input.
  Laid BY PROGRAM, IN A SANDBOX (cutbox-rows.mjs): the forced cells as the released guide's own fill.sh prints them over the translation ea57951b50788ea5… (all of the seat's roots in one cut). By AI agents, Wed Nov 11 2026. No macro, syntax, notation, axiom, sorry.
-/
import Derived.Test.YtlbkhiphnllfpaaDoorChecked
import GoSem.Claim
import GoSem.ClaimJoined
import GoSem.ClaimMapViews
import Derived.JoinedTies
import Derived.KernelRfl
namespace Go.Proofs.YtlbkhiphnllfpaaDoor
/- THE CELL 'sum', in the pinned program and in every row, IS THE sha256 OF THE DUMP (.gsa) THAT YtlbkhiphnllfpaaDoorProg.lean LOADS. Nothing in Lean hashes anything: it is a label: what it is worth is what the hold of that sum in a sandbox is worth. -/
noncomputable def Tryd.pinned : Pinned := { name := "ytlbkhiphnllfpaadoor", sum := "ea57951b50788ea5df7d19c7726df6fa9a7adaa15e6ecc54ba85485cb7ec4527", checked := Tryd.checked }
namespace Rows
def none {H : Type} : Left H := { results := [], args := [] }

/- WHAT THE LISTED PACKAGE-LEVEL VARIABLES READ AS WHEN THE CALL BEGINS. Each datum BY PROGRAM (the guide's laid-datum.mjs) off the statement by which the dump's own 'gosem.cut.vars' lays the variable. In a bare row this is a premise. The card (YtlbkhiphnllfpaaDoorCards.lean) ties it to the program's text. -/
def laid_loop_example_g00085_impl_bitWeights {H : Type} : DataW H := .agg [.agg [.lit (.int .i64 8), .lit (.int .i64 4), .lit (.int .i64 2), .lit (.int .i64 1)], .agg [.lit (.int .i64 4), .lit (.int .i64 2), .lit (.int .i64 2), .lit (.int .i64 1)], .agg [.lit (.int .i64 5), .lit (.int .i64 2), .lit (.int .i64 1), .lit (.int .i64 1)]]

/-- 'laws.FnRecoded': WHATEVER THE INPUT: true; the input reads as it did. -/
def fnRecodedSpec : ChangeSpec := { name := "fnRecoded", vars := ["loop.example/g00085/impl.bitWeights"], fn := fun _ => fun
  | [d, g1] => { results := [.lit (.bool true)], args := [d], vars := [g1] }
  | _ => none }
def fnRecodedRow : OpenClaim := { program := "ytlbkhiphnllfpaadoor", sum := "ea57951b50788ea5df7d19c7726df6fa9a7adaa15e6ecc54ba85485cb7ec4527", func := "loop.example/g00085/laws.FnRecoded", spec := "fnRecoded", named := ["loop.example/g00085/impl.bitWeights"], apart := false, laid := [("loop.example/g00085/impl.bitWeights", laid_loop_example_g00085_impl_bitWeights)] }
def FnRecodedSaid : Prop := fnRecodedRow.holds Tryd.pinned (OpenSpec.ofChange fnRecodedSpec)

/-- ITS FALSE NEIGHBOUR: 'it returns false'. Refute it at one input. -/
def fnRecodedWrong : ChangeSpec := { name := "fnRecoded", vars := ["loop.example/g00085/impl.bitWeights"], fn := fun _ => fun
  | [d, g1] => { results := [.lit (.bool false)], args := [d], vars := [g1] }
  | _ => none }
def FnRecodedWrongFalsely : Prop := fnRecodedRow.holds Tryd.pinned (OpenSpec.ofChange fnRecodedWrong)

/-- 'laws.FnLaneSums': WHATEVER THE INPUT: true; the input reads as it did. -/
def fnLaneSumsSpec : ChangeSpec := { name := "fnLaneSums", vars := ["loop.example/g00085/impl.bitWeights"], fn := fun _ => fun
  | [d, g1] => { results := [.lit (.bool true)], args := [d], vars := [g1] }
  | _ => none }
def fnLaneSumsRow : OpenClaim := { program := "ytlbkhiphnllfpaadoor", sum := "ea57951b50788ea5df7d19c7726df6fa9a7adaa15e6ecc54ba85485cb7ec4527", func := "loop.example/g00085/laws.FnLaneSums", spec := "fnLaneSums", named := ["loop.example/g00085/impl.bitWeights"], apart := false, laid := [("loop.example/g00085/impl.bitWeights", laid_loop_example_g00085_impl_bitWeights)] }
def FnLaneSumsSaid : Prop := fnLaneSumsRow.holds Tryd.pinned (OpenSpec.ofChange fnLaneSumsSpec)

/-- ITS FALSE NEIGHBOUR: 'it returns false'. Refute it at one input. -/
def fnLaneSumsWrong : ChangeSpec := { name := "fnLaneSums", vars := ["loop.example/g00085/impl.bitWeights"], fn := fun _ => fun
  | [d, g1] => { results := [.lit (.bool false)], args := [d], vars := [g1] }
  | _ => none }
def FnLaneSumsWrongFalsely : Prop := fnLaneSumsRow.holds Tryd.pinned (OpenSpec.ofChange fnLaneSumsWrong)

/-- 'laws.FnSaved': WHATEVER THE INPUT: true; the input reads as it did. -/
def fnSavedSpec : ChangeSpec := { name := "fnSaved", vars := ["loop.example/g00085/impl.bitWeights"], fn := fun _ => fun
  | [d, g1] => { results := [.lit (.bool true)], args := [d], vars := [g1] }
  | _ => none }
def fnSavedRow : OpenClaim := { program := "ytlbkhiphnllfpaadoor", sum := "ea57951b50788ea5df7d19c7726df6fa9a7adaa15e6ecc54ba85485cb7ec4527", func := "loop.example/g00085/laws.FnSaved", spec := "fnSaved", named := ["loop.example/g00085/impl.bitWeights"], apart := false, laid := [("loop.example/g00085/impl.bitWeights", laid_loop_example_g00085_impl_bitWeights)] }
def FnSavedSaid : Prop := fnSavedRow.holds Tryd.pinned (OpenSpec.ofChange fnSavedSpec)

/-- ITS FALSE NEIGHBOUR: 'it returns false'. Refute it at one input. -/
def fnSavedWrong : ChangeSpec := { name := "fnSaved", vars := ["loop.example/g00085/impl.bitWeights"], fn := fun _ => fun
  | [d, g1] => { results := [.lit (.bool false)], args := [d], vars := [g1] }
  | _ => none }
def FnSavedWrongFalsely : Prop := fnSavedRow.holds Tryd.pinned (OpenSpec.ofChange fnSavedWrong)

/- THE SECOND FORM. 'bulk': how many values and letters a reading holds, each counted each time it is reached (what is shared counts as often as it is met; a slice's spare places count too). A statement '..UptoSaid' is the law's where the arguments, and the package variables that the reading takes, are together of bulk at most 1048576: NARROWER than '..Said'. Prove '..Said' where nothing that the law and all that it calls make is longer than what came in: it says more and counts as full. Else prove '..UptoSaid'. A law counts once. -/
mutual
def uptoBulk {H : Type} : DataW H → Nat
  | .lit (.string bytes) => bytes.length + 1
  | .lit _ => 1
  | .nil => 1
  | .ptr d => uptoBulk d + 1
  | .slice elems spare => uptoBulkAll elems + uptoBulkAll spare + 1
  | .agg parts => uptoBulkAll parts + 1
  | .iface _ d => uptoBulk d + 1
  | .map entries => uptoBulkEntries entries + 1
  | .held _ => 1
def uptoBulkAll {H : Type} : List (DataW H) → Nat
  | [] => 0
  | d :: r => uptoBulk d + uptoBulkAll r
def uptoBulkEntries {H : Type} : List (Lit × DataW H) → Nat
  | [] => 0
  | x :: r => uptoBulkEntry x + uptoBulkEntries r
def uptoBulkEntry {H : Type} : Lit × DataW H → Nat
  | (.string bytes, d) => bytes.length + uptoBulk d + 1
  | (_, d) => uptoBulk d + 1
 end
def uptoSmall : (H : Type) → List (DataW H) → Bool := fun _ ds => decide (uptoBulkAll ds ≤ 1048576)
def OpenSpec.upto (s : _root_.Go.ChangeSpec) : _root_.Go.OpenSpec := { _root_.Go.OpenSpec.ofChange s with cond := some uptoSmall }

/-- 'laws.FnRecoded', WHERE WHAT IT READS IS OF BULK AT MOST 1048576: true; the input reads as it did. -/
def fnRecodedUptoRow : OpenClaim := { program := "ytlbkhiphnllfpaadoor", sum := "ea57951b50788ea5df7d19c7726df6fa9a7adaa15e6ecc54ba85485cb7ec4527", func := "loop.example/g00085/laws.FnRecoded", spec := "fnRecoded", named := ["loop.example/g00085/impl.bitWeights"], apart := false, laid := [("loop.example/g00085/impl.bitWeights", laid_loop_example_g00085_impl_bitWeights)], narrowed := true }
def FnRecodedUptoSaid : Prop := fnRecodedUptoRow.holds Tryd.pinned (OpenSpec.upto fnRecodedSpec)

/-- 'laws.FnLaneSums', WHERE WHAT IT READS IS OF BULK AT MOST 1048576: true; the input reads as it did. -/
def fnLaneSumsUptoRow : OpenClaim := { program := "ytlbkhiphnllfpaadoor", sum := "ea57951b50788ea5df7d19c7726df6fa9a7adaa15e6ecc54ba85485cb7ec4527", func := "loop.example/g00085/laws.FnLaneSums", spec := "fnLaneSums", named := ["loop.example/g00085/impl.bitWeights"], apart := false, laid := [("loop.example/g00085/impl.bitWeights", laid_loop_example_g00085_impl_bitWeights)], narrowed := true }
def FnLaneSumsUptoSaid : Prop := fnLaneSumsUptoRow.holds Tryd.pinned (OpenSpec.upto fnLaneSumsSpec)

/-- 'laws.FnSaved', WHERE WHAT IT READS IS OF BULK AT MOST 1048576: true; the input reads as it did. -/
def fnSavedUptoRow : OpenClaim := { program := "ytlbkhiphnllfpaadoor", sum := "ea57951b50788ea5df7d19c7726df6fa9a7adaa15e6ecc54ba85485cb7ec4527", func := "loop.example/g00085/laws.FnSaved", spec := "fnSaved", named := ["loop.example/g00085/impl.bitWeights"], apart := false, laid := [("loop.example/g00085/impl.bitWeights", laid_loop_example_g00085_impl_bitWeights)], narrowed := true }
def FnSavedUptoSaid : Prop := fnSavedUptoRow.holds Tryd.pinned (OpenSpec.upto fnSavedSpec)

end Rows
end Go.Proofs.YtlbkhiphnllfpaaDoor
