/-
  NARROWER THAN 'FOR EVERY INPUT', by the rows' own cells (each row's printed sentence says how): FnExactDouble: laid · FnExactFive: laid · FnExactMultiple: laid · FnExactSignedMultiple: laid · FnExactProduct: laid.
  DERIVED. THE GIVEN ROWS OF THIS SEAT. 5 by the template 'for every input the law returns true; each argument reads behind the call as it read before'; 0 by the template 'total and deterministic' (their statements: YtlbkhiphnllfpakDoorTotals.lean).
  GIVEN WITH THE SEED: the statements are not yours to turn. If you find one false, say at which input.
  Laid BY PROGRAM, IN A SANDBOX (cutbox-rows.mjs): the forced cells as the released guide's own fill.sh prints them over the translation c8befb6eaadf82b8… (all of the seat's roots in one cut). By AI agents, Wed Nov 11 2026. No macro, syntax, notation, axiom, sorry.
-/
import Derived.Test.YtlbkhiphnllfpakDoorChecked
import GoSem.Claim
import GoSem.ClaimJoined
import GoSem.ClaimMapViews
import Derived.JoinedTies
import Derived.KernelRfl
namespace Go.Proofs.YtlbkhiphnllfpakDoor
/- THE CELL 'sum', in the pinned program and in every row, IS THE sha256 OF THE DUMP (.gsa) THAT YtlbkhiphnllfpakDoorProg.lean LOADS. Nothing in Lean hashes anything: it is a label: what it is worth is what the hold of that sum in a sandbox is worth. -/
noncomputable def Tryd.pinned : Pinned := { name := "ytlbkhiphnllfpakdoor", sum := "c8befb6eaadf82b8fe0f68961a1e88a2c6fc9e755bc035cfd7f3352d0d3709db", checked := Tryd.checked }
namespace Rows
def none {H : Type} : Left H := { results := [], args := [] }

/- WHAT THE LISTED PACKAGE-LEVEL VARIABLES READ AS WHEN THE CALL BEGINS. Each datum BY PROGRAM (the guide's laid-datum.mjs) off the statement by which the dump's own 'gosem.cut.vars' lays the variable. In a bare row this is a premise. The card (YtlbkhiphnllfpakDoorCards.lean) ties it to the program's text. -/
def laid_loop_example_g00085_impl_bitWeights {H : Type} : DataW H := .agg [.agg [.lit (.int .i64 8), .lit (.int .i64 4), .lit (.int .i64 2), .lit (.int .i64 1)], .agg [.lit (.int .i64 4), .lit (.int .i64 2), .lit (.int .i64 2), .lit (.int .i64 1)], .agg [.lit (.int .i64 5), .lit (.int .i64 2), .lit (.int .i64 1), .lit (.int .i64 1)]]

/-- 'laws.FnExactDouble': WHATEVER THE INPUT: true; the input reads as it did. -/
def fnExactDoubleSpec : ChangeSpec := { name := "fnExactDouble", vars := ["loop.example/g00085/impl.bitWeights"], fn := fun _ => fun
  | [d, g1] => { results := [.lit (.bool true)], args := [d], vars := [g1] }
  | _ => none }
def fnExactDoubleRow : OpenClaim := { program := "ytlbkhiphnllfpakdoor", sum := "c8befb6eaadf82b8fe0f68961a1e88a2c6fc9e755bc035cfd7f3352d0d3709db", func := "loop.example/g00085/laws.FnExactDouble", spec := "fnExactDouble", named := ["loop.example/g00085/impl.bitWeights"], apart := false, laid := [("loop.example/g00085/impl.bitWeights", laid_loop_example_g00085_impl_bitWeights)] }
def FnExactDoubleSaid : Prop := fnExactDoubleRow.holds Tryd.pinned (OpenSpec.ofChange fnExactDoubleSpec)

/-- ITS FALSE NEIGHBOUR: 'it returns false'. Refute it at one input. -/
def fnExactDoubleWrong : ChangeSpec := { name := "fnExactDouble", vars := ["loop.example/g00085/impl.bitWeights"], fn := fun _ => fun
  | [d, g1] => { results := [.lit (.bool false)], args := [d], vars := [g1] }
  | _ => none }
def FnExactDoubleWrongFalsely : Prop := fnExactDoubleRow.holds Tryd.pinned (OpenSpec.ofChange fnExactDoubleWrong)

/-- 'laws.FnExactFive': WHATEVER THE INPUT: true; the input reads as it did. -/
def fnExactFiveSpec : ChangeSpec := { name := "fnExactFive", vars := ["loop.example/g00085/impl.bitWeights"], fn := fun _ => fun
  | [d, g1] => { results := [.lit (.bool true)], args := [d], vars := [g1] }
  | _ => none }
def fnExactFiveRow : OpenClaim := { program := "ytlbkhiphnllfpakdoor", sum := "c8befb6eaadf82b8fe0f68961a1e88a2c6fc9e755bc035cfd7f3352d0d3709db", func := "loop.example/g00085/laws.FnExactFive", spec := "fnExactFive", named := ["loop.example/g00085/impl.bitWeights"], apart := false, laid := [("loop.example/g00085/impl.bitWeights", laid_loop_example_g00085_impl_bitWeights)] }
def FnExactFiveSaid : Prop := fnExactFiveRow.holds Tryd.pinned (OpenSpec.ofChange fnExactFiveSpec)

/-- ITS FALSE NEIGHBOUR: 'it returns false'. Refute it at one input. -/
def fnExactFiveWrong : ChangeSpec := { name := "fnExactFive", vars := ["loop.example/g00085/impl.bitWeights"], fn := fun _ => fun
  | [d, g1] => { results := [.lit (.bool false)], args := [d], vars := [g1] }
  | _ => none }
def FnExactFiveWrongFalsely : Prop := fnExactFiveRow.holds Tryd.pinned (OpenSpec.ofChange fnExactFiveWrong)

/-- 'laws.FnExactMultiple': WHATEVER THE INPUT: true; the input reads as it did. -/
def fnExactMultipleSpec : ChangeSpec := { name := "fnExactMultiple", vars := ["loop.example/g00085/impl.bitWeights"], fn := fun _ => fun
  | [d1, d2, g1] => { results := [.lit (.bool true)], args := [d1, d2], vars := [g1] }
  | _ => none }
def fnExactMultipleRow : OpenClaim := { program := "ytlbkhiphnllfpakdoor", sum := "c8befb6eaadf82b8fe0f68961a1e88a2c6fc9e755bc035cfd7f3352d0d3709db", func := "loop.example/g00085/laws.FnExactMultiple", spec := "fnExactMultiple", named := ["loop.example/g00085/impl.bitWeights"], apart := false, laid := [("loop.example/g00085/impl.bitWeights", laid_loop_example_g00085_impl_bitWeights)] }
def FnExactMultipleSaid : Prop := fnExactMultipleRow.holds Tryd.pinned (OpenSpec.ofChange fnExactMultipleSpec)

/-- ITS FALSE NEIGHBOUR: 'it returns false'. Refute it at one input. -/
def fnExactMultipleWrong : ChangeSpec := { name := "fnExactMultiple", vars := ["loop.example/g00085/impl.bitWeights"], fn := fun _ => fun
  | [d1, d2, g1] => { results := [.lit (.bool false)], args := [d1, d2], vars := [g1] }
  | _ => none }
def FnExactMultipleWrongFalsely : Prop := fnExactMultipleRow.holds Tryd.pinned (OpenSpec.ofChange fnExactMultipleWrong)

/-- 'laws.FnExactSignedMultiple': WHATEVER THE INPUT: true; the input reads as it did. -/
def fnExactSignedMultipleSpec : ChangeSpec := { name := "fnExactSignedMultiple", vars := ["loop.example/g00085/impl.bitWeights"], fn := fun _ => fun
  | [d1, d2, g1] => { results := [.lit (.bool true)], args := [d1, d2], vars := [g1] }
  | _ => none }
def fnExactSignedMultipleRow : OpenClaim := { program := "ytlbkhiphnllfpakdoor", sum := "c8befb6eaadf82b8fe0f68961a1e88a2c6fc9e755bc035cfd7f3352d0d3709db", func := "loop.example/g00085/laws.FnExactSignedMultiple", spec := "fnExactSignedMultiple", named := ["loop.example/g00085/impl.bitWeights"], apart := false, laid := [("loop.example/g00085/impl.bitWeights", laid_loop_example_g00085_impl_bitWeights)] }
def FnExactSignedMultipleSaid : Prop := fnExactSignedMultipleRow.holds Tryd.pinned (OpenSpec.ofChange fnExactSignedMultipleSpec)

/-- ITS FALSE NEIGHBOUR: 'it returns false'. Refute it at one input. -/
def fnExactSignedMultipleWrong : ChangeSpec := { name := "fnExactSignedMultiple", vars := ["loop.example/g00085/impl.bitWeights"], fn := fun _ => fun
  | [d1, d2, g1] => { results := [.lit (.bool false)], args := [d1, d2], vars := [g1] }
  | _ => none }
def FnExactSignedMultipleWrongFalsely : Prop := fnExactSignedMultipleRow.holds Tryd.pinned (OpenSpec.ofChange fnExactSignedMultipleWrong)

/-- 'laws.FnExactProduct': WHATEVER THE INPUT: true; the input reads as it did. -/
def fnExactProductSpec : ChangeSpec := { name := "fnExactProduct", vars := ["loop.example/g00085/impl.bitWeights"], fn := fun _ => fun
  | [d1, d2, g1] => { results := [.lit (.bool true)], args := [d1, d2], vars := [g1] }
  | _ => none }
def fnExactProductRow : OpenClaim := { program := "ytlbkhiphnllfpakdoor", sum := "c8befb6eaadf82b8fe0f68961a1e88a2c6fc9e755bc035cfd7f3352d0d3709db", func := "loop.example/g00085/laws.FnExactProduct", spec := "fnExactProduct", unfollowed := true, recurses := true, named := ["loop.example/g00085/impl.bitWeights"], apart := false, laid := [("loop.example/g00085/impl.bitWeights", laid_loop_example_g00085_impl_bitWeights)] }
def FnExactProductSaid : Prop := fnExactProductRow.holds Tryd.pinned (OpenSpec.ofChange fnExactProductSpec)

/-- ITS FALSE NEIGHBOUR: 'it returns false'. Refute it at one input. -/
def fnExactProductWrong : ChangeSpec := { name := "fnExactProduct", vars := ["loop.example/g00085/impl.bitWeights"], fn := fun _ => fun
  | [d1, d2, g1] => { results := [.lit (.bool false)], args := [d1, d2], vars := [g1] }
  | _ => none }
def FnExactProductWrongFalsely : Prop := fnExactProductRow.holds Tryd.pinned (OpenSpec.ofChange fnExactProductWrong)

/- THE SECOND FORM. 'bulk': how many values and letters a reading holds, each counted each time it is reached (what is shared counts as often as it is met; a slice's spare places count too). A statement '..UptoSaid' is the law's where the arguments, and the package variables that the reading takes, are together of bulk at most 1048576: NARROWER than '..Said'. Prove '..Said' where nothing that the law and all that it calls make is longer than what came in: it says more and counts as full. Else prove '..UptoSaid'. A law counts once. -/
mutual
def uptoBulk {H : Type} : DataW H → Nat
  | .lit (.string bytes) => bytes.length + 1
  | .lit _ => 1
  | .nil => 1
  | .ptr d => uptoBulk d + 1
  | .slice elems spare => uptoBulkAll elems + uptoBulkAll spare + 1
  | .agg parts => uptoBulkAll parts + 1
  | .iface _ d => uptoBulk d + 1
  | .map entries => uptoBulkEntries entries + 1
  | .held _ => 1
def uptoBulkAll {H : Type} : List (DataW H) → Nat
  | [] => 0
  | d :: r => uptoBulk d + uptoBulkAll r
def uptoBulkEntries {H : Type} : List (Lit × DataW H) → Nat
  | [] => 0
  | x :: r => uptoBulkEntry x + uptoBulkEntries r
def uptoBulkEntry {H : Type} : Lit × DataW H → Nat
  | (.string bytes, d) => bytes.length + uptoBulk d + 1
  | (_, d) => uptoBulk d + 1
 end
def uptoSmall : (H : Type) → List (DataW H) → Bool := fun _ ds => decide (uptoBulkAll ds ≤ 1048576)
def OpenSpec.upto (s : _root_.Go.ChangeSpec) : _root_.Go.OpenSpec := { _root_.Go.OpenSpec.ofChange s with cond := some uptoSmall }

/-- 'laws.FnExactDouble', WHERE WHAT IT READS IS OF BULK AT MOST 1048576: true; the input reads as it did. -/
def fnExactDoubleUptoRow : OpenClaim := { program := "ytlbkhiphnllfpakdoor", sum := "c8befb6eaadf82b8fe0f68961a1e88a2c6fc9e755bc035cfd7f3352d0d3709db", func := "loop.example/g00085/laws.FnExactDouble", spec := "fnExactDouble", named := ["loop.example/g00085/impl.bitWeights"], apart := false, laid := [("loop.example/g00085/impl.bitWeights", laid_loop_example_g00085_impl_bitWeights)], narrowed := true }
def FnExactDoubleUptoSaid : Prop := fnExactDoubleUptoRow.holds Tryd.pinned (OpenSpec.upto fnExactDoubleSpec)

/-- 'laws.FnExactFive', WHERE WHAT IT READS IS OF BULK AT MOST 1048576: true; the input reads as it did. -/
def fnExactFiveUptoRow : OpenClaim := { program := "ytlbkhiphnllfpakdoor", sum := "c8befb6eaadf82b8fe0f68961a1e88a2c6fc9e755bc035cfd7f3352d0d3709db", func := "loop.example/g00085/laws.FnExactFive", spec := "fnExactFive", named := ["loop.example/g00085/impl.bitWeights"], apart := false, laid := [("loop.example/g00085/impl.bitWeights", laid_loop_example_g00085_impl_bitWeights)], narrowed := true }
def FnExactFiveUptoSaid : Prop := fnExactFiveUptoRow.holds Tryd.pinned (OpenSpec.upto fnExactFiveSpec)

/-- 'laws.FnExactMultiple', WHERE WHAT IT READS IS OF BULK AT MOST 1048576: true; the input reads as it did. -/
def fnExactMultipleUptoRow : OpenClaim := { program := "ytlbkhiphnllfpakdoor", sum := "c8befb6eaadf82b8fe0f68961a1e88a2c6fc9e755bc035cfd7f3352d0d3709db", func := "loop.example/g00085/laws.FnExactMultiple", spec := "fnExactMultiple", named := ["loop.example/g00085/impl.bitWeights"], apart := false, laid := [("loop.example/g00085/impl.bitWeights", laid_loop_example_g00085_impl_bitWeights)], narrowed := true }
def FnExactMultipleUptoSaid : Prop := fnExactMultipleUptoRow.holds Tryd.pinned (OpenSpec.upto fnExactMultipleSpec)

/-- 'laws.FnExactSignedMultiple', WHERE WHAT IT READS IS OF BULK AT MOST 1048576: true; the input reads as it did. -/
def fnExactSignedMultipleUptoRow : OpenClaim := { program := "ytlbkhiphnllfpakdoor", sum := "c8befb6eaadf82b8fe0f68961a1e88a2c6fc9e755bc035cfd7f3352d0d3709db", func := "loop.example/g00085/laws.FnExactSignedMultiple", spec := "fnExactSignedMultiple", named := ["loop.example/g00085/impl.bitWeights"], apart := false, laid := [("loop.example/g00085/impl.bitWeights", laid_loop_example_g00085_impl_bitWeights)], narrowed := true }
def FnExactSignedMultipleUptoSaid : Prop := fnExactSignedMultipleUptoRow.holds Tryd.pinned (OpenSpec.upto fnExactSignedMultipleSpec)

/-- 'laws.FnExactProduct', WHERE WHAT IT READS IS OF BULK AT MOST 1048576: true; the input reads as it did. -/
def fnExactProductUptoRow : OpenClaim := { program := "ytlbkhiphnllfpakdoor", sum := "c8befb6eaadf82b8fe0f68961a1e88a2c6fc9e755bc035cfd7f3352d0d3709db", func := "loop.example/g00085/laws.FnExactProduct", spec := "fnExactProduct", unfollowed := true, recurses := true, named := ["loop.example/g00085/impl.bitWeights"], apart := false, laid := [("loop.example/g00085/impl.bitWeights", laid_loop_example_g00085_impl_bitWeights)], narrowed := true }
def FnExactProductUptoSaid : Prop := fnExactProductUptoRow.holds Tryd.pinned (OpenSpec.upto fnExactProductSpec)

end Rows
end Go.Proofs.YtlbkhiphnllfpakDoor
