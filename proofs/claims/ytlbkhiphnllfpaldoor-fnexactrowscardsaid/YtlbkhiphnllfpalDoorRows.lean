/-
  NARROWER THAN 'FOR EVERY INPUT', by the rows' own cells (each row's printed sentence says how): FnExactRows: laid · FnExactColumn: laid · FnExactSquare: laid · FnExactPowerOf: laid.
  DERIVED. THE GIVEN ROWS OF THIS SEAT. 4 by the template 'for every input the law returns true; each argument reads behind the call as it read before'; 0 by the template 'total and deterministic' (their statements: YtlbkhiphnllfpalDoorTotals.lean).
  GIVEN WITH THE SEED: the statements are not yours to turn. If you find one false, say at which input.
  Laid BY PROGRAM, IN A SANDBOX (cutbox-rows.mjs): the forced cells as the released guide's own fill.sh prints them over the translation afa337cc3210bfd2… (all of the seat's roots in one cut). By AI agents, Wed Nov 11 2026. No macro, syntax, notation, axiom, sorry.
-/
import Derived.Test.YtlbkhiphnllfpalDoorChecked
import GoSem.Claim
import GoSem.ClaimJoined
import GoSem.ClaimMapViews
import Derived.JoinedTies
import Derived.KernelRfl
namespace Go.Proofs.YtlbkhiphnllfpalDoor
/- THE CELL 'sum', in the pinned program and in every row, IS THE sha256 OF THE DUMP (.gsa) THAT YtlbkhiphnllfpalDoorProg.lean LOADS. Nothing in Lean hashes anything: it is a label: what it is worth is what the hold of that sum in a sandbox is worth. -/
noncomputable def Tryd.pinned : Pinned := { name := "ytlbkhiphnllfpaldoor", sum := "afa337cc3210bfd2ca7595691d9131a9160b739919f501befd8e6583b33c2681", checked := Tryd.checked }
namespace Rows
def none {H : Type} : Left H := { results := [], args := [] }

/- WHAT THE LISTED PACKAGE-LEVEL VARIABLES READ AS WHEN THE CALL BEGINS. Each datum BY PROGRAM (the guide's laid-datum.mjs) off the statement by which the dump's own 'gosem.cut.vars' lays the variable. In a bare row this is a premise. The card (YtlbkhiphnllfpalDoorCards.lean) ties it to the program's text. -/
def laid_loop_example_g00085_impl_bitWeights {H : Type} : DataW H := .agg [.agg [.lit (.int .i64 8), .lit (.int .i64 4), .lit (.int .i64 2), .lit (.int .i64 1)], .agg [.lit (.int .i64 4), .lit (.int .i64 2), .lit (.int .i64 2), .lit (.int .i64 1)], .agg [.lit (.int .i64 5), .lit (.int .i64 2), .lit (.int .i64 1), .lit (.int .i64 1)]]

/-- 'laws.FnExactRows': WHATEVER THE INPUT: true; the input reads as it did. -/
def fnExactRowsSpec : ChangeSpec := { name := "fnExactRows", vars := ["loop.example/g00085/impl.bitWeights"], fn := fun _ => fun
  | [d1, d2, g1] => { results := [.lit (.bool true)], args := [d1, d2], vars := [g1] }
  | _ => none }
def fnExactRowsRow : OpenClaim := { program := "ytlbkhiphnllfpaldoor", sum := "afa337cc3210bfd2ca7595691d9131a9160b739919f501befd8e6583b33c2681", func := "loop.example/g00085/laws.FnExactRows", spec := "fnExactRows", unfollowed := true, recurses := true, named := ["loop.example/g00085/impl.bitWeights"], apart := false, laid := [("loop.example/g00085/impl.bitWeights", laid_loop_example_g00085_impl_bitWeights)] }
def FnExactRowsSaid : Prop := fnExactRowsRow.holds Tryd.pinned (OpenSpec.ofChange fnExactRowsSpec)

/-- ITS FALSE NEIGHBOUR: 'it returns false'. Refute it at one input. -/
def fnExactRowsWrong : ChangeSpec := { name := "fnExactRows", vars := ["loop.example/g00085/impl.bitWeights"], fn := fun _ => fun
  | [d1, d2, g1] => { results := [.lit (.bool false)], args := [d1, d2], vars := [g1] }
  | _ => none }
def FnExactRowsWrongFalsely : Prop := fnExactRowsRow.holds Tryd.pinned (OpenSpec.ofChange fnExactRowsWrong)

/-- 'laws.FnExactColumn': WHATEVER THE INPUT: true; the input reads as it did. -/
def fnExactColumnSpec : ChangeSpec := { name := "fnExactColumn", vars := ["loop.example/g00085/impl.bitWeights"], fn := fun _ => fun
  | [d1, d2, d3, g1] => { results := [.lit (.bool true)], args := [d1, d2, d3], vars := [g1] }
  | _ => none }
def fnExactColumnRow : OpenClaim := { program := "ytlbkhiphnllfpaldoor", sum := "afa337cc3210bfd2ca7595691d9131a9160b739919f501befd8e6583b33c2681", func := "loop.example/g00085/laws.FnExactColumn", spec := "fnExactColumn", named := ["loop.example/g00085/impl.bitWeights"], apart := false, laid := [("loop.example/g00085/impl.bitWeights", laid_loop_example_g00085_impl_bitWeights)] }
def FnExactColumnSaid : Prop := fnExactColumnRow.holds Tryd.pinned (OpenSpec.ofChange fnExactColumnSpec)

/-- ITS FALSE NEIGHBOUR: 'it returns false'. Refute it at one input. -/
def fnExactColumnWrong : ChangeSpec := { name := "fnExactColumn", vars := ["loop.example/g00085/impl.bitWeights"], fn := fun _ => fun
  | [d1, d2, d3, g1] => { results := [.lit (.bool false)], args := [d1, d2, d3], vars := [g1] }
  | _ => none }
def FnExactColumnWrongFalsely : Prop := fnExactColumnRow.holds Tryd.pinned (OpenSpec.ofChange fnExactColumnWrong)

/-- 'laws.FnExactSquare': WHATEVER THE INPUT: true; the input reads as it did. -/
def fnExactSquareSpec : ChangeSpec := { name := "fnExactSquare", vars := ["loop.example/g00085/impl.bitWeights"], fn := fun _ => fun
  | [d, g1] => { results := [.lit (.bool true)], args := [d], vars := [g1] }
  | _ => none }
def fnExactSquareRow : OpenClaim := { program := "ytlbkhiphnllfpaldoor", sum := "afa337cc3210bfd2ca7595691d9131a9160b739919f501befd8e6583b33c2681", func := "loop.example/g00085/laws.FnExactSquare", spec := "fnExactSquare", unfollowed := true, recurses := true, named := ["loop.example/g00085/impl.bitWeights"], apart := false, laid := [("loop.example/g00085/impl.bitWeights", laid_loop_example_g00085_impl_bitWeights)] }
def FnExactSquareSaid : Prop := fnExactSquareRow.holds Tryd.pinned (OpenSpec.ofChange fnExactSquareSpec)

/-- ITS FALSE NEIGHBOUR: 'it returns false'. Refute it at one input. -/
def fnExactSquareWrong : ChangeSpec := { name := "fnExactSquare", vars := ["loop.example/g00085/impl.bitWeights"], fn := fun _ => fun
  | [d, g1] => { results := [.lit (.bool false)], args := [d], vars := [g1] }
  | _ => none }
def FnExactSquareWrongFalsely : Prop := fnExactSquareRow.holds Tryd.pinned (OpenSpec.ofChange fnExactSquareWrong)

/-- 'laws.FnExactPowerOf': WHATEVER THE INPUT: true; the input reads as it did. -/
def fnExactPowerOfSpec : ChangeSpec := { name := "fnExactPowerOf", vars := ["loop.example/g00085/impl.bitWeights"], fn := fun _ => fun
  | [d1, d2, g1] => { results := [.lit (.bool true)], args := [d1, d2], vars := [g1] }
  | _ => none }
def fnExactPowerOfRow : OpenClaim := { program := "ytlbkhiphnllfpaldoor", sum := "afa337cc3210bfd2ca7595691d9131a9160b739919f501befd8e6583b33c2681", func := "loop.example/g00085/laws.FnExactPowerOf", spec := "fnExactPowerOf", unfollowed := true, recurses := true, named := ["loop.example/g00085/impl.bitWeights"], apart := false, laid := [("loop.example/g00085/impl.bitWeights", laid_loop_example_g00085_impl_bitWeights)] }
def FnExactPowerOfSaid : Prop := fnExactPowerOfRow.holds Tryd.pinned (OpenSpec.ofChange fnExactPowerOfSpec)

/-- ITS FALSE NEIGHBOUR: 'it returns false'. Refute it at one input. -/
def fnExactPowerOfWrong : ChangeSpec := { name := "fnExactPowerOf", vars := ["loop.example/g00085/impl.bitWeights"], fn := fun _ => fun
  | [d1, d2, g1] => { results := [.lit (.bool false)], args := [d1, d2], vars := [g1] }
  | _ => none }
def FnExactPowerOfWrongFalsely : Prop := fnExactPowerOfRow.holds Tryd.pinned (OpenSpec.ofChange fnExactPowerOfWrong)

/- THE SECOND FORM. 'bulk': how many values and letters a reading holds, each counted each time it is reached (what is shared counts as often as it is met; a slice's spare places count too). A statement '..UptoSaid' is the law's where the arguments, and the package variables that the reading takes, are together of bulk at most 1048576: NARROWER than '..Said'. Prove '..Said' where nothing that the law and all that it calls make is longer than what came in: it says more and counts as full. Else prove '..UptoSaid'. A law counts once. -/
mutual
def uptoBulk {H : Type} : DataW H → Nat
  | .lit (.string bytes) => bytes.length + 1
  | .lit _ => 1
  | .nil => 1
  | .ptr d => uptoBulk d + 1
  | .slice elems spare => uptoBulkAll elems + uptoBulkAll spare + 1
  | .agg parts => uptoBulkAll parts + 1
  | .iface _ d => uptoBulk d + 1
  | .map entries => uptoBulkEntries entries + 1
  | .held _ => 1
def uptoBulkAll {H : Type} : List (DataW H) → Nat
  | [] => 0
  | d :: r => uptoBulk d + uptoBulkAll r
def uptoBulkEntries {H : Type} : List (Lit × DataW H) → Nat
  | [] => 0
  | x :: r => uptoBulkEntry x + uptoBulkEntries r
def uptoBulkEntry {H : Type} : Lit × DataW H → Nat
  | (.string bytes, d) => bytes.length + uptoBulk d + 1
  | (_, d) => uptoBulk d + 1
 end
def uptoSmall : (H : Type) → List (DataW H) → Bool := fun _ ds => decide (uptoBulkAll ds ≤ 1048576)
def OpenSpec.upto (s : _root_.Go.ChangeSpec) : _root_.Go.OpenSpec := { _root_.Go.OpenSpec.ofChange s with cond := some uptoSmall }

/-- 'laws.FnExactRows', WHERE WHAT IT READS IS OF BULK AT MOST 1048576: true; the input reads as it did. -/
def fnExactRowsUptoRow : OpenClaim := { program := "ytlbkhiphnllfpaldoor", sum := "afa337cc3210bfd2ca7595691d9131a9160b739919f501befd8e6583b33c2681", func := "loop.example/g00085/laws.FnExactRows", spec := "fnExactRows", unfollowed := true, recurses := true, named := ["loop.example/g00085/impl.bitWeights"], apart := false, laid := [("loop.example/g00085/impl.bitWeights", laid_loop_example_g00085_impl_bitWeights)], narrowed := true }
def FnExactRowsUptoSaid : Prop := fnExactRowsUptoRow.holds Tryd.pinned (OpenSpec.upto fnExactRowsSpec)

/-- 'laws.FnExactColumn', WHERE WHAT IT READS IS OF BULK AT MOST 1048576: true; the input reads as it did. -/
def fnExactColumnUptoRow : OpenClaim := { program := "ytlbkhiphnllfpaldoor", sum := "afa337cc3210bfd2ca7595691d9131a9160b739919f501befd8e6583b33c2681", func := "loop.example/g00085/laws.FnExactColumn", spec := "fnExactColumn", named := ["loop.example/g00085/impl.bitWeights"], apart := false, laid := [("loop.example/g00085/impl.bitWeights", laid_loop_example_g00085_impl_bitWeights)], narrowed := true }
def FnExactColumnUptoSaid : Prop := fnExactColumnUptoRow.holds Tryd.pinned (OpenSpec.upto fnExactColumnSpec)

/-- 'laws.FnExactSquare', WHERE WHAT IT READS IS OF BULK AT MOST 1048576: true; the input reads as it did. -/
def fnExactSquareUptoRow : OpenClaim := { program := "ytlbkhiphnllfpaldoor", sum := "afa337cc3210bfd2ca7595691d9131a9160b739919f501befd8e6583b33c2681", func := "loop.example/g00085/laws.FnExactSquare", spec := "fnExactSquare", unfollowed := true, recurses := true, named := ["loop.example/g00085/impl.bitWeights"], apart := false, laid := [("loop.example/g00085/impl.bitWeights", laid_loop_example_g00085_impl_bitWeights)], narrowed := true }
def FnExactSquareUptoSaid : Prop := fnExactSquareUptoRow.holds Tryd.pinned (OpenSpec.upto fnExactSquareSpec)

/-- 'laws.FnExactPowerOf', WHERE WHAT IT READS IS OF BULK AT MOST 1048576: true; the input reads as it did. -/
def fnExactPowerOfUptoRow : OpenClaim := { program := "ytlbkhiphnllfpaldoor", sum := "afa337cc3210bfd2ca7595691d9131a9160b739919f501befd8e6583b33c2681", func := "loop.example/g00085/laws.FnExactPowerOf", spec := "fnExactPowerOf", unfollowed := true, recurses := true, named := ["loop.example/g00085/impl.bitWeights"], apart := false, laid := [("loop.example/g00085/impl.bitWeights", laid_loop_example_g00085_impl_bitWeights)], narrowed := true }
def FnExactPowerOfUptoSaid : Prop := fnExactPowerOfUptoRow.holds Tryd.pinned (OpenSpec.upto fnExactPowerOfSpec)

end Rows
end Go.Proofs.YtlbkhiphnllfpalDoor
