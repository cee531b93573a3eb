/-
  NARROWER THAN 'FOR EVERY INPUT', by the rows' own cells (each row's printed sentence says how): FnExactLaneOk: laid · FnExactLaneDigits: laid · FnExactLanePack: laid · FnExactRecode: laid · FnExactLaneAdd: laid.
  DERIVED. THE GIVEN ROWS OF THIS SEAT. 5 by the template 'for every input the law returns true; each argument reads behind the call as it read before'; 0 by the template 'total and deterministic' (their statements: YtlbkhiphnllfpahDoorTotals.lean).
  GIVEN WITH THE SEED: the statements are not yours to turn. If you find one false, say at which input.
  Laid BY PROGRAM, IN A SANDBOX (cutbox-rows.mjs): the forced cells as the released guide's own fill.sh prints them over the translation 8c66bfa14d5f3d16… (all of the seat's roots in one cut). By AI agents, Wed Nov 11 2026. No macro, syntax, notation, axiom, sorry.
-/
import Derived.Test.YtlbkhiphnllfpahDoorChecked
import GoSem.Claim
import GoSem.ClaimJoined
import GoSem.ClaimMapViews
import Derived.JoinedTies
import Derived.KernelRfl
namespace Go.Proofs.YtlbkhiphnllfpahDoor
/- THE CELL 'sum', in the pinned program and in every row, IS THE sha256 OF THE DUMP (.gsa) THAT YtlbkhiphnllfpahDoorProg.lean LOADS. Nothing in Lean hashes anything: it is a label: what it is worth is what the hold of that sum in a sandbox is worth. -/
noncomputable def Tryd.pinned : Pinned := { name := "ytlbkhiphnllfpahdoor", sum := "8c66bfa14d5f3d16ebc51a0568d416865d9add90b9d2cd1661923be91cf5bfc9", checked := Tryd.checked }
namespace Rows
def none {H : Type} : Left H := { results := [], args := [] }

/- WHAT THE LISTED PACKAGE-LEVEL VARIABLES READ AS WHEN THE CALL BEGINS. Each datum BY PROGRAM (the guide's laid-datum.mjs) off the statement by which the dump's own 'gosem.cut.vars' lays the variable. In a bare row this is a premise. The card (YtlbkhiphnllfpahDoorCards.lean) ties it to the program's text. -/
def laid_loop_example_g00085_impl_bitWeights {H : Type} : DataW H := .agg [.agg [.lit (.int .i64 8), .lit (.int .i64 4), .lit (.int .i64 2), .lit (.int .i64 1)], .agg [.lit (.int .i64 4), .lit (.int .i64 2), .lit (.int .i64 2), .lit (.int .i64 1)], .agg [.lit (.int .i64 5), .lit (.int .i64 2), .lit (.int .i64 1), .lit (.int .i64 1)]]

/-- 'laws.FnExactLaneOk': WHATEVER THE INPUT: true; the input reads as it did. -/
def fnExactLaneOkSpec : ChangeSpec := { name := "fnExactLaneOk", vars := ["loop.example/g00085/impl.bitWeights"], fn := fun _ => fun
  | [d1, d2, g1] => { results := [.lit (.bool true)], args := [d1, d2], vars := [g1] }
  | _ => none }
def fnExactLaneOkRow : OpenClaim := { program := "ytlbkhiphnllfpahdoor", sum := "8c66bfa14d5f3d16ebc51a0568d416865d9add90b9d2cd1661923be91cf5bfc9", func := "loop.example/g00085/laws.FnExactLaneOk", spec := "fnExactLaneOk", named := ["loop.example/g00085/impl.bitWeights"], apart := false, laid := [("loop.example/g00085/impl.bitWeights", laid_loop_example_g00085_impl_bitWeights)] }
def FnExactLaneOkSaid : Prop := fnExactLaneOkRow.holds Tryd.pinned (OpenSpec.ofChange fnExactLaneOkSpec)

/-- ITS FALSE NEIGHBOUR: 'it returns false'. Refute it at one input. -/
def fnExactLaneOkWrong : ChangeSpec := { name := "fnExactLaneOk", vars := ["loop.example/g00085/impl.bitWeights"], fn := fun _ => fun
  | [d1, d2, g1] => { results := [.lit (.bool false)], args := [d1, d2], vars := [g1] }
  | _ => none }
def FnExactLaneOkWrongFalsely : Prop := fnExactLaneOkRow.holds Tryd.pinned (OpenSpec.ofChange fnExactLaneOkWrong)

/-- 'laws.FnExactLaneDigits': WHATEVER THE INPUT: true; the input reads as it did. -/
def fnExactLaneDigitsSpec : ChangeSpec := { name := "fnExactLaneDigits", vars := ["loop.example/g00085/impl.bitWeights"], fn := fun _ => fun
  | [d1, d2, g1] => { results := [.lit (.bool true)], args := [d1, d2], vars := [g1] }
  | _ => none }
def fnExactLaneDigitsRow : OpenClaim := { program := "ytlbkhiphnllfpahdoor", sum := "8c66bfa14d5f3d16ebc51a0568d416865d9add90b9d2cd1661923be91cf5bfc9", func := "loop.example/g00085/laws.FnExactLaneDigits", spec := "fnExactLaneDigits", named := ["loop.example/g00085/impl.bitWeights"], apart := false, laid := [("loop.example/g00085/impl.bitWeights", laid_loop_example_g00085_impl_bitWeights)] }
def FnExactLaneDigitsSaid : Prop := fnExactLaneDigitsRow.holds Tryd.pinned (OpenSpec.ofChange fnExactLaneDigitsSpec)

/-- ITS FALSE NEIGHBOUR: 'it returns false'. Refute it at one input. -/
def fnExactLaneDigitsWrong : ChangeSpec := { name := "fnExactLaneDigits", vars := ["loop.example/g00085/impl.bitWeights"], fn := fun _ => fun
  | [d1, d2, g1] => { results := [.lit (.bool false)], args := [d1, d2], vars := [g1] }
  | _ => none }
def FnExactLaneDigitsWrongFalsely : Prop := fnExactLaneDigitsRow.holds Tryd.pinned (OpenSpec.ofChange fnExactLaneDigitsWrong)

/-- 'laws.FnExactLanePack': WHATEVER THE INPUT: true; the input reads as it did. -/
def fnExactLanePackSpec : ChangeSpec := { name := "fnExactLanePack", vars := ["loop.example/g00085/impl.bitWeights"], fn := fun _ => fun
  | [d1, d2, g1] => { results := [.lit (.bool true)], args := [d1, d2], vars := [g1] }
  | _ => none }
def fnExactLanePackRow : OpenClaim := { program := "ytlbkhiphnllfpahdoor", sum := "8c66bfa14d5f3d16ebc51a0568d416865d9add90b9d2cd1661923be91cf5bfc9", func := "loop.example/g00085/laws.FnExactLanePack", spec := "fnExactLanePack", named := ["loop.example/g00085/impl.bitWeights"], apart := false, laid := [("loop.example/g00085/impl.bitWeights", laid_loop_example_g00085_impl_bitWeights)] }
def FnExactLanePackSaid : Prop := fnExactLanePackRow.holds Tryd.pinned (OpenSpec.ofChange fnExactLanePackSpec)

/-- ITS FALSE NEIGHBOUR: 'it returns false'. Refute it at one input. -/
def fnExactLanePackWrong : ChangeSpec := { name := "fnExactLanePack", vars := ["loop.example/g00085/impl.bitWeights"], fn := fun _ => fun
  | [d1, d2, g1] => { results := [.lit (.bool false)], args := [d1, d2], vars := [g1] }
  | _ => none }
def FnExactLanePackWrongFalsely : Prop := fnExactLanePackRow.holds Tryd.pinned (OpenSpec.ofChange fnExactLanePackWrong)

/-- 'laws.FnExactRecode': WHATEVER THE INPUT: true; the input reads as it did. -/
def fnExactRecodeSpec : ChangeSpec := { name := "fnExactRecode", vars := ["loop.example/g00085/impl.bitWeights"], fn := fun _ => fun
  | [d1, d2, d3, g1] => { results := [.lit (.bool true)], args := [d1, d2, d3], vars := [g1] }
  | _ => none }
def fnExactRecodeRow : OpenClaim := { program := "ytlbkhiphnllfpahdoor", sum := "8c66bfa14d5f3d16ebc51a0568d416865d9add90b9d2cd1661923be91cf5bfc9", func := "loop.example/g00085/laws.FnExactRecode", spec := "fnExactRecode", named := ["loop.example/g00085/impl.bitWeights"], apart := false, laid := [("loop.example/g00085/impl.bitWeights", laid_loop_example_g00085_impl_bitWeights)] }
def FnExactRecodeSaid : Prop := fnExactRecodeRow.holds Tryd.pinned (OpenSpec.ofChange fnExactRecodeSpec)

/-- ITS FALSE NEIGHBOUR: 'it returns false'. Refute it at one input. -/
def fnExactRecodeWrong : ChangeSpec := { name := "fnExactRecode", vars := ["loop.example/g00085/impl.bitWeights"], fn := fun _ => fun
  | [d1, d2, d3, g1] => { results := [.lit (.bool false)], args := [d1, d2, d3], vars := [g1] }
  | _ => none }
def FnExactRecodeWrongFalsely : Prop := fnExactRecodeRow.holds Tryd.pinned (OpenSpec.ofChange fnExactRecodeWrong)

/-- 'laws.FnExactLaneAdd': WHATEVER THE INPUT: true; the input reads as it did. -/
def fnExactLaneAddSpec : ChangeSpec := { name := "fnExactLaneAdd", vars := ["loop.example/g00085/impl.bitWeights"], fn := fun _ => fun
  | [d1, d2, d3, g1] => { results := [.lit (.bool true)], args := [d1, d2, d3], vars := [g1] }
  | _ => none }
def fnExactLaneAddRow : OpenClaim := { program := "ytlbkhiphnllfpahdoor", sum := "8c66bfa14d5f3d16ebc51a0568d416865d9add90b9d2cd1661923be91cf5bfc9", func := "loop.example/g00085/laws.FnExactLaneAdd", spec := "fnExactLaneAdd", named := ["loop.example/g00085/impl.bitWeights"], apart := false, laid := [("loop.example/g00085/impl.bitWeights", laid_loop_example_g00085_impl_bitWeights)] }
def FnExactLaneAddSaid : Prop := fnExactLaneAddRow.holds Tryd.pinned (OpenSpec.ofChange fnExactLaneAddSpec)

/-- ITS FALSE NEIGHBOUR: 'it returns false'. Refute it at one input. -/
def fnExactLaneAddWrong : ChangeSpec := { name := "fnExactLaneAdd", vars := ["loop.example/g00085/impl.bitWeights"], fn := fun _ => fun
  | [d1, d2, d3, g1] => { results := [.lit (.bool false)], args := [d1, d2, d3], vars := [g1] }
  | _ => none }
def FnExactLaneAddWrongFalsely : Prop := fnExactLaneAddRow.holds Tryd.pinned (OpenSpec.ofChange fnExactLaneAddWrong)

/- THE SECOND FORM. 'bulk': how many values and letters a reading holds, each counted each time it is reached (what is shared counts as often as it is met; a slice's spare places count too). A statement '..UptoSaid' is the law's where the arguments, and the package variables that the reading takes, are together of bulk at most 1048576: NARROWER than '..Said'. Prove '..Said' where nothing that the law and all that it calls make is longer than what came in: it says more and counts as full. Else prove '..UptoSaid'. A law counts once. -/
mutual
def uptoBulk {H : Type} : DataW H → Nat
  | .lit (.string bytes) => bytes.length + 1
  | .lit _ => 1
  | .nil => 1
  | .ptr d => uptoBulk d + 1
  | .slice elems spare => uptoBulkAll elems + uptoBulkAll spare + 1
  | .agg parts => uptoBulkAll parts + 1
  | .iface _ d => uptoBulk d + 1
  | .map entries => uptoBulkEntries entries + 1
  | .held _ => 1
def uptoBulkAll {H : Type} : List (DataW H) → Nat
  | [] => 0
  | d :: r => uptoBulk d + uptoBulkAll r
def uptoBulkEntries {H : Type} : List (Lit × DataW H) → Nat
  | [] => 0
  | x :: r => uptoBulkEntry x + uptoBulkEntries r
def uptoBulkEntry {H : Type} : Lit × DataW H → Nat
  | (.string bytes, d) => bytes.length + uptoBulk d + 1
  | (_, d) => uptoBulk d + 1
 end
def uptoSmall : (H : Type) → List (DataW H) → Bool := fun _ ds => decide (uptoBulkAll ds ≤ 1048576)
def OpenSpec.upto (s : _root_.Go.ChangeSpec) : _root_.Go.OpenSpec := { _root_.Go.OpenSpec.ofChange s with cond := some uptoSmall }

/-- 'laws.FnExactLaneOk', WHERE WHAT IT READS IS OF BULK AT MOST 1048576: true; the input reads as it did. -/
def fnExactLaneOkUptoRow : OpenClaim := { program := "ytlbkhiphnllfpahdoor", sum := "8c66bfa14d5f3d16ebc51a0568d416865d9add90b9d2cd1661923be91cf5bfc9", func := "loop.example/g00085/laws.FnExactLaneOk", spec := "fnExactLaneOk", named := ["loop.example/g00085/impl.bitWeights"], apart := false, laid := [("loop.example/g00085/impl.bitWeights", laid_loop_example_g00085_impl_bitWeights)], narrowed := true }
def FnExactLaneOkUptoSaid : Prop := fnExactLaneOkUptoRow.holds Tryd.pinned (OpenSpec.upto fnExactLaneOkSpec)

/-- 'laws.FnExactLaneDigits', WHERE WHAT IT READS IS OF BULK AT MOST 1048576: true; the input reads as it did. -/
def fnExactLaneDigitsUptoRow : OpenClaim := { program := "ytlbkhiphnllfpahdoor", sum := "8c66bfa14d5f3d16ebc51a0568d416865d9add90b9d2cd1661923be91cf5bfc9", func := "loop.example/g00085/laws.FnExactLaneDigits", spec := "fnExactLaneDigits", named := ["loop.example/g00085/impl.bitWeights"], apart := false, laid := [("loop.example/g00085/impl.bitWeights", laid_loop_example_g00085_impl_bitWeights)], narrowed := true }
def FnExactLaneDigitsUptoSaid : Prop := fnExactLaneDigitsUptoRow.holds Tryd.pinned (OpenSpec.upto fnExactLaneDigitsSpec)

/-- 'laws.FnExactLanePack', WHERE WHAT IT READS IS OF BULK AT MOST 1048576: true; the input reads as it did. -/
def fnExactLanePackUptoRow : OpenClaim := { program := "ytlbkhiphnllfpahdoor", sum := "8c66bfa14d5f3d16ebc51a0568d416865d9add90b9d2cd1661923be91cf5bfc9", func := "loop.example/g00085/laws.FnExactLanePack", spec := "fnExactLanePack", named := ["loop.example/g00085/impl.bitWeights"], apart := false, laid := [("loop.example/g00085/impl.bitWeights", laid_loop_example_g00085_impl_bitWeights)], narrowed := true }
def FnExactLanePackUptoSaid : Prop := fnExactLanePackUptoRow.holds Tryd.pinned (OpenSpec.upto fnExactLanePackSpec)

/-- 'laws.FnExactRecode', WHERE WHAT IT READS IS OF BULK AT MOST 1048576: true; the input reads as it did. -/
def fnExactRecodeUptoRow : OpenClaim := { program := "ytlbkhiphnllfpahdoor", sum := "8c66bfa14d5f3d16ebc51a0568d416865d9add90b9d2cd1661923be91cf5bfc9", func := "loop.example/g00085/laws.FnExactRecode", spec := "fnExactRecode", named := ["loop.example/g00085/impl.bitWeights"], apart := false, laid := [("loop.example/g00085/impl.bitWeights", laid_loop_example_g00085_impl_bitWeights)], narrowed := true }
def FnExactRecodeUptoSaid : Prop := fnExactRecodeUptoRow.holds Tryd.pinned (OpenSpec.upto fnExactRecodeSpec)

/-- 'laws.FnExactLaneAdd', WHERE WHAT IT READS IS OF BULK AT MOST 1048576: true; the input reads as it did. -/
def fnExactLaneAddUptoRow : OpenClaim := { program := "ytlbkhiphnllfpahdoor", sum := "8c66bfa14d5f3d16ebc51a0568d416865d9add90b9d2cd1661923be91cf5bfc9", func := "loop.example/g00085/laws.FnExactLaneAdd", spec := "fnExactLaneAdd", named := ["loop.example/g00085/impl.bitWeights"], apart := false, laid := [("loop.example/g00085/impl.bitWeights", laid_loop_example_g00085_impl_bitWeights)], narrowed := true }
def FnExactLaneAddUptoSaid : Prop := fnExactLaneAddUptoRow.holds Tryd.pinned (OpenSpec.upto fnExactLaneAddSpec)

end Rows
end Go.Proofs.YtlbkhiphnllfpahDoor
