/-
  NARROWER THAN 'FOR EVERY INPUT', by the rows' own cells (each row's printed sentence says how): FnExactDeclet: laid · FnExactUndeclet: laid · FnExactDeclets: laid.
  DERIVED. THE GIVEN ROWS OF THIS SEAT. 3 by the template 'for every input the law returns true; each argument reads behind the call as it read before'; 0 by the template 'total and deterministic' (their statements: YtmeicjbeibmmganDoorTotals.lean).
  GIVEN WITH THE SEED: the statements are not yours to turn. If you find one false, say at which input.
  Laid BY PROGRAM, IN A SANDBOX (cutbox-rows.mjs): the forced cells as the released guide's own fill.sh prints them over the translation 5e65da3dba153060… (all of the seat's roots in one cut). By AI agents, Wed Nov 11 2026. No macro, syntax, notation, axiom, sorry.
-/
import Derived.Test.YtmeicjbeibmmganDoorChecked
import GoSem.Claim
import GoSem.ClaimJoined
import GoSem.ClaimMapViews
import Derived.JoinedTies
import Derived.KernelRfl
namespace Go.Proofs.YtmeicjbeibmmganDoor
/- THE CELL 'sum', in the pinned program and in every row, IS THE sha256 OF THE DUMP (.gsa) THAT YtmeicjbeibmmganDoorProg.lean LOADS. Nothing in Lean hashes anything: it is a label: what it is worth is what the hold of that sum in a sandbox is worth. -/
noncomputable def Tryd.pinned : Pinned := { name := "ytmeicjbeibmmgandoor", sum := "5e65da3dba1530608909a6554fdfc640dbe1d45ffba8d63b316a37642fdd9acf", checked := Tryd.checked }
namespace Rows
def none {H : Type} : Left H := { results := [], args := [] }

/- WHAT THE LISTED PACKAGE-LEVEL VARIABLES READ AS WHEN THE CALL BEGINS. Each datum BY PROGRAM (the guide's laid-datum.mjs) off the statement by which the dump's own 'gosem.cut.vars' lays the variable. In a bare row this is a premise. The card (YtmeicjbeibmmganDoorCards.lean) ties it to the program's text. -/
def laid_loop_example_g00085_impl_bitWeights {H : Type} : DataW H := .agg [.agg [.lit (.int .i64 8), .lit (.int .i64 4), .lit (.int .i64 2), .lit (.int .i64 1)], .agg [.lit (.int .i64 4), .lit (.int .i64 2), .lit (.int .i64 2), .lit (.int .i64 1)], .agg [.lit (.int .i64 5), .lit (.int .i64 2), .lit (.int .i64 1), .lit (.int .i64 1)]]
def laid_loop_example_g00085_impl_decletRows {H : Type} : DataW H := .agg [.lit (.string [98, 99, 100, 102, 103, 104, 48, 106, 107, 109]), .lit (.string [98, 99, 100, 102, 103, 104, 49, 48, 48, 109]), .lit (.string [98, 99, 100, 106, 107, 104, 49, 48, 49, 109]), .lit (.string [98, 99, 100, 49, 48, 104, 49, 49, 49, 109]), .lit (.string [106, 107, 100, 102, 103, 104, 49, 49, 48, 109]), .lit (.string [102, 103, 100, 48, 49, 104, 49, 49, 49, 109]), .lit (.string [106, 107, 100, 48, 48, 104, 49, 49, 49, 109]), .lit (.string [48, 48, 100, 49, 49, 104, 49, 49, 49, 109])]

/-- 'laws.FnExactDeclet': WHATEVER THE INPUT: true; the input reads as it did. -/
def fnExactDecletSpec : ChangeSpec := { name := "fnExactDeclet", vars := ["loop.example/g00085/impl.decletRows", "loop.example/g00085/impl.bitWeights"], fn := fun _ => fun
  | [d, g1, g2] => { results := [.lit (.bool true)], args := [d], vars := [g1, g2] }
  | _ => none }
def fnExactDecletRow : OpenClaim := { program := "ytmeicjbeibmmgandoor", sum := "5e65da3dba1530608909a6554fdfc640dbe1d45ffba8d63b316a37642fdd9acf", func := "loop.example/g00085/laws.FnExactDeclet", spec := "fnExactDeclet", inPlace := ["internal/bytealg.IndexByteString"], named := ["loop.example/g00085/impl.decletRows", "loop.example/g00085/impl.bitWeights"], apart := false, laid := [("loop.example/g00085/impl.bitWeights", laid_loop_example_g00085_impl_bitWeights), ("loop.example/g00085/impl.decletRows", laid_loop_example_g00085_impl_decletRows)] }
def FnExactDecletSaid : Prop := fnExactDecletRow.holds Tryd.pinned (OpenSpec.ofChange fnExactDecletSpec)

/-- ITS FALSE NEIGHBOUR: 'it returns false'. Refute it at one input. -/
def fnExactDecletWrong : ChangeSpec := { name := "fnExactDeclet", vars := ["loop.example/g00085/impl.decletRows", "loop.example/g00085/impl.bitWeights"], fn := fun _ => fun
  | [d, g1, g2] => { results := [.lit (.bool false)], args := [d], vars := [g1, g2] }
  | _ => none }
def FnExactDecletWrongFalsely : Prop := fnExactDecletRow.holds Tryd.pinned (OpenSpec.ofChange fnExactDecletWrong)

/-- 'laws.FnExactUndeclet': WHATEVER THE INPUT: true; the input reads as it did. -/
def fnExactUndecletSpec : ChangeSpec := { name := "fnExactUndeclet", vars := ["loop.example/g00085/impl.decletRows", "loop.example/g00085/impl.bitWeights"], fn := fun _ => fun
  | [d, g1, g2] => { results := [.lit (.bool true)], args := [d], vars := [g1, g2] }
  | _ => none }
def fnExactUndecletRow : OpenClaim := { program := "ytmeicjbeibmmgandoor", sum := "5e65da3dba1530608909a6554fdfc640dbe1d45ffba8d63b316a37642fdd9acf", func := "loop.example/g00085/laws.FnExactUndeclet", spec := "fnExactUndeclet", inPlace := ["internal/bytealg.IndexByteString"], named := ["loop.example/g00085/impl.decletRows", "loop.example/g00085/impl.bitWeights"], apart := false, laid := [("loop.example/g00085/impl.bitWeights", laid_loop_example_g00085_impl_bitWeights), ("loop.example/g00085/impl.decletRows", laid_loop_example_g00085_impl_decletRows)] }
def FnExactUndecletSaid : Prop := fnExactUndecletRow.holds Tryd.pinned (OpenSpec.ofChange fnExactUndecletSpec)

/-- ITS FALSE NEIGHBOUR: 'it returns false'. Refute it at one input. -/
def fnExactUndecletWrong : ChangeSpec := { name := "fnExactUndeclet", vars := ["loop.example/g00085/impl.decletRows", "loop.example/g00085/impl.bitWeights"], fn := fun _ => fun
  | [d, g1, g2] => { results := [.lit (.bool false)], args := [d], vars := [g1, g2] }
  | _ => none }
def FnExactUndecletWrongFalsely : Prop := fnExactUndecletRow.holds Tryd.pinned (OpenSpec.ofChange fnExactUndecletWrong)

/-- 'laws.FnExactDeclets': WHATEVER THE INPUT: true; the input reads as it did. -/
def fnExactDecletsSpec : ChangeSpec := { name := "fnExactDeclets", vars := ["loop.example/g00085/impl.decletRows", "loop.example/g00085/impl.bitWeights"], fn := fun _ => fun
  | [d, g1, g2] => { results := [.lit (.bool true)], args := [d], vars := [g1, g2] }
  | _ => none }
def fnExactDecletsRow : OpenClaim := { program := "ytmeicjbeibmmgandoor", sum := "5e65da3dba1530608909a6554fdfc640dbe1d45ffba8d63b316a37642fdd9acf", func := "loop.example/g00085/laws.FnExactDeclets", spec := "fnExactDeclets", inPlace := ["internal/bytealg.IndexByteString"], named := ["loop.example/g00085/impl.decletRows", "loop.example/g00085/impl.bitWeights"], apart := false, laid := [("loop.example/g00085/impl.bitWeights", laid_loop_example_g00085_impl_bitWeights), ("loop.example/g00085/impl.decletRows", laid_loop_example_g00085_impl_decletRows)] }
def FnExactDecletsSaid : Prop := fnExactDecletsRow.holds Tryd.pinned (OpenSpec.ofChange fnExactDecletsSpec)

/-- ITS FALSE NEIGHBOUR: 'it returns false'. Refute it at one input. -/
def fnExactDecletsWrong : ChangeSpec := { name := "fnExactDeclets", vars := ["loop.example/g00085/impl.decletRows", "loop.example/g00085/impl.bitWeights"], fn := fun _ => fun
  | [d, g1, g2] => { results := [.lit (.bool false)], args := [d], vars := [g1, g2] }
  | _ => none }
def FnExactDecletsWrongFalsely : Prop := fnExactDecletsRow.holds Tryd.pinned (OpenSpec.ofChange fnExactDecletsWrong)

/- THE SECOND FORM. 'bulk': how many values and letters a reading holds, each counted each time it is reached (what is shared counts as often as it is met; a slice's spare places count too). A statement '..UptoSaid' is the law's where the arguments, and the package variables that the reading takes, are together of bulk at most 1048576: NARROWER than '..Said'. Prove '..Said' where nothing that the law and all that it calls make is longer than what came in: it says more and counts as full. Else prove '..UptoSaid'. A law counts once. -/
mutual
def uptoBulk {H : Type} : DataW H → Nat
  | .lit (.string bytes) => bytes.length + 1
  | .lit _ => 1
  | .nil => 1
  | .ptr d => uptoBulk d + 1
  | .slice elems spare => uptoBulkAll elems + uptoBulkAll spare + 1
  | .agg parts => uptoBulkAll parts + 1
  | .iface _ d => uptoBulk d + 1
  | .map entries => uptoBulkEntries entries + 1
  | .held _ => 1
def uptoBulkAll {H : Type} : List (DataW H) → Nat
  | [] => 0
  | d :: r => uptoBulk d + uptoBulkAll r
def uptoBulkEntries {H : Type} : List (Lit × DataW H) → Nat
  | [] => 0
  | x :: r => uptoBulkEntry x + uptoBulkEntries r
def uptoBulkEntry {H : Type} : Lit × DataW H → Nat
  | (.string bytes, d) => bytes.length + uptoBulk d + 1
  | (_, d) => uptoBulk d + 1
 end
def uptoSmall : (H : Type) → List (DataW H) → Bool := fun _ ds => decide (uptoBulkAll ds ≤ 1048576)
def OpenSpec.upto (s : _root_.Go.ChangeSpec) : _root_.Go.OpenSpec := { _root_.Go.OpenSpec.ofChange s with cond := some uptoSmall }

/-- 'laws.FnExactDeclet', WHERE WHAT IT READS IS OF BULK AT MOST 1048576: true; the input reads as it did. -/
def fnExactDecletUptoRow : OpenClaim := { program := "ytmeicjbeibmmgandoor", sum := "5e65da3dba1530608909a6554fdfc640dbe1d45ffba8d63b316a37642fdd9acf", func := "loop.example/g00085/laws.FnExactDeclet", spec := "fnExactDeclet", inPlace := ["internal/bytealg.IndexByteString"], named := ["loop.example/g00085/impl.decletRows", "loop.example/g00085/impl.bitWeights"], apart := false, laid := [("loop.example/g00085/impl.bitWeights", laid_loop_example_g00085_impl_bitWeights), ("loop.example/g00085/impl.decletRows", laid_loop_example_g00085_impl_decletRows)], narrowed := true }
def FnExactDecletUptoSaid : Prop := fnExactDecletUptoRow.holds Tryd.pinned (OpenSpec.upto fnExactDecletSpec)

/-- 'laws.FnExactUndeclet', WHERE WHAT IT READS IS OF BULK AT MOST 1048576: true; the input reads as it did. -/
def fnExactUndecletUptoRow : OpenClaim := { program := "ytmeicjbeibmmgandoor", sum := "5e65da3dba1530608909a6554fdfc640dbe1d45ffba8d63b316a37642fdd9acf", func := "loop.example/g00085/laws.FnExactUndeclet", spec := "fnExactUndeclet", inPlace := ["internal/bytealg.IndexByteString"], named := ["loop.example/g00085/impl.decletRows", "loop.example/g00085/impl.bitWeights"], apart := false, laid := [("loop.example/g00085/impl.bitWeights", laid_loop_example_g00085_impl_bitWeights), ("loop.example/g00085/impl.decletRows", laid_loop_example_g00085_impl_decletRows)], narrowed := true }
def FnExactUndecletUptoSaid : Prop := fnExactUndecletUptoRow.holds Tryd.pinned (OpenSpec.upto fnExactUndecletSpec)

/-- 'laws.FnExactDeclets', WHERE WHAT IT READS IS OF BULK AT MOST 1048576: true; the input reads as it did. -/
def fnExactDecletsUptoRow : OpenClaim := { program := "ytmeicjbeibmmgandoor", sum := "5e65da3dba1530608909a6554fdfc640dbe1d45ffba8d63b316a37642fdd9acf", func := "loop.example/g00085/laws.FnExactDeclets", spec := "fnExactDeclets", inPlace := ["internal/bytealg.IndexByteString"], named := ["loop.example/g00085/impl.decletRows", "loop.example/g00085/impl.bitWeights"], apart := false, laid := [("loop.example/g00085/impl.bitWeights", laid_loop_example_g00085_impl_bitWeights), ("loop.example/g00085/impl.decletRows", laid_loop_example_g00085_impl_decletRows)], narrowed := true }
def FnExactDecletsUptoSaid : Prop := fnExactDecletsUptoRow.holds Tryd.pinned (OpenSpec.upto fnExactDecletsSpec)

end Rows
end Go.Proofs.YtmeicjbeibmmganDoor
