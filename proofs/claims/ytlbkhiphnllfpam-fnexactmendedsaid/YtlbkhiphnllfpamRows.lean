/-
  No cell of these rows narrows 'for every input' (looked for: loops, veiled, ifaces, maps, wideKeys, modest, calm, conditions, laid).
  DERIVED. THE GIVEN ROWS OF THIS SEAT. 6 by the template 'for every input the law returns true; each argument reads behind the call as it read before'; 0 by the template 'total and deterministic' (their statements: YtlbkhiphnllfpamTotals.lean).
  GIVEN WITH THE SEED: the statements are not yours to turn. If you find one false, say at which input.
  Laid BY PROGRAM, IN A SANDBOX (cutbox-rows.mjs): the forced cells as the released guide's own fill.sh prints them over the translation 4f39c8f767bac663… (all of the seat's roots in one cut). By AI agents, Wed Nov 11 2026. No macro, syntax, notation, axiom, sorry.
-/
import Derived.Test.YtlbkhiphnllfpamChecked
import GoSem.Claim
import GoSem.ClaimJoined
import GoSem.ClaimMapViews
import Derived.JoinedTies
import Derived.KernelRfl
namespace Go.Proofs.Ytlbkhiphnllfpam
/- THE CELL 'sum', in the pinned program and in every row, IS THE sha256 OF THE DUMP (.gsa) THAT YtlbkhiphnllfpamProg.lean LOADS. Nothing in Lean hashes anything: it is a label: what it is worth is what the hold of that sum in a sandbox is worth. -/
noncomputable def Try.pinned : Pinned := { name := "ytlbkhiphnllfpam", sum := "4f39c8f767bac663ab4b46e5de23a13fd4df33bc2996497fc543a16aba40d223", checked := Try.checked }
namespace Rows
def none {H : Type} : Left H := { results := [], args := [] }

/-- 'laws.FnExactBound': WHATEVER THE INPUT: true; the input reads as it did. -/
def fnExactBoundSpec : ChangeSpec := { name := "fnExactBound", fn := fun _ => fun
  | [d1, d2, d3, d4] => { results := [.lit (.bool true)], args := [d1, d2, d3, d4] }
  | _ => none }
def fnExactBoundRow : OpenClaim := { program := "ytlbkhiphnllfpam", sum := "4f39c8f767bac663ab4b46e5de23a13fd4df33bc2996497fc543a16aba40d223", func := "loop.example/g00085/laws.FnExactBound", spec := "fnExactBound", apart := false }
def FnExactBoundSaid : Prop := fnExactBoundRow.holds Try.pinned (OpenSpec.ofChange fnExactBoundSpec)

/-- ITS FALSE NEIGHBOUR: 'it returns false'. Refute it at one input. -/
def fnExactBoundWrong : ChangeSpec := { name := "fnExactBound", fn := fun _ => fun
  | [d1, d2, d3, d4] => { results := [.lit (.bool false)], args := [d1, d2, d3, d4] }
  | _ => none }
def FnExactBoundWrongFalsely : Prop := fnExactBoundRow.holds Try.pinned (OpenSpec.ofChange fnExactBoundWrong)

/-- 'laws.FnExactDivide': WHATEVER THE INPUT: true; the input reads as it did. -/
def fnExactDivideSpec : ChangeSpec := { name := "fnExactDivide", fn := fun _ => fun
  | [d1, d2, d3, d4] => { results := [.lit (.bool true)], args := [d1, d2, d3, d4] }
  | _ => none }
def fnExactDivideRow : OpenClaim := { program := "ytlbkhiphnllfpam", sum := "4f39c8f767bac663ab4b46e5de23a13fd4df33bc2996497fc543a16aba40d223", func := "loop.example/g00085/laws.FnExactDivide", spec := "fnExactDivide", unfollowed := true, recurses := true, leaving := true, apart := false }
def FnExactDivideSaid : Prop := fnExactDivideRow.holds Try.pinned (OpenSpec.ofChange fnExactDivideSpec)

/-- ITS FALSE NEIGHBOUR: 'it returns false'. Refute it at one input. -/
def fnExactDivideWrong : ChangeSpec := { name := "fnExactDivide", fn := fun _ => fun
  | [d1, d2, d3, d4] => { results := [.lit (.bool false)], args := [d1, d2, d3, d4] }
  | _ => none }
def FnExactDivideWrongFalsely : Prop := fnExactDivideRow.holds Try.pinned (OpenSpec.ofChange fnExactDivideWrong)

/-- 'laws.FnExactQuotient': WHATEVER THE INPUT: true; the input reads as it did. -/
def fnExactQuotientSpec : ChangeSpec := { name := "fnExactQuotient", fn := fun _ => fun
  | [d1, d2, d3] => { results := [.lit (.bool true)], args := [d1, d2, d3] }
  | _ => none }
def fnExactQuotientRow : OpenClaim := { program := "ytlbkhiphnllfpam", sum := "4f39c8f767bac663ab4b46e5de23a13fd4df33bc2996497fc543a16aba40d223", func := "loop.example/g00085/laws.FnExactQuotient", spec := "fnExactQuotient", unfollowed := true, recurses := true, leaving := true, apart := false }
def FnExactQuotientSaid : Prop := fnExactQuotientRow.holds Try.pinned (OpenSpec.ofChange fnExactQuotientSpec)

/-- ITS FALSE NEIGHBOUR: 'it returns false'. Refute it at one input. -/
def fnExactQuotientWrong : ChangeSpec := { name := "fnExactQuotient", fn := fun _ => fun
  | [d1, d2, d3] => { results := [.lit (.bool false)], args := [d1, d2, d3] }
  | _ => none }
def FnExactQuotientWrongFalsely : Prop := fnExactQuotientRow.holds Try.pinned (OpenSpec.ofChange fnExactQuotientWrong)

/-- 'laws.FnExactMended': WHATEVER THE INPUT: true; the input reads as it did. -/
def fnExactMendedSpec : ChangeSpec := { name := "fnExactMended", fn := fun _ => fun
  | [d1, d2] => { results := [.lit (.bool true)], args := [d1, d2] }
  | _ => none }
def fnExactMendedRow : OpenClaim := { program := "ytlbkhiphnllfpam", sum := "4f39c8f767bac663ab4b46e5de23a13fd4df33bc2996497fc543a16aba40d223", func := "loop.example/g00085/laws.FnExactMended", spec := "fnExactMended", apart := false }
def FnExactMendedSaid : Prop := fnExactMendedRow.holds Try.pinned (OpenSpec.ofChange fnExactMendedSpec)

/-- ITS FALSE NEIGHBOUR: 'it returns false'. Refute it at one input. -/
def fnExactMendedWrong : ChangeSpec := { name := "fnExactMended", fn := fun _ => fun
  | [d1, d2] => { results := [.lit (.bool false)], args := [d1, d2] }
  | _ => none }
def FnExactMendedWrongFalsely : Prop := fnExactMendedRow.holds Try.pinned (OpenSpec.ofChange fnExactMendedWrong)

/-- 'laws.FnExactRoot': WHATEVER THE INPUT: true; the input reads as it did. -/
def fnExactRootSpec : ChangeSpec := { name := "fnExactRoot", fn := fun _ => fun
  | [d1, d2] => { results := [.lit (.bool true)], args := [d1, d2] }
  | _ => none }
def fnExactRootRow : OpenClaim := { program := "ytlbkhiphnllfpam", sum := "4f39c8f767bac663ab4b46e5de23a13fd4df33bc2996497fc543a16aba40d223", func := "loop.example/g00085/laws.FnExactRoot", spec := "fnExactRoot", apart := false }
def FnExactRootSaid : Prop := fnExactRootRow.holds Try.pinned (OpenSpec.ofChange fnExactRootSpec)

/-- ITS FALSE NEIGHBOUR: 'it returns false'. Refute it at one input. -/
def fnExactRootWrong : ChangeSpec := { name := "fnExactRoot", fn := fun _ => fun
  | [d1, d2] => { results := [.lit (.bool false)], args := [d1, d2] }
  | _ => none }
def FnExactRootWrongFalsely : Prop := fnExactRootRow.holds Try.pinned (OpenSpec.ofChange fnExactRootWrong)

/-- 'laws.FnExactRootStep': WHATEVER THE INPUT: true; the input reads as it did. -/
def fnExactRootStepSpec : ChangeSpec := { name := "fnExactRootStep", fn := fun _ => fun
  | [d1, d2, d3] => { results := [.lit (.bool true)], args := [d1, d2, d3] }
  | _ => none }
def fnExactRootStepRow : OpenClaim := { program := "ytlbkhiphnllfpam", sum := "4f39c8f767bac663ab4b46e5de23a13fd4df33bc2996497fc543a16aba40d223", func := "loop.example/g00085/laws.FnExactRootStep", spec := "fnExactRootStep", apart := false }
def FnExactRootStepSaid : Prop := fnExactRootStepRow.holds Try.pinned (OpenSpec.ofChange fnExactRootStepSpec)

/-- ITS FALSE NEIGHBOUR: 'it returns false'. Refute it at one input. -/
def fnExactRootStepWrong : ChangeSpec := { name := "fnExactRootStep", fn := fun _ => fun
  | [d1, d2, d3] => { results := [.lit (.bool false)], args := [d1, d2, d3] }
  | _ => none }
def FnExactRootStepWrongFalsely : Prop := fnExactRootStepRow.holds Try.pinned (OpenSpec.ofChange fnExactRootStepWrong)

/- THE SECOND FORM. 'bulk': how many values and letters a reading holds, each counted each time it is reached (what is shared counts as often as it is met; a slice's spare places count too). A statement '..UptoSaid' is the law's where the arguments, and the package variables that the reading takes, are together of bulk at most 1048576: NARROWER than '..Said'. Prove '..Said' where nothing that the law and all that it calls make is longer than what came in: it says more and counts as full. Else prove '..UptoSaid'. A law counts once. -/
mutual
def uptoBulk {H : Type} : DataW H → Nat
  | .lit (.string bytes) => bytes.length + 1
  | .lit _ => 1
  | .nil => 1
  | .ptr d => uptoBulk d + 1
  | .slice elems spare => uptoBulkAll elems + uptoBulkAll spare + 1
  | .agg parts => uptoBulkAll parts + 1
  | .iface _ d => uptoBulk d + 1
  | .map entries => uptoBulkEntries entries + 1
  | .held _ => 1
def uptoBulkAll {H : Type} : List (DataW H) → Nat
  | [] => 0
  | d :: r => uptoBulk d + uptoBulkAll r
def uptoBulkEntries {H : Type} : List (Lit × DataW H) → Nat
  | [] => 0
  | x :: r => uptoBulkEntry x + uptoBulkEntries r
def uptoBulkEntry {H : Type} : Lit × DataW H → Nat
  | (.string bytes, d) => bytes.length + uptoBulk d + 1
  | (_, d) => uptoBulk d + 1
 end
def uptoSmall : (H : Type) → List (DataW H) → Bool := fun _ ds => decide (uptoBulkAll ds ≤ 1048576)
def OpenSpec.upto (s : _root_.Go.ChangeSpec) : _root_.Go.OpenSpec := { _root_.Go.OpenSpec.ofChange s with cond := some uptoSmall }

/-- 'laws.FnExactBound', WHERE WHAT IT READS IS OF BULK AT MOST 1048576: true; the input reads as it did. -/
def fnExactBoundUptoRow : OpenClaim := { program := "ytlbkhiphnllfpam", sum := "4f39c8f767bac663ab4b46e5de23a13fd4df33bc2996497fc543a16aba40d223", func := "loop.example/g00085/laws.FnExactBound", spec := "fnExactBound", apart := false, narrowed := true }
def FnExactBoundUptoSaid : Prop := fnExactBoundUptoRow.holds Try.pinned (OpenSpec.upto fnExactBoundSpec)

/-- 'laws.FnExactDivide', WHERE WHAT IT READS IS OF BULK AT MOST 1048576: true; the input reads as it did. -/
def fnExactDivideUptoRow : OpenClaim := { program := "ytlbkhiphnllfpam", sum := "4f39c8f767bac663ab4b46e5de23a13fd4df33bc2996497fc543a16aba40d223", func := "loop.example/g00085/laws.FnExactDivide", spec := "fnExactDivide", unfollowed := true, recurses := true, leaving := true, apart := false, narrowed := true }
def FnExactDivideUptoSaid : Prop := fnExactDivideUptoRow.holds Try.pinned (OpenSpec.upto fnExactDivideSpec)

/-- 'laws.FnExactQuotient', WHERE WHAT IT READS IS OF BULK AT MOST 1048576: true; the input reads as it did. -/
def fnExactQuotientUptoRow : OpenClaim := { program := "ytlbkhiphnllfpam", sum := "4f39c8f767bac663ab4b46e5de23a13fd4df33bc2996497fc543a16aba40d223", func := "loop.example/g00085/laws.FnExactQuotient", spec := "fnExactQuotient", unfollowed := true, recurses := true, leaving := true, apart := false, narrowed := true }
def FnExactQuotientUptoSaid : Prop := fnExactQuotientUptoRow.holds Try.pinned (OpenSpec.upto fnExactQuotientSpec)

/-- 'laws.FnExactMended', WHERE WHAT IT READS IS OF BULK AT MOST 1048576: true; the input reads as it did. -/
def fnExactMendedUptoRow : OpenClaim := { program := "ytlbkhiphnllfpam", sum := "4f39c8f767bac663ab4b46e5de23a13fd4df33bc2996497fc543a16aba40d223", func := "loop.example/g00085/laws.FnExactMended", spec := "fnExactMended", apart := false, narrowed := true }
def FnExactMendedUptoSaid : Prop := fnExactMendedUptoRow.holds Try.pinned (OpenSpec.upto fnExactMendedSpec)

/-- 'laws.FnExactRoot', WHERE WHAT IT READS IS OF BULK AT MOST 1048576: true; the input reads as it did. -/
def fnExactRootUptoRow : OpenClaim := { program := "ytlbkhiphnllfpam", sum := "4f39c8f767bac663ab4b46e5de23a13fd4df33bc2996497fc543a16aba40d223", func := "loop.example/g00085/laws.FnExactRoot", spec := "fnExactRoot", apart := false, narrowed := true }
def FnExactRootUptoSaid : Prop := fnExactRootUptoRow.holds Try.pinned (OpenSpec.upto fnExactRootSpec)

/-- 'laws.FnExactRootStep', WHERE WHAT IT READS IS OF BULK AT MOST 1048576: true; the input reads as it did. -/
def fnExactRootStepUptoRow : OpenClaim := { program := "ytlbkhiphnllfpam", sum := "4f39c8f767bac663ab4b46e5de23a13fd4df33bc2996497fc543a16aba40d223", func := "loop.example/g00085/laws.FnExactRootStep", spec := "fnExactRootStep", apart := false, narrowed := true }
def FnExactRootStepUptoSaid : Prop := fnExactRootStepUptoRow.holds Try.pinned (OpenSpec.upto fnExactRootStepSpec)

end Rows
end Go.Proofs.Ytlbkhiphnllfpam
