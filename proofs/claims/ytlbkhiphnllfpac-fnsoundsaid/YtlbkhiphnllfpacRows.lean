/-
  No cell of these rows narrows 'for every input' (looked for: loops, veiled, ifaces, maps, wideKeys, modest, calm, conditions, laid).
  DERIVED. THE GIVEN ROWS OF THIS SEAT. 4 by the template 'for every input the law returns true; each argument reads behind the call as it read before'; 0 by the template 'total and deterministic' (their statements: YtlbkhiphnllfpacTotals.lean).
  GIVEN WITH THE SEED: the statements are not yours to turn. If you find one false, say at which input.
  Laid BY PROGRAM, IN A SANDBOX (cutbox-rows.mjs): the forced cells as the released guide's own fill.sh prints them over the translation 758756d105c0705c… (all of the seat's roots in one cut). By AI agents, Wed Nov 11 2026. No macro, syntax, notation, axiom, sorry.
-/
import Derived.Test.YtlbkhiphnllfpacChecked
import GoSem.Claim
import GoSem.ClaimJoined
import GoSem.ClaimMapViews
import Derived.JoinedTies
import Derived.KernelRfl
namespace Go.Proofs.Ytlbkhiphnllfpac
/- THE CELL 'sum', in the pinned program and in every row, IS THE sha256 OF THE DUMP (.gsa) THAT YtlbkhiphnllfpacProg.lean LOADS. Nothing in Lean hashes anything: it is a label: what it is worth is what the hold of that sum in a sandbox is worth. -/
noncomputable def Try.pinned : Pinned := { name := "ytlbkhiphnllfpac", sum := "758756d105c0705ce890affb96819fb8d22cdad7f6d67b4f316b9290e490aa5d", checked := Try.checked }
namespace Rows
def none {H : Type} : Left H := { results := [], args := [] }

/-- 'laws.FnCell': WHATEVER THE INPUT: true; the input reads as it did. -/
def fnCellSpec : ChangeSpec := { name := "fnCell", fn := fun _ => fun
  | [d] => { results := [.lit (.bool true)], args := [d] }
  | _ => none }
def fnCellRow : OpenClaim := { program := "ytlbkhiphnllfpac", sum := "758756d105c0705ce890affb96819fb8d22cdad7f6d67b4f316b9290e490aa5d", func := "loop.example/g00085/laws.FnCell", spec := "fnCell", plainKeys := false, apart := false }
def FnCellSaid : Prop := fnCellRow.holds Try.pinned (OpenSpec.ofChange fnCellSpec)

/-- ITS FALSE NEIGHBOUR: 'it returns false'. Refute it at one input. -/
def fnCellWrong : ChangeSpec := { name := "fnCell", fn := fun _ => fun
  | [d] => { results := [.lit (.bool false)], args := [d] }
  | _ => none }
def FnCellWrongFalsely : Prop := fnCellRow.holds Try.pinned (OpenSpec.ofChange fnCellWrong)

/-- 'laws.FnSound': WHATEVER THE INPUT: true; the input reads as it did. -/
def fnSoundSpec : ChangeSpec := { name := "fnSound", fn := fun _ => fun
  | [d] => { results := [.lit (.bool true)], args := [d] }
  | _ => none }
def fnSoundRow : OpenClaim := { program := "ytlbkhiphnllfpac", sum := "758756d105c0705ce890affb96819fb8d22cdad7f6d67b4f316b9290e490aa5d", func := "loop.example/g00085/laws.FnSound", spec := "fnSound", plainKeys := false, apart := false }
def FnSoundSaid : Prop := fnSoundRow.holds Try.pinned (OpenSpec.ofChange fnSoundSpec)

/-- ITS FALSE NEIGHBOUR: 'it returns false'. Refute it at one input. -/
def fnSoundWrong : ChangeSpec := { name := "fnSound", fn := fun _ => fun
  | [d] => { results := [.lit (.bool false)], args := [d] }
  | _ => none }
def FnSoundWrongFalsely : Prop := fnSoundRow.holds Try.pinned (OpenSpec.ofChange fnSoundWrong)

/-- 'laws.FnDivided': WHATEVER THE INPUT: true; the input reads as it did. -/
def fnDividedSpec : ChangeSpec := { name := "fnDivided", fn := fun _ => fun
  | [d] => { results := [.lit (.bool true)], args := [d] }
  | _ => none }
def fnDividedRow : OpenClaim := { program := "ytlbkhiphnllfpac", sum := "758756d105c0705ce890affb96819fb8d22cdad7f6d67b4f316b9290e490aa5d", func := "loop.example/g00085/laws.FnDivided", spec := "fnDivided", unfollowed := true, recurses := true, plainKeys := false, leaving := true, apart := false }
def FnDividedSaid : Prop := fnDividedRow.holds Try.pinned (OpenSpec.ofChange fnDividedSpec)

/-- ITS FALSE NEIGHBOUR: 'it returns false'. Refute it at one input. -/
def fnDividedWrong : ChangeSpec := { name := "fnDivided", fn := fun _ => fun
  | [d] => { results := [.lit (.bool false)], args := [d] }
  | _ => none }
def FnDividedWrongFalsely : Prop := fnDividedRow.holds Try.pinned (OpenSpec.ofChange fnDividedWrong)

/-- 'laws.FnQuotient': WHATEVER THE INPUT: true; the input reads as it did. -/
def fnQuotientSpec : ChangeSpec := { name := "fnQuotient", fn := fun _ => fun
  | [d] => { results := [.lit (.bool true)], args := [d] }
  | _ => none }
def fnQuotientRow : OpenClaim := { program := "ytlbkhiphnllfpac", sum := "758756d105c0705ce890affb96819fb8d22cdad7f6d67b4f316b9290e490aa5d", func := "loop.example/g00085/laws.FnQuotient", spec := "fnQuotient", unfollowed := true, recurses := true, plainKeys := false, leaving := true, apart := false }
def FnQuotientSaid : Prop := fnQuotientRow.holds Try.pinned (OpenSpec.ofChange fnQuotientSpec)

/-- ITS FALSE NEIGHBOUR: 'it returns false'. Refute it at one input. -/
def fnQuotientWrong : ChangeSpec := { name := "fnQuotient", fn := fun _ => fun
  | [d] => { results := [.lit (.bool false)], args := [d] }
  | _ => none }
def FnQuotientWrongFalsely : Prop := fnQuotientRow.holds Try.pinned (OpenSpec.ofChange fnQuotientWrong)

/- THE SECOND FORM. 'bulk': how many values and letters a reading holds, each counted each time it is reached (what is shared counts as often as it is met; a slice's spare places count too). A statement '..UptoSaid' is the law's where the arguments, and the package variables that the reading takes, are together of bulk at most 1048576: NARROWER than '..Said'. Prove '..Said' where nothing that the law and all that it calls make is longer than what came in: it says more and counts as full. Else prove '..UptoSaid'. A law counts once. -/
mutual
def uptoBulk {H : Type} : DataW H → Nat
  | .lit (.string bytes) => bytes.length + 1
  | .lit _ => 1
  | .nil => 1
  | .ptr d => uptoBulk d + 1
  | .slice elems spare => uptoBulkAll elems + uptoBulkAll spare + 1
  | .agg parts => uptoBulkAll parts + 1
  | .iface _ d => uptoBulk d + 1
  | .map entries => uptoBulkEntries entries + 1
  | .held _ => 1
def uptoBulkAll {H : Type} : List (DataW H) → Nat
  | [] => 0
  | d :: r => uptoBulk d + uptoBulkAll r
def uptoBulkEntries {H : Type} : List (Lit × DataW H) → Nat
  | [] => 0
  | x :: r => uptoBulkEntry x + uptoBulkEntries r
def uptoBulkEntry {H : Type} : Lit × DataW H → Nat
  | (.string bytes, d) => bytes.length + uptoBulk d + 1
  | (_, d) => uptoBulk d + 1
 end
def uptoSmall : (H : Type) → List (DataW H) → Bool := fun _ ds => decide (uptoBulkAll ds ≤ 1048576)
def OpenSpec.upto (s : _root_.Go.ChangeSpec) : _root_.Go.OpenSpec := { _root_.Go.OpenSpec.ofChange s with cond := some uptoSmall }

/-- 'laws.FnCell', WHERE WHAT IT READS IS OF BULK AT MOST 1048576: true; the input reads as it did. -/
def fnCellUptoRow : OpenClaim := { program := "ytlbkhiphnllfpac", sum := "758756d105c0705ce890affb96819fb8d22cdad7f6d67b4f316b9290e490aa5d", func := "loop.example/g00085/laws.FnCell", spec := "fnCell", plainKeys := false, apart := false, narrowed := true }
def FnCellUptoSaid : Prop := fnCellUptoRow.holds Try.pinned (OpenSpec.upto fnCellSpec)

/-- 'laws.FnSound', WHERE WHAT IT READS IS OF BULK AT MOST 1048576: true; the input reads as it did. -/
def fnSoundUptoRow : OpenClaim := { program := "ytlbkhiphnllfpac", sum := "758756d105c0705ce890affb96819fb8d22cdad7f6d67b4f316b9290e490aa5d", func := "loop.example/g00085/laws.FnSound", spec := "fnSound", plainKeys := false, apart := false, narrowed := true }
def FnSoundUptoSaid : Prop := fnSoundUptoRow.holds Try.pinned (OpenSpec.upto fnSoundSpec)

/-- 'laws.FnDivided', WHERE WHAT IT READS IS OF BULK AT MOST 1048576: true; the input reads as it did. -/
def fnDividedUptoRow : OpenClaim := { program := "ytlbkhiphnllfpac", sum := "758756d105c0705ce890affb96819fb8d22cdad7f6d67b4f316b9290e490aa5d", func := "loop.example/g00085/laws.FnDivided", spec := "fnDivided", unfollowed := true, recurses := true, plainKeys := false, leaving := true, apart := false, narrowed := true }
def FnDividedUptoSaid : Prop := fnDividedUptoRow.holds Try.pinned (OpenSpec.upto fnDividedSpec)

/-- 'laws.FnQuotient', WHERE WHAT IT READS IS OF BULK AT MOST 1048576: true; the input reads as it did. -/
def fnQuotientUptoRow : OpenClaim := { program := "ytlbkhiphnllfpac", sum := "758756d105c0705ce890affb96819fb8d22cdad7f6d67b4f316b9290e490aa5d", func := "loop.example/g00085/laws.FnQuotient", spec := "fnQuotient", unfollowed := true, recurses := true, plainKeys := false, leaving := true, apart := false, narrowed := true }
def FnQuotientUptoSaid : Prop := fnQuotientUptoRow.holds Try.pinned (OpenSpec.upto fnQuotientSpec)

end Rows
end Go.Proofs.Ytlbkhiphnllfpac
