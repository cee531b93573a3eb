/-
  No cell of these rows narrows 'for every input' (looked for: loops, veiled, ifaces, maps, wideKeys, modest, calm, conditions, laid).
  DERIVED. THE GIVEN ROWS OF THIS SEAT. 3 by the template 'for every input the law returns true; each argument reads behind the call as it read before'; 0 by the template 'total and deterministic' (their statements: YtmjkpjmccdjkjadTotals.lean).
  GIVEN WITH THE SEED: the statements are not yours to turn. If you find one false, say at which input.
  Laid BY PROGRAM, IN A SANDBOX (cutbox-rows.mjs): the forced cells as the released guide's own fill.sh prints them over the translation eb4ee867e0e6b9fe… (all of the seat's roots in one cut). By AI agents, Wed Nov 11 2026. No macro, syntax, notation, axiom, sorry.
-/
import Derived.Test.YtmjkpjmccdjkjadChecked
import GoSem.Claim
import GoSem.ClaimJoined
import GoSem.ClaimMapViews
import Derived.JoinedTies
import Derived.KernelRfl
namespace Go.Proofs.Ytmjkpjmccdjkjad
/- THE CELL 'sum', in the pinned program and in every row, IS THE sha256 OF THE DUMP (.gsa) THAT YtmjkpjmccdjkjadProg.lean LOADS. Nothing in Lean hashes anything: it is a label: what it is worth is what the hold of that sum in a sandbox is worth. -/
noncomputable def Try.pinned : Pinned := { name := "ytmjkpjmccdjkjad", sum := "eb4ee867e0e6b9fef04ffce44568f73018a93fe7563b9467a7de5571bed937fc", checked := Try.checked }
namespace Rows
def none {H : Type} : Left H := { results := [], args := [] }

/-- 'laws.FnRoots': WHATEVER THE INPUT: true; the input reads as it did. -/
def fnRootsSpec : ChangeSpec := { name := "fnRoots", fn := fun _ => fun
  | [d] => { results := [.lit (.bool true)], args := [d] }
  | _ => none }
def fnRootsRow : OpenClaim := { program := "ytmjkpjmccdjkjad", sum := "eb4ee867e0e6b9fef04ffce44568f73018a93fe7563b9467a7de5571bed937fc", func := "loop.example/g00085/laws.FnRoots", spec := "fnRoots", apart := false }
def FnRootsSaid : Prop := fnRootsRow.holds Try.pinned (OpenSpec.ofChange fnRootsSpec)

/-- ITS FALSE NEIGHBOUR: 'it returns false'. Refute it at one input. -/
def fnRootsWrong : ChangeSpec := { name := "fnRoots", fn := fun _ => fun
  | [d] => { results := [.lit (.bool false)], args := [d] }
  | _ => none }
def FnRootsWrongFalsely : Prop := fnRootsRow.holds Try.pinned (OpenSpec.ofChange fnRootsWrong)

/-- 'laws.FnNaturals': WHATEVER THE INPUT: true; the input reads as it did. -/
def fnNaturalsSpec : ChangeSpec := { name := "fnNaturals", fn := fun _ => fun
  | [d] => { results := [.lit (.bool true)], args := [d] }
  | _ => none }
def fnNaturalsRow : OpenClaim := { program := "ytmjkpjmccdjkjad", sum := "eb4ee867e0e6b9fef04ffce44568f73018a93fe7563b9467a7de5571bed937fc", func := "loop.example/g00085/laws.FnNaturals", spec := "fnNaturals", apart := false }
def FnNaturalsSaid : Prop := fnNaturalsRow.holds Try.pinned (OpenSpec.ofChange fnNaturalsSpec)

/-- ITS FALSE NEIGHBOUR: 'it returns false'. Refute it at one input. -/
def fnNaturalsWrong : ChangeSpec := { name := "fnNaturals", fn := fun _ => fun
  | [d] => { results := [.lit (.bool false)], args := [d] }
  | _ => none }
def FnNaturalsWrongFalsely : Prop := fnNaturalsRow.holds Try.pinned (OpenSpec.ofChange fnNaturalsWrong)

/-- 'laws.FnNatDiv': WHATEVER THE INPUT: true; the input reads as it did. -/
def fnNatDivSpec : ChangeSpec := { name := "fnNatDiv", fn := fun _ => fun
  | [d] => { results := [.lit (.bool true)], args := [d] }
  | _ => none }
def fnNatDivRow : OpenClaim := { program := "ytmjkpjmccdjkjad", sum := "eb4ee867e0e6b9fef04ffce44568f73018a93fe7563b9467a7de5571bed937fc", func := "loop.example/g00085/laws.FnNatDiv", spec := "fnNatDiv", apart := false }
def FnNatDivSaid : Prop := fnNatDivRow.holds Try.pinned (OpenSpec.ofChange fnNatDivSpec)

/-- ITS FALSE NEIGHBOUR: 'it returns false'. Refute it at one input. -/
def fnNatDivWrong : ChangeSpec := { name := "fnNatDiv", fn := fun _ => fun
  | [d] => { results := [.lit (.bool false)], args := [d] }
  | _ => none }
def FnNatDivWrongFalsely : Prop := fnNatDivRow.holds Try.pinned (OpenSpec.ofChange fnNatDivWrong)

/- THE SECOND FORM. 'bulk': how many values and letters a reading holds, each counted each time it is reached (what is shared counts as often as it is met; a slice's spare places count too). A statement '..UptoSaid' is the law's where the arguments, and the package variables that the reading takes, are together of bulk at most 1048576: NARROWER than '..Said'. Prove '..Said' where nothing that the law and all that it calls make is longer than what came in: it says more and counts as full. Else prove '..UptoSaid'. A law counts once. -/
mutual
def uptoBulk {H : Type} : DataW H → Nat
  | .lit (.string bytes) => bytes.length + 1
  | .lit _ => 1
  | .nil => 1
  | .ptr d => uptoBulk d + 1
  | .slice elems spare => uptoBulkAll elems + uptoBulkAll spare + 1
  | .agg parts => uptoBulkAll parts + 1
  | .iface _ d => uptoBulk d + 1
  | .map entries => uptoBulkEntries entries + 1
  | .held _ => 1
def uptoBulkAll {H : Type} : List (DataW H) → Nat
  | [] => 0
  | d :: r => uptoBulk d + uptoBulkAll r
def uptoBulkEntries {H : Type} : List (Lit × DataW H) → Nat
  | [] => 0
  | x :: r => uptoBulkEntry x + uptoBulkEntries r
def uptoBulkEntry {H : Type} : Lit × DataW H → Nat
  | (.string bytes, d) => bytes.length + uptoBulk d + 1
  | (_, d) => uptoBulk d + 1
 end
def uptoSmall : (H : Type) → List (DataW H) → Bool := fun _ ds => decide (uptoBulkAll ds ≤ 1048576)
def OpenSpec.upto (s : _root_.Go.ChangeSpec) : _root_.Go.OpenSpec := { _root_.Go.OpenSpec.ofChange s with cond := some uptoSmall }

/-- 'laws.FnRoots', WHERE WHAT IT READS IS OF BULK AT MOST 1048576: true; the input reads as it did. -/
def fnRootsUptoRow : OpenClaim := { program := "ytmjkpjmccdjkjad", sum := "eb4ee867e0e6b9fef04ffce44568f73018a93fe7563b9467a7de5571bed937fc", func := "loop.example/g00085/laws.FnRoots", spec := "fnRoots", apart := false, narrowed := true }
def FnRootsUptoSaid : Prop := fnRootsUptoRow.holds Try.pinned (OpenSpec.upto fnRootsSpec)

/-- 'laws.FnNaturals', WHERE WHAT IT READS IS OF BULK AT MOST 1048576: true; the input reads as it did. -/
def fnNaturalsUptoRow : OpenClaim := { program := "ytmjkpjmccdjkjad", sum := "eb4ee867e0e6b9fef04ffce44568f73018a93fe7563b9467a7de5571bed937fc", func := "loop.example/g00085/laws.FnNaturals", spec := "fnNaturals", apart := false, narrowed := true }
def FnNaturalsUptoSaid : Prop := fnNaturalsUptoRow.holds Try.pinned (OpenSpec.upto fnNaturalsSpec)

/-- 'laws.FnNatDiv', WHERE WHAT IT READS IS OF BULK AT MOST 1048576: true; the input reads as it did. -/
def fnNatDivUptoRow : OpenClaim := { program := "ytmjkpjmccdjkjad", sum := "eb4ee867e0e6b9fef04ffce44568f73018a93fe7563b9467a7de5571bed937fc", func := "loop.example/g00085/laws.FnNatDiv", spec := "fnNatDiv", apart := false, narrowed := true }
def FnNatDivUptoSaid : Prop := fnNatDivUptoRow.holds Try.pinned (OpenSpec.upto fnNatDivSpec)

end Rows
end Go.Proofs.Ytmjkpjmccdjkjad
