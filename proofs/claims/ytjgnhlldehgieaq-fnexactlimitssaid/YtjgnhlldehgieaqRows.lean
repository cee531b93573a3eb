/-
  No cell of these rows narrows 'for every input' (looked for: loops, veiled, ifaces, maps, wideKeys, modest, calm, conditions, laid).
  DERIVED. THE GIVEN ROWS OF THIS SEAT. 4 by the template 'for every input the law returns true; each argument reads behind the call as it read before'; 0 by the template 'total and deterministic' (their statements: YtjgnhlldehgieaqTotals.lean).
  GIVEN WITH THE SEED: the statements are not yours to turn. If you find one false, say at which input.
  Laid BY PROGRAM, IN A SANDBOX (cutbox-rows.mjs): the forced cells as the released guide's own fill.sh prints them over the translation 25e634db39fff8b4… (all of the seat's roots in one cut). By AI agents, Wed Nov 11 2026. No macro, syntax, notation, axiom, sorry.
-/
import Derived.Test.YtjgnhlldehgieaqChecked
import GoSem.Claim
import GoSem.ClaimJoined
import GoSem.ClaimMapViews
import Derived.JoinedTies
import Derived.KernelRfl
namespace Go.Proofs.Ytjgnhlldehgieaq
/- THE CELL 'sum', in the pinned program and in every row, IS THE sha256 OF THE DUMP (.gsa) THAT YtjgnhlldehgieaqProg.lean LOADS. Nothing in Lean hashes anything: it is a label: what it is worth is what the hold of that sum in a sandbox is worth. -/
noncomputable def Try.pinned : Pinned := { name := "ytjgnhlldehgieaq", sum := "25e634db39fff8b4dfa0ad7afa9512019e7f4354fa750310b535363e79ced284", checked := Try.checked }
namespace Rows
def none {H : Type} : Left H := { results := [], args := [] }

/-- 'laws.FnExactNatRoot': WHATEVER THE INPUT: true; the input reads as it did. -/
def fnExactNatRootSpec : ChangeSpec := { name := "fnExactNatRoot", fn := fun _ => fun
  | [d] => { results := [.lit (.bool true)], args := [d] }
  | _ => none }
def fnExactNatRootRow : OpenClaim := { program := "ytjgnhlldehgieaq", sum := "25e634db39fff8b4dfa0ad7afa9512019e7f4354fa750310b535363e79ced284", func := "loop.example/g00085/laws.FnExactNatRoot", spec := "fnExactNatRoot", apart := false }
def FnExactNatRootSaid : Prop := fnExactNatRootRow.holds Try.pinned (OpenSpec.ofChange fnExactNatRootSpec)

/-- ITS FALSE NEIGHBOUR: 'it returns false'. Refute it at one input. -/
def fnExactNatRootWrong : ChangeSpec := { name := "fnExactNatRoot", fn := fun _ => fun
  | [d] => { results := [.lit (.bool false)], args := [d] }
  | _ => none }
def FnExactNatRootWrongFalsely : Prop := fnExactNatRootRow.holds Try.pinned (OpenSpec.ofChange fnExactNatRootWrong)

/-- 'laws.FnExactNatShift': WHATEVER THE INPUT: true; the input reads as it did. -/
def fnExactNatShiftSpec : ChangeSpec := { name := "fnExactNatShift", fn := fun _ => fun
  | [d1, d2] => { results := [.lit (.bool true)], args := [d1, d2] }
  | _ => none }
def fnExactNatShiftRow : OpenClaim := { program := "ytjgnhlldehgieaq", sum := "25e634db39fff8b4dfa0ad7afa9512019e7f4354fa750310b535363e79ced284", func := "loop.example/g00085/laws.FnExactNatShift", spec := "fnExactNatShift", apart := false }
def FnExactNatShiftSaid : Prop := fnExactNatShiftRow.holds Try.pinned (OpenSpec.ofChange fnExactNatShiftSpec)

/-- ITS FALSE NEIGHBOUR: 'it returns false'. Refute it at one input. -/
def fnExactNatShiftWrong : ChangeSpec := { name := "fnExactNatShift", fn := fun _ => fun
  | [d1, d2] => { results := [.lit (.bool false)], args := [d1, d2] }
  | _ => none }
def FnExactNatShiftWrongFalsely : Prop := fnExactNatShiftRow.holds Try.pinned (OpenSpec.ofChange fnExactNatShiftWrong)

/-- 'laws.FnExactLimits': WHATEVER THE INPUT: true; the input reads as it did. -/
def fnExactLimitsSpec : ChangeSpec := { name := "fnExactLimits", fn := fun _ => fun
  | [d] => { results := [.lit (.bool true)], args := [d] }
  | _ => none }
def fnExactLimitsRow : OpenClaim := { program := "ytjgnhlldehgieaq", sum := "25e634db39fff8b4dfa0ad7afa9512019e7f4354fa750310b535363e79ced284", func := "loop.example/g00085/laws.FnExactLimits", spec := "fnExactLimits", unfollowed := true, recurses := true, apart := false }
def FnExactLimitsSaid : Prop := fnExactLimitsRow.holds Try.pinned (OpenSpec.ofChange fnExactLimitsSpec)

/-- ITS FALSE NEIGHBOUR: 'it returns false'. Refute it at one input. -/
def fnExactLimitsWrong : ChangeSpec := { name := "fnExactLimits", fn := fun _ => fun
  | [d] => { results := [.lit (.bool false)], args := [d] }
  | _ => none }
def FnExactLimitsWrongFalsely : Prop := fnExactLimitsRow.holds Try.pinned (OpenSpec.ofChange fnExactLimitsWrong)

/-- 'laws.FnExactAdd': WHATEVER THE INPUT: true; the input reads as it did. -/
def fnExactAddSpec : ChangeSpec := { name := "fnExactAdd", fn := fun _ => fun
  | [d1, d2, d3, d4] => { results := [.lit (.bool true)], args := [d1, d2, d3, d4] }
  | _ => none }
def fnExactAddRow : OpenClaim := { program := "ytjgnhlldehgieaq", sum := "25e634db39fff8b4dfa0ad7afa9512019e7f4354fa750310b535363e79ced284", func := "loop.example/g00085/laws.FnExactAdd", spec := "fnExactAdd", apart := false }
def FnExactAddSaid : Prop := fnExactAddRow.holds Try.pinned (OpenSpec.ofChange fnExactAddSpec)

/-- ITS FALSE NEIGHBOUR: 'it returns false'. Refute it at one input. -/
def fnExactAddWrong : ChangeSpec := { name := "fnExactAdd", fn := fun _ => fun
  | [d1, d2, d3, d4] => { results := [.lit (.bool false)], args := [d1, d2, d3, d4] }
  | _ => none }
def FnExactAddWrongFalsely : Prop := fnExactAddRow.holds Try.pinned (OpenSpec.ofChange fnExactAddWrong)

/- THE SECOND FORM. 'bulk': how many values and letters a reading holds, each counted each time it is reached (what is shared counts as often as it is met; a slice's spare places count too). A statement '..UptoSaid' is the law's where the arguments, and the package variables that the reading takes, are together of bulk at most 1048576: NARROWER than '..Said'. Prove '..Said' where nothing that the law and all that it calls make is longer than what came in: it says more and counts as full. Else prove '..UptoSaid'. A law counts once. -/
mutual
def uptoBulk {H : Type} : DataW H → Nat
  | .lit (.string bytes) => bytes.length + 1
  | .lit _ => 1
  | .nil => 1
  | .ptr d => uptoBulk d + 1
  | .slice elems spare => uptoBulkAll elems + uptoBulkAll spare + 1
  | .agg parts => uptoBulkAll parts + 1
  | .iface _ d => uptoBulk d + 1
  | .map entries => uptoBulkEntries entries + 1
  | .held _ => 1
def uptoBulkAll {H : Type} : List (DataW H) → Nat
  | [] => 0
  | d :: r => uptoBulk d + uptoBulkAll r
def uptoBulkEntries {H : Type} : List (Lit × DataW H) → Nat
  | [] => 0
  | x :: r => uptoBulkEntry x + uptoBulkEntries r
def uptoBulkEntry {H : Type} : Lit × DataW H → Nat
  | (.string bytes, d) => bytes.length + uptoBulk d + 1
  | (_, d) => uptoBulk d + 1
 end
def uptoSmall : (H : Type) → List (DataW H) → Bool := fun _ ds => decide (uptoBulkAll ds ≤ 1048576)
def OpenSpec.upto (s : _root_.Go.ChangeSpec) : _root_.Go.OpenSpec := { _root_.Go.OpenSpec.ofChange s with cond := some uptoSmall }

/-- 'laws.FnExactNatRoot', WHERE WHAT IT READS IS OF BULK AT MOST 1048576: true; the input reads as it did. -/
def fnExactNatRootUptoRow : OpenClaim := { program := "ytjgnhlldehgieaq", sum := "25e634db39fff8b4dfa0ad7afa9512019e7f4354fa750310b535363e79ced284", func := "loop.example/g00085/laws.FnExactNatRoot", spec := "fnExactNatRoot", apart := false, narrowed := true }
def FnExactNatRootUptoSaid : Prop := fnExactNatRootUptoRow.holds Try.pinned (OpenSpec.upto fnExactNatRootSpec)

/-- 'laws.FnExactNatShift', WHERE WHAT IT READS IS OF BULK AT MOST 1048576: true; the input reads as it did. -/
def fnExactNatShiftUptoRow : OpenClaim := { program := "ytjgnhlldehgieaq", sum := "25e634db39fff8b4dfa0ad7afa9512019e7f4354fa750310b535363e79ced284", func := "loop.example/g00085/laws.FnExactNatShift", spec := "fnExactNatShift", apart := false, narrowed := true }
def FnExactNatShiftUptoSaid : Prop := fnExactNatShiftUptoRow.holds Try.pinned (OpenSpec.upto fnExactNatShiftSpec)

/-- 'laws.FnExactLimits', WHERE WHAT IT READS IS OF BULK AT MOST 1048576: true; the input reads as it did. -/
def fnExactLimitsUptoRow : OpenClaim := { program := "ytjgnhlldehgieaq", sum := "25e634db39fff8b4dfa0ad7afa9512019e7f4354fa750310b535363e79ced284", func := "loop.example/g00085/laws.FnExactLimits", spec := "fnExactLimits", unfollowed := true, recurses := true, apart := false, narrowed := true }
def FnExactLimitsUptoSaid : Prop := fnExactLimitsUptoRow.holds Try.pinned (OpenSpec.upto fnExactLimitsSpec)

/-- 'laws.FnExactAdd', WHERE WHAT IT READS IS OF BULK AT MOST 1048576: true; the input reads as it did. -/
def fnExactAddUptoRow : OpenClaim := { program := "ytjgnhlldehgieaq", sum := "25e634db39fff8b4dfa0ad7afa9512019e7f4354fa750310b535363e79ced284", func := "loop.example/g00085/laws.FnExactAdd", spec := "fnExactAdd", apart := false, narrowed := true }
def FnExactAddUptoSaid : Prop := fnExactAddUptoRow.holds Try.pinned (OpenSpec.upto fnExactAddSpec)

end Rows
end Go.Proofs.Ytjgnhlldehgieaq
