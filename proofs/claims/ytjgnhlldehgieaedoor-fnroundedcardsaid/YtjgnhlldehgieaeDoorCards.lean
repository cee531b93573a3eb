/-
  DERIVED. GIVEN WITH THE SEED: THE CARDS: each row of YtjgnhlldehgieaeDoorRows.lean that lists a variable, with what it lists TIED to the program's text (the seventh form; the later family's looks); each row that meets fmt, with fmt's text TOLD by the authors' own Lean function (tested against real Go, not proved from fmt's source: count such statements apart). THE CARD IS WHAT COUNTS. Prove the row's statement (the work); the ties are given (YtjgnhlldehgieaeDoorTie.lean); close each card by the builder's one call (the guide's Derived/Test/ToyasCard.lean, 'card_holds'). Laid BY PROGRAM, IN A SANDBOX (cutbox-door.mjs). By AI agents, Wed Nov 11 2026. No macro, syntax, notation, axiom, sorry.
-/
import Derived.Test.YtjgnhlldehgieaeDoorRows
import GoSem.ClaimSeven
namespace Go.Proofs.YtjgnhlldehgieaeDoor
namespace Rows

/-- THE TIED CARD OF 'laws.FnRounded'. -/
def fnRoundedCard : Claim7 := { stood := { row := fnRoundedRow, standIns := [], harness := (true, "482eb14802fdd622e22dfc03f956d8d0e5941a1565e87b8dd10c1101e1b27ddc"), looks := false }, kinds := [], alts := [], laidByText := true, laidKinds := [.data, .pinned], laidTests := true, laidLooks := .later }
def FnRoundedCardSaid : Prop := Claim7.holds Tryd.pinned (.plain (OpenSpec.ofChange fnRoundedSpec)) fnRoundedCard

/-- THE SECOND FORM's CARD OF 'laws.FnRounded'. -/
def fnRoundedUptoCard : Claim7 := { stood := { row := fnRoundedUptoRow, standIns := [], harness := (true, "482eb14802fdd622e22dfc03f956d8d0e5941a1565e87b8dd10c1101e1b27ddc"), looks := false }, kinds := [], alts := [], laidByText := true, laidKinds := [.data, .pinned], laidTests := true, laidLooks := .later }
def FnRoundedUptoCardSaid : Prop := Claim7.holds Tryd.pinned (.plain (OpenSpec.upto fnRoundedSpec)) fnRoundedUptoCard
end Rows
end Go.Proofs.YtjgnhlldehgieaeDoor
