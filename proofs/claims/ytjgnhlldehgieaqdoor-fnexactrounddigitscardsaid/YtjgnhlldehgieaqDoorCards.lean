/-
  DERIVED. GIVEN WITH THE SEED: THE CARDS: each row of YtjgnhlldehgieaqDoorRows.lean that lists a variable, with what it lists TIED to the program's text (the seventh form; the later family's looks); each row that meets fmt, with fmt's text TOLD by the authors' own Lean function (tested against real Go, not proved from fmt's source: count such statements apart). THE CARD IS WHAT COUNTS. Prove the row's statement (the work); the ties are given (YtjgnhlldehgieaqDoorTie.lean); close each card by the builder's one call (the guide's Derived/Test/ToyasCard.lean, 'card_holds'). Laid BY PROGRAM, IN A SANDBOX (cutbox-door.mjs). By AI agents, Wed Nov 11 2026. No macro, syntax, notation, axiom, sorry.
-/
import Derived.Test.YtjgnhlldehgieaqDoorRows
import GoSem.ClaimSeven
namespace Go.Proofs.YtjgnhlldehgieaqDoor
namespace Rows

/-- THE TIED CARD OF 'laws.FnExactRoundDigits'. -/
def fnExactRoundDigitsCard : Claim7 := { stood := { row := fnExactRoundDigitsRow, standIns := [], harness := (true, "65221a0162fedffe5d09d77b12d6abd9e701bf96b4e10239e1b2a951b4a8fa15"), looks := false }, kinds := [], alts := [], laidByText := true, laidKinds := [.data, .pinned], laidTests := true, laidLooks := .later }
def FnExactRoundDigitsCardSaid : Prop := Claim7.holds Tryd.pinned (.plain (OpenSpec.ofChange fnExactRoundDigitsSpec)) fnExactRoundDigitsCard

/-- THE SECOND FORM's CARD OF 'laws.FnExactRoundDigits'. -/
def fnExactRoundDigitsUptoCard : Claim7 := { stood := { row := fnExactRoundDigitsUptoRow, standIns := [], harness := (true, "65221a0162fedffe5d09d77b12d6abd9e701bf96b4e10239e1b2a951b4a8fa15"), looks := false }, kinds := [], alts := [], laidByText := true, laidKinds := [.data, .pinned], laidTests := true, laidLooks := .later }
def FnExactRoundDigitsUptoCardSaid : Prop := Claim7.holds Tryd.pinned (.plain (OpenSpec.upto fnExactRoundDigitsSpec)) fnExactRoundDigitsUptoCard
end Rows
end Go.Proofs.YtjgnhlldehgieaqDoor
