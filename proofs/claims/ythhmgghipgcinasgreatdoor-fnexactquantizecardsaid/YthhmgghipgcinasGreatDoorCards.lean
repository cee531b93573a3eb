/-
  DERIVED. GIVEN WITH THE SEED: THE CARDS: each row of YthhmgghipgcinasGreatDoorRows.lean that lists a variable, with what it lists TIED to the program's text (the seventh form; the later family's looks); each row that meets fmt, with fmt's text TOLD by the authors' own Lean function (tested against real Go, not proved from fmt's source: count such statements apart). THE CARD IS WHAT COUNTS. Prove the row's statement (the work); the ties are given (YthhmgghipgcinasGreatDoorTie.lean); close each card by the builder's one call (the guide's Derived/Test/ToyasCard.lean, 'card_holds'). Laid BY PROGRAM, IN A SANDBOX (cutbox-door.mjs). By AI agents, Wed Nov 11 2026. No macro, syntax, notation, axiom, sorry.
-/
import Derived.Test.YthhmgghipgcinasGreatDoorRows
import GoSem.ClaimSeven
namespace Go.Proofs.YthhmgghipgcinasGreatDoor
namespace Rows

/-- THE TIED CARD OF 'laws.FnExactQuantize'. -/
def fnExactQuantizeCard : Claim7 := { stood := { row := fnExactQuantizeRow, standIns := [], harness := (true, "6d05b2ee1df77543dfd3294c2a53873a47944100c98005f6137c845bc2391efe"), looks := true }, kinds := [], alts := [], laidByText := true, laidKinds := [.data, .pinned], laidTests := true, laidLooks := .later }
def FnExactQuantizeCardSaid : Prop := Claim7.holds Tryz.pinned (.plain (OpenSpec.ofChange fnExactQuantizeSpec)) fnExactQuantizeCard

/-- THE TIED CARD OF 'laws.FnExactWhole'. -/
def fnExactWholeCard : Claim7 := { stood := { row := fnExactWholeRow, standIns := [], harness := (true, "6d05b2ee1df77543dfd3294c2a53873a47944100c98005f6137c845bc2391efe"), looks := true }, kinds := [], alts := [], laidByText := true, laidKinds := [.data, .pinned], laidTests := true, laidLooks := .later }
def FnExactWholeCardSaid : Prop := Claim7.holds Tryz.pinned (.plain (OpenSpec.ofChange fnExactWholeSpec)) fnExactWholeCard

/-- THE SECOND FORM's CARD OF 'laws.FnExactQuantize'. -/
def fnExactQuantizeUptoCard : Claim7 := { stood := { row := fnExactQuantizeUptoRow, standIns := [], harness := (true, "6d05b2ee1df77543dfd3294c2a53873a47944100c98005f6137c845bc2391efe"), looks := true }, kinds := [], alts := [], laidByText := true, laidKinds := [.data, .pinned], laidTests := true, laidLooks := .later }
def FnExactQuantizeUptoCardSaid : Prop := Claim7.holds Tryz.pinned (.plain (OpenSpec.upto fnExactQuantizeSpec)) fnExactQuantizeUptoCard

/-- THE SECOND FORM's CARD OF 'laws.FnExactWhole'. -/
def fnExactWholeUptoCard : Claim7 := { stood := { row := fnExactWholeUptoRow, standIns := [], harness := (true, "6d05b2ee1df77543dfd3294c2a53873a47944100c98005f6137c845bc2391efe"), looks := true }, kinds := [], alts := [], laidByText := true, laidKinds := [.data, .pinned], laidTests := true, laidLooks := .later }
def FnExactWholeUptoCardSaid : Prop := Claim7.holds Tryz.pinned (.plain (OpenSpec.upto fnExactWholeSpec)) fnExactWholeUptoCard
end Rows
end Go.Proofs.YthhmgghipgcinasGreatDoor
