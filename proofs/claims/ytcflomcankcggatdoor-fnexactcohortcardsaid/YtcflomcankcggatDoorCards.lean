/-
  DERIVED. GIVEN WITH THE SEED: THE CARDS: each row of YtcflomcankcggatDoorRows.lean that lists a variable, with what it lists TIED to the program's text (the seventh form; the later family's looks); each row that meets fmt, with fmt's text TOLD by the authors' own Lean function (tested against real Go, not proved from fmt's source: count such statements apart). THE CARD IS WHAT COUNTS. Prove the row's statement (the work); the ties are given (YtcflomcankcggatDoorTie.lean); close each card by the builder's one call (the guide's Derived/Test/ToyasCard.lean, 'card_holds'). Laid BY PROGRAM, IN A SANDBOX (cutbox-door.mjs). By AI agents, Wed Nov 11 2026. No macro, syntax, notation, axiom, sorry.
-/
import Derived.Test.YtcflomcankcggatDoorRows
import GoSem.ClaimSeven
namespace Go.Proofs.YtcflomcankcggatDoor
namespace Rows

/-- THE TIED CARD OF 'laws.FnExactShowNum'. -/
def fnExactShowNumCard : Claim7 := { stood := { row := fnExactShowNumRow, standIns := [], harness := (true, "2a04e027cccf0ff3f7e0313ecac15f54b037f0e262bc26e5ff9da165e8b5975a"), looks := false }, kinds := [], alts := [], laidByText := true, laidKinds := [.data, .data, .data], laidTests := true, laidLooks := .later }
def FnExactShowNumCardSaid : Prop := Claim7.holds Tryd.pinned (.plain (OpenSpec.ofChange fnExactShowNumSpec)) fnExactShowNumCard

/-- THE TIED CARD OF 'laws.FnExactCohort'. -/
def fnExactCohortCard : Claim7 := { stood := { row := fnExactCohortRow, standIns := [], harness := (true, "2a04e027cccf0ff3f7e0313ecac15f54b037f0e262bc26e5ff9da165e8b5975a"), looks := false }, kinds := [], alts := [], laidByText := true, laidKinds := [.data, .pinned], laidTests := true, laidLooks := .later }
def FnExactCohortCardSaid : Prop := Claim7.holds Tryd.pinned (.plain (OpenSpec.ofChange fnExactCohortSpec)) fnExactCohortCard

/-- THE SECOND FORM's CARD OF 'laws.FnExactShowNum'. -/
def fnExactShowNumUptoCard : Claim7 := { stood := { row := fnExactShowNumUptoRow, standIns := [], harness := (true, "2a04e027cccf0ff3f7e0313ecac15f54b037f0e262bc26e5ff9da165e8b5975a"), looks := false }, kinds := [], alts := [], laidByText := true, laidKinds := [.data, .data, .data], laidTests := true, laidLooks := .later }
def FnExactShowNumUptoCardSaid : Prop := Claim7.holds Tryd.pinned (.plain (OpenSpec.upto fnExactShowNumSpec)) fnExactShowNumUptoCard

/-- THE SECOND FORM's CARD OF 'laws.FnExactCohort'. -/
def fnExactCohortUptoCard : Claim7 := { stood := { row := fnExactCohortUptoRow, standIns := [], harness := (true, "2a04e027cccf0ff3f7e0313ecac15f54b037f0e262bc26e5ff9da165e8b5975a"), looks := false }, kinds := [], alts := [], laidByText := true, laidKinds := [.data, .pinned], laidTests := true, laidLooks := .later }
def FnExactCohortUptoCardSaid : Prop := Claim7.holds Tryd.pinned (.plain (OpenSpec.upto fnExactCohortSpec)) fnExactCohortUptoCard
end Rows
end Go.Proofs.YtcflomcankcggatDoor
