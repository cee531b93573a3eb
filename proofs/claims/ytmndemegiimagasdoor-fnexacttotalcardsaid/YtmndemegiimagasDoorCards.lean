/-
  DERIVED. GIVEN WITH THE SEED: THE CARDS: each row of YtmndemegiimagasDoorRows.lean that lists a variable, with what it lists TIED to the program's text (the seventh form; the later family's looks); each row that meets fmt, with fmt's text TOLD by the authors' own Lean function (tested against real Go, not proved from fmt's source: count such statements apart). THE CARD IS WHAT COUNTS. Prove the row's statement (the work); the ties are given (YtmndemegiimagasDoorTie.lean); close each card by the builder's one call (the guide's Derived/Test/ToyasCard.lean, 'card_holds'). Laid BY PROGRAM, IN A SANDBOX (cutbox-door.mjs). By AI agents, Wed Nov 11 2026. No macro, syntax, notation, axiom, sorry.
-/
import Derived.Test.YtmndemegiimagasDoorRows
import GoSem.ClaimSeven
namespace Go.Proofs.YtmndemegiimagasDoor
namespace Rows

/-- THE TIED CARD OF 'laws.FnExactCompare'. -/
def fnExactCompareCard : Claim7 := { stood := { row := fnExactCompareRow, standIns := [], harness := (true, "fa8fc37529639540225d9e8a32faf1f52af584ca1a8d2766d316561959fbd23d"), looks := false }, kinds := [], alts := [], laidByText := true, laidKinds := [.data, .data, .pinned], laidTests := true, laidLooks := .later }
def FnExactCompareCardSaid : Prop := Claim7.holds Tryd.pinned (.plain (OpenSpec.ofChange fnExactCompareSpec)) fnExactCompareCard

/-- THE TIED CARD OF 'laws.FnExactTotal'. -/
def fnExactTotalCard : Claim7 := { stood := { row := fnExactTotalRow, standIns := [], harness := (true, "fa8fc37529639540225d9e8a32faf1f52af584ca1a8d2766d316561959fbd23d"), looks := false }, kinds := [], alts := [], laidByText := true, laidKinds := [.data, .data, .pinned], laidTests := true, laidLooks := .later }
def FnExactTotalCardSaid : Prop := Claim7.holds Tryd.pinned (.plain (OpenSpec.ofChange fnExactTotalSpec)) fnExactTotalCard

/-- THE SECOND FORM's CARD OF 'laws.FnExactCompare'. -/
def fnExactCompareUptoCard : Claim7 := { stood := { row := fnExactCompareUptoRow, standIns := [], harness := (true, "fa8fc37529639540225d9e8a32faf1f52af584ca1a8d2766d316561959fbd23d"), looks := false }, kinds := [], alts := [], laidByText := true, laidKinds := [.data, .data, .pinned], laidTests := true, laidLooks := .later }
def FnExactCompareUptoCardSaid : Prop := Claim7.holds Tryd.pinned (.plain (OpenSpec.upto fnExactCompareSpec)) fnExactCompareUptoCard

/-- THE SECOND FORM's CARD OF 'laws.FnExactTotal'. -/
def fnExactTotalUptoCard : Claim7 := { stood := { row := fnExactTotalUptoRow, standIns := [], harness := (true, "fa8fc37529639540225d9e8a32faf1f52af584ca1a8d2766d316561959fbd23d"), looks := false }, kinds := [], alts := [], laidByText := true, laidKinds := [.data, .data, .pinned], laidTests := true, laidLooks := .later }
def FnExactTotalUptoCardSaid : Prop := Claim7.holds Tryd.pinned (.plain (OpenSpec.upto fnExactTotalSpec)) fnExactTotalUptoCard
end Rows
end Go.Proofs.YtmndemegiimagasDoor
