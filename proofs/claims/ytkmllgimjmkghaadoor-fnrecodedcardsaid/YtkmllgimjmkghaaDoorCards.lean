/-
  DERIVED. GIVEN WITH THE SEED: THE CARDS: each row of YtkmllgimjmkghaaDoorRows.lean that lists a variable, with what it lists TIED to the program's text (the seventh form; the later family's looks); each row that meets fmt, with fmt's text TOLD by the authors' own Lean function (tested against real Go, not proved from fmt's source: count such statements apart). THE CARD IS WHAT COUNTS. Prove the row's statement (the work); the ties are given (YtkmllgimjmkghaaDoorTie.lean); close each card by the builder's one call (the guide's Derived/Test/ToyasCard.lean, 'card_holds'). Laid BY PROGRAM, IN A SANDBOX (cutbox-door.mjs). By AI agents, Wed Nov 11 2026. No macro, syntax, notation, axiom, sorry.
-/
import Derived.Test.YtkmllgimjmkghaaDoorRows
import GoSem.ClaimSeven
namespace Go.Proofs.YtkmllgimjmkghaaDoor
namespace Rows

/-- THE TIED CARD OF 'laws.FnRecoded'. -/
def fnRecodedCard : Claim7 := { stood := { row := fnRecodedRow, standIns := [], harness := (true, "27409c8ad64dc3cb696204b285962397e034c9d7ed43e43a88cebc3e42f2e5a7"), looks := false }, kinds := [], alts := [], laidByText := true, laidKinds := [.data], laidTests := true, laidLooks := .later }
def FnRecodedCardSaid : Prop := Claim7.holds Tryd.pinned (.plain (OpenSpec.ofChange fnRecodedSpec)) fnRecodedCard

/-- THE TIED CARD OF 'laws.FnLaneSums'. -/
def fnLaneSumsCard : Claim7 := { stood := { row := fnLaneSumsRow, standIns := [], harness := (true, "27409c8ad64dc3cb696204b285962397e034c9d7ed43e43a88cebc3e42f2e5a7"), looks := false }, kinds := [], alts := [], laidByText := true, laidKinds := [.data], laidTests := true, laidLooks := .later }
def FnLaneSumsCardSaid : Prop := Claim7.holds Tryd.pinned (.plain (OpenSpec.ofChange fnLaneSumsSpec)) fnLaneSumsCard

/-- THE SECOND FORM's CARD OF 'laws.FnRecoded'. -/
def fnRecodedUptoCard : Claim7 := { stood := { row := fnRecodedUptoRow, standIns := [], harness := (true, "27409c8ad64dc3cb696204b285962397e034c9d7ed43e43a88cebc3e42f2e5a7"), looks := false }, kinds := [], alts := [], laidByText := true, laidKinds := [.data], laidTests := true, laidLooks := .later }
def FnRecodedUptoCardSaid : Prop := Claim7.holds Tryd.pinned (.plain (OpenSpec.upto fnRecodedSpec)) fnRecodedUptoCard

/-- THE SECOND FORM's CARD OF 'laws.FnLaneSums'. -/
def fnLaneSumsUptoCard : Claim7 := { stood := { row := fnLaneSumsUptoRow, standIns := [], harness := (true, "27409c8ad64dc3cb696204b285962397e034c9d7ed43e43a88cebc3e42f2e5a7"), looks := false }, kinds := [], alts := [], laidByText := true, laidKinds := [.data], laidTests := true, laidLooks := .later }
def FnLaneSumsUptoCardSaid : Prop := Claim7.holds Tryd.pinned (.plain (OpenSpec.upto fnLaneSumsSpec)) fnLaneSumsUptoCard
end Rows
end Go.Proofs.YtkmllgimjmkghaaDoor
