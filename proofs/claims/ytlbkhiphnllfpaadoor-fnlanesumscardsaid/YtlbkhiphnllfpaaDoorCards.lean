/-
  DERIVED. GIVEN WITH THE SEED: THE CARDS: each row of YtlbkhiphnllfpaaDoorRows.lean that lists a variable, with what it lists TIED to the program's text (the seventh form; the later family's looks); each row that meets fmt, with fmt's text TOLD by the authors' own Lean function (tested against real Go, not proved from fmt's source: count such statements apart). THE CARD IS WHAT COUNTS. Prove the row's statement (the work); the ties are given (YtlbkhiphnllfpaaDoorTie.lean); close each card by the builder's one call (the guide's Derived/Test/ToyasCard.lean, 'card_holds'). Laid BY PROGRAM, IN A SANDBOX (cutbox-door.mjs). By AI agents, Wed Nov 11 2026. No macro, syntax, notation, axiom, sorry.
-/
import Derived.Test.YtlbkhiphnllfpaaDoorRows
import GoSem.ClaimSeven
namespace Go.Proofs.YtlbkhiphnllfpaaDoor
namespace Rows

/-- THE TIED CARD OF 'laws.FnRecoded'. -/
def fnRecodedCard : Claim7 := { stood := { row := fnRecodedRow, standIns := [], harness := (true, "032fa85d15adc5e98718a0f90a5882f1680c6f1ab5ff26c90c5d01204381c768"), looks := false }, kinds := [], alts := [], laidByText := true, laidKinds := [.data], laidTests := true, laidLooks := .later }
def FnRecodedCardSaid : Prop := Claim7.holds Tryd.pinned (.plain (OpenSpec.ofChange fnRecodedSpec)) fnRecodedCard

/-- THE TIED CARD OF 'laws.FnLaneSums'. -/
def fnLaneSumsCard : Claim7 := { stood := { row := fnLaneSumsRow, standIns := [], harness := (true, "032fa85d15adc5e98718a0f90a5882f1680c6f1ab5ff26c90c5d01204381c768"), looks := false }, kinds := [], alts := [], laidByText := true, laidKinds := [.data], laidTests := true, laidLooks := .later }
def FnLaneSumsCardSaid : Prop := Claim7.holds Tryd.pinned (.plain (OpenSpec.ofChange fnLaneSumsSpec)) fnLaneSumsCard

/-- THE TIED CARD OF 'laws.FnSaved'. -/
def fnSavedCard : Claim7 := { stood := { row := fnSavedRow, standIns := [], harness := (true, "032fa85d15adc5e98718a0f90a5882f1680c6f1ab5ff26c90c5d01204381c768"), looks := false }, kinds := [], alts := [], laidByText := true, laidKinds := [.data], laidTests := true, laidLooks := .later }
def FnSavedCardSaid : Prop := Claim7.holds Tryd.pinned (.plain (OpenSpec.ofChange fnSavedSpec)) fnSavedCard

/-- THE SECOND FORM's CARD OF 'laws.FnRecoded'. -/
def fnRecodedUptoCard : Claim7 := { stood := { row := fnRecodedUptoRow, standIns := [], harness := (true, "032fa85d15adc5e98718a0f90a5882f1680c6f1ab5ff26c90c5d01204381c768"), looks := false }, kinds := [], alts := [], laidByText := true, laidKinds := [.data], laidTests := true, laidLooks := .later }
def FnRecodedUptoCardSaid : Prop := Claim7.holds Tryd.pinned (.plain (OpenSpec.upto fnRecodedSpec)) fnRecodedUptoCard

/-- THE SECOND FORM's CARD OF 'laws.FnLaneSums'. -/
def fnLaneSumsUptoCard : Claim7 := { stood := { row := fnLaneSumsUptoRow, standIns := [], harness := (true, "032fa85d15adc5e98718a0f90a5882f1680c6f1ab5ff26c90c5d01204381c768"), looks := false }, kinds := [], alts := [], laidByText := true, laidKinds := [.data], laidTests := true, laidLooks := .later }
def FnLaneSumsUptoCardSaid : Prop := Claim7.holds Tryd.pinned (.plain (OpenSpec.upto fnLaneSumsSpec)) fnLaneSumsUptoCard

/-- THE SECOND FORM's CARD OF 'laws.FnSaved'. -/
def fnSavedUptoCard : Claim7 := { stood := { row := fnSavedUptoRow, standIns := [], harness := (true, "032fa85d15adc5e98718a0f90a5882f1680c6f1ab5ff26c90c5d01204381c768"), looks := false }, kinds := [], alts := [], laidByText := true, laidKinds := [.data], laidTests := true, laidLooks := .later }
def FnSavedUptoCardSaid : Prop := Claim7.holds Tryd.pinned (.plain (OpenSpec.upto fnSavedSpec)) fnSavedUptoCard
end Rows
end Go.Proofs.YtlbkhiphnllfpaaDoor
