/-
  DERIVED. GIVEN WITH THE SEED: THE CARDS: each row of YtlbkhiphnllfpahDoorRows.lean that lists a variable, with what it lists TIED to the program's text (the seventh form; the later family's looks); each row that meets fmt, with fmt's text TOLD by the authors' own Lean function (tested against real Go, not proved from fmt's source: count such statements apart). THE CARD IS WHAT COUNTS. Prove the row's statement (the work); the ties are given (YtlbkhiphnllfpahDoorTie.lean); close each card by the builder's one call (the guide's Derived/Test/ToyasCard.lean, 'card_holds'). Laid BY PROGRAM, IN A SANDBOX (cutbox-door.mjs). By AI agents, Wed Nov 11 2026. No macro, syntax, notation, axiom, sorry.
-/
import Derived.Test.YtlbkhiphnllfpahDoorRows
import GoSem.ClaimSeven
namespace Go.Proofs.YtlbkhiphnllfpahDoor
namespace Rows

/-- THE TIED CARD OF 'laws.FnExactLaneOk'. -/
def fnExactLaneOkCard : Claim7 := { stood := { row := fnExactLaneOkRow, standIns := [], harness := (true, "6e8ddc8901351c55d233f5b3c5a5f3418ecf0fbd52fb3464ae07df18e46e99b5"), looks := false }, kinds := [], alts := [], laidByText := true, laidKinds := [.data], laidTests := true, laidLooks := .later }
def FnExactLaneOkCardSaid : Prop := Claim7.holds Tryd.pinned (.plain (OpenSpec.ofChange fnExactLaneOkSpec)) fnExactLaneOkCard

/-- THE TIED CARD OF 'laws.FnExactLaneDigits'. -/
def fnExactLaneDigitsCard : Claim7 := { stood := { row := fnExactLaneDigitsRow, standIns := [], harness := (true, "6e8ddc8901351c55d233f5b3c5a5f3418ecf0fbd52fb3464ae07df18e46e99b5"), looks := false }, kinds := [], alts := [], laidByText := true, laidKinds := [.data], laidTests := true, laidLooks := .later }
def FnExactLaneDigitsCardSaid : Prop := Claim7.holds Tryd.pinned (.plain (OpenSpec.ofChange fnExactLaneDigitsSpec)) fnExactLaneDigitsCard

/-- THE TIED CARD OF 'laws.FnExactLanePack'. -/
def fnExactLanePackCard : Claim7 := { stood := { row := fnExactLanePackRow, standIns := [], harness := (true, "6e8ddc8901351c55d233f5b3c5a5f3418ecf0fbd52fb3464ae07df18e46e99b5"), looks := false }, kinds := [], alts := [], laidByText := true, laidKinds := [.data], laidTests := true, laidLooks := .later }
def FnExactLanePackCardSaid : Prop := Claim7.holds Tryd.pinned (.plain (OpenSpec.ofChange fnExactLanePackSpec)) fnExactLanePackCard

/-- THE TIED CARD OF 'laws.FnExactRecode'. -/
def fnExactRecodeCard : Claim7 := { stood := { row := fnExactRecodeRow, standIns := [], harness := (true, "6e8ddc8901351c55d233f5b3c5a5f3418ecf0fbd52fb3464ae07df18e46e99b5"), looks := false }, kinds := [], alts := [], laidByText := true, laidKinds := [.data], laidTests := true, laidLooks := .later }
def FnExactRecodeCardSaid : Prop := Claim7.holds Tryd.pinned (.plain (OpenSpec.ofChange fnExactRecodeSpec)) fnExactRecodeCard

/-- THE TIED CARD OF 'laws.FnExactLaneAdd'. -/
def fnExactLaneAddCard : Claim7 := { stood := { row := fnExactLaneAddRow, standIns := [], harness := (true, "6e8ddc8901351c55d233f5b3c5a5f3418ecf0fbd52fb3464ae07df18e46e99b5"), looks := false }, kinds := [], alts := [], laidByText := true, laidKinds := [.data], laidTests := true, laidLooks := .later }
def FnExactLaneAddCardSaid : Prop := Claim7.holds Tryd.pinned (.plain (OpenSpec.ofChange fnExactLaneAddSpec)) fnExactLaneAddCard

/-- THE SECOND FORM's CARD OF 'laws.FnExactLaneOk'. -/
def fnExactLaneOkUptoCard : Claim7 := { stood := { row := fnExactLaneOkUptoRow, standIns := [], harness := (true, "6e8ddc8901351c55d233f5b3c5a5f3418ecf0fbd52fb3464ae07df18e46e99b5"), looks := false }, kinds := [], alts := [], laidByText := true, laidKinds := [.data], laidTests := true, laidLooks := .later }
def FnExactLaneOkUptoCardSaid : Prop := Claim7.holds Tryd.pinned (.plain (OpenSpec.upto fnExactLaneOkSpec)) fnExactLaneOkUptoCard

/-- THE SECOND FORM's CARD OF 'laws.FnExactLaneDigits'. -/
def fnExactLaneDigitsUptoCard : Claim7 := { stood := { row := fnExactLaneDigitsUptoRow, standIns := [], harness := (true, "6e8ddc8901351c55d233f5b3c5a5f3418ecf0fbd52fb3464ae07df18e46e99b5"), looks := false }, kinds := [], alts := [], laidByText := true, laidKinds := [.data], laidTests := true, laidLooks := .later }
def FnExactLaneDigitsUptoCardSaid : Prop := Claim7.holds Tryd.pinned (.plain (OpenSpec.upto fnExactLaneDigitsSpec)) fnExactLaneDigitsUptoCard

/-- THE SECOND FORM's CARD OF 'laws.FnExactLanePack'. -/
def fnExactLanePackUptoCard : Claim7 := { stood := { row := fnExactLanePackUptoRow, standIns := [], harness := (true, "6e8ddc8901351c55d233f5b3c5a5f3418ecf0fbd52fb3464ae07df18e46e99b5"), looks := false }, kinds := [], alts := [], laidByText := true, laidKinds := [.data], laidTests := true, laidLooks := .later }
def FnExactLanePackUptoCardSaid : Prop := Claim7.holds Tryd.pinned (.plain (OpenSpec.upto fnExactLanePackSpec)) fnExactLanePackUptoCard

/-- THE SECOND FORM's CARD OF 'laws.FnExactRecode'. -/
def fnExactRecodeUptoCard : Claim7 := { stood := { row := fnExactRecodeUptoRow, standIns := [], harness := (true, "6e8ddc8901351c55d233f5b3c5a5f3418ecf0fbd52fb3464ae07df18e46e99b5"), looks := false }, kinds := [], alts := [], laidByText := true, laidKinds := [.data], laidTests := true, laidLooks := .later }
def FnExactRecodeUptoCardSaid : Prop := Claim7.holds Tryd.pinned (.plain (OpenSpec.upto fnExactRecodeSpec)) fnExactRecodeUptoCard

/-- THE SECOND FORM's CARD OF 'laws.FnExactLaneAdd'. -/
def fnExactLaneAddUptoCard : Claim7 := { stood := { row := fnExactLaneAddUptoRow, standIns := [], harness := (true, "6e8ddc8901351c55d233f5b3c5a5f3418ecf0fbd52fb3464ae07df18e46e99b5"), looks := false }, kinds := [], alts := [], laidByText := true, laidKinds := [.data], laidTests := true, laidLooks := .later }
def FnExactLaneAddUptoCardSaid : Prop := Claim7.holds Tryd.pinned (.plain (OpenSpec.upto fnExactLaneAddSpec)) fnExactLaneAddUptoCard
end Rows
end Go.Proofs.YtlbkhiphnllfpahDoor
