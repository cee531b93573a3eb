/-
  DERIVED. GIVEN WITH THE SEED: THE CARDS: each row of YtlbkhiphnllfpakDoorRows.lean that lists a variable, with what it lists TIED to the program's text (the seventh form; the later family's looks); each row that meets fmt, with fmt's text TOLD by the authors' own Lean function (tested against real Go, not proved from fmt's source: count such statements apart). THE CARD IS WHAT COUNTS. Prove the row's statement (the work); the ties are given (YtlbkhiphnllfpakDoorTie.lean); close each card by the builder's one call (the guide's Derived/Test/ToyasCard.lean, 'card_holds'). Laid BY PROGRAM, IN A SANDBOX (cutbox-door.mjs). By AI agents, Wed Nov 11 2026. No macro, syntax, notation, axiom, sorry.
-/
import Derived.Test.YtlbkhiphnllfpakDoorRows
import GoSem.ClaimSeven
namespace Go.Proofs.YtlbkhiphnllfpakDoor
namespace Rows

/-- THE TIED CARD OF 'laws.FnExactDouble'. -/
def fnExactDoubleCard : Claim7 := { stood := { row := fnExactDoubleRow, standIns := [], harness := (true, "05319e1f6b3f76d2f0c9a5779ec020b5c06b5da6ed25b3183e306fa6883cff87"), looks := false }, kinds := [], alts := [], laidByText := true, laidKinds := [.data], laidTests := true, laidLooks := .later }
def FnExactDoubleCardSaid : Prop := Claim7.holds Tryd.pinned (.plain (OpenSpec.ofChange fnExactDoubleSpec)) fnExactDoubleCard

/-- THE TIED CARD OF 'laws.FnExactFive'. -/
def fnExactFiveCard : Claim7 := { stood := { row := fnExactFiveRow, standIns := [], harness := (true, "05319e1f6b3f76d2f0c9a5779ec020b5c06b5da6ed25b3183e306fa6883cff87"), looks := false }, kinds := [], alts := [], laidByText := true, laidKinds := [.data], laidTests := true, laidLooks := .later }
def FnExactFiveCardSaid : Prop := Claim7.holds Tryd.pinned (.plain (OpenSpec.ofChange fnExactFiveSpec)) fnExactFiveCard

/-- THE TIED CARD OF 'laws.FnExactMultiple'. -/
def fnExactMultipleCard : Claim7 := { stood := { row := fnExactMultipleRow, standIns := [], harness := (true, "05319e1f6b3f76d2f0c9a5779ec020b5c06b5da6ed25b3183e306fa6883cff87"), looks := false }, kinds := [], alts := [], laidByText := true, laidKinds := [.data], laidTests := true, laidLooks := .later }
def FnExactMultipleCardSaid : Prop := Claim7.holds Tryd.pinned (.plain (OpenSpec.ofChange fnExactMultipleSpec)) fnExactMultipleCard

/-- THE TIED CARD OF 'laws.FnExactSignedMultiple'. -/
def fnExactSignedMultipleCard : Claim7 := { stood := { row := fnExactSignedMultipleRow, standIns := [], harness := (true, "05319e1f6b3f76d2f0c9a5779ec020b5c06b5da6ed25b3183e306fa6883cff87"), looks := false }, kinds := [], alts := [], laidByText := true, laidKinds := [.data], laidTests := true, laidLooks := .later }
def FnExactSignedMultipleCardSaid : Prop := Claim7.holds Tryd.pinned (.plain (OpenSpec.ofChange fnExactSignedMultipleSpec)) fnExactSignedMultipleCard

/-- THE TIED CARD OF 'laws.FnExactProduct'. -/
def fnExactProductCard : Claim7 := { stood := { row := fnExactProductRow, standIns := [], harness := (true, "05319e1f6b3f76d2f0c9a5779ec020b5c06b5da6ed25b3183e306fa6883cff87"), looks := false }, kinds := [], alts := [], laidByText := true, laidKinds := [.data], laidTests := true, laidLooks := .later }
def FnExactProductCardSaid : Prop := Claim7.holds Tryd.pinned (.plain (OpenSpec.ofChange fnExactProductSpec)) fnExactProductCard

/-- THE SECOND FORM's CARD OF 'laws.FnExactDouble'. -/
def fnExactDoubleUptoCard : Claim7 := { stood := { row := fnExactDoubleUptoRow, standIns := [], harness := (true, "05319e1f6b3f76d2f0c9a5779ec020b5c06b5da6ed25b3183e306fa6883cff87"), looks := false }, kinds := [], alts := [], laidByText := true, laidKinds := [.data], laidTests := true, laidLooks := .later }
def FnExactDoubleUptoCardSaid : Prop := Claim7.holds Tryd.pinned (.plain (OpenSpec.upto fnExactDoubleSpec)) fnExactDoubleUptoCard

/-- THE SECOND FORM's CARD OF 'laws.FnExactFive'. -/
def fnExactFiveUptoCard : Claim7 := { stood := { row := fnExactFiveUptoRow, standIns := [], harness := (true, "05319e1f6b3f76d2f0c9a5779ec020b5c06b5da6ed25b3183e306fa6883cff87"), looks := false }, kinds := [], alts := [], laidByText := true, laidKinds := [.data], laidTests := true, laidLooks := .later }
def FnExactFiveUptoCardSaid : Prop := Claim7.holds Tryd.pinned (.plain (OpenSpec.upto fnExactFiveSpec)) fnExactFiveUptoCard

/-- THE SECOND FORM's CARD OF 'laws.FnExactMultiple'. -/
def fnExactMultipleUptoCard : Claim7 := { stood := { row := fnExactMultipleUptoRow, standIns := [], harness := (true, "05319e1f6b3f76d2f0c9a5779ec020b5c06b5da6ed25b3183e306fa6883cff87"), looks := false }, kinds := [], alts := [], laidByText := true, laidKinds := [.data], laidTests := true, laidLooks := .later }
def FnExactMultipleUptoCardSaid : Prop := Claim7.holds Tryd.pinned (.plain (OpenSpec.upto fnExactMultipleSpec)) fnExactMultipleUptoCard

/-- THE SECOND FORM's CARD OF 'laws.FnExactSignedMultiple'. -/
def fnExactSignedMultipleUptoCard : Claim7 := { stood := { row := fnExactSignedMultipleUptoRow, standIns := [], harness := (true, "05319e1f6b3f76d2f0c9a5779ec020b5c06b5da6ed25b3183e306fa6883cff87"), looks := false }, kinds := [], alts := [], laidByText := true, laidKinds := [.data], laidTests := true, laidLooks := .later }
def FnExactSignedMultipleUptoCardSaid : Prop := Claim7.holds Tryd.pinned (.plain (OpenSpec.upto fnExactSignedMultipleSpec)) fnExactSignedMultipleUptoCard

/-- THE SECOND FORM's CARD OF 'laws.FnExactProduct'. -/
def fnExactProductUptoCard : Claim7 := { stood := { row := fnExactProductUptoRow, standIns := [], harness := (true, "05319e1f6b3f76d2f0c9a5779ec020b5c06b5da6ed25b3183e306fa6883cff87"), looks := false }, kinds := [], alts := [], laidByText := true, laidKinds := [.data], laidTests := true, laidLooks := .later }
def FnExactProductUptoCardSaid : Prop := Claim7.holds Tryd.pinned (.plain (OpenSpec.upto fnExactProductSpec)) fnExactProductUptoCard
end Rows
end Go.Proofs.YtlbkhiphnllfpakDoor
