/-
  DERIVED. GIVEN WITH THE SEED: THE CARDS: each row of YtndnoblcnjccdafGreatDoorRows.lean that lists a variable, with what it lists TIED to the program's text (the seventh form; the later family's looks); each row that meets fmt, with fmt's text TOLD by the authors' own Lean function (tested against real Go, not proved from fmt's source: count such statements apart). THE CARD IS WHAT COUNTS. Prove the row's statement (the work); the ties are given (YtndnoblcnjccdafGreatDoorTie.lean); close each card by the builder's one call (the guide's Derived/Test/ToyasCard.lean, 'card_holds'). Laid BY PROGRAM, IN A SANDBOX (cutbox-door.mjs). By AI agents, Wed Nov 11 2026. No macro, syntax, notation, axiom, sorry.
-/
import Derived.Test.YtndnoblcnjccdafGreatDoorRows
import GoSem.ClaimSeven
namespace Go.Proofs.YtndnoblcnjccdafGreatDoor
namespace Rows

/-- THE TIED CARD OF 'laws.FnMultiplied'. -/
def fnMultipliedCard : Claim7 := { stood := { row := fnMultipliedRow, standIns := [], harness := (true, "86dd9178ae138f2d0002ea07a8b4a8e6c4ebcf0a71eb97a5666b57b3ec108f10"), looks := true }, kinds := [], alts := [], laidByText := true, laidKinds := [.data, .pinned], laidTests := true, laidLooks := .later }
def FnMultipliedCardSaid : Prop := Claim7.holds Tryz.pinned (.plain (OpenSpec.ofChange fnMultipliedSpec)) fnMultipliedCard

/-- THE TIED CARD OF 'laws.FnFused'. -/
def fnFusedCard : Claim7 := { stood := { row := fnFusedRow, standIns := [], harness := (true, "86dd9178ae138f2d0002ea07a8b4a8e6c4ebcf0a71eb97a5666b57b3ec108f10"), looks := true }, kinds := [], alts := [], laidByText := true, laidKinds := [.data, .pinned], laidTests := true, laidLooks := .later }
def FnFusedCardSaid : Prop := Claim7.holds Tryz.pinned (.plain (OpenSpec.ofChange fnFusedSpec)) fnFusedCard

/-- THE TIED CARD OF 'laws.FnScaled'. -/
def fnScaledCard : Claim7 := { stood := { row := fnScaledRow, standIns := [], harness := (true, "86dd9178ae138f2d0002ea07a8b4a8e6c4ebcf0a71eb97a5666b57b3ec108f10"), looks := true }, kinds := [], alts := [], laidByText := true, laidKinds := [.data, .pinned], laidTests := true, laidLooks := .later }
def FnScaledCardSaid : Prop := Claim7.holds Tryz.pinned (.plain (OpenSpec.ofChange fnScaledSpec)) fnScaledCard

/-- THE TIED CARD OF 'laws.FnRatio'. -/
def fnRatioCard : Claim7 := { stood := { row := fnRatioRow, standIns := [], harness := (true, "86dd9178ae138f2d0002ea07a8b4a8e6c4ebcf0a71eb97a5666b57b3ec108f10"), looks := true }, kinds := [], alts := [], laidByText := true, laidKinds := [.data, .pinned], laidTests := true, laidLooks := .later }
def FnRatioCardSaid : Prop := Claim7.holds Tryz.pinned (.plain (OpenSpec.ofChange fnRatioSpec)) fnRatioCard

/-- THE TIED CARD OF 'laws.FnSquareRoot'. -/
def fnSquareRootCard : Claim7 := { stood := { row := fnSquareRootRow, standIns := [], harness := (true, "86dd9178ae138f2d0002ea07a8b4a8e6c4ebcf0a71eb97a5666b57b3ec108f10"), looks := true }, kinds := [], alts := [], laidByText := true, laidKinds := [.data, .pinned], laidTests := true, laidLooks := .later }
def FnSquareRootCardSaid : Prop := Claim7.holds Tryz.pinned (.plain (OpenSpec.ofChange fnSquareRootSpec)) fnSquareRootCard

/-- THE TIED CARD OF 'laws.FnQuantized'. -/
def fnQuantizedCard : Claim7 := { stood := { row := fnQuantizedRow, standIns := [], harness := (true, "86dd9178ae138f2d0002ea07a8b4a8e6c4ebcf0a71eb97a5666b57b3ec108f10"), looks := true }, kinds := [], alts := [], laidByText := true, laidKinds := [.data, .pinned], laidTests := true, laidLooks := .later }
def FnQuantizedCardSaid : Prop := Claim7.holds Tryz.pinned (.plain (OpenSpec.ofChange fnQuantizedSpec)) fnQuantizedCard

/-- THE SECOND FORM's CARD OF 'laws.FnMultiplied'. -/
def fnMultipliedUptoCard : Claim7 := { stood := { row := fnMultipliedUptoRow, standIns := [], harness := (true, "86dd9178ae138f2d0002ea07a8b4a8e6c4ebcf0a71eb97a5666b57b3ec108f10"), looks := true }, kinds := [], alts := [], laidByText := true, laidKinds := [.data, .pinned], laidTests := true, laidLooks := .later }
def FnMultipliedUptoCardSaid : Prop := Claim7.holds Tryz.pinned (.plain (OpenSpec.upto fnMultipliedSpec)) fnMultipliedUptoCard

/-- THE SECOND FORM's CARD OF 'laws.FnFused'. -/
def fnFusedUptoCard : Claim7 := { stood := { row := fnFusedUptoRow, standIns := [], harness := (true, "86dd9178ae138f2d0002ea07a8b4a8e6c4ebcf0a71eb97a5666b57b3ec108f10"), looks := true }, kinds := [], alts := [], laidByText := true, laidKinds := [.data, .pinned], laidTests := true, laidLooks := .later }
def FnFusedUptoCardSaid : Prop := Claim7.holds Tryz.pinned (.plain (OpenSpec.upto fnFusedSpec)) fnFusedUptoCard

/-- THE SECOND FORM's CARD OF 'laws.FnScaled'. -/
def fnScaledUptoCard : Claim7 := { stood := { row := fnScaledUptoRow, standIns := [], harness := (true, "86dd9178ae138f2d0002ea07a8b4a8e6c4ebcf0a71eb97a5666b57b3ec108f10"), looks := true }, kinds := [], alts := [], laidByText := true, laidKinds := [.data, .pinned], laidTests := true, laidLooks := .later }
def FnScaledUptoCardSaid : Prop := Claim7.holds Tryz.pinned (.plain (OpenSpec.upto fnScaledSpec)) fnScaledUptoCard

/-- THE SECOND FORM's CARD OF 'laws.FnRatio'. -/
def fnRatioUptoCard : Claim7 := { stood := { row := fnRatioUptoRow, standIns := [], harness := (true, "86dd9178ae138f2d0002ea07a8b4a8e6c4ebcf0a71eb97a5666b57b3ec108f10"), looks := true }, kinds := [], alts := [], laidByText := true, laidKinds := [.data, .pinned], laidTests := true, laidLooks := .later }
def FnRatioUptoCardSaid : Prop := Claim7.holds Tryz.pinned (.plain (OpenSpec.upto fnRatioSpec)) fnRatioUptoCard

/-- THE SECOND FORM's CARD OF 'laws.FnSquareRoot'. -/
def fnSquareRootUptoCard : Claim7 := { stood := { row := fnSquareRootUptoRow, standIns := [], harness := (true, "86dd9178ae138f2d0002ea07a8b4a8e6c4ebcf0a71eb97a5666b57b3ec108f10"), looks := true }, kinds := [], alts := [], laidByText := true, laidKinds := [.data, .pinned], laidTests := true, laidLooks := .later }
def FnSquareRootUptoCardSaid : Prop := Claim7.holds Tryz.pinned (.plain (OpenSpec.upto fnSquareRootSpec)) fnSquareRootUptoCard

/-- THE SECOND FORM's CARD OF 'laws.FnQuantized'. -/
def fnQuantizedUptoCard : Claim7 := { stood := { row := fnQuantizedUptoRow, standIns := [], harness := (true, "86dd9178ae138f2d0002ea07a8b4a8e6c4ebcf0a71eb97a5666b57b3ec108f10"), looks := true }, kinds := [], alts := [], laidByText := true, laidKinds := [.data, .pinned], laidTests := true, laidLooks := .later }
def FnQuantizedUptoCardSaid : Prop := Claim7.holds Tryz.pinned (.plain (OpenSpec.upto fnQuantizedSpec)) fnQuantizedUptoCard
end Rows
end Go.Proofs.YtndnoblcnjccdafGreatDoor
