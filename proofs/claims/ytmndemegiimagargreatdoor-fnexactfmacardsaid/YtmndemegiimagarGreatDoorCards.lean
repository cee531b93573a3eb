/-
  DERIVED. GIVEN WITH THE SEED: THE CARDS: each row of YtmndemegiimagarGreatDoorRows.lean that lists a variable, with what it lists TIED to the program's text (the seventh form; the later family's looks); each row that meets fmt, with fmt's text TOLD by the authors' own Lean function (tested against real Go, not proved from fmt's source: count such statements apart). THE CARD IS WHAT COUNTS. Prove the row's statement (the work); the ties are given (YtmndemegiimagarGreatDoorTie.lean); close each card by the builder's one call (the guide's Derived/Test/ToyasCard.lean, 'card_holds'). Laid BY PROGRAM, IN A SANDBOX (cutbox-door.mjs). By AI agents, Wed Nov 11 2026. No macro, syntax, notation, axiom, sorry.
-/
import Derived.Test.YtmndemegiimagarGreatDoorRows
import GoSem.ClaimSeven
namespace Go.Proofs.YtmndemegiimagarGreatDoor
namespace Rows

/-- THE TIED CARD OF 'laws.FnExactSub'. -/
def fnExactSubCard : Claim7 := { stood := { row := fnExactSubRow, standIns := [], harness := (true, "73f75db04c5f9e339ec2c4e53033eeb358ba5b5cbe05af5797d939e033e3655f"), looks := true }, kinds := [], alts := [], laidByText := true, laidKinds := [.data, .pinned], laidTests := true, laidLooks := .later }
def FnExactSubCardSaid : Prop := Claim7.holds Tryz.pinned (.plain (OpenSpec.ofChange fnExactSubSpec)) fnExactSubCard

/-- THE TIED CARD OF 'laws.FnExactMul'. -/
def fnExactMulCard : Claim7 := { stood := { row := fnExactMulRow, standIns := [], harness := (true, "73f75db04c5f9e339ec2c4e53033eeb358ba5b5cbe05af5797d939e033e3655f"), looks := true }, kinds := [], alts := [], laidByText := true, laidKinds := [.data, .pinned], laidTests := true, laidLooks := .later }
def FnExactMulCardSaid : Prop := Claim7.holds Tryz.pinned (.plain (OpenSpec.ofChange fnExactMulSpec)) fnExactMulCard

/-- THE TIED CARD OF 'laws.FnExactFma'. -/
def fnExactFmaCard : Claim7 := { stood := { row := fnExactFmaRow, standIns := [], harness := (true, "73f75db04c5f9e339ec2c4e53033eeb358ba5b5cbe05af5797d939e033e3655f"), looks := true }, kinds := [], alts := [], laidByText := true, laidKinds := [.data, .pinned], laidTests := true, laidLooks := .later }
def FnExactFmaCardSaid : Prop := Claim7.holds Tryz.pinned (.plain (OpenSpec.ofChange fnExactFmaSpec)) fnExactFmaCard

/-- THE TIED CARD OF 'laws.FnExactScale'. -/
def fnExactScaleCard : Claim7 := { stood := { row := fnExactScaleRow, standIns := [], harness := (true, "73f75db04c5f9e339ec2c4e53033eeb358ba5b5cbe05af5797d939e033e3655f"), looks := true }, kinds := [], alts := [], laidByText := true, laidKinds := [.data, .pinned], laidTests := true, laidLooks := .later }
def FnExactScaleCardSaid : Prop := Claim7.holds Tryz.pinned (.plain (OpenSpec.ofChange fnExactScaleSpec)) fnExactScaleCard

/-- THE TIED CARD OF 'laws.FnExactDiv'. -/
def fnExactDivCard : Claim7 := { stood := { row := fnExactDivRow, standIns := [], harness := (true, "73f75db04c5f9e339ec2c4e53033eeb358ba5b5cbe05af5797d939e033e3655f"), looks := true }, kinds := [], alts := [], laidByText := true, laidKinds := [.data, .pinned], laidTests := true, laidLooks := .later }
def FnExactDivCardSaid : Prop := Claim7.holds Tryz.pinned (.plain (OpenSpec.ofChange fnExactDivSpec)) fnExactDivCard

/-- THE TIED CARD OF 'laws.FnExactSqrt'. -/
def fnExactSqrtCard : Claim7 := { stood := { row := fnExactSqrtRow, standIns := [], harness := (true, "73f75db04c5f9e339ec2c4e53033eeb358ba5b5cbe05af5797d939e033e3655f"), looks := true }, kinds := [], alts := [], laidByText := true, laidKinds := [.data, .pinned], laidTests := true, laidLooks := .later }
def FnExactSqrtCardSaid : Prop := Claim7.holds Tryz.pinned (.plain (OpenSpec.ofChange fnExactSqrtSpec)) fnExactSqrtCard

/-- THE SECOND FORM's CARD OF 'laws.FnExactSub'. -/
def fnExactSubUptoCard : Claim7 := { stood := { row := fnExactSubUptoRow, standIns := [], harness := (true, "73f75db04c5f9e339ec2c4e53033eeb358ba5b5cbe05af5797d939e033e3655f"), looks := true }, kinds := [], alts := [], laidByText := true, laidKinds := [.data, .pinned], laidTests := true, laidLooks := .later }
def FnExactSubUptoCardSaid : Prop := Claim7.holds Tryz.pinned (.plain (OpenSpec.upto fnExactSubSpec)) fnExactSubUptoCard

/-- THE SECOND FORM's CARD OF 'laws.FnExactMul'. -/
def fnExactMulUptoCard : Claim7 := { stood := { row := fnExactMulUptoRow, standIns := [], harness := (true, "73f75db04c5f9e339ec2c4e53033eeb358ba5b5cbe05af5797d939e033e3655f"), looks := true }, kinds := [], alts := [], laidByText := true, laidKinds := [.data, .pinned], laidTests := true, laidLooks := .later }
def FnExactMulUptoCardSaid : Prop := Claim7.holds Tryz.pinned (.plain (OpenSpec.upto fnExactMulSpec)) fnExactMulUptoCard

/-- THE SECOND FORM's CARD OF 'laws.FnExactFma'. -/
def fnExactFmaUptoCard : Claim7 := { stood := { row := fnExactFmaUptoRow, standIns := [], harness := (true, "73f75db04c5f9e339ec2c4e53033eeb358ba5b5cbe05af5797d939e033e3655f"), looks := true }, kinds := [], alts := [], laidByText := true, laidKinds := [.data, .pinned], laidTests := true, laidLooks := .later }
def FnExactFmaUptoCardSaid : Prop := Claim7.holds Tryz.pinned (.plain (OpenSpec.upto fnExactFmaSpec)) fnExactFmaUptoCard

/-- THE SECOND FORM's CARD OF 'laws.FnExactScale'. -/
def fnExactScaleUptoCard : Claim7 := { stood := { row := fnExactScaleUptoRow, standIns := [], harness := (true, "73f75db04c5f9e339ec2c4e53033eeb358ba5b5cbe05af5797d939e033e3655f"), looks := true }, kinds := [], alts := [], laidByText := true, laidKinds := [.data, .pinned], laidTests := true, laidLooks := .later }
def FnExactScaleUptoCardSaid : Prop := Claim7.holds Tryz.pinned (.plain (OpenSpec.upto fnExactScaleSpec)) fnExactScaleUptoCard

/-- THE SECOND FORM's CARD OF 'laws.FnExactDiv'. -/
def fnExactDivUptoCard : Claim7 := { stood := { row := fnExactDivUptoRow, standIns := [], harness := (true, "73f75db04c5f9e339ec2c4e53033eeb358ba5b5cbe05af5797d939e033e3655f"), looks := true }, kinds := [], alts := [], laidByText := true, laidKinds := [.data, .pinned], laidTests := true, laidLooks := .later }
def FnExactDivUptoCardSaid : Prop := Claim7.holds Tryz.pinned (.plain (OpenSpec.upto fnExactDivSpec)) fnExactDivUptoCard

/-- THE SECOND FORM's CARD OF 'laws.FnExactSqrt'. -/
def fnExactSqrtUptoCard : Claim7 := { stood := { row := fnExactSqrtUptoRow, standIns := [], harness := (true, "73f75db04c5f9e339ec2c4e53033eeb358ba5b5cbe05af5797d939e033e3655f"), looks := true }, kinds := [], alts := [], laidByText := true, laidKinds := [.data, .pinned], laidTests := true, laidLooks := .later }
def FnExactSqrtUptoCardSaid : Prop := Claim7.holds Tryz.pinned (.plain (OpenSpec.upto fnExactSqrtSpec)) fnExactSqrtUptoCard
end Rows
end Go.Proofs.YtmndemegiimagarGreatDoor
