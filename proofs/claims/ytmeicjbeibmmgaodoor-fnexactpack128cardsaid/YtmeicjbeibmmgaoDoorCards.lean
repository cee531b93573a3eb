/-
  DERIVED. GIVEN WITH THE SEED: THE CARDS: each row of YtmeicjbeibmmgaoDoorRows.lean that lists a variable, with what it lists TIED to the program's text (the seventh form; the later family's looks); each row that meets fmt, with fmt's text TOLD by the authors' own Lean function (tested against real Go, not proved from fmt's source: count such statements apart). THE CARD IS WHAT COUNTS. Prove the row's statement (the work); the ties are given (YtmeicjbeibmmgaoDoorTie.lean); close each card by the builder's one call (the guide's Derived/Test/ToyasCard.lean, 'card_holds'). Laid BY PROGRAM, IN A SANDBOX (cutbox-door.mjs). By AI agents, Wed Nov 11 2026. No macro, syntax, notation, axiom, sorry.
-/
import Derived.Test.YtmeicjbeibmmgaoDoorRows
import GoSem.ClaimSeven
namespace Go.Proofs.YtmeicjbeibmmgaoDoor
namespace Rows

/-- THE TIED CARD OF 'laws.FnExactPack64'. -/
def fnExactPack64Card : Claim7 := { stood := { row := fnExactPack64Row, standIns := [], harness := (true, "e722b367177c35ad9d43c193003fd03bd0b3106bb7e2b29402566e5d83035cb1"), looks := false }, kinds := [], alts := [], laidByText := true, laidKinds := [.data, .data], laidTests := true, laidLooks := .later }
def FnExactPack64CardSaid : Prop := Claim7.holds Tryd.pinned (.plain (OpenSpec.ofChange fnExactPack64Spec)) fnExactPack64Card

/-- THE TIED CARD OF 'laws.FnExactPack128'. -/
def fnExactPack128Card : Claim7 := { stood := { row := fnExactPack128Row, standIns := [], harness := (true, "e722b367177c35ad9d43c193003fd03bd0b3106bb7e2b29402566e5d83035cb1"), looks := false }, kinds := [], alts := [], laidByText := true, laidKinds := [.data, .data], laidTests := true, laidLooks := .later }
def FnExactPack128CardSaid : Prop := Claim7.holds Tryd.pinned (.plain (OpenSpec.ofChange fnExactPack128Spec)) fnExactPack128Card

/-- THE TIED CARD OF 'laws.FnExactUnpack64'. -/
def fnExactUnpack64Card : Claim7 := { stood := { row := fnExactUnpack64Row, standIns := [], harness := (true, "e722b367177c35ad9d43c193003fd03bd0b3106bb7e2b29402566e5d83035cb1"), looks := false }, kinds := [], alts := [], laidByText := true, laidKinds := [.data, .data, .data, .pinned], laidTests := true, laidLooks := .later }
def FnExactUnpack64CardSaid : Prop := Claim7.holds Tryd.pinned (.plain (OpenSpec.ofChange fnExactUnpack64Spec)) fnExactUnpack64Card

/-- THE TIED CARD OF 'laws.FnExactUnpack128'. -/
def fnExactUnpack128Card : Claim7 := { stood := { row := fnExactUnpack128Row, standIns := [], harness := (true, "e722b367177c35ad9d43c193003fd03bd0b3106bb7e2b29402566e5d83035cb1"), looks := false }, kinds := [], alts := [], laidByText := true, laidKinds := [.data, .data, .data, .pinned], laidTests := true, laidLooks := .later }
def FnExactUnpack128CardSaid : Prop := Claim7.holds Tryd.pinned (.plain (OpenSpec.ofChange fnExactUnpack128Spec)) fnExactUnpack128Card

/-- THE TIED CARD OF 'laws.FnExactCanonWord'. -/
def fnExactCanonWordCard : Claim7 := { stood := { row := fnExactCanonWordRow, standIns := [], harness := (true, "e722b367177c35ad9d43c193003fd03bd0b3106bb7e2b29402566e5d83035cb1"), looks := false }, kinds := [], alts := [], laidByText := true, laidKinds := [.data, .data, .data, .pinned], laidTests := true, laidLooks := .later }
def FnExactCanonWordCardSaid : Prop := Claim7.holds Tryd.pinned (.plain (OpenSpec.ofChange fnExactCanonWordSpec)) fnExactCanonWordCard

/-- THE SECOND FORM's CARD OF 'laws.FnExactPack64'. -/
def fnExactPack64UptoCard : Claim7 := { stood := { row := fnExactPack64UptoRow, standIns := [], harness := (true, "e722b367177c35ad9d43c193003fd03bd0b3106bb7e2b29402566e5d83035cb1"), looks := false }, kinds := [], alts := [], laidByText := true, laidKinds := [.data, .data], laidTests := true, laidLooks := .later }
def FnExactPack64UptoCardSaid : Prop := Claim7.holds Tryd.pinned (.plain (OpenSpec.upto fnExactPack64Spec)) fnExactPack64UptoCard

/-- THE SECOND FORM's CARD OF 'laws.FnExactPack128'. -/
def fnExactPack128UptoCard : Claim7 := { stood := { row := fnExactPack128UptoRow, standIns := [], harness := (true, "e722b367177c35ad9d43c193003fd03bd0b3106bb7e2b29402566e5d83035cb1"), looks := false }, kinds := [], alts := [], laidByText := true, laidKinds := [.data, .data], laidTests := true, laidLooks := .later }
def FnExactPack128UptoCardSaid : Prop := Claim7.holds Tryd.pinned (.plain (OpenSpec.upto fnExactPack128Spec)) fnExactPack128UptoCard

/-- THE SECOND FORM's CARD OF 'laws.FnExactUnpack64'. -/
def fnExactUnpack64UptoCard : Claim7 := { stood := { row := fnExactUnpack64UptoRow, standIns := [], harness := (true, "e722b367177c35ad9d43c193003fd03bd0b3106bb7e2b29402566e5d83035cb1"), looks := false }, kinds := [], alts := [], laidByText := true, laidKinds := [.data, .data, .data, .pinned], laidTests := true, laidLooks := .later }
def FnExactUnpack64UptoCardSaid : Prop := Claim7.holds Tryd.pinned (.plain (OpenSpec.upto fnExactUnpack64Spec)) fnExactUnpack64UptoCard

/-- THE SECOND FORM's CARD OF 'laws.FnExactUnpack128'. -/
def fnExactUnpack128UptoCard : Claim7 := { stood := { row := fnExactUnpack128UptoRow, standIns := [], harness := (true, "e722b367177c35ad9d43c193003fd03bd0b3106bb7e2b29402566e5d83035cb1"), looks := false }, kinds := [], alts := [], laidByText := true, laidKinds := [.data, .data, .data, .pinned], laidTests := true, laidLooks := .later }
def FnExactUnpack128UptoCardSaid : Prop := Claim7.holds Tryd.pinned (.plain (OpenSpec.upto fnExactUnpack128Spec)) fnExactUnpack128UptoCard

/-- THE SECOND FORM's CARD OF 'laws.FnExactCanonWord'. -/
def fnExactCanonWordUptoCard : Claim7 := { stood := { row := fnExactCanonWordUptoRow, standIns := [], harness := (true, "e722b367177c35ad9d43c193003fd03bd0b3106bb7e2b29402566e5d83035cb1"), looks := false }, kinds := [], alts := [], laidByText := true, laidKinds := [.data, .data, .data, .pinned], laidTests := true, laidLooks := .later }
def FnExactCanonWordUptoCardSaid : Prop := Claim7.holds Tryd.pinned (.plain (OpenSpec.upto fnExactCanonWordSpec)) fnExactCanonWordUptoCard
end Rows
end Go.Proofs.YtmeicjbeibmmgaoDoor
