/-
  DERIVED. GIVEN WITH THE SEED: THE CARDS: each row of YtlbkhiphnllfpajDoorRows.lean that lists a variable, with what it lists TIED to the program's text (the seventh form; the later family's looks); each row that meets fmt, with fmt's text TOLD by the authors' own Lean function (tested against real Go, not proved from fmt's source: count such statements apart). THE CARD IS WHAT COUNTS. Prove the row's statement (the work); the ties are given (YtlbkhiphnllfpajDoorTie.lean); close each card by the builder's one call (the guide's Derived/Test/ToyasCard.lean, 'card_holds'). Laid BY PROGRAM, IN A SANDBOX (cutbox-door.mjs). By AI agents, Wed Nov 11 2026. No macro, syntax, notation, axiom, sorry.
-/
import Derived.Test.YtlbkhiphnllfpajDoorRows
import GoSem.ClaimSeven
namespace Go.Proofs.YtlbkhiphnllfpajDoor
namespace Rows

/-- THE TIED CARD OF 'laws.FnExactSettle'. -/
def fnExactSettleCard : Claim7 := { stood := { row := fnExactSettleRow, standIns := [], harness := (true, "49c79567ef58a0f5893be463057d4f56fb7a9b6c3a10de61c47ee0815b936490"), looks := false }, kinds := [], alts := [], laidByText := true, laidKinds := [.data], laidTests := true, laidLooks := .later }
def FnExactSettleCardSaid : Prop := Claim7.holds Tryd.pinned (.plain (OpenSpec.ofChange fnExactSettleSpec)) fnExactSettleCard

/-- THE TIED CARD OF 'laws.FnExactSaveZero'. -/
def fnExactSaveZeroCard : Claim7 := { stood := { row := fnExactSaveZeroRow, standIns := [], harness := (true, "49c79567ef58a0f5893be463057d4f56fb7a9b6c3a10de61c47ee0815b936490"), looks := false }, kinds := [], alts := [], laidByText := true, laidKinds := [.data], laidTests := true, laidLooks := .later }
def FnExactSaveZeroCardSaid : Prop := Claim7.holds Tryd.pinned (.plain (OpenSpec.ofChange fnExactSaveZeroSpec)) fnExactSaveZeroCard

/-- THE SECOND FORM's CARD OF 'laws.FnExactSettle'. -/
def fnExactSettleUptoCard : Claim7 := { stood := { row := fnExactSettleUptoRow, standIns := [], harness := (true, "49c79567ef58a0f5893be463057d4f56fb7a9b6c3a10de61c47ee0815b936490"), looks := false }, kinds := [], alts := [], laidByText := true, laidKinds := [.data], laidTests := true, laidLooks := .later }
def FnExactSettleUptoCardSaid : Prop := Claim7.holds Tryd.pinned (.plain (OpenSpec.upto fnExactSettleSpec)) fnExactSettleUptoCard

/-- THE SECOND FORM's CARD OF 'laws.FnExactSaveZero'. -/
def fnExactSaveZeroUptoCard : Claim7 := { stood := { row := fnExactSaveZeroUptoRow, standIns := [], harness := (true, "49c79567ef58a0f5893be463057d4f56fb7a9b6c3a10de61c47ee0815b936490"), looks := false }, kinds := [], alts := [], laidByText := true, laidKinds := [.data], laidTests := true, laidLooks := .later }
def FnExactSaveZeroUptoCardSaid : Prop := Claim7.holds Tryd.pinned (.plain (OpenSpec.upto fnExactSaveZeroSpec)) fnExactSaveZeroUptoCard
end Rows
end Go.Proofs.YtlbkhiphnllfpajDoor
