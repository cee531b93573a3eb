/-
  DERIVED. GIVEN WITH THE SEED: THE CARDS: each row of YtlbkhiphnllfpabDoorRows.lean that lists a variable, with what it lists TIED to the program's text (the seventh form; the later family's looks); each row that meets fmt, with fmt's text TOLD by the authors' own Lean function (tested against real Go, not proved from fmt's source: count such statements apart). THE CARD IS WHAT COUNTS. Prove the row's statement (the work); the ties are given (YtlbkhiphnllfpabDoorTie.lean); close each card by the builder's one call (the guide's Derived/Test/ToyasCard.lean, 'card_holds'). Laid BY PROGRAM, IN A SANDBOX (cutbox-door.mjs). By AI agents, Wed Nov 11 2026. No macro, syntax, notation, axiom, sorry.
-/
import Derived.Test.YtlbkhiphnllfpabDoorRows
import GoSem.ClaimSeven
namespace Go.Proofs.YtlbkhiphnllfpabDoor
namespace Rows

/-- THE TIED CARD OF 'laws.FnSavedAll'. -/
def fnSavedAllCard : Claim7 := { stood := { row := fnSavedAllRow, standIns := [], harness := (true, "1e2fe4b4f261f3d7d7068d5e6c0d33633fecf34a32b2911d92d93acf1dcd74bd"), looks := false }, kinds := [], alts := [], laidByText := true, laidKinds := [.data], laidTests := true, laidLooks := .later }
def FnSavedAllCardSaid : Prop := Claim7.holds Tryd.pinned (.plain (OpenSpec.ofChange fnSavedAllSpec)) fnSavedAllCard

/-- THE TIED CARD OF 'laws.FnMultiples'. -/
def fnMultiplesCard : Claim7 := { stood := { row := fnMultiplesRow, standIns := [], harness := (true, "1e2fe4b4f261f3d7d7068d5e6c0d33633fecf34a32b2911d92d93acf1dcd74bd"), looks := false }, kinds := [], alts := [], laidByText := true, laidKinds := [.data], laidTests := true, laidLooks := .later }
def FnMultiplesCardSaid : Prop := Claim7.holds Tryd.pinned (.plain (OpenSpec.ofChange fnMultiplesSpec)) fnMultiplesCard

/-- THE TIED CARD OF 'laws.FnSignedMultiples'. -/
def fnSignedMultiplesCard : Claim7 := { stood := { row := fnSignedMultiplesRow, standIns := [], harness := (true, "1e2fe4b4f261f3d7d7068d5e6c0d33633fecf34a32b2911d92d93acf1dcd74bd"), looks := false }, kinds := [], alts := [], laidByText := true, laidKinds := [.data], laidTests := true, laidLooks := .later }
def FnSignedMultiplesCardSaid : Prop := Claim7.holds Tryd.pinned (.plain (OpenSpec.ofChange fnSignedMultiplesSpec)) fnSignedMultiplesCard

/-- THE TIED CARD OF 'laws.FnProducts'. -/
def fnProductsCard : Claim7 := { stood := { row := fnProductsRow, standIns := [], harness := (true, "1e2fe4b4f261f3d7d7068d5e6c0d33633fecf34a32b2911d92d93acf1dcd74bd"), looks := false }, kinds := [], alts := [], laidByText := true, laidKinds := [.data], laidTests := true, laidLooks := .later }
def FnProductsCardSaid : Prop := Claim7.holds Tryd.pinned (.plain (OpenSpec.ofChange fnProductsSpec)) fnProductsCard

/-- THE SECOND FORM's CARD OF 'laws.FnSavedAll'. -/
def fnSavedAllUptoCard : Claim7 := { stood := { row := fnSavedAllUptoRow, standIns := [], harness := (true, "1e2fe4b4f261f3d7d7068d5e6c0d33633fecf34a32b2911d92d93acf1dcd74bd"), looks := false }, kinds := [], alts := [], laidByText := true, laidKinds := [.data], laidTests := true, laidLooks := .later }
def FnSavedAllUptoCardSaid : Prop := Claim7.holds Tryd.pinned (.plain (OpenSpec.upto fnSavedAllSpec)) fnSavedAllUptoCard

/-- THE SECOND FORM's CARD OF 'laws.FnMultiples'. -/
def fnMultiplesUptoCard : Claim7 := { stood := { row := fnMultiplesUptoRow, standIns := [], harness := (true, "1e2fe4b4f261f3d7d7068d5e6c0d33633fecf34a32b2911d92d93acf1dcd74bd"), looks := false }, kinds := [], alts := [], laidByText := true, laidKinds := [.data], laidTests := true, laidLooks := .later }
def FnMultiplesUptoCardSaid : Prop := Claim7.holds Tryd.pinned (.plain (OpenSpec.upto fnMultiplesSpec)) fnMultiplesUptoCard

/-- THE SECOND FORM's CARD OF 'laws.FnSignedMultiples'. -/
def fnSignedMultiplesUptoCard : Claim7 := { stood := { row := fnSignedMultiplesUptoRow, standIns := [], harness := (true, "1e2fe4b4f261f3d7d7068d5e6c0d33633fecf34a32b2911d92d93acf1dcd74bd"), looks := false }, kinds := [], alts := [], laidByText := true, laidKinds := [.data], laidTests := true, laidLooks := .later }
def FnSignedMultiplesUptoCardSaid : Prop := Claim7.holds Tryd.pinned (.plain (OpenSpec.upto fnSignedMultiplesSpec)) fnSignedMultiplesUptoCard

/-- THE SECOND FORM's CARD OF 'laws.FnProducts'. -/
def fnProductsUptoCard : Claim7 := { stood := { row := fnProductsUptoRow, standIns := [], harness := (true, "1e2fe4b4f261f3d7d7068d5e6c0d33633fecf34a32b2911d92d93acf1dcd74bd"), looks := false }, kinds := [], alts := [], laidByText := true, laidKinds := [.data], laidTests := true, laidLooks := .later }
def FnProductsUptoCardSaid : Prop := Claim7.holds Tryd.pinned (.plain (OpenSpec.upto fnProductsSpec)) fnProductsUptoCard
end Rows
end Go.Proofs.YtlbkhiphnllfpabDoor
