/-
  DERIVED. GIVEN WITH THE SEED: THE CARDS: each row of YtmndemegiimagatGreatDoorRows.lean that lists a variable, with what it lists TIED to the program's text (the seventh form; the later family's looks); each row that meets fmt, with fmt's text TOLD by the authors' own Lean function (tested against real Go, not proved from fmt's source: count such statements apart). THE CARD IS WHAT COUNTS. Prove the row's statement (the work); the ties are given (YtmndemegiimagatGreatDoorTie.lean); close each card by the builder's one call (the guide's Derived/Test/ToyasCard.lean, 'card_holds'). Laid BY PROGRAM, IN A SANDBOX (cutbox-door.mjs). By AI agents, Wed Nov 11 2026. No macro, syntax, notation, axiom, sorry.
-/
import Derived.Test.YtmndemegiimagatGreatDoorRows
import GoSem.ClaimSeven
namespace Go.Proofs.YtmndemegiimagatGreatDoor
namespace Rows

/-- THE TIED CARD OF 'laws.FnExactNextUp'. -/
def fnExactNextUpCard : Claim7 := { stood := { row := fnExactNextUpRow, standIns := [], harness := (true, "2afbb3251b9ca25fd968b37485bd9a085cd5ade34e7908ad6f17d74323ba7a47"), looks := true }, kinds := [], alts := [], laidByText := true, laidKinds := [.data, .pinned], laidTests := true, laidLooks := .later }
def FnExactNextUpCardSaid : Prop := Claim7.holds Tryz.pinned (.plain (OpenSpec.ofChange fnExactNextUpSpec)) fnExactNextUpCard

/-- THE TIED CARD OF 'laws.FnExactNextDown'. -/
def fnExactNextDownCard : Claim7 := { stood := { row := fnExactNextDownRow, standIns := [], harness := (true, "2afbb3251b9ca25fd968b37485bd9a085cd5ade34e7908ad6f17d74323ba7a47"), looks := true }, kinds := [], alts := [], laidByText := true, laidKinds := [.data, .pinned], laidTests := true, laidLooks := .later }
def FnExactNextDownCardSaid : Prop := Claim7.holds Tryz.pinned (.plain (OpenSpec.ofChange fnExactNextDownSpec)) fnExactNextDownCard

/-- THE SECOND FORM's CARD OF 'laws.FnExactNextUp'. -/
def fnExactNextUpUptoCard : Claim7 := { stood := { row := fnExactNextUpUptoRow, standIns := [], harness := (true, "2afbb3251b9ca25fd968b37485bd9a085cd5ade34e7908ad6f17d74323ba7a47"), looks := true }, kinds := [], alts := [], laidByText := true, laidKinds := [.data, .pinned], laidTests := true, laidLooks := .later }
def FnExactNextUpUptoCardSaid : Prop := Claim7.holds Tryz.pinned (.plain (OpenSpec.upto fnExactNextUpSpec)) fnExactNextUpUptoCard

/-- THE SECOND FORM's CARD OF 'laws.FnExactNextDown'. -/
def fnExactNextDownUptoCard : Claim7 := { stood := { row := fnExactNextDownUptoRow, standIns := [], harness := (true, "2afbb3251b9ca25fd968b37485bd9a085cd5ade34e7908ad6f17d74323ba7a47"), looks := true }, kinds := [], alts := [], laidByText := true, laidKinds := [.data, .pinned], laidTests := true, laidLooks := .later }
def FnExactNextDownUptoCardSaid : Prop := Claim7.holds Tryz.pinned (.plain (OpenSpec.upto fnExactNextDownSpec)) fnExactNextDownUptoCard
end Rows
end Go.Proofs.YtmndemegiimagatGreatDoor
