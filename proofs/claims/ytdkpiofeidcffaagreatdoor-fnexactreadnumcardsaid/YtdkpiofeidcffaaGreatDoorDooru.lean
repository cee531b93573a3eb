/-
  What a row's list of package-level variables tells of the library's two tables of UTF-8.
-/
import Derived.Test.YtdkpiofeidcffaaGreatDoorRows
import Derived.WalkKit
import Derived.ProofKit
import Derived.OpenShut
import Derived.OpenVars
import Derived.LaidMore
import Derived.Lib.LaidU8T
import Derived.Stop.Joined
import Derived.Stop.LaidErr
namespace Go.Proofs.YtdkpiofeidcffaaGreatDoor
open Go.ChangeShapes Go.WideShapes Go.ChangeAt Go.RowKit
def u8ren : Go.Shelf.Ren := ⟨fun x => x, fun n => if n = 5 then 5 else if n = 119 then 160 else if n = 138 then 162 else 163, fun n => if n = 3 then 0 else 1⟩
theorem u8types : Go.Proofs.U8Types Tryz.prog u8ren := ⟨by kernel_rfl, by kernel_rfl, by kernel_rfl, by kernel_rfl⟩
theorem u8extra : Go.Proofs.U8Extra Tryz.prog u8ren := ⟨by kernel_rfl, by kernel_rfl, by kernel_rfl, by kernel_rfl, by kernel_rfl, by kernel_rfl, by kernel_rfl⟩
theorem u8first : Rows.laid_unicode_utf8_first = Go.Lib.firstData := by kernel_rfl
theorem u8accept : (Rows.laid_unicode_utf8_acceptRanges : DataW Unit) = Go.Lib.acceptData := by kernel_rfl
theorem utabs_at {W : World} {l : List (String × DataW Unit)} (h : laidMet Tryz.prog l W) (h1 : ("unicode/utf8.first", Rows.laid_unicode_utf8_first) ∈ l) (h2 : ("unicode/utf8.acceptRanges", (Rows.laid_unicode_utf8_acceptRanges : DataW Unit)) ∈ l) : Lib.Utf8Tabs 0 1 W := by
  have r1 := Lib.laidMet.reads h h1
  have r2 := Lib.laidMet.reads h h2
  rw [u8first] at r1
  rw [u8accept] at r2
  exact Go.Proofs.utf8Tabs_of_readsT u8types u8extra r1 r2
end Go.Proofs.YtdkpiofeidcffaaGreatDoor
