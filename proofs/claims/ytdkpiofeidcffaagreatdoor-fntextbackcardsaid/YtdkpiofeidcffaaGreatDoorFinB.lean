/-
  The model's finishing of digits, in both formats.
-/
import Derived.Test.YtdkpiofeidcffaaGreatDoorFin
import Derived.Test.YtdkpiofeidcffaaGreatDoorIsR2
namespace Go.Proofs.YtdkpiofeidcffaaGreatDoor
open Go.RowKit
set_option linter.unusedVariables false
set_option maxRecDepth 100000
theorem fin_ok (f mode : Int) (hf : f = 64 ∨ f = 128) : FinOK f mode := fun neg ds e rest want w hc hl he hw => by
  by_cases hz : ds = [0]
  · subst hz
    have := l12Finish_zero f mode neg e rest want w
    have et : tx [0] = { data := #[48] } := by apply ByteArray.ext; rw [tx_data]; rfl
    rw [et]
    exact this
  · have hd : finD f mode neg ds e rest want = finN (limP f).toNat (limL f) (limH f) mode neg ds e rest want := if_neg hz
    rw [hd]
    rcases hf with rfl | rfl
    · exact l12Finish_any 64 mode neg ds e rest want 16 (-398) 369 w rfl rfl rfl (by decide) (by decide) (by decide) (by decide) (by decide) (by decide) hc hz hl he.1 he.2 hw.1 hw.2
    · exact l12Finish_any 128 mode neg ds e rest want 34 (-6176) 6111 w rfl rfl rfl (by decide) (by decide) (by decide) (by decide) (by decide) (by decide) hc hz hl he.1 he.2 hw.1 hw.2
end Go.Proofs.YtdkpiofeidcffaaGreatDoor
