/-
  DERIVED. GIVEN WITH THE SEED: THE PROGRAM's TIES (one call each: nine closed facts by the kernel) AND EACH ROW's TIE, after the 31st guide's Derived/Test/Toyas{Tie, Card}.lean. No idea stands in it: it is a product of the set-up. Laid BY PROGRAM, IN A SANDBOX (cutbox-door.mjs). By AI agents, Wed Nov 11 2026. No macro, syntax, notation, axiom, sorry.
-/
import Derived.Test.YtmeicjbeibmmganDoorRows
import Derived.LaidByTextLater
import Derived.SevenTiedAt
import Derived.LaidSub
import Derived.LaidOnce
namespace Go.Proofs.YtmeicjbeibmmganDoor
open Go
set_option maxRecDepth 100000
theorem seatTie1 : Tryd.prog.laidByTextLater [("loop.example/g00085/impl.bitWeights", Rows.laid_loop_example_g00085_impl_bitWeights), ("loop.example/g00085/impl.decletRows", Rows.laid_loop_example_g00085_impl_decletRows)] [.data, .data] true :=
  Program.laidByTextLater_by_one 22 8 13 (by kernel_rfl) (by kernel_rfl) (by kernel_rfl) (by kernel_rfl) (by kernel_rfl) (by kernel_rfl) (fun _ _ => by kernel_rfl)
theorem noOwnUnsafe : Tryd.pinned.checked.prog.headLifts.contains "ownunsafe" = false := by kernel_rfl
theorem tie : Tryd.prog.laidByTextLater [("loop.example/g00085/impl.bitWeights", Rows.laid_loop_example_g00085_impl_bitWeights), ("loop.example/g00085/impl.decletRows", Rows.laid_loop_example_g00085_impl_decletRows)] [.data, .data] true :=
  Program.laidByTextLater.sub seatTie1 ["loop.example/g00085/impl.bitWeights", "loop.example/g00085/impl.decletRows"] (by kernel_rfl) (by kernel_rfl)
theorem fnExactDeclet_row_tie : Rows.fnExactDecletRow.laidByTextAt .later Tryd.pinned [.data, .data] true :=
  OpenClaim.laidByTextAt_later rfl rfl tie noOwnUnsafe
theorem fnExactUndeclet_row_tie : Rows.fnExactUndecletRow.laidByTextAt .later Tryd.pinned [.data, .data] true :=
  OpenClaim.laidByTextAt_later rfl rfl tie noOwnUnsafe
theorem fnExactDeclets_row_tie : Rows.fnExactDecletsRow.laidByTextAt .later Tryd.pinned [.data, .data] true :=
  OpenClaim.laidByTextAt_later rfl rfl tie noOwnUnsafe
theorem fnExactDecletUpto_row_tie : Rows.fnExactDecletUptoRow.laidByTextAt .later Tryd.pinned [.data, .data] true :=
  OpenClaim.laidByTextAt_later rfl rfl tie noOwnUnsafe
theorem fnExactUndecletUpto_row_tie : Rows.fnExactUndecletUptoRow.laidByTextAt .later Tryd.pinned [.data, .data] true :=
  OpenClaim.laidByTextAt_later rfl rfl tie noOwnUnsafe
theorem fnExactDecletsUpto_row_tie : Rows.fnExactDecletsUptoRow.laidByTextAt .later Tryd.pinned [.data, .data] true :=
  OpenClaim.laidByTextAt_later rfl rfl tie noOwnUnsafe
end Go.Proofs.YtmeicjbeibmmganDoor
