/-
  DERIVED. GIVEN WITH THE SEED: THE PROGRAM's TIES (one call each: nine closed facts by the kernel) AND EACH ROW's TIE, after the 31st guide's Derived/Test/Toyas{Tie, Card}.lean. No idea stands in it: it is a product of the set-up. Laid BY PROGRAM, IN A SANDBOX (cutbox-door.mjs). By AI agents, Wed Nov 11 2026. No macro, syntax, notation, axiom, sorry.
-/
import Derived.Test.YtcnmfljpmpgnjaaDoorRows
import Derived.LaidByTextLater
import Derived.SevenTiedAt
import Derived.LaidSub
import Derived.LaidOnce
namespace Go.Proofs.YtcnmfljpmpgnjaaDoor
open Go
set_option maxRecDepth 100000
theorem seatTie1 : Tryd.prog.laidByTextLater [("trove/api.ErrArg", Rows.laid_trove_api_ErrArg), ("trove/api.ErrNull", Rows.laid_trove_api_ErrNull), ("trove/api.ErrForged", Rows.laid_trove_api_ErrForged), ("trove/api.ErrStale", Rows.laid_trove_api_ErrStale), ("trove/api.ErrCleared", Rows.laid_trove_api_ErrCleared), ("trove/api.ErrField", Rows.laid_trove_api_ErrField), ("trove/api.ErrTable", Rows.laid_trove_api_ErrTable), ("trove/api.ErrRoom", Rows.laid_trove_api_ErrRoom), ("trove/api.ErrFrame", Rows.laid_trove_api_ErrFrame), ("trove/api.ErrPin", Rows.laid_trove_api_ErrPin)] [.sentinel, .sentinel, .sentinel, .sentinel, .sentinel, .sentinel, .sentinel, .sentinel, .sentinel, .sentinel] true :=
  Program.laidByTextLater_by_one 199 8 2 (by kernel_rfl) (by kernel_rfl) (by kernel_rfl) (by kernel_rfl) (by kernel_rfl) (by kernel_rfl) (fun _ _ => by kernel_rfl)
theorem noOwnUnsafe : Tryd.pinned.checked.prog.headLifts.contains "ownunsafe" = false := by kernel_rfl
theorem tie : Tryd.prog.laidByTextLater [("trove/api.ErrArg", Rows.laid_trove_api_ErrArg), ("trove/api.ErrNull", Rows.laid_trove_api_ErrNull), ("trove/api.ErrForged", Rows.laid_trove_api_ErrForged), ("trove/api.ErrStale", Rows.laid_trove_api_ErrStale), ("trove/api.ErrCleared", Rows.laid_trove_api_ErrCleared), ("trove/api.ErrField", Rows.laid_trove_api_ErrField), ("trove/api.ErrTable", Rows.laid_trove_api_ErrTable), ("trove/api.ErrRoom", Rows.laid_trove_api_ErrRoom), ("trove/api.ErrFrame", Rows.laid_trove_api_ErrFrame), ("trove/api.ErrPin", Rows.laid_trove_api_ErrPin)] [.sentinel, .sentinel, .sentinel, .sentinel, .sentinel, .sentinel, .sentinel, .sentinel, .sentinel, .sentinel] true :=
  Program.laidByTextLater.sub seatTie1 ["trove/api.ErrArg", "trove/api.ErrNull", "trove/api.ErrForged", "trove/api.ErrStale", "trove/api.ErrCleared", "trove/api.ErrField", "trove/api.ErrTable", "trove/api.ErrRoom", "trove/api.ErrFrame", "trove/api.ErrPin"] (by kernel_rfl) (by kernel_rfl)
theorem names_row_tie : Rows.namesRow.laidByTextAt .later Tryd.pinned [.sentinel, .sentinel, .sentinel, .sentinel, .sentinel, .sentinel, .sentinel, .sentinel, .sentinel, .sentinel] true :=
  OpenClaim.laidByTextAt_later rfl rfl tie noOwnUnsafe
theorem namesUpto_row_tie : Rows.namesUptoRow.laidByTextAt .later Tryd.pinned [.sentinel, .sentinel, .sentinel, .sentinel, .sentinel, .sentinel, .sentinel, .sentinel, .sentinel, .sentinel] true :=
  OpenClaim.laidByTextAt_later rfl rfl tie noOwnUnsafe
end Go.Proofs.YtcnmfljpmpgnjaaDoor
