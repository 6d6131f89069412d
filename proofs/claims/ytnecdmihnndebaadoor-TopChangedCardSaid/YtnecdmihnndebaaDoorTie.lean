/-
  DERIVED. GIVEN WITH THE SEED: THE PROGRAM's TIES (one call each: nine closed facts by the kernel) AND EACH ROW's TIE, after the 31st guide's Derived/Test/Toyas{Tie, Card}.lean. No idea stands in it: it is a product of the set-up. Laid BY PROGRAM, IN A SANDBOX (cutbox-door.mjs). By AI agents, Wed Nov 11 2026. No macro, syntax, notation, axiom, sorry.
-/
import Derived.Test.YtnecdmihnndebaaDoorRows
import Derived.LaidByTextLater
import Derived.SevenTiedAt
import Derived.LaidSub
import Derived.LaidOnce
namespace Go.Proofs.YtnecdmihnndebaaDoor
open Go
set_option maxRecDepth 100000
theorem seatTie1 : Tryd.prog.laidByTextLater [("pointcode/sums.behind", Rows.laid_pointcode_sums_behind), ("pointcode/frames.flag", Rows.laid_pointcode_frames_flag)] [.called, .data] true :=
  Program.laidByTextLater_by_one 3408 8 17 (by kernel_rfl) (by kernel_rfl) (by kernel_rfl) (by kernel_rfl) (by kernel_rfl) (by kernel_rfl) (fun _ _ => by kernel_rfl)
theorem noOwnUnsafe : Tryd.pinned.checked.prog.headLifts.contains "ownunsafe" = false := by kernel_rfl
theorem tie : Tryd.prog.laidByTextLater [("pointcode/sums.behind", Rows.laid_pointcode_sums_behind), ("pointcode/frames.flag", Rows.laid_pointcode_frames_flag)] [.called, .data] true :=
  Program.laidByTextLater.sub seatTie1 ["pointcode/sums.behind", "pointcode/frames.flag"] (by kernel_rfl) (by kernel_rfl)
theorem topChanged_row_tie : Rows.topChangedRow.laidByTextAt .later Tryd.pinned [.called, .data] true :=
  OpenClaim.laidByTextAt_later rfl rfl tie noOwnUnsafe
theorem topChangedUpto_row_tie : Rows.topChangedUptoRow.laidByTextAt .later Tryd.pinned [.called, .data] true :=
  OpenClaim.laidByTextAt_later rfl rfl tie noOwnUnsafe
end Go.Proofs.YtnecdmihnndebaaDoor
