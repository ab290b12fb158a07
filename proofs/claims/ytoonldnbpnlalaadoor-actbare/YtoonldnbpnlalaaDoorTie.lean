/-
  DERIVED. GIVEN WITH THE SEED: THE PROGRAM's TIES (one call each: nine closed facts by the kernel) AND EACH ROW's TIE, after the 31st guide's Derived/Test/Toyas{Tie, Card}.lean. No idea stands in it: it is a product of the set-up. Laid BY PROGRAM, IN A SANDBOX (cutbox-door.mjs). By AI agents, Wed Nov 11 2026. No macro, syntax, notation, axiom, sorry.
-/
import Derived.Test.YtoonldnbpnlalaaDoorRows
import Derived.LaidByTextLater
import Derived.SevenTiedAt
import Derived.LaidSub
import Derived.LaidOnce
namespace Go.Proofs.YtoonldnbpnlalaaDoor
open Go
set_option maxRecDepth 100000
theorem seatTie1 : Tryd.prog.laidByTextLater [("reredos/lines.actHas", Rows.laid_reredos_lines_actHas), ("reredos/lines.callHas", Rows.laid_reredos_lines_callHas), ("reredos/lines.callTops", Rows.laid_reredos_lines_callTops)] [.data, .data, .data] true :=
  Program.laidByTextLater_by_one 37 8 64 (by kernel_rfl) (by kernel_rfl) (by kernel_rfl) (by kernel_rfl) (by kernel_rfl) (by kernel_rfl) (fun _ _ => by kernel_rfl)
theorem noOwnUnsafe : Tryd.pinned.checked.prog.headLifts.contains "ownunsafe" = false := by kernel_rfl
theorem tie : Tryd.prog.laidByTextLater [("reredos/lines.actHas", Rows.laid_reredos_lines_actHas), ("reredos/lines.callHas", Rows.laid_reredos_lines_callHas), ("reredos/lines.callTops", Rows.laid_reredos_lines_callTops)] [.data, .data, .data] true :=
  Program.laidByTextLater.sub seatTie1 ["reredos/lines.actHas", "reredos/lines.callHas", "reredos/lines.callTops"] (by kernel_rfl) (by kernel_rfl)
theorem linesChecks_row_tie : Rows.linesChecksRow.laidByTextAt .later Tryd.pinned [.data, .data, .data] true :=
  OpenClaim.laidByTextAt_later rfl rfl tie noOwnUnsafe
theorem actBare_row_tie : Rows.actBareRow.laidByTextAt .later Tryd.pinned [.data, .data, .data] true :=
  OpenClaim.laidByTextAt_later rfl rfl tie noOwnUnsafe
theorem linesChecksUpto_row_tie : Rows.linesChecksUptoRow.laidByTextAt .later Tryd.pinned [.data, .data, .data] true :=
  OpenClaim.laidByTextAt_later rfl rfl tie noOwnUnsafe
theorem actBareUpto_row_tie : Rows.actBareUptoRow.laidByTextAt .later Tryd.pinned [.data, .data, .data] true :=
  OpenClaim.laidByTextAt_later rfl rfl tie noOwnUnsafe
end Go.Proofs.YtoonldnbpnlalaaDoor
