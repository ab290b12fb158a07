/-
  DERIVED. GIVEN WITH THE SEED: THE PROGRAM's TIES (one call each: nine closed facts by the kernel) AND EACH ROW's TIE, after the 31st guide's Derived/Test/Toyas{Tie, Card}.lean. No idea stands in it: it is a product of the set-up. Laid BY PROGRAM, IN A SANDBOX (cutbox-door.mjs). By AI agents, Wed Nov 11 2026. No macro, syntax, notation, axiom, sorry.
-/
import Derived.Test.YtflfcjbgkpfgkaaDoorRows
import Derived.LaidByTextLater
import Derived.SevenTiedAt
import Derived.LaidSub
import Derived.LaidOnce
namespace Go.Proofs.YtflfcjbgkpfgkaaDoor
open Go
set_option maxRecDepth 100000
theorem seatTie1 : Tryd.prog.laidByTextLater [("reredos/wire.messageHas", Rows.laid_reredos_wire_messageHas), ("reredos/wire.recordHas", Rows.laid_reredos_wire_recordHas), ("reredos/wire.widths", Rows.laid_reredos_wire_widths), ("reredos/wire.tops", Rows.laid_reredos_wire_tops)] [.data, .data, .data, .data] true :=
  Program.laidByTextLater_by_one 44 8 81 (by kernel_rfl) (by kernel_rfl) (by kernel_rfl) (by kernel_rfl) (by kernel_rfl) (by kernel_rfl) (fun _ _ => by kernel_rfl)
theorem noOwnUnsafe : Tryd.pinned.checked.prog.headLifts.contains "ownunsafe" = false := by kernel_rfl
theorem tie : Tryd.prog.laidByTextLater [("reredos/wire.messageHas", Rows.laid_reredos_wire_messageHas), ("reredos/wire.widths", Rows.laid_reredos_wire_widths), ("reredos/wire.tops", Rows.laid_reredos_wire_tops)] [.data, .data, .data] true :=
  Program.laidByTextLater.sub seatTie1 ["reredos/wire.messageHas", "reredos/wire.widths", "reredos/wire.tops"] (by kernel_rfl) (by kernel_rfl)
theorem wireHears_row_tie : Rows.wireHearsRow.laidByTextAt .later Tryd.pinned [.data, .data, .data] true :=
  OpenClaim.laidByTextAt_later rfl rfl tie noOwnUnsafe
theorem tie2 : Tryd.prog.laidByTextLater [("reredos/wire.recordHas", Rows.laid_reredos_wire_recordHas), ("reredos/wire.widths", Rows.laid_reredos_wire_widths), ("reredos/wire.tops", Rows.laid_reredos_wire_tops)] [.data, .data, .data] true :=
  Program.laidByTextLater.sub seatTie1 ["reredos/wire.recordHas", "reredos/wire.widths", "reredos/wire.tops"] (by kernel_rfl) (by kernel_rfl)
theorem tapeRecovers_row_tie : Rows.tapeRecoversRow.laidByTextAt .later Tryd.pinned [.data, .data, .data] true :=
  OpenClaim.laidByTextAt_later rfl rfl tie2 noOwnUnsafe
theorem tapeOn_row_tie : Rows.tapeOnRow.laidByTextAt .later Tryd.pinned [.data, .data, .data] true :=
  OpenClaim.laidByTextAt_later rfl rfl tie2 noOwnUnsafe
theorem wireHearsUpto_row_tie : Rows.wireHearsUptoRow.laidByTextAt .later Tryd.pinned [.data, .data, .data] true :=
  OpenClaim.laidByTextAt_later rfl rfl tie noOwnUnsafe
theorem tapeRecoversUpto_row_tie : Rows.tapeRecoversUptoRow.laidByTextAt .later Tryd.pinned [.data, .data, .data] true :=
  OpenClaim.laidByTextAt_later rfl rfl tie2 noOwnUnsafe
theorem tapeOnUpto_row_tie : Rows.tapeOnUptoRow.laidByTextAt .later Tryd.pinned [.data, .data, .data] true :=
  OpenClaim.laidByTextAt_later rfl rfl tie2 noOwnUnsafe
end Go.Proofs.YtflfcjbgkpfgkaaDoor
