/-
  DERIVED. GIVEN WITH THE SEED: THE PROGRAM's TIES (one call each: nine closed facts by the kernel) AND EACH ROW's TIE, after the 31st guide's Derived/Test/Toyas{Tie, Card}.lean. No idea stands in it: it is a product of the set-up. Laid BY PROGRAM, IN A SANDBOX (cutbox-door.mjs). By AI agents, Wed Nov 11 2026. No macro, syntax, notation, axiom, sorry.
-/
import Derived.Test.YtdknpbglmiajoaaDoorRows
import Derived.LaidByTextLater
import Derived.SevenTiedAt
import Derived.LaidSub
import Derived.LaidOnce
namespace Go.Proofs.YtdknpbglmiajoaaDoor
open Go
set_option maxRecDepth 100000
theorem seatTie1 : Tryd.prog.laidByTextLater [("reredos/wire.messageHas", Rows.laid_reredos_wire_messageHas), ("reredos/wire.recordHas", Rows.laid_reredos_wire_recordHas), ("reredos/wire.widths", Rows.laid_reredos_wire_widths), ("reredos/wire.tops", Rows.laid_reredos_wire_tops)] [.data, .data, .data, .data] true :=
  Program.laidByTextLater_by_one 44 8 81 (by kernel_rfl) (by kernel_rfl) (by kernel_rfl) (by kernel_rfl) (by kernel_rfl) (by kernel_rfl) (fun _ _ => by kernel_rfl)
theorem noOwnUnsafe : Tryd.pinned.checked.prog.headLifts.contains "ownunsafe" = false := by kernel_rfl
theorem tie : Tryd.prog.laidByTextLater [("reredos/wire.messageHas", Rows.laid_reredos_wire_messageHas), ("reredos/wire.tops", Rows.laid_reredos_wire_tops)] [.data, .data] true :=
  Program.laidByTextLater.sub seatTie1 ["reredos/wire.messageHas", "reredos/wire.tops"] (by kernel_rfl) (by kernel_rfl)
theorem wireMessages_row_tie : Rows.wireMessagesRow.laidByTextAt .later Tryd.pinned [.data, .data] true :=
  OpenClaim.laidByTextAt_later rfl rfl tie noOwnUnsafe
theorem tie2 : Tryd.prog.laidByTextLater [("reredos/wire.recordHas", Rows.laid_reredos_wire_recordHas), ("reredos/wire.tops", Rows.laid_reredos_wire_tops)] [.data, .data] true :=
  Program.laidByTextLater.sub seatTie1 ["reredos/wire.recordHas", "reredos/wire.tops"] (by kernel_rfl) (by kernel_rfl)
theorem wireRecords_row_tie : Rows.wireRecordsRow.laidByTextAt .later Tryd.pinned [.data, .data] true :=
  OpenClaim.laidByTextAt_later rfl rfl tie2 noOwnUnsafe
theorem tie3 : Tryd.prog.laidByTextLater [("reredos/wire.messageHas", Rows.laid_reredos_wire_messageHas), ("reredos/wire.widths", Rows.laid_reredos_wire_widths), ("reredos/wire.tops", Rows.laid_reredos_wire_tops)] [.data, .data, .data] true :=
  Program.laidByTextLater.sub seatTie1 ["reredos/wire.messageHas", "reredos/wire.widths", "reredos/wire.tops"] (by kernel_rfl) (by kernel_rfl)
theorem wireSays_row_tie : Rows.wireSaysRow.laidByTextAt .later Tryd.pinned [.data, .data, .data] true :=
  OpenClaim.laidByTextAt_later rfl rfl tie3 noOwnUnsafe
theorem wireHears_row_tie : Rows.wireHearsRow.laidByTextAt .later Tryd.pinned [.data, .data, .data] true :=
  OpenClaim.laidByTextAt_later rfl rfl tie3 noOwnUnsafe
theorem tie4 : Tryd.prog.laidByTextLater [("reredos/wire.recordHas", Rows.laid_reredos_wire_recordHas), ("reredos/wire.widths", Rows.laid_reredos_wire_widths), ("reredos/wire.tops", Rows.laid_reredos_wire_tops)] [.data, .data, .data] true :=
  Program.laidByTextLater.sub seatTie1 ["reredos/wire.recordHas", "reredos/wire.widths", "reredos/wire.tops"] (by kernel_rfl) (by kernel_rfl)
theorem wireWrites_row_tie : Rows.wireWritesRow.laidByTextAt .later Tryd.pinned [.data, .data, .data] true :=
  OpenClaim.laidByTextAt_later rfl rfl tie4 noOwnUnsafe
theorem wireReads_row_tie : Rows.wireReadsRow.laidByTextAt .later Tryd.pinned [.data, .data, .data] true :=
  OpenClaim.laidByTextAt_later rfl rfl tie4 noOwnUnsafe
theorem wireMessagesUpto_row_tie : Rows.wireMessagesUptoRow.laidByTextAt .later Tryd.pinned [.data, .data] true :=
  OpenClaim.laidByTextAt_later rfl rfl tie noOwnUnsafe
theorem wireRecordsUpto_row_tie : Rows.wireRecordsUptoRow.laidByTextAt .later Tryd.pinned [.data, .data] true :=
  OpenClaim.laidByTextAt_later rfl rfl tie2 noOwnUnsafe
theorem wireSaysUpto_row_tie : Rows.wireSaysUptoRow.laidByTextAt .later Tryd.pinned [.data, .data, .data] true :=
  OpenClaim.laidByTextAt_later rfl rfl tie3 noOwnUnsafe
theorem wireWritesUpto_row_tie : Rows.wireWritesUptoRow.laidByTextAt .later Tryd.pinned [.data, .data, .data] true :=
  OpenClaim.laidByTextAt_later rfl rfl tie4 noOwnUnsafe
theorem wireHearsUpto_row_tie : Rows.wireHearsUptoRow.laidByTextAt .later Tryd.pinned [.data, .data, .data] true :=
  OpenClaim.laidByTextAt_later rfl rfl tie3 noOwnUnsafe
theorem wireReadsUpto_row_tie : Rows.wireReadsUptoRow.laidByTextAt .later Tryd.pinned [.data, .data, .data] true :=
  OpenClaim.laidByTextAt_later rfl rfl tie4 noOwnUnsafe
end Go.Proofs.YtdknpbglmiajoaaDoor
