/-
  NARROWER THAN 'FOR EVERY INPUT', by the rows' own cells (each row's printed sentence says how): MessageTorn: laid · TapeKeeps: laid · TapeTorn: laid · TapeOn: laid · CrashJust: laid.
  DERIVED. THE GIVEN ROWS OF THIS SEAT. 5 by the template 'for every input the law returns true; each argument reads behind the call as it read before'; 0 by the template 'total and deterministic' (their statements: YtfloplkepmpaiaaDoorTotals.lean).
  GIVEN WITH THE SEED: the statements are not yours to turn. If you find one false, say at which input.
  Laid BY PROGRAM, IN A SANDBOX (cutbox-rows.mjs): the forced cells as the released guide's own fill.sh prints them over the translation 4b1d4bfe5f430a4f… (all of the seat's roots in one cut). By AI agents, Wed Nov 11 2026. No macro, syntax, notation, axiom, sorry.
-/
import Derived.Test.YtfloplkepmpaiaaDoorChecked
import GoSem.Claim
import GoSem.ClaimJoined
import GoSem.ClaimMapViews
import Derived.JoinedTies
import Derived.KernelRfl
namespace Go.Proofs.YtfloplkepmpaiaaDoor
/- THE CELL 'sum', in the pinned program and in every row, IS THE sha256 OF THE DUMP (.gsa) THAT YtfloplkepmpaiaaDoorProg.lean LOADS. Nothing in Lean hashes anything: it is a label: what it is worth is what the hold of that sum in a sandbox is worth. -/
noncomputable def Tryd.pinned : Pinned := { name := "ytfloplkepmpaiaadoor", sum := "4b1d4bfe5f430a4fea79dda72f64eeb4db36fcc7ee2cc048c69fcd105bbb0b10", checked := Tryd.checked }
namespace Rows
def none {H : Type} : Left H := { results := [], args := [] }

/- WHAT THE LISTED PACKAGE-LEVEL VARIABLES READ AS WHEN THE CALL BEGINS. Each datum BY PROGRAM (the guide's laid-datum.mjs) off the statement by which the dump's own 'gosem.cut.vars' lays the variable. In a bare row this is a premise. The card (YtfloplkepmpaiaaDoorCards.lean) ties it to the program's text. -/
def laid_reredos_wire_messageHas {H : Type} : DataW H := .agg [.agg [.lit (.bool false), .lit (.bool false), .lit (.bool false), .lit (.bool false), .lit (.bool false), .lit (.bool false), .lit (.bool false), .lit (.bool false)], .agg [.lit (.bool true), .lit (.bool true), .lit (.bool false), .lit (.bool false), .lit (.bool true), .lit (.bool false), .lit (.bool false), .lit (.bool false)], .agg [.lit (.bool false), .lit (.bool true), .lit (.bool true), .lit (.bool false), .lit (.bool true), .lit (.bool false), .lit (.bool false), .lit (.bool false)], .agg [.lit (.bool true), .lit (.bool true), .lit (.bool false), .lit (.bool true), .lit (.bool false), .lit (.bool false), .lit (.bool false), .lit (.bool false)], .agg [.lit (.bool false), .lit (.bool false), .lit (.bool false), .lit (.bool false), .lit (.bool false), .lit (.bool true), .lit (.bool false), .lit (.bool false)], .agg [.lit (.bool true), .lit (.bool true), .lit (.bool true), .lit (.bool true), .lit (.bool true), .lit (.bool false), .lit (.bool true), .lit (.bool false)], .agg [.lit (.bool false), .lit (.bool true), .lit (.bool false), .lit (.bool false), .lit (.bool true), .lit (.bool false), .lit (.bool true), .lit (.bool false)], .agg [.lit (.bool true), .lit (.bool true), .lit (.bool false), .lit (.bool true), .lit (.bool false), .lit (.bool true), .lit (.bool false), .lit (.bool false)], .agg [.lit (.bool false), .lit (.bool false), .lit (.bool false), .lit (.bool false), .lit (.bool false), .lit (.bool false), .lit (.bool false), .lit (.bool false)], .agg [.lit (.bool false), .lit (.bool false), .lit (.bool false), .lit (.bool false), .lit (.bool false), .lit (.bool false), .lit (.bool false), .lit (.bool false)]]
def laid_reredos_wire_widths {H : Type} : DataW H := .agg [.lit (.int .i64 1), .lit (.int .i64 1), .lit (.int .i64 4), .lit (.int .i64 3), .lit (.int .i64 3), .lit (.int .i64 1), .lit (.int .i64 1), .lit (.int .i64 1)]
def laid_reredos_wire_tops {H : Type} : DataW H := .agg [.lit (.int .i64 5), .lit (.int .i64 7), .lit (.int .i64 1073741824), .lit (.int .i64 1048576), .lit (.int .i64 1048576), .lit (.int .i64 1), .lit (.int .i64 11), .lit (.int .i64 4)]
def laid_reredos_wire_recordHas {H : Type} : DataW H := .agg [.agg [.lit (.bool false), .lit (.bool false), .lit (.bool false), .lit (.bool false), .lit (.bool false), .lit (.bool false), .lit (.bool false), .lit (.bool false)], .agg [.lit (.bool false), .lit (.bool true), .lit (.bool true), .lit (.bool false), .lit (.bool true), .lit (.bool false), .lit (.bool false), .lit (.bool false)], .agg [.lit (.bool false), .lit (.bool false), .lit (.bool false), .lit (.bool false), .lit (.bool false), .lit (.bool true), .lit (.bool false), .lit (.bool false)], .agg [.lit (.bool false), .lit (.bool false), .lit (.bool false), .lit (.bool false), .lit (.bool false), .lit (.bool false), .lit (.bool false), .lit (.bool true)], .agg [.lit (.bool false), .lit (.bool false), .lit (.bool false), .lit (.bool false), .lit (.bool false), .lit (.bool false), .lit (.bool false), .lit (.bool false)], .agg [.lit (.bool false), .lit (.bool false), .lit (.bool false), .lit (.bool false), .lit (.bool false), .lit (.bool false), .lit (.bool false), .lit (.bool false)], .agg [.lit (.bool false), .lit (.bool false), .lit (.bool false), .lit (.bool false), .lit (.bool false), .lit (.bool true), .lit (.bool false), .lit (.bool false)]]

/-- 'reredoskeep.MessageTorn': WHATEVER THE INPUT: true; the input reads as it did. -/
def messageTornSpec : ChangeSpec := { name := "messageTorn", fn := fun _ => fun
  | [d1, d2, d3, d4] => { results := [.lit (.bool true)], args := [d1, d2, d3, d4] }
  | _ => none }
def messageTornRow : OpenClaim := { program := "ytfloplkepmpaiaadoor", sum := "4b1d4bfe5f430a4fea79dda72f64eeb4db36fcc7ee2cc048c69fcd105bbb0b10", func := "reredos/reredoskeep.MessageTorn", spec := "messageTorn", named := ["reredos/wire.messageHas", "reredos/wire.tops", "reredos/wire.widths"], apart := false, laid := [("reredos/wire.messageHas", laid_reredos_wire_messageHas), ("reredos/wire.widths", laid_reredos_wire_widths), ("reredos/wire.tops", laid_reredos_wire_tops)] }
def MessageTornSaid : Prop := messageTornRow.holds Tryd.pinned (OpenSpec.ofChange messageTornSpec)

/-- ITS FALSE NEIGHBOUR: 'it returns false'. Refute it at one input. -/
def messageTornWrong : ChangeSpec := { name := "messageTorn", fn := fun _ => fun
  | [d1, d2, d3, d4] => { results := [.lit (.bool false)], args := [d1, d2, d3, d4] }
  | _ => none }
def MessageTornWrongFalsely : Prop := messageTornRow.holds Tryd.pinned (OpenSpec.ofChange messageTornWrong)

/-- 'reredoskeep.TapeKeeps': WHATEVER THE INPUT: true; the input reads as it did. -/
def tapeKeepsSpec : ChangeSpec := { name := "tapeKeeps", fn := fun _ => fun
  | [d1, d2, d3, d4, d5] => { results := [.lit (.bool true)], args := [d1, d2, d3, d4, d5] }
  | _ => none }
def tapeKeepsRow : OpenClaim := { program := "ytfloplkepmpaiaadoor", sum := "4b1d4bfe5f430a4fea79dda72f64eeb4db36fcc7ee2cc048c69fcd105bbb0b10", func := "reredos/reredoskeep.TapeKeeps", spec := "tapeKeeps", named := ["reredos/wire.recordHas", "reredos/wire.tops", "reredos/wire.widths"], apart := false, laid := [("reredos/wire.recordHas", laid_reredos_wire_recordHas), ("reredos/wire.widths", laid_reredos_wire_widths), ("reredos/wire.tops", laid_reredos_wire_tops)] }
def TapeKeepsSaid : Prop := tapeKeepsRow.holds Tryd.pinned (OpenSpec.ofChange tapeKeepsSpec)

/-- ITS FALSE NEIGHBOUR: 'it returns false'. Refute it at one input. -/
def tapeKeepsWrong : ChangeSpec := { name := "tapeKeeps", fn := fun _ => fun
  | [d1, d2, d3, d4, d5] => { results := [.lit (.bool false)], args := [d1, d2, d3, d4, d5] }
  | _ => none }
def TapeKeepsWrongFalsely : Prop := tapeKeepsRow.holds Tryd.pinned (OpenSpec.ofChange tapeKeepsWrong)

/-- 'reredoskeep.TapeTorn': WHATEVER THE INPUT: true; the input reads as it did. -/
def tapeTornSpec : ChangeSpec := { name := "tapeTorn", fn := fun _ => fun
  | [d1, d2, d3, d4] => { results := [.lit (.bool true)], args := [d1, d2, d3, d4] }
  | _ => none }
def tapeTornRow : OpenClaim := { program := "ytfloplkepmpaiaadoor", sum := "4b1d4bfe5f430a4fea79dda72f64eeb4db36fcc7ee2cc048c69fcd105bbb0b10", func := "reredos/reredoskeep.TapeTorn", spec := "tapeTorn", named := ["reredos/wire.recordHas", "reredos/wire.tops", "reredos/wire.widths"], apart := false, laid := [("reredos/wire.recordHas", laid_reredos_wire_recordHas), ("reredos/wire.widths", laid_reredos_wire_widths), ("reredos/wire.tops", laid_reredos_wire_tops)] }
def TapeTornSaid : Prop := tapeTornRow.holds Tryd.pinned (OpenSpec.ofChange tapeTornSpec)

/-- ITS FALSE NEIGHBOUR: 'it returns false'. Refute it at one input. -/
def tapeTornWrong : ChangeSpec := { name := "tapeTorn", fn := fun _ => fun
  | [d1, d2, d3, d4] => { results := [.lit (.bool false)], args := [d1, d2, d3, d4] }
  | _ => none }
def TapeTornWrongFalsely : Prop := tapeTornRow.holds Tryd.pinned (OpenSpec.ofChange tapeTornWrong)

/-- 'reredoskeep.TapeOn': WHATEVER THE INPUT: true; the input reads as it did. -/
def tapeOnSpec : ChangeSpec := { name := "tapeOn", fn := fun _ => fun
  | [d1, d2, d3, d4, d5] => { results := [.lit (.bool true)], args := [d1, d2, d3, d4, d5] }
  | _ => none }
def tapeOnRow : OpenClaim := { program := "ytfloplkepmpaiaadoor", sum := "4b1d4bfe5f430a4fea79dda72f64eeb4db36fcc7ee2cc048c69fcd105bbb0b10", func := "reredos/reredoskeep.TapeOn", spec := "tapeOn", named := ["reredos/wire.recordHas", "reredos/wire.tops", "reredos/wire.widths"], apart := false, laid := [("reredos/wire.recordHas", laid_reredos_wire_recordHas), ("reredos/wire.widths", laid_reredos_wire_widths), ("reredos/wire.tops", laid_reredos_wire_tops)] }
def TapeOnSaid : Prop := tapeOnRow.holds Tryd.pinned (OpenSpec.ofChange tapeOnSpec)

/-- ITS FALSE NEIGHBOUR: 'it returns false'. Refute it at one input. -/
def tapeOnWrong : ChangeSpec := { name := "tapeOn", fn := fun _ => fun
  | [d1, d2, d3, d4, d5] => { results := [.lit (.bool false)], args := [d1, d2, d3, d4, d5] }
  | _ => none }
def TapeOnWrongFalsely : Prop := tapeOnRow.holds Tryd.pinned (OpenSpec.ofChange tapeOnWrong)

/-- 'reredoskeep.CrashJust': WHATEVER THE INPUT: true; the input reads as it did. -/
def crashJustSpec : ChangeSpec := { name := "crashJust", fn := fun _ => fun
  | [d1, d2, d3, d4, d5] => { results := [.lit (.bool true)], args := [d1, d2, d3, d4, d5] }
  | _ => none }
def crashJustRow : OpenClaim := { program := "ytfloplkepmpaiaadoor", sum := "4b1d4bfe5f430a4fea79dda72f64eeb4db36fcc7ee2cc048c69fcd105bbb0b10", func := "reredos/reredoskeep.CrashJust", spec := "crashJust", named := ["reredos/wire.recordHas", "reredos/wire.tops", "reredos/wire.widths"], apart := false, laid := [("reredos/wire.recordHas", laid_reredos_wire_recordHas), ("reredos/wire.widths", laid_reredos_wire_widths), ("reredos/wire.tops", laid_reredos_wire_tops)] }
def CrashJustSaid : Prop := crashJustRow.holds Tryd.pinned (OpenSpec.ofChange crashJustSpec)

/-- ITS FALSE NEIGHBOUR: 'it returns false'. Refute it at one input. -/
def crashJustWrong : ChangeSpec := { name := "crashJust", fn := fun _ => fun
  | [d1, d2, d3, d4, d5] => { results := [.lit (.bool false)], args := [d1, d2, d3, d4, d5] }
  | _ => none }
def CrashJustWrongFalsely : Prop := crashJustRow.holds Tryd.pinned (OpenSpec.ofChange crashJustWrong)

/- THE SECOND FORM. 'bulk': how many values and letters a reading holds, each counted each time it is reached (what is shared counts as often as it is met; a slice's spare places count too). A statement '..UptoSaid' is the law's where the arguments, and the package variables that the reading takes, are together of bulk at most 1048576: NARROWER than '..Said'. Prove '..Said' where nothing that the law and all that it calls make is longer than what came in: it says more and counts as full. Else prove '..UptoSaid'. A law counts once. -/
mutual
def uptoBulk {H : Type} : DataW H → Nat
  | .lit (.string bytes) => bytes.length + 1
  | .lit _ => 1
  | .nil => 1
  | .ptr d => uptoBulk d + 1
  | .slice elems spare => uptoBulkAll elems + uptoBulkAll spare + 1
  | .agg parts => uptoBulkAll parts + 1
  | .iface _ d => uptoBulk d + 1
  | .map entries => uptoBulkEntries entries + 1
  | .held _ => 1
def uptoBulkAll {H : Type} : List (DataW H) → Nat
  | [] => 0
  | d :: r => uptoBulk d + uptoBulkAll r
def uptoBulkEntries {H : Type} : List (Lit × DataW H) → Nat
  | [] => 0
  | x :: r => uptoBulkEntry x + uptoBulkEntries r
def uptoBulkEntry {H : Type} : Lit × DataW H → Nat
  | (.string bytes, d) => bytes.length + uptoBulk d + 1
  | (_, d) => uptoBulk d + 1
 end
def uptoSmall : (H : Type) → List (DataW H) → Bool := fun _ ds => decide (uptoBulkAll ds ≤ 1048576)
def OpenSpec.upto (s : _root_.Go.ChangeSpec) : _root_.Go.OpenSpec := { _root_.Go.OpenSpec.ofChange s with cond := some uptoSmall }

/-- 'reredoskeep.MessageTorn', WHERE WHAT IT READS IS OF BULK AT MOST 1048576: true; the input reads as it did. -/
def messageTornUptoRow : OpenClaim := { program := "ytfloplkepmpaiaadoor", sum := "4b1d4bfe5f430a4fea79dda72f64eeb4db36fcc7ee2cc048c69fcd105bbb0b10", func := "reredos/reredoskeep.MessageTorn", spec := "messageTorn", named := ["reredos/wire.messageHas", "reredos/wire.tops", "reredos/wire.widths"], apart := false, laid := [("reredos/wire.messageHas", laid_reredos_wire_messageHas), ("reredos/wire.widths", laid_reredos_wire_widths), ("reredos/wire.tops", laid_reredos_wire_tops)], narrowed := true }
def MessageTornUptoSaid : Prop := messageTornUptoRow.holds Tryd.pinned (OpenSpec.upto messageTornSpec)

/-- 'reredoskeep.TapeKeeps', WHERE WHAT IT READS IS OF BULK AT MOST 1048576: true; the input reads as it did. -/
def tapeKeepsUptoRow : OpenClaim := { program := "ytfloplkepmpaiaadoor", sum := "4b1d4bfe5f430a4fea79dda72f64eeb4db36fcc7ee2cc048c69fcd105bbb0b10", func := "reredos/reredoskeep.TapeKeeps", spec := "tapeKeeps", named := ["reredos/wire.recordHas", "reredos/wire.tops", "reredos/wire.widths"], apart := false, laid := [("reredos/wire.recordHas", laid_reredos_wire_recordHas), ("reredos/wire.widths", laid_reredos_wire_widths), ("reredos/wire.tops", laid_reredos_wire_tops)], narrowed := true }
def TapeKeepsUptoSaid : Prop := tapeKeepsUptoRow.holds Tryd.pinned (OpenSpec.upto tapeKeepsSpec)

/-- 'reredoskeep.TapeTorn', WHERE WHAT IT READS IS OF BULK AT MOST 1048576: true; the input reads as it did. -/
def tapeTornUptoRow : OpenClaim := { program := "ytfloplkepmpaiaadoor", sum := "4b1d4bfe5f430a4fea79dda72f64eeb4db36fcc7ee2cc048c69fcd105bbb0b10", func := "reredos/reredoskeep.TapeTorn", spec := "tapeTorn", named := ["reredos/wire.recordHas", "reredos/wire.tops", "reredos/wire.widths"], apart := false, laid := [("reredos/wire.recordHas", laid_reredos_wire_recordHas), ("reredos/wire.widths", laid_reredos_wire_widths), ("reredos/wire.tops", laid_reredos_wire_tops)], narrowed := true }
def TapeTornUptoSaid : Prop := tapeTornUptoRow.holds Tryd.pinned (OpenSpec.upto tapeTornSpec)

/-- 'reredoskeep.TapeOn', WHERE WHAT IT READS IS OF BULK AT MOST 1048576: true; the input reads as it did. -/
def tapeOnUptoRow : OpenClaim := { program := "ytfloplkepmpaiaadoor", sum := "4b1d4bfe5f430a4fea79dda72f64eeb4db36fcc7ee2cc048c69fcd105bbb0b10", func := "reredos/reredoskeep.TapeOn", spec := "tapeOn", named := ["reredos/wire.recordHas", "reredos/wire.tops", "reredos/wire.widths"], apart := false, laid := [("reredos/wire.recordHas", laid_reredos_wire_recordHas), ("reredos/wire.widths", laid_reredos_wire_widths), ("reredos/wire.tops", laid_reredos_wire_tops)], narrowed := true }
def TapeOnUptoSaid : Prop := tapeOnUptoRow.holds Tryd.pinned (OpenSpec.upto tapeOnSpec)

/-- 'reredoskeep.CrashJust', WHERE WHAT IT READS IS OF BULK AT MOST 1048576: true; the input reads as it did. -/
def crashJustUptoRow : OpenClaim := { program := "ytfloplkepmpaiaadoor", sum := "4b1d4bfe5f430a4fea79dda72f64eeb4db36fcc7ee2cc048c69fcd105bbb0b10", func := "reredos/reredoskeep.CrashJust", spec := "crashJust", named := ["reredos/wire.recordHas", "reredos/wire.tops", "reredos/wire.widths"], apart := false, laid := [("reredos/wire.recordHas", laid_reredos_wire_recordHas), ("reredos/wire.widths", laid_reredos_wire_widths), ("reredos/wire.tops", laid_reredos_wire_tops)], narrowed := true }
def CrashJustUptoSaid : Prop := crashJustUptoRow.holds Tryd.pinned (OpenSpec.upto crashJustSpec)

end Rows
end Go.Proofs.YtfloplkepmpaiaaDoor
