/-
  NARROWER THAN 'FOR EVERY INPUT', by the rows' own cells (each row's printed sentence says how): MessageBack: laid · MessageFixed: laid · MessageTorn: laid · RecordBack: laid · RecordFixed: laid · TapeRoom: laid.
  DERIVED. THE GIVEN ROWS OF THIS SEAT. 6 by the template 'for every input the law returns true; each argument reads behind the call as it read before'; 0 by the template 'total and deterministic' (their statements: YtacmafecjcldfaaDoorTotals.lean).
  GIVEN WITH THE SEED: the statements are not yours to turn. If you find one false, say at which input.
  Laid BY PROGRAM, IN A SANDBOX (cutbox-rows.mjs): the forced cells as the released guide's own fill.sh prints them over the translation 716ec6d040ff6819… (all of the seat's roots in one cut). By AI agents, Wed Nov 11 2026. No macro, syntax, notation, axiom, sorry.
-/
import Derived.Test.YtacmafecjcldfaaDoorChecked
import GoSem.Claim
import GoSem.ClaimJoined
import GoSem.ClaimMapViews
import Derived.JoinedTies
import Derived.KernelRfl
namespace Go.Proofs.YtacmafecjcldfaaDoor
/- THE CELL 'sum', in the pinned program and in every row, IS THE sha256 OF THE DUMP (.gsa) THAT YtacmafecjcldfaaDoorProg.lean LOADS. Nothing in Lean hashes anything: it is a label: what it is worth is what the hold of that sum in a sandbox is worth. -/
noncomputable def Tryd.pinned : Pinned := { name := "ytacmafecjcldfaadoor", sum := "716ec6d040ff68197801b21e92d77526a62dfa56d48383e0372191109a9a80ab", checked := Tryd.checked }
namespace Rows
def none {H : Type} : Left H := { results := [], args := [] }

/- WHAT THE LISTED PACKAGE-LEVEL VARIABLES READ AS WHEN THE CALL BEGINS. Each datum BY PROGRAM (the guide's laid-datum.mjs) off the statement by which the dump's own 'gosem.cut.vars' lays the variable. In a bare row this is a premise. The card (YtacmafecjcldfaaDoorCards.lean) ties it to the program's text. -/
def laid_reredos_wire_messageHas {H : Type} : DataW H := .agg [.agg [.lit (.bool false), .lit (.bool false), .lit (.bool false), .lit (.bool false), .lit (.bool false), .lit (.bool false), .lit (.bool false), .lit (.bool false)], .agg [.lit (.bool true), .lit (.bool true), .lit (.bool false), .lit (.bool false), .lit (.bool true), .lit (.bool false), .lit (.bool false), .lit (.bool false)], .agg [.lit (.bool false), .lit (.bool true), .lit (.bool true), .lit (.bool false), .lit (.bool true), .lit (.bool false), .lit (.bool false), .lit (.bool false)], .agg [.lit (.bool true), .lit (.bool true), .lit (.bool false), .lit (.bool true), .lit (.bool false), .lit (.bool false), .lit (.bool false), .lit (.bool false)], .agg [.lit (.bool false), .lit (.bool false), .lit (.bool false), .lit (.bool false), .lit (.bool false), .lit (.bool true), .lit (.bool false), .lit (.bool false)], .agg [.lit (.bool true), .lit (.bool true), .lit (.bool true), .lit (.bool true), .lit (.bool true), .lit (.bool false), .lit (.bool true), .lit (.bool false)], .agg [.lit (.bool false), .lit (.bool true), .lit (.bool false), .lit (.bool false), .lit (.bool true), .lit (.bool false), .lit (.bool true), .lit (.bool false)], .agg [.lit (.bool true), .lit (.bool true), .lit (.bool false), .lit (.bool true), .lit (.bool false), .lit (.bool true), .lit (.bool false), .lit (.bool false)], .agg [.lit (.bool false), .lit (.bool false), .lit (.bool false), .lit (.bool false), .lit (.bool false), .lit (.bool false), .lit (.bool false), .lit (.bool false)], .agg [.lit (.bool false), .lit (.bool false), .lit (.bool false), .lit (.bool false), .lit (.bool false), .lit (.bool false), .lit (.bool false), .lit (.bool false)]]
def laid_reredos_wire_widths {H : Type} : DataW H := .agg [.lit (.int .i64 1), .lit (.int .i64 1), .lit (.int .i64 4), .lit (.int .i64 3), .lit (.int .i64 3), .lit (.int .i64 1), .lit (.int .i64 1), .lit (.int .i64 1)]
def laid_reredos_wire_tops {H : Type} : DataW H := .agg [.lit (.int .i64 5), .lit (.int .i64 7), .lit (.int .i64 1073741824), .lit (.int .i64 1048576), .lit (.int .i64 1048576), .lit (.int .i64 1), .lit (.int .i64 11), .lit (.int .i64 4)]
def laid_reredos_wire_recordHas {H : Type} : DataW H := .agg [.agg [.lit (.bool false), .lit (.bool false), .lit (.bool false), .lit (.bool false), .lit (.bool false), .lit (.bool false), .lit (.bool false), .lit (.bool false)], .agg [.lit (.bool false), .lit (.bool true), .lit (.bool true), .lit (.bool false), .lit (.bool true), .lit (.bool false), .lit (.bool false), .lit (.bool false)], .agg [.lit (.bool false), .lit (.bool false), .lit (.bool false), .lit (.bool false), .lit (.bool false), .lit (.bool true), .lit (.bool false), .lit (.bool false)], .agg [.lit (.bool false), .lit (.bool false), .lit (.bool false), .lit (.bool false), .lit (.bool false), .lit (.bool false), .lit (.bool false), .lit (.bool true)], .agg [.lit (.bool false), .lit (.bool false), .lit (.bool false), .lit (.bool false), .lit (.bool false), .lit (.bool false), .lit (.bool false), .lit (.bool false)], .agg [.lit (.bool false), .lit (.bool false), .lit (.bool false), .lit (.bool false), .lit (.bool false), .lit (.bool false), .lit (.bool false), .lit (.bool false)], .agg [.lit (.bool false), .lit (.bool false), .lit (.bool false), .lit (.bool false), .lit (.bool false), .lit (.bool true), .lit (.bool false), .lit (.bool false)]]

/-- 'reredoskeep.MessageBack': WHATEVER THE INPUT: true; the input reads as it did. -/
def messageBackSpec : ChangeSpec := { name := "messageBack", fn := fun _ => fun
  | [d1, d2, d3, d4] => { results := [.lit (.bool true)], args := [d1, d2, d3, d4] }
  | _ => none }
def messageBackRow : OpenClaim := { program := "ytacmafecjcldfaadoor", sum := "716ec6d040ff68197801b21e92d77526a62dfa56d48383e0372191109a9a80ab", func := "reredos/reredoskeep.MessageBack", spec := "messageBack", named := ["reredos/wire.messageHas", "reredos/wire.tops", "reredos/wire.widths"], apart := false, laid := [("reredos/wire.messageHas", laid_reredos_wire_messageHas), ("reredos/wire.widths", laid_reredos_wire_widths), ("reredos/wire.tops", laid_reredos_wire_tops)] }
def MessageBackSaid : Prop := messageBackRow.holds Tryd.pinned (OpenSpec.ofChange messageBackSpec)

/-- ITS FALSE NEIGHBOUR: 'it returns false'. Refute it at one input. -/
def messageBackWrong : ChangeSpec := { name := "messageBack", fn := fun _ => fun
  | [d1, d2, d3, d4] => { results := [.lit (.bool false)], args := [d1, d2, d3, d4] }
  | _ => none }
def MessageBackWrongFalsely : Prop := messageBackRow.holds Tryd.pinned (OpenSpec.ofChange messageBackWrong)

/-- 'reredoskeep.MessageFixed': WHATEVER THE INPUT: true; the input reads as it did. -/
def messageFixedSpec : ChangeSpec := { name := "messageFixed", fn := fun _ => fun
  | [d1, d2, d3] => { results := [.lit (.bool true)], args := [d1, d2, d3] }
  | _ => none }
def messageFixedRow : OpenClaim := { program := "ytacmafecjcldfaadoor", sum := "716ec6d040ff68197801b21e92d77526a62dfa56d48383e0372191109a9a80ab", func := "reredos/reredoskeep.MessageFixed", spec := "messageFixed", named := ["reredos/wire.messageHas", "reredos/wire.widths", "reredos/wire.tops"], apart := false, laid := [("reredos/wire.messageHas", laid_reredos_wire_messageHas), ("reredos/wire.widths", laid_reredos_wire_widths), ("reredos/wire.tops", laid_reredos_wire_tops)] }
def MessageFixedSaid : Prop := messageFixedRow.holds Tryd.pinned (OpenSpec.ofChange messageFixedSpec)

/-- ITS FALSE NEIGHBOUR: 'it returns false'. Refute it at one input. -/
def messageFixedWrong : ChangeSpec := { name := "messageFixed", fn := fun _ => fun
  | [d1, d2, d3] => { results := [.lit (.bool false)], args := [d1, d2, d3] }
  | _ => none }
def MessageFixedWrongFalsely : Prop := messageFixedRow.holds Tryd.pinned (OpenSpec.ofChange messageFixedWrong)

/-- 'reredoskeep.MessageTorn': WHATEVER THE INPUT: true; the input reads as it did. -/
def messageTornSpec : ChangeSpec := { name := "messageTorn", fn := fun _ => fun
  | [d1, d2, d3, d4] => { results := [.lit (.bool true)], args := [d1, d2, d3, d4] }
  | _ => none }
def messageTornRow : OpenClaim := { program := "ytacmafecjcldfaadoor", sum := "716ec6d040ff68197801b21e92d77526a62dfa56d48383e0372191109a9a80ab", func := "reredos/reredoskeep.MessageTorn", spec := "messageTorn", named := ["reredos/wire.messageHas", "reredos/wire.tops", "reredos/wire.widths"], apart := false, laid := [("reredos/wire.messageHas", laid_reredos_wire_messageHas), ("reredos/wire.widths", laid_reredos_wire_widths), ("reredos/wire.tops", laid_reredos_wire_tops)] }
def MessageTornSaid : Prop := messageTornRow.holds Tryd.pinned (OpenSpec.ofChange messageTornSpec)

/-- ITS FALSE NEIGHBOUR: 'it returns false'. Refute it at one input. -/
def messageTornWrong : ChangeSpec := { name := "messageTorn", fn := fun _ => fun
  | [d1, d2, d3, d4] => { results := [.lit (.bool false)], args := [d1, d2, d3, d4] }
  | _ => none }
def MessageTornWrongFalsely : Prop := messageTornRow.holds Tryd.pinned (OpenSpec.ofChange messageTornWrong)

/-- 'reredoskeep.RecordBack': WHATEVER THE INPUT: true; the input reads as it did. -/
def recordBackSpec : ChangeSpec := { name := "recordBack", fn := fun _ => fun
  | [d1, d2, d3, d4, d5] => { results := [.lit (.bool true)], args := [d1, d2, d3, d4, d5] }
  | _ => none }
def recordBackRow : OpenClaim := { program := "ytacmafecjcldfaadoor", sum := "716ec6d040ff68197801b21e92d77526a62dfa56d48383e0372191109a9a80ab", func := "reredos/reredoskeep.RecordBack", spec := "recordBack", named := ["reredos/wire.recordHas", "reredos/wire.tops", "reredos/wire.widths"], apart := false, laid := [("reredos/wire.recordHas", laid_reredos_wire_recordHas), ("reredos/wire.widths", laid_reredos_wire_widths), ("reredos/wire.tops", laid_reredos_wire_tops)] }
def RecordBackSaid : Prop := recordBackRow.holds Tryd.pinned (OpenSpec.ofChange recordBackSpec)

/-- ITS FALSE NEIGHBOUR: 'it returns false'. Refute it at one input. -/
def recordBackWrong : ChangeSpec := { name := "recordBack", fn := fun _ => fun
  | [d1, d2, d3, d4, d5] => { results := [.lit (.bool false)], args := [d1, d2, d3, d4, d5] }
  | _ => none }
def RecordBackWrongFalsely : Prop := recordBackRow.holds Tryd.pinned (OpenSpec.ofChange recordBackWrong)

/-- 'reredoskeep.RecordFixed': WHATEVER THE INPUT: true; the input reads as it did. -/
def recordFixedSpec : ChangeSpec := { name := "recordFixed", fn := fun _ => fun
  | [d1, d2, d3] => { results := [.lit (.bool true)], args := [d1, d2, d3] }
  | _ => none }
def recordFixedRow : OpenClaim := { program := "ytacmafecjcldfaadoor", sum := "716ec6d040ff68197801b21e92d77526a62dfa56d48383e0372191109a9a80ab", func := "reredos/reredoskeep.RecordFixed", spec := "recordFixed", named := ["reredos/wire.recordHas", "reredos/wire.widths", "reredos/wire.tops"], apart := false, laid := [("reredos/wire.recordHas", laid_reredos_wire_recordHas), ("reredos/wire.widths", laid_reredos_wire_widths), ("reredos/wire.tops", laid_reredos_wire_tops)] }
def RecordFixedSaid : Prop := recordFixedRow.holds Tryd.pinned (OpenSpec.ofChange recordFixedSpec)

/-- ITS FALSE NEIGHBOUR: 'it returns false'. Refute it at one input. -/
def recordFixedWrong : ChangeSpec := { name := "recordFixed", fn := fun _ => fun
  | [d1, d2, d3] => { results := [.lit (.bool false)], args := [d1, d2, d3] }
  | _ => none }
def RecordFixedWrongFalsely : Prop := recordFixedRow.holds Tryd.pinned (OpenSpec.ofChange recordFixedWrong)

/-- 'reredoskeep.TapeRoom': WHATEVER THE INPUT: true; the input reads as it did. -/
def tapeRoomSpec : ChangeSpec := { name := "tapeRoom", fn := fun _ => fun
  | [d1, d2, d3, d4] => { results := [.lit (.bool true)], args := [d1, d2, d3, d4] }
  | _ => none }
def tapeRoomRow : OpenClaim := { program := "ytacmafecjcldfaadoor", sum := "716ec6d040ff68197801b21e92d77526a62dfa56d48383e0372191109a9a80ab", func := "reredos/reredoskeep.TapeRoom", spec := "tapeRoom", named := ["reredos/wire.recordHas", "reredos/wire.tops", "reredos/wire.widths"], apart := false, laid := [("reredos/wire.recordHas", laid_reredos_wire_recordHas), ("reredos/wire.widths", laid_reredos_wire_widths), ("reredos/wire.tops", laid_reredos_wire_tops)] }
def TapeRoomSaid : Prop := tapeRoomRow.holds Tryd.pinned (OpenSpec.ofChange tapeRoomSpec)

/-- ITS FALSE NEIGHBOUR: 'it returns false'. Refute it at one input. -/
def tapeRoomWrong : ChangeSpec := { name := "tapeRoom", fn := fun _ => fun
  | [d1, d2, d3, d4] => { results := [.lit (.bool false)], args := [d1, d2, d3, d4] }
  | _ => none }
def TapeRoomWrongFalsely : Prop := tapeRoomRow.holds Tryd.pinned (OpenSpec.ofChange tapeRoomWrong)

/- THE SECOND FORM. 'bulk': how many values and letters a reading holds, each counted each time it is reached (what is shared counts as often as it is met; a slice's spare places count too). A statement '..UptoSaid' is the law's where the arguments, and the package variables that the reading takes, are together of bulk at most 1048576: NARROWER than '..Said'. Prove '..Said' where nothing that the law and all that it calls make is longer than what came in: it says more and counts as full. Else prove '..UptoSaid'. A law counts once. -/
mutual
def uptoBulk {H : Type} : DataW H → Nat
  | .lit (.string bytes) => bytes.length + 1
  | .lit _ => 1
  | .nil => 1
  | .ptr d => uptoBulk d + 1
  | .slice elems spare => uptoBulkAll elems + uptoBulkAll spare + 1
  | .agg parts => uptoBulkAll parts + 1
  | .iface _ d => uptoBulk d + 1
  | .map entries => uptoBulkEntries entries + 1
  | .held _ => 1
def uptoBulkAll {H : Type} : List (DataW H) → Nat
  | [] => 0
  | d :: r => uptoBulk d + uptoBulkAll r
def uptoBulkEntries {H : Type} : List (Lit × DataW H) → Nat
  | [] => 0
  | x :: r => uptoBulkEntry x + uptoBulkEntries r
def uptoBulkEntry {H : Type} : Lit × DataW H → Nat
  | (.string bytes, d) => bytes.length + uptoBulk d + 1
  | (_, d) => uptoBulk d + 1
 end
def uptoSmall : (H : Type) → List (DataW H) → Bool := fun _ ds => decide (uptoBulkAll ds ≤ 1048576)
def OpenSpec.upto (s : _root_.Go.ChangeSpec) : _root_.Go.OpenSpec := { _root_.Go.OpenSpec.ofChange s with cond := some uptoSmall }

/-- 'reredoskeep.MessageBack', WHERE WHAT IT READS IS OF BULK AT MOST 1048576: true; the input reads as it did. -/
def messageBackUptoRow : OpenClaim := { program := "ytacmafecjcldfaadoor", sum := "716ec6d040ff68197801b21e92d77526a62dfa56d48383e0372191109a9a80ab", func := "reredos/reredoskeep.MessageBack", spec := "messageBack", named := ["reredos/wire.messageHas", "reredos/wire.tops", "reredos/wire.widths"], apart := false, laid := [("reredos/wire.messageHas", laid_reredos_wire_messageHas), ("reredos/wire.widths", laid_reredos_wire_widths), ("reredos/wire.tops", laid_reredos_wire_tops)], narrowed := true }
def MessageBackUptoSaid : Prop := messageBackUptoRow.holds Tryd.pinned (OpenSpec.upto messageBackSpec)

/-- 'reredoskeep.MessageFixed', WHERE WHAT IT READS IS OF BULK AT MOST 1048576: true; the input reads as it did. -/
def messageFixedUptoRow : OpenClaim := { program := "ytacmafecjcldfaadoor", sum := "716ec6d040ff68197801b21e92d77526a62dfa56d48383e0372191109a9a80ab", func := "reredos/reredoskeep.MessageFixed", spec := "messageFixed", named := ["reredos/wire.messageHas", "reredos/wire.widths", "reredos/wire.tops"], apart := false, laid := [("reredos/wire.messageHas", laid_reredos_wire_messageHas), ("reredos/wire.widths", laid_reredos_wire_widths), ("reredos/wire.tops", laid_reredos_wire_tops)], narrowed := true }
def MessageFixedUptoSaid : Prop := messageFixedUptoRow.holds Tryd.pinned (OpenSpec.upto messageFixedSpec)

/-- 'reredoskeep.MessageTorn', WHERE WHAT IT READS IS OF BULK AT MOST 1048576: true; the input reads as it did. -/
def messageTornUptoRow : OpenClaim := { program := "ytacmafecjcldfaadoor", sum := "716ec6d040ff68197801b21e92d77526a62dfa56d48383e0372191109a9a80ab", func := "reredos/reredoskeep.MessageTorn", spec := "messageTorn", named := ["reredos/wire.messageHas", "reredos/wire.tops", "reredos/wire.widths"], apart := false, laid := [("reredos/wire.messageHas", laid_reredos_wire_messageHas), ("reredos/wire.widths", laid_reredos_wire_widths), ("reredos/wire.tops", laid_reredos_wire_tops)], narrowed := true }
def MessageTornUptoSaid : Prop := messageTornUptoRow.holds Tryd.pinned (OpenSpec.upto messageTornSpec)

/-- 'reredoskeep.RecordBack', WHERE WHAT IT READS IS OF BULK AT MOST 1048576: true; the input reads as it did. -/
def recordBackUptoRow : OpenClaim := { program := "ytacmafecjcldfaadoor", sum := "716ec6d040ff68197801b21e92d77526a62dfa56d48383e0372191109a9a80ab", func := "reredos/reredoskeep.RecordBack", spec := "recordBack", named := ["reredos/wire.recordHas", "reredos/wire.tops", "reredos/wire.widths"], apart := false, laid := [("reredos/wire.recordHas", laid_reredos_wire_recordHas), ("reredos/wire.widths", laid_reredos_wire_widths), ("reredos/wire.tops", laid_reredos_wire_tops)], narrowed := true }
def RecordBackUptoSaid : Prop := recordBackUptoRow.holds Tryd.pinned (OpenSpec.upto recordBackSpec)

/-- 'reredoskeep.RecordFixed', WHERE WHAT IT READS IS OF BULK AT MOST 1048576: true; the input reads as it did. -/
def recordFixedUptoRow : OpenClaim := { program := "ytacmafecjcldfaadoor", sum := "716ec6d040ff68197801b21e92d77526a62dfa56d48383e0372191109a9a80ab", func := "reredos/reredoskeep.RecordFixed", spec := "recordFixed", named := ["reredos/wire.recordHas", "reredos/wire.widths", "reredos/wire.tops"], apart := false, laid := [("reredos/wire.recordHas", laid_reredos_wire_recordHas), ("reredos/wire.widths", laid_reredos_wire_widths), ("reredos/wire.tops", laid_reredos_wire_tops)], narrowed := true }
def RecordFixedUptoSaid : Prop := recordFixedUptoRow.holds Tryd.pinned (OpenSpec.upto recordFixedSpec)

/-- 'reredoskeep.TapeRoom', WHERE WHAT IT READS IS OF BULK AT MOST 1048576: true; the input reads as it did. -/
def tapeRoomUptoRow : OpenClaim := { program := "ytacmafecjcldfaadoor", sum := "716ec6d040ff68197801b21e92d77526a62dfa56d48383e0372191109a9a80ab", func := "reredos/reredoskeep.TapeRoom", spec := "tapeRoom", named := ["reredos/wire.recordHas", "reredos/wire.tops", "reredos/wire.widths"], apart := false, laid := [("reredos/wire.recordHas", laid_reredos_wire_recordHas), ("reredos/wire.widths", laid_reredos_wire_widths), ("reredos/wire.tops", laid_reredos_wire_tops)], narrowed := true }
def TapeRoomUptoSaid : Prop := tapeRoomUptoRow.holds Tryd.pinned (OpenSpec.upto tapeRoomSpec)

end Rows
end Go.Proofs.YtacmafecjcldfaaDoor
