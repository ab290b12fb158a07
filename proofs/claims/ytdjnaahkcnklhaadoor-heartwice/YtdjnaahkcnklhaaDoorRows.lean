/-
  NARROWER THAN 'FOR EVERY INPUT', by the rows' own cells (each row's printed sentence says how): DeskGood: laid · BeginNew: laid · CallRefused: laid · HearTwice: laid.
  DERIVED. THE GIVEN ROWS OF THIS SEAT. 4 by the template 'for every input the law returns true; each argument reads behind the call as it read before'; 0 by the template 'total and deterministic' (their statements: YtdjnaahkcnklhaaDoorTotals.lean).
  GIVEN WITH THE SEED: the statements are not yours to turn. If you find one false, say at which input.
  Laid BY PROGRAM, IN A SANDBOX (cutbox-rows.mjs): the forced cells as the released guide's own fill.sh prints them over the translation 7bce8d19ab503495… (all of the seat's roots in one cut). By AI agents, Wed Nov 11 2026. No macro, syntax, notation, axiom, sorry.
-/
import Derived.Test.YtdjnaahkcnklhaaDoorChecked
import GoSem.Claim
import GoSem.ClaimJoined
import GoSem.ClaimMapViews
import Derived.JoinedTies
import Derived.KernelRfl
namespace Go.Proofs.YtdjnaahkcnklhaaDoor
/- THE CELL 'sum', in the pinned program and in every row, IS THE sha256 OF THE DUMP (.gsa) THAT YtdjnaahkcnklhaaDoorProg.lean LOADS. Nothing in Lean hashes anything: it is a label: what it is worth is what the hold of that sum in a sandbox is worth. -/
noncomputable def Tryd.pinned : Pinned := { name := "ytdjnaahkcnklhaadoor", sum := "7bce8d19ab503495f3e114ac90cc5a199175dfdf5dcfe151e314fe330d3066ea", checked := Tryd.checked }
namespace Rows
def none {H : Type} : Left H := { results := [], args := [] }

/- WHAT THE LISTED PACKAGE-LEVEL VARIABLES READ AS WHEN THE CALL BEGINS. Each datum BY PROGRAM (the guide's laid-datum.mjs) off the statement by which the dump's own 'gosem.cut.vars' lays the variable. In a bare row this is a premise. The card (YtdjnaahkcnklhaaDoorCards.lean) ties it to the program's text. -/
def laid_reredos_wire_messageHas {H : Type} : DataW H := .agg [.agg [.lit (.bool false), .lit (.bool false), .lit (.bool false), .lit (.bool false), .lit (.bool false), .lit (.bool false), .lit (.bool false), .lit (.bool false)], .agg [.lit (.bool true), .lit (.bool true), .lit (.bool false), .lit (.bool false), .lit (.bool true), .lit (.bool false), .lit (.bool false), .lit (.bool false)], .agg [.lit (.bool false), .lit (.bool true), .lit (.bool true), .lit (.bool false), .lit (.bool true), .lit (.bool false), .lit (.bool false), .lit (.bool false)], .agg [.lit (.bool true), .lit (.bool true), .lit (.bool false), .lit (.bool true), .lit (.bool false), .lit (.bool false), .lit (.bool false), .lit (.bool false)], .agg [.lit (.bool false), .lit (.bool false), .lit (.bool false), .lit (.bool false), .lit (.bool false), .lit (.bool true), .lit (.bool false), .lit (.bool false)], .agg [.lit (.bool true), .lit (.bool true), .lit (.bool true), .lit (.bool true), .lit (.bool true), .lit (.bool false), .lit (.bool true), .lit (.bool false)], .agg [.lit (.bool false), .lit (.bool true), .lit (.bool false), .lit (.bool false), .lit (.bool true), .lit (.bool false), .lit (.bool true), .lit (.bool false)], .agg [.lit (.bool true), .lit (.bool true), .lit (.bool false), .lit (.bool true), .lit (.bool false), .lit (.bool true), .lit (.bool false), .lit (.bool false)], .agg [.lit (.bool false), .lit (.bool false), .lit (.bool false), .lit (.bool false), .lit (.bool false), .lit (.bool false), .lit (.bool false), .lit (.bool false)], .agg [.lit (.bool false), .lit (.bool false), .lit (.bool false), .lit (.bool false), .lit (.bool false), .lit (.bool false), .lit (.bool false), .lit (.bool false)]]
def laid_reredos_wire_tops {H : Type} : DataW H := .agg [.lit (.int .i64 5), .lit (.int .i64 7), .lit (.int .i64 1073741824), .lit (.int .i64 1048576), .lit (.int .i64 1048576), .lit (.int .i64 1), .lit (.int .i64 11), .lit (.int .i64 4)]

/-- 'reredoskeep.DeskGood': WHATEVER THE INPUT: true; the input reads as it did. -/
def deskGoodSpec : ChangeSpec := { name := "deskGood", fn := fun _ => fun
  | [d1, d2, d3] => { results := [.lit (.bool true)], args := [d1, d2, d3] }
  | _ => none }
def deskGoodRow : OpenClaim := { program := "ytdjnaahkcnklhaadoor", sum := "7bce8d19ab503495f3e114ac90cc5a199175dfdf5dcfe151e314fe330d3066ea", func := "reredos/reredoskeep.DeskGood", spec := "deskGood", unfollowed := true, recurses := true, named := ["reredos/wire.messageHas", "reredos/wire.tops"], apart := false, laid := [("reredos/wire.messageHas", laid_reredos_wire_messageHas), ("reredos/wire.tops", laid_reredos_wire_tops)] }
def DeskGoodSaid : Prop := deskGoodRow.holds Tryd.pinned (OpenSpec.ofChange deskGoodSpec)

/-- ITS FALSE NEIGHBOUR: 'it returns false'. Refute it at one input. -/
def deskGoodWrong : ChangeSpec := { name := "deskGood", fn := fun _ => fun
  | [d1, d2, d3] => { results := [.lit (.bool false)], args := [d1, d2, d3] }
  | _ => none }
def DeskGoodWrongFalsely : Prop := deskGoodRow.holds Tryd.pinned (OpenSpec.ofChange deskGoodWrong)

/-- 'reredoskeep.BeginNew': WHATEVER THE INPUT: true; the input reads as it did. -/
def beginNewSpec : ChangeSpec := { name := "beginNew", fn := fun _ => fun
  | [d1, d2, d3] => { results := [.lit (.bool true)], args := [d1, d2, d3] }
  | _ => none }
def beginNewRow : OpenClaim := { program := "ytdjnaahkcnklhaadoor", sum := "7bce8d19ab503495f3e114ac90cc5a199175dfdf5dcfe151e314fe330d3066ea", func := "reredos/reredoskeep.BeginNew", spec := "beginNew", unfollowed := true, recurses := true, named := ["reredos/wire.messageHas", "reredos/wire.tops"], apart := false, laid := [("reredos/wire.messageHas", laid_reredos_wire_messageHas), ("reredos/wire.tops", laid_reredos_wire_tops)] }
def BeginNewSaid : Prop := beginNewRow.holds Tryd.pinned (OpenSpec.ofChange beginNewSpec)

/-- ITS FALSE NEIGHBOUR: 'it returns false'. Refute it at one input. -/
def beginNewWrong : ChangeSpec := { name := "beginNew", fn := fun _ => fun
  | [d1, d2, d3] => { results := [.lit (.bool false)], args := [d1, d2, d3] }
  | _ => none }
def BeginNewWrongFalsely : Prop := beginNewRow.holds Tryd.pinned (OpenSpec.ofChange beginNewWrong)

/-- 'reredoskeep.CallRefused': WHATEVER THE INPUT: true; the input reads as it did. -/
def callRefusedSpec : ChangeSpec := { name := "callRefused", fn := fun _ => fun
  | [d1, d2, d3, d4] => { results := [.lit (.bool true)], args := [d1, d2, d3, d4] }
  | _ => none }
def callRefusedRow : OpenClaim := { program := "ytdjnaahkcnklhaadoor", sum := "7bce8d19ab503495f3e114ac90cc5a199175dfdf5dcfe151e314fe330d3066ea", func := "reredos/reredoskeep.CallRefused", spec := "callRefused", unfollowed := true, recurses := true, named := ["reredos/wire.messageHas", "reredos/wire.tops"], apart := false, laid := [("reredos/wire.messageHas", laid_reredos_wire_messageHas), ("reredos/wire.tops", laid_reredos_wire_tops)] }
def CallRefusedSaid : Prop := callRefusedRow.holds Tryd.pinned (OpenSpec.ofChange callRefusedSpec)

/-- ITS FALSE NEIGHBOUR: 'it returns false'. Refute it at one input. -/
def callRefusedWrong : ChangeSpec := { name := "callRefused", fn := fun _ => fun
  | [d1, d2, d3, d4] => { results := [.lit (.bool false)], args := [d1, d2, d3, d4] }
  | _ => none }
def CallRefusedWrongFalsely : Prop := callRefusedRow.holds Tryd.pinned (OpenSpec.ofChange callRefusedWrong)

/-- 'reredoskeep.HearTwice': WHATEVER THE INPUT: true; the input reads as it did. -/
def hearTwiceSpec : ChangeSpec := { name := "hearTwice", fn := fun _ => fun
  | [d1, d2, d3] => { results := [.lit (.bool true)], args := [d1, d2, d3] }
  | _ => none }
def hearTwiceRow : OpenClaim := { program := "ytdjnaahkcnklhaadoor", sum := "7bce8d19ab503495f3e114ac90cc5a199175dfdf5dcfe151e314fe330d3066ea", func := "reredos/reredoskeep.HearTwice", spec := "hearTwice", unfollowed := true, recurses := true, named := ["reredos/wire.messageHas", "reredos/wire.tops"], apart := false, laid := [("reredos/wire.messageHas", laid_reredos_wire_messageHas), ("reredos/wire.tops", laid_reredos_wire_tops)] }
def HearTwiceSaid : Prop := hearTwiceRow.holds Tryd.pinned (OpenSpec.ofChange hearTwiceSpec)

/-- ITS FALSE NEIGHBOUR: 'it returns false'. Refute it at one input. -/
def hearTwiceWrong : ChangeSpec := { name := "hearTwice", fn := fun _ => fun
  | [d1, d2, d3] => { results := [.lit (.bool false)], args := [d1, d2, d3] }
  | _ => none }
def HearTwiceWrongFalsely : Prop := hearTwiceRow.holds Tryd.pinned (OpenSpec.ofChange hearTwiceWrong)

/- THE SECOND FORM. 'bulk': how many values and letters a reading holds, each counted each time it is reached (what is shared counts as often as it is met; a slice's spare places count too). A statement '..UptoSaid' is the law's where the arguments, and the package variables that the reading takes, are together of bulk at most 1048576: NARROWER than '..Said'. Prove '..Said' where nothing that the law and all that it calls make is longer than what came in: it says more and counts as full. Else prove '..UptoSaid'. A law counts once. -/
mutual
def uptoBulk {H : Type} : DataW H → Nat
  | .lit (.string bytes) => bytes.length + 1
  | .lit _ => 1
  | .nil => 1
  | .ptr d => uptoBulk d + 1
  | .slice elems spare => uptoBulkAll elems + uptoBulkAll spare + 1
  | .agg parts => uptoBulkAll parts + 1
  | .iface _ d => uptoBulk d + 1
  | .map entries => uptoBulkEntries entries + 1
  | .held _ => 1
def uptoBulkAll {H : Type} : List (DataW H) → Nat
  | [] => 0
  | d :: r => uptoBulk d + uptoBulkAll r
def uptoBulkEntries {H : Type} : List (Lit × DataW H) → Nat
  | [] => 0
  | x :: r => uptoBulkEntry x + uptoBulkEntries r
def uptoBulkEntry {H : Type} : Lit × DataW H → Nat
  | (.string bytes, d) => bytes.length + uptoBulk d + 1
  | (_, d) => uptoBulk d + 1
 end
def uptoSmall : (H : Type) → List (DataW H) → Bool := fun _ ds => decide (uptoBulkAll ds ≤ 1048576)
def OpenSpec.upto (s : _root_.Go.ChangeSpec) : _root_.Go.OpenSpec := { _root_.Go.OpenSpec.ofChange s with cond := some uptoSmall }

/-- 'reredoskeep.DeskGood', WHERE WHAT IT READS IS OF BULK AT MOST 1048576: true; the input reads as it did. -/
def deskGoodUptoRow : OpenClaim := { program := "ytdjnaahkcnklhaadoor", sum := "7bce8d19ab503495f3e114ac90cc5a199175dfdf5dcfe151e314fe330d3066ea", func := "reredos/reredoskeep.DeskGood", spec := "deskGood", unfollowed := true, recurses := true, named := ["reredos/wire.messageHas", "reredos/wire.tops"], apart := false, laid := [("reredos/wire.messageHas", laid_reredos_wire_messageHas), ("reredos/wire.tops", laid_reredos_wire_tops)], narrowed := true }
def DeskGoodUptoSaid : Prop := deskGoodUptoRow.holds Tryd.pinned (OpenSpec.upto deskGoodSpec)

/-- 'reredoskeep.BeginNew', WHERE WHAT IT READS IS OF BULK AT MOST 1048576: true; the input reads as it did. -/
def beginNewUptoRow : OpenClaim := { program := "ytdjnaahkcnklhaadoor", sum := "7bce8d19ab503495f3e114ac90cc5a199175dfdf5dcfe151e314fe330d3066ea", func := "reredos/reredoskeep.BeginNew", spec := "beginNew", unfollowed := true, recurses := true, named := ["reredos/wire.messageHas", "reredos/wire.tops"], apart := false, laid := [("reredos/wire.messageHas", laid_reredos_wire_messageHas), ("reredos/wire.tops", laid_reredos_wire_tops)], narrowed := true }
def BeginNewUptoSaid : Prop := beginNewUptoRow.holds Tryd.pinned (OpenSpec.upto beginNewSpec)

/-- 'reredoskeep.CallRefused', WHERE WHAT IT READS IS OF BULK AT MOST 1048576: true; the input reads as it did. -/
def callRefusedUptoRow : OpenClaim := { program := "ytdjnaahkcnklhaadoor", sum := "7bce8d19ab503495f3e114ac90cc5a199175dfdf5dcfe151e314fe330d3066ea", func := "reredos/reredoskeep.CallRefused", spec := "callRefused", unfollowed := true, recurses := true, named := ["reredos/wire.messageHas", "reredos/wire.tops"], apart := false, laid := [("reredos/wire.messageHas", laid_reredos_wire_messageHas), ("reredos/wire.tops", laid_reredos_wire_tops)], narrowed := true }
def CallRefusedUptoSaid : Prop := callRefusedUptoRow.holds Tryd.pinned (OpenSpec.upto callRefusedSpec)

/-- 'reredoskeep.HearTwice', WHERE WHAT IT READS IS OF BULK AT MOST 1048576: true; the input reads as it did. -/
def hearTwiceUptoRow : OpenClaim := { program := "ytdjnaahkcnklhaadoor", sum := "7bce8d19ab503495f3e114ac90cc5a199175dfdf5dcfe151e314fe330d3066ea", func := "reredos/reredoskeep.HearTwice", spec := "hearTwice", unfollowed := true, recurses := true, named := ["reredos/wire.messageHas", "reredos/wire.tops"], apart := false, laid := [("reredos/wire.messageHas", laid_reredos_wire_messageHas), ("reredos/wire.tops", laid_reredos_wire_tops)], narrowed := true }
def HearTwiceUptoSaid : Prop := hearTwiceUptoRow.holds Tryd.pinned (OpenSpec.upto hearTwiceSpec)

end Rows
end Go.Proofs.YtdjnaahkcnklhaaDoor
