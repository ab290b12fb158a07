/-
  NARROWER THAN 'FOR EVERY INPUT', by the rows' own cells (each row's printed sentence says how): CommitPlain: laid · CommitAsks: laid · DoubtsTold: laid · TickEnds: laid.
  DERIVED. THE GIVEN ROWS OF THIS SEAT. 4 by the template 'for every input the law returns true; each argument reads behind the call as it read before'; 0 by the template 'total and deterministic' (their statements: YtdjnaahkcnklhabDoorTotals.lean).
  GIVEN WITH THE SEED: the statements are not yours to turn. If you find one false, say at which input.
  Laid BY PROGRAM, IN A SANDBOX (cutbox-rows.mjs): the forced cells as the released guide's own fill.sh prints them over the translation 88ad0d97a6820d9b… (all of the seat's roots in one cut). By AI agents, Wed Nov 11 2026. No macro, syntax, notation, axiom, sorry.
-/
import Derived.Test.YtdjnaahkcnklhabDoorChecked
import GoSem.Claim
import GoSem.ClaimJoined
import GoSem.ClaimMapViews
import Derived.JoinedTies
import Derived.KernelRfl
namespace Go.Proofs.YtdjnaahkcnklhabDoor
/- THE CELL 'sum', in the pinned program and in every row, IS THE sha256 OF THE DUMP (.gsa) THAT YtdjnaahkcnklhabDoorProg.lean LOADS. Nothing in Lean hashes anything: it is a label: what it is worth is what the hold of that sum in a sandbox is worth. -/
noncomputable def Tryd.pinned : Pinned := { name := "ytdjnaahkcnklhabdoor", sum := "88ad0d97a6820d9b1f44de4d15d59f1f4005d9a241fee73ab11d89973fc848e2", checked := Tryd.checked }
namespace Rows
def none {H : Type} : Left H := { results := [], args := [] }

/- WHAT THE LISTED PACKAGE-LEVEL VARIABLES READ AS WHEN THE CALL BEGINS. Each datum BY PROGRAM (the guide's laid-datum.mjs) off the statement by which the dump's own 'gosem.cut.vars' lays the variable. In a bare row this is a premise. The card (YtdjnaahkcnklhabDoorCards.lean) ties it to the program's text. -/
def laid_reredos_wire_messageHas {H : Type} : DataW H := .agg [.agg [.lit (.bool false), .lit (.bool false), .lit (.bool false), .lit (.bool false), .lit (.bool false), .lit (.bool false), .lit (.bool false), .lit (.bool false)], .agg [.lit (.bool true), .lit (.bool true), .lit (.bool false), .lit (.bool false), .lit (.bool true), .lit (.bool false), .lit (.bool false), .lit (.bool false)], .agg [.lit (.bool false), .lit (.bool true), .lit (.bool true), .lit (.bool false), .lit (.bool true), .lit (.bool false), .lit (.bool false), .lit (.bool false)], .agg [.lit (.bool true), .lit (.bool true), .lit (.bool false), .lit (.bool true), .lit (.bool false), .lit (.bool false), .lit (.bool false), .lit (.bool false)], .agg [.lit (.bool false), .lit (.bool false), .lit (.bool false), .lit (.bool false), .lit (.bool false), .lit (.bool true), .lit (.bool false), .lit (.bool false)], .agg [.lit (.bool true), .lit (.bool true), .lit (.bool true), .lit (.bool true), .lit (.bool true), .lit (.bool false), .lit (.bool true), .lit (.bool false)], .agg [.lit (.bool false), .lit (.bool true), .lit (.bool false), .lit (.bool false), .lit (.bool true), .lit (.bool false), .lit (.bool true), .lit (.bool false)], .agg [.lit (.bool true), .lit (.bool true), .lit (.bool false), .lit (.bool true), .lit (.bool false), .lit (.bool true), .lit (.bool false), .lit (.bool false)], .agg [.lit (.bool false), .lit (.bool false), .lit (.bool false), .lit (.bool false), .lit (.bool false), .lit (.bool false), .lit (.bool false), .lit (.bool false)], .agg [.lit (.bool false), .lit (.bool false), .lit (.bool false), .lit (.bool false), .lit (.bool false), .lit (.bool false), .lit (.bool false), .lit (.bool false)]]
def laid_reredos_wire_tops {H : Type} : DataW H := .agg [.lit (.int .i64 5), .lit (.int .i64 7), .lit (.int .i64 1073741824), .lit (.int .i64 1048576), .lit (.int .i64 1048576), .lit (.int .i64 1), .lit (.int .i64 11), .lit (.int .i64 4)]

/-- 'reredoskeep.CommitPlain': WHATEVER THE INPUT: true; the input reads as it did. -/
def commitPlainSpec : ChangeSpec := { name := "commitPlain", fn := fun _ => fun
  | [d1, d2] => { results := [.lit (.bool true)], args := [d1, d2] }
  | _ => none }
def commitPlainRow : OpenClaim := { program := "ytdjnaahkcnklhabdoor", sum := "88ad0d97a6820d9b1f44de4d15d59f1f4005d9a241fee73ab11d89973fc848e2", func := "reredos/reredoskeep.CommitPlain", spec := "commitPlain", unfollowed := true, recurses := true, named := ["reredos/wire.messageHas", "reredos/wire.tops"], apart := false, laid := [("reredos/wire.messageHas", laid_reredos_wire_messageHas), ("reredos/wire.tops", laid_reredos_wire_tops)] }
def CommitPlainSaid : Prop := commitPlainRow.holds Tryd.pinned (OpenSpec.ofChange commitPlainSpec)

/-- ITS FALSE NEIGHBOUR: 'it returns false'. Refute it at one input. -/
def commitPlainWrong : ChangeSpec := { name := "commitPlain", fn := fun _ => fun
  | [d1, d2] => { results := [.lit (.bool false)], args := [d1, d2] }
  | _ => none }
def CommitPlainWrongFalsely : Prop := commitPlainRow.holds Tryd.pinned (OpenSpec.ofChange commitPlainWrong)

/-- 'reredoskeep.CommitAsks': WHATEVER THE INPUT: true; the input reads as it did. -/
def commitAsksSpec : ChangeSpec := { name := "commitAsks", fn := fun _ => fun
  | [d1, d2, d3] => { results := [.lit (.bool true)], args := [d1, d2, d3] }
  | _ => none }
def commitAsksRow : OpenClaim := { program := "ytdjnaahkcnklhabdoor", sum := "88ad0d97a6820d9b1f44de4d15d59f1f4005d9a241fee73ab11d89973fc848e2", func := "reredos/reredoskeep.CommitAsks", spec := "commitAsks", unfollowed := true, recurses := true, named := ["reredos/wire.messageHas", "reredos/wire.tops"], apart := false, laid := [("reredos/wire.messageHas", laid_reredos_wire_messageHas), ("reredos/wire.tops", laid_reredos_wire_tops)] }
def CommitAsksSaid : Prop := commitAsksRow.holds Tryd.pinned (OpenSpec.ofChange commitAsksSpec)

/-- ITS FALSE NEIGHBOUR: 'it returns false'. Refute it at one input. -/
def commitAsksWrong : ChangeSpec := { name := "commitAsks", fn := fun _ => fun
  | [d1, d2, d3] => { results := [.lit (.bool false)], args := [d1, d2, d3] }
  | _ => none }
def CommitAsksWrongFalsely : Prop := commitAsksRow.holds Tryd.pinned (OpenSpec.ofChange commitAsksWrong)

/-- 'reredoskeep.DoubtsTold': WHATEVER THE INPUT: true; the input reads as it did. -/
def doubtsToldSpec : ChangeSpec := { name := "doubtsTold", fn := fun _ => fun
  | [d1, d2, d3, d4] => { results := [.lit (.bool true)], args := [d1, d2, d3, d4] }
  | _ => none }
def doubtsToldRow : OpenClaim := { program := "ytdjnaahkcnklhabdoor", sum := "88ad0d97a6820d9b1f44de4d15d59f1f4005d9a241fee73ab11d89973fc848e2", func := "reredos/reredoskeep.DoubtsTold", spec := "doubtsTold", unfollowed := true, recurses := true, named := ["reredos/wire.messageHas", "reredos/wire.tops"], apart := false, laid := [("reredos/wire.messageHas", laid_reredos_wire_messageHas), ("reredos/wire.tops", laid_reredos_wire_tops)] }
def DoubtsToldSaid : Prop := doubtsToldRow.holds Tryd.pinned (OpenSpec.ofChange doubtsToldSpec)

/-- ITS FALSE NEIGHBOUR: 'it returns false'. Refute it at one input. -/
def doubtsToldWrong : ChangeSpec := { name := "doubtsTold", fn := fun _ => fun
  | [d1, d2, d3, d4] => { results := [.lit (.bool false)], args := [d1, d2, d3, d4] }
  | _ => none }
def DoubtsToldWrongFalsely : Prop := doubtsToldRow.holds Tryd.pinned (OpenSpec.ofChange doubtsToldWrong)

/-- 'reredoskeep.TickEnds': WHATEVER THE INPUT: true; the input reads as it did. -/
def tickEndsSpec : ChangeSpec := { name := "tickEnds", fn := fun _ => fun
  | [d1, d2] => { results := [.lit (.bool true)], args := [d1, d2] }
  | _ => none }
def tickEndsRow : OpenClaim := { program := "ytdjnaahkcnklhabdoor", sum := "88ad0d97a6820d9b1f44de4d15d59f1f4005d9a241fee73ab11d89973fc848e2", func := "reredos/reredoskeep.TickEnds", spec := "tickEnds", unfollowed := true, recurses := true, named := ["reredos/wire.messageHas", "reredos/wire.tops"], apart := false, laid := [("reredos/wire.messageHas", laid_reredos_wire_messageHas), ("reredos/wire.tops", laid_reredos_wire_tops)] }
def TickEndsSaid : Prop := tickEndsRow.holds Tryd.pinned (OpenSpec.ofChange tickEndsSpec)

/-- ITS FALSE NEIGHBOUR: 'it returns false'. Refute it at one input. -/
def tickEndsWrong : ChangeSpec := { name := "tickEnds", fn := fun _ => fun
  | [d1, d2] => { results := [.lit (.bool false)], args := [d1, d2] }
  | _ => none }
def TickEndsWrongFalsely : Prop := tickEndsRow.holds Tryd.pinned (OpenSpec.ofChange tickEndsWrong)

/- THE SECOND FORM. 'bulk': how many values and letters a reading holds, each counted each time it is reached (what is shared counts as often as it is met; a slice's spare places count too). A statement '..UptoSaid' is the law's where the arguments, and the package variables that the reading takes, are together of bulk at most 1048576: NARROWER than '..Said'. Prove '..Said' where nothing that the law and all that it calls make is longer than what came in: it says more and counts as full. Else prove '..UptoSaid'. A law counts once. -/
mutual
def uptoBulk {H : Type} : DataW H → Nat
  | .lit (.string bytes) => bytes.length + 1
  | .lit _ => 1
  | .nil => 1
  | .ptr d => uptoBulk d + 1
  | .slice elems spare => uptoBulkAll elems + uptoBulkAll spare + 1
  | .agg parts => uptoBulkAll parts + 1
  | .iface _ d => uptoBulk d + 1
  | .map entries => uptoBulkEntries entries + 1
  | .held _ => 1
def uptoBulkAll {H : Type} : List (DataW H) → Nat
  | [] => 0
  | d :: r => uptoBulk d + uptoBulkAll r
def uptoBulkEntries {H : Type} : List (Lit × DataW H) → Nat
  | [] => 0
  | x :: r => uptoBulkEntry x + uptoBulkEntries r
def uptoBulkEntry {H : Type} : Lit × DataW H → Nat
  | (.string bytes, d) => bytes.length + uptoBulk d + 1
  | (_, d) => uptoBulk d + 1
 end
def uptoSmall : (H : Type) → List (DataW H) → Bool := fun _ ds => decide (uptoBulkAll ds ≤ 1048576)
def OpenSpec.upto (s : _root_.Go.ChangeSpec) : _root_.Go.OpenSpec := { _root_.Go.OpenSpec.ofChange s with cond := some uptoSmall }

/-- 'reredoskeep.CommitPlain', WHERE WHAT IT READS IS OF BULK AT MOST 1048576: true; the input reads as it did. -/
def commitPlainUptoRow : OpenClaim := { program := "ytdjnaahkcnklhabdoor", sum := "88ad0d97a6820d9b1f44de4d15d59f1f4005d9a241fee73ab11d89973fc848e2", func := "reredos/reredoskeep.CommitPlain", spec := "commitPlain", unfollowed := true, recurses := true, named := ["reredos/wire.messageHas", "reredos/wire.tops"], apart := false, laid := [("reredos/wire.messageHas", laid_reredos_wire_messageHas), ("reredos/wire.tops", laid_reredos_wire_tops)], narrowed := true }
def CommitPlainUptoSaid : Prop := commitPlainUptoRow.holds Tryd.pinned (OpenSpec.upto commitPlainSpec)

/-- 'reredoskeep.CommitAsks', WHERE WHAT IT READS IS OF BULK AT MOST 1048576: true; the input reads as it did. -/
def commitAsksUptoRow : OpenClaim := { program := "ytdjnaahkcnklhabdoor", sum := "88ad0d97a6820d9b1f44de4d15d59f1f4005d9a241fee73ab11d89973fc848e2", func := "reredos/reredoskeep.CommitAsks", spec := "commitAsks", unfollowed := true, recurses := true, named := ["reredos/wire.messageHas", "reredos/wire.tops"], apart := false, laid := [("reredos/wire.messageHas", laid_reredos_wire_messageHas), ("reredos/wire.tops", laid_reredos_wire_tops)], narrowed := true }
def CommitAsksUptoSaid : Prop := commitAsksUptoRow.holds Tryd.pinned (OpenSpec.upto commitAsksSpec)

/-- 'reredoskeep.DoubtsTold', WHERE WHAT IT READS IS OF BULK AT MOST 1048576: true; the input reads as it did. -/
def doubtsToldUptoRow : OpenClaim := { program := "ytdjnaahkcnklhabdoor", sum := "88ad0d97a6820d9b1f44de4d15d59f1f4005d9a241fee73ab11d89973fc848e2", func := "reredos/reredoskeep.DoubtsTold", spec := "doubtsTold", unfollowed := true, recurses := true, named := ["reredos/wire.messageHas", "reredos/wire.tops"], apart := false, laid := [("reredos/wire.messageHas", laid_reredos_wire_messageHas), ("reredos/wire.tops", laid_reredos_wire_tops)], narrowed := true }
def DoubtsToldUptoSaid : Prop := doubtsToldUptoRow.holds Tryd.pinned (OpenSpec.upto doubtsToldSpec)

/-- 'reredoskeep.TickEnds', WHERE WHAT IT READS IS OF BULK AT MOST 1048576: true; the input reads as it did. -/
def tickEndsUptoRow : OpenClaim := { program := "ytdjnaahkcnklhabdoor", sum := "88ad0d97a6820d9b1f44de4d15d59f1f4005d9a241fee73ab11d89973fc848e2", func := "reredos/reredoskeep.TickEnds", spec := "tickEnds", unfollowed := true, recurses := true, named := ["reredos/wire.messageHas", "reredos/wire.tops"], apart := false, laid := [("reredos/wire.messageHas", laid_reredos_wire_messageHas), ("reredos/wire.tops", laid_reredos_wire_tops)], narrowed := true }
def TickEndsUptoSaid : Prop := tickEndsUptoRow.holds Tryd.pinned (OpenSpec.upto tickEndsSpec)

end Rows
end Go.Proofs.YtdjnaahkcnklhabDoor
