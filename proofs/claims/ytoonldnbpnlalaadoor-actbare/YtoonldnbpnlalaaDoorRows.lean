/-
  NARROWER THAN 'FOR EVERY INPUT', by the rows' own cells (each row's printed sentence says how): LinesChecks: laid · ActBare: laid.
  DERIVED. THE GIVEN ROWS OF THIS SEAT. 2 by the template 'for every input the law returns true; each argument reads behind the call as it read before'; 0 by the template 'total and deterministic' (their statements: YtoonldnbpnlalaaDoorTotals.lean).
  GIVEN WITH THE SEED: the statements are not yours to turn. If you find one false, say at which input.
  Laid BY PROGRAM, IN A SANDBOX (cutbox-rows.mjs): the forced cells as the released guide's own fill.sh prints them over the translation 4aa693c05eb2f5ca… (all of the seat's roots in one cut). By AI agents, Wed Nov 11 2026. No macro, syntax, notation, axiom, sorry.
-/
import Derived.Test.YtoonldnbpnlalaaDoorChecked
import GoSem.Claim
import GoSem.ClaimJoined
import GoSem.ClaimMapViews
import Derived.JoinedTies
import Derived.KernelRfl
namespace Go.Proofs.YtoonldnbpnlalaaDoor
/- THE CELL 'sum', in the pinned program and in every row, IS THE sha256 OF THE DUMP (.gsa) THAT YtoonldnbpnlalaaDoorProg.lean LOADS. Nothing in Lean hashes anything: it is a label: what it is worth is what the hold of that sum in a sandbox is worth. -/
noncomputable def Tryd.pinned : Pinned := { name := "ytoonldnbpnlalaadoor", sum := "4aa693c05eb2f5ca8c294a644372434b70c19783807d84afee2255334c36ce94", checked := Tryd.checked }
namespace Rows
def none {H : Type} : Left H := { results := [], args := [] }

/- WHAT THE LISTED PACKAGE-LEVEL VARIABLES READ AS WHEN THE CALL BEGINS. Each datum BY PROGRAM (the guide's laid-datum.mjs) off the statement by which the dump's own 'gosem.cut.vars' lays the variable. In a bare row this is a premise. The card (YtoonldnbpnlalaaDoorCards.lean) ties it to the program's text. -/
def laid_reredos_lines_actHas {H : Type} : DataW H := .agg [.agg [.lit (.bool false), .lit (.bool false), .lit (.bool false), .lit (.bool false), .lit (.bool false), .lit (.bool false), .lit (.bool false)], .agg [.lit (.bool true), .lit (.bool false), .lit (.bool true), .lit (.bool false), .lit (.bool false), .lit (.bool true), .lit (.bool false)], .agg [.lit (.bool true), .lit (.bool true), .lit (.bool true), .lit (.bool true), .lit (.bool false), .lit (.bool false), .lit (.bool false)], .agg [.lit (.bool true), .lit (.bool true), .lit (.bool true), .lit (.bool true), .lit (.bool false), .lit (.bool false), .lit (.bool false)], .agg [.lit (.bool true), .lit (.bool true), .lit (.bool true), .lit (.bool true), .lit (.bool false), .lit (.bool false), .lit (.bool false)], .agg [.lit (.bool false), .lit (.bool false), .lit (.bool false), .lit (.bool false), .lit (.bool false), .lit (.bool false), .lit (.bool false)], .agg [.lit (.bool true), .lit (.bool false), .lit (.bool false), .lit (.bool false), .lit (.bool true), .lit (.bool false), .lit (.bool false)], .agg [.lit (.bool true), .lit (.bool false), .lit (.bool false), .lit (.bool false), .lit (.bool false), .lit (.bool false), .lit (.bool false)], .agg [.lit (.bool true), .lit (.bool false), .lit (.bool true), .lit (.bool false), .lit (.bool false), .lit (.bool false), .lit (.bool true)]]
def laid_reredos_lines_callHas {H : Type} : DataW H := .agg [.agg [.lit (.bool false), .lit (.bool false), .lit (.bool false), .lit (.bool false)], .agg [.lit (.bool false), .lit (.bool false), .lit (.bool false), .lit (.bool false)], .agg [.lit (.bool true), .lit (.bool true), .lit (.bool true), .lit (.bool false)], .agg [.lit (.bool true), .lit (.bool false), .lit (.bool true), .lit (.bool true)], .agg [.lit (.bool true), .lit (.bool false), .lit (.bool false), .lit (.bool false)], .agg [.lit (.bool true), .lit (.bool false), .lit (.bool false), .lit (.bool false)]]
def laid_reredos_lines_callTops {H : Type} : DataW H := .agg [.lit (.int .i64 1048576), .lit (.int .i64 5), .lit (.int .i64 8), .lit (.int .i64 1073741824)]

/-- 'reredoslaw.LinesChecks': WHATEVER THE INPUT: true; the input reads as it did. -/
def linesChecksSpec : ChangeSpec := { name := "linesChecks", fn := fun _ => fun
  | [d1, d2] => { results := [.lit (.bool true)], args := [d1, d2] }
  | _ => none }
def linesChecksRow : OpenClaim := { program := "ytoonldnbpnlalaadoor", sum := "4aa693c05eb2f5ca8c294a644372434b70c19783807d84afee2255334c36ce94", func := "reredos/reredoslaw.LinesChecks", spec := "linesChecks", unfollowed := true, recurses := true, named := ["reredos/lines.actHas", "reredos/lines.callHas", "reredos/lines.callTops"], apart := false, laid := [("reredos/lines.actHas", laid_reredos_lines_actHas), ("reredos/lines.callHas", laid_reredos_lines_callHas), ("reredos/lines.callTops", laid_reredos_lines_callTops)] }
def LinesChecksSaid : Prop := linesChecksRow.holds Tryd.pinned (OpenSpec.ofChange linesChecksSpec)

/-- ITS FALSE NEIGHBOUR: 'it returns false'. Refute it at one input. -/
def linesChecksWrong : ChangeSpec := { name := "linesChecks", fn := fun _ => fun
  | [d1, d2] => { results := [.lit (.bool false)], args := [d1, d2] }
  | _ => none }
def LinesChecksWrongFalsely : Prop := linesChecksRow.holds Tryd.pinned (OpenSpec.ofChange linesChecksWrong)

/-- 'reredoskeep.ActBare': WHATEVER THE INPUT: true; the input reads as it did. -/
def actBareSpec : ChangeSpec := { name := "actBare", fn := fun _ => fun
  | [d1, d2] => { results := [.lit (.bool true)], args := [d1, d2] }
  | _ => none }
def actBareRow : OpenClaim := { program := "ytoonldnbpnlalaadoor", sum := "4aa693c05eb2f5ca8c294a644372434b70c19783807d84afee2255334c36ce94", func := "reredos/reredoskeep.ActBare", spec := "actBare", unfollowed := true, recurses := true, named := ["reredos/lines.actHas", "reredos/lines.callHas", "reredos/lines.callTops"], apart := false, laid := [("reredos/lines.actHas", laid_reredos_lines_actHas), ("reredos/lines.callHas", laid_reredos_lines_callHas), ("reredos/lines.callTops", laid_reredos_lines_callTops)] }
def ActBareSaid : Prop := actBareRow.holds Tryd.pinned (OpenSpec.ofChange actBareSpec)

/-- ITS FALSE NEIGHBOUR: 'it returns false'. Refute it at one input. -/
def actBareWrong : ChangeSpec := { name := "actBare", fn := fun _ => fun
  | [d1, d2] => { results := [.lit (.bool false)], args := [d1, d2] }
  | _ => none }
def ActBareWrongFalsely : Prop := actBareRow.holds Tryd.pinned (OpenSpec.ofChange actBareWrong)

/- THE SECOND FORM. 'bulk': how many values and letters a reading holds, each counted each time it is reached (what is shared counts as often as it is met; a slice's spare places count too). A statement '..UptoSaid' is the law's where the arguments, and the package variables that the reading takes, are together of bulk at most 1048576: NARROWER than '..Said'. Prove '..Said' where nothing that the law and all that it calls make is longer than what came in: it says more and counts as full. Else prove '..UptoSaid'. A law counts once. -/
mutual
def uptoBulk {H : Type} : DataW H → Nat
  | .lit (.string bytes) => bytes.length + 1
  | .lit _ => 1
  | .nil => 1
  | .ptr d => uptoBulk d + 1
  | .slice elems spare => uptoBulkAll elems + uptoBulkAll spare + 1
  | .agg parts => uptoBulkAll parts + 1
  | .iface _ d => uptoBulk d + 1
  | .map entries => uptoBulkEntries entries + 1
  | .held _ => 1
def uptoBulkAll {H : Type} : List (DataW H) → Nat
  | [] => 0
  | d :: r => uptoBulk d + uptoBulkAll r
def uptoBulkEntries {H : Type} : List (Lit × DataW H) → Nat
  | [] => 0
  | x :: r => uptoBulkEntry x + uptoBulkEntries r
def uptoBulkEntry {H : Type} : Lit × DataW H → Nat
  | (.string bytes, d) => bytes.length + uptoBulk d + 1
  | (_, d) => uptoBulk d + 1
 end
def uptoSmall : (H : Type) → List (DataW H) → Bool := fun _ ds => decide (uptoBulkAll ds ≤ 1048576)
def OpenSpec.upto (s : _root_.Go.ChangeSpec) : _root_.Go.OpenSpec := { _root_.Go.OpenSpec.ofChange s with cond := some uptoSmall }

/-- 'reredoslaw.LinesChecks', WHERE WHAT IT READS IS OF BULK AT MOST 1048576: true; the input reads as it did. -/
def linesChecksUptoRow : OpenClaim := { program := "ytoonldnbpnlalaadoor", sum := "4aa693c05eb2f5ca8c294a644372434b70c19783807d84afee2255334c36ce94", func := "reredos/reredoslaw.LinesChecks", spec := "linesChecks", unfollowed := true, recurses := true, named := ["reredos/lines.actHas", "reredos/lines.callHas", "reredos/lines.callTops"], apart := false, laid := [("reredos/lines.actHas", laid_reredos_lines_actHas), ("reredos/lines.callHas", laid_reredos_lines_callHas), ("reredos/lines.callTops", laid_reredos_lines_callTops)], narrowed := true }
def LinesChecksUptoSaid : Prop := linesChecksUptoRow.holds Tryd.pinned (OpenSpec.upto linesChecksSpec)

/-- 'reredoskeep.ActBare', WHERE WHAT IT READS IS OF BULK AT MOST 1048576: true; the input reads as it did. -/
def actBareUptoRow : OpenClaim := { program := "ytoonldnbpnlalaadoor", sum := "4aa693c05eb2f5ca8c294a644372434b70c19783807d84afee2255334c36ce94", func := "reredos/reredoskeep.ActBare", spec := "actBare", unfollowed := true, recurses := true, named := ["reredos/lines.actHas", "reredos/lines.callHas", "reredos/lines.callTops"], apart := false, laid := [("reredos/lines.actHas", laid_reredos_lines_actHas), ("reredos/lines.callHas", laid_reredos_lines_callHas), ("reredos/lines.callTops", laid_reredos_lines_callTops)], narrowed := true }
def ActBareUptoSaid : Prop := actBareUptoRow.holds Tryd.pinned (OpenSpec.upto actBareSpec)

end Rows
end Go.Proofs.YtoonldnbpnlalaaDoor
