/-
  No cell of these rows narrows 'for every input' (looked for: loops, veiled, ifaces, maps, wideKeys, modest, calm, conditions, laid).
  DERIVED. THE GIVEN ROWS OF THIS SEAT. 4 by the template 'for every input the law returns true; each argument reads behind the call as it read before'; 0 by the template 'total and deterministic' (their statements: YtbmbahifkegehabTotals.lean).
  GIVEN WITH THE SEED: the statements are not yours to turn. If you find one false, say at which input.
  Laid BY PROGRAM, IN A SANDBOX (cutbox-rows.mjs): the forced cells as the released guide's own fill.sh prints them over the translation 5ae0d898cd05afee… (all of the seat's roots in one cut). By AI agents, Wed Nov 11 2026. No macro, syntax, notation, axiom, sorry.
-/
import Derived.Test.YtbmbahifkegehabChecked
import GoSem.Claim
import GoSem.ClaimJoined
import GoSem.ClaimMapViews
import Derived.JoinedTies
import Derived.KernelRfl
namespace Go.Proofs.Ytbmbahifkegehab
/- THE CELL 'sum', in the pinned program and in every row, IS THE sha256 OF THE DUMP (.gsa) THAT YtbmbahifkegehabProg.lean LOADS. Nothing in Lean hashes anything: it is a label: what it is worth is what the hold of that sum in a sandbox is worth. -/
noncomputable def Try.pinned : Pinned := { name := "ytbmbahifkegehab", sum := "5ae0d898cd05afee197a10eab7adabdca0bc7eaede4b255b06834afb506ca223", checked := Try.checked }
namespace Rows
def none {H : Type} : Left H := { results := [], args := [] }

/-- 'reredoskeep.EndAll': WHATEVER THE INPUT: true; the input reads as it did. -/
def endAllSpec : ChangeSpec := { name := "endAll", fn := fun _ => fun
  | [d1, d2, d3, d4] => { results := [.lit (.bool true)], args := [d1, d2, d3, d4] }
  | _ => none }
def endAllRow : OpenClaim := { program := "ytbmbahifkegehab", sum := "5ae0d898cd05afee197a10eab7adabdca0bc7eaede4b255b06834afb506ca223", func := "reredos/reredoskeep.EndAll", spec := "endAll", inPlace := ["slices.overlaps[reredos/api.Item]"], unfollowed := true, recurses := true, plainKeys := false, apart := false }
def EndAllSaid : Prop := endAllRow.holds Try.pinned (OpenSpec.ofChange endAllSpec)

/-- ITS FALSE NEIGHBOUR: 'it returns false'. Refute it at one input. -/
def endAllWrong : ChangeSpec := { name := "endAll", fn := fun _ => fun
  | [d1, d2, d3, d4] => { results := [.lit (.bool false)], args := [d1, d2, d3, d4] }
  | _ => none }
def EndAllWrongFalsely : Prop := endAllRow.holds Try.pinned (OpenSpec.ofChange endAllWrong)

/-- 'reredoskeep.EndOthers': WHATEVER THE INPUT: true; the input reads as it did. -/
def endOthersSpec : ChangeSpec := { name := "endOthers", fn := fun _ => fun
  | [d1, d2, d3, d4] => { results := [.lit (.bool true)], args := [d1, d2, d3, d4] }
  | _ => none }
def endOthersRow : OpenClaim := { program := "ytbmbahifkegehab", sum := "5ae0d898cd05afee197a10eab7adabdca0bc7eaede4b255b06834afb506ca223", func := "reredos/reredoskeep.EndOthers", spec := "endOthers", inPlace := ["slices.overlaps[reredos/api.Item]"], unfollowed := true, recurses := true, plainKeys := false, apart := false }
def EndOthersSaid : Prop := endOthersRow.holds Try.pinned (OpenSpec.ofChange endOthersSpec)

/-- ITS FALSE NEIGHBOUR: 'it returns false'. Refute it at one input. -/
def endOthersWrong : ChangeSpec := { name := "endOthers", fn := fun _ => fun
  | [d1, d2, d3, d4] => { results := [.lit (.bool false)], args := [d1, d2, d3, d4] }
  | _ => none }
def EndOthersWrongFalsely : Prop := endOthersRow.holds Try.pinned (OpenSpec.ofChange endOthersWrong)

/-- 'reredoskeep.PeekNothing': WHATEVER THE INPUT: true; the input reads as it did. -/
def peekNothingSpec : ChangeSpec := { name := "peekNothing", fn := fun _ => fun
  | [d1, d2, d3] => { results := [.lit (.bool true)], args := [d1, d2, d3] }
  | _ => none }
def peekNothingRow : OpenClaim := { program := "ytbmbahifkegehab", sum := "5ae0d898cd05afee197a10eab7adabdca0bc7eaede4b255b06834afb506ca223", func := "reredos/reredoskeep.PeekNothing", spec := "peekNothing", inPlace := ["slices.overlaps[reredos/api.Item]"], unfollowed := true, recurses := true, plainKeys := false, apart := false }
def PeekNothingSaid : Prop := peekNothingRow.holds Try.pinned (OpenSpec.ofChange peekNothingSpec)

/-- ITS FALSE NEIGHBOUR: 'it returns false'. Refute it at one input. -/
def peekNothingWrong : ChangeSpec := { name := "peekNothing", fn := fun _ => fun
  | [d1, d2, d3] => { results := [.lit (.bool false)], args := [d1, d2, d3] }
  | _ => none }
def PeekNothingWrongFalsely : Prop := peekNothingRow.holds Try.pinned (OpenSpec.ofChange peekNothingWrong)

/-- 'reredoskeep.ForgetReads': WHATEVER THE INPUT: true; the input reads as it did. -/
def forgetReadsSpec : ChangeSpec := { name := "forgetReads", fn := fun _ => fun
  | [d] => { results := [.lit (.bool true)], args := [d] }
  | _ => none }
def forgetReadsRow : OpenClaim := { program := "ytbmbahifkegehab", sum := "5ae0d898cd05afee197a10eab7adabdca0bc7eaede4b255b06834afb506ca223", func := "reredos/reredoskeep.ForgetReads", spec := "forgetReads", inPlace := ["slices.overlaps[reredos/api.Item]"], unfollowed := true, recurses := true, plainKeys := false, apart := false }
def ForgetReadsSaid : Prop := forgetReadsRow.holds Try.pinned (OpenSpec.ofChange forgetReadsSpec)

/-- ITS FALSE NEIGHBOUR: 'it returns false'. Refute it at one input. -/
def forgetReadsWrong : ChangeSpec := { name := "forgetReads", fn := fun _ => fun
  | [d] => { results := [.lit (.bool false)], args := [d] }
  | _ => none }
def ForgetReadsWrongFalsely : Prop := forgetReadsRow.holds Try.pinned (OpenSpec.ofChange forgetReadsWrong)

/- THE SECOND FORM. 'bulk': how many values and letters a reading holds, each counted each time it is reached (what is shared counts as often as it is met; a slice's spare places count too). A statement '..UptoSaid' is the law's where the arguments, and the package variables that the reading takes, are together of bulk at most 1048576: NARROWER than '..Said'. Prove '..Said' where nothing that the law and all that it calls make is longer than what came in: it says more and counts as full. Else prove '..UptoSaid'. A law counts once. -/
mutual
def uptoBulk {H : Type} : DataW H → Nat
  | .lit (.string bytes) => bytes.length + 1
  | .lit _ => 1
  | .nil => 1
  | .ptr d => uptoBulk d + 1
  | .slice elems spare => uptoBulkAll elems + uptoBulkAll spare + 1
  | .agg parts => uptoBulkAll parts + 1
  | .iface _ d => uptoBulk d + 1
  | .map entries => uptoBulkEntries entries + 1
  | .held _ => 1
def uptoBulkAll {H : Type} : List (DataW H) → Nat
  | [] => 0
  | d :: r => uptoBulk d + uptoBulkAll r
def uptoBulkEntries {H : Type} : List (Lit × DataW H) → Nat
  | [] => 0
  | x :: r => uptoBulkEntry x + uptoBulkEntries r
def uptoBulkEntry {H : Type} : Lit × DataW H → Nat
  | (.string bytes, d) => bytes.length + uptoBulk d + 1
  | (_, d) => uptoBulk d + 1
 end
def uptoSmall : (H : Type) → List (DataW H) → Bool := fun _ ds => decide (uptoBulkAll ds ≤ 1048576)
def OpenSpec.upto (s : _root_.Go.ChangeSpec) : _root_.Go.OpenSpec := { _root_.Go.OpenSpec.ofChange s with cond := some uptoSmall }

/-- 'reredoskeep.EndAll', WHERE WHAT IT READS IS OF BULK AT MOST 1048576: true; the input reads as it did. -/
def endAllUptoRow : OpenClaim := { program := "ytbmbahifkegehab", sum := "5ae0d898cd05afee197a10eab7adabdca0bc7eaede4b255b06834afb506ca223", func := "reredos/reredoskeep.EndAll", spec := "endAll", inPlace := ["slices.overlaps[reredos/api.Item]"], unfollowed := true, recurses := true, plainKeys := false, apart := false, narrowed := true }
def EndAllUptoSaid : Prop := endAllUptoRow.holds Try.pinned (OpenSpec.upto endAllSpec)

/-- 'reredoskeep.EndOthers', WHERE WHAT IT READS IS OF BULK AT MOST 1048576: true; the input reads as it did. -/
def endOthersUptoRow : OpenClaim := { program := "ytbmbahifkegehab", sum := "5ae0d898cd05afee197a10eab7adabdca0bc7eaede4b255b06834afb506ca223", func := "reredos/reredoskeep.EndOthers", spec := "endOthers", inPlace := ["slices.overlaps[reredos/api.Item]"], unfollowed := true, recurses := true, plainKeys := false, apart := false, narrowed := true }
def EndOthersUptoSaid : Prop := endOthersUptoRow.holds Try.pinned (OpenSpec.upto endOthersSpec)

/-- 'reredoskeep.PeekNothing', WHERE WHAT IT READS IS OF BULK AT MOST 1048576: true; the input reads as it did. -/
def peekNothingUptoRow : OpenClaim := { program := "ytbmbahifkegehab", sum := "5ae0d898cd05afee197a10eab7adabdca0bc7eaede4b255b06834afb506ca223", func := "reredos/reredoskeep.PeekNothing", spec := "peekNothing", inPlace := ["slices.overlaps[reredos/api.Item]"], unfollowed := true, recurses := true, plainKeys := false, apart := false, narrowed := true }
def PeekNothingUptoSaid : Prop := peekNothingUptoRow.holds Try.pinned (OpenSpec.upto peekNothingSpec)

/-- 'reredoskeep.ForgetReads', WHERE WHAT IT READS IS OF BULK AT MOST 1048576: true; the input reads as it did. -/
def forgetReadsUptoRow : OpenClaim := { program := "ytbmbahifkegehab", sum := "5ae0d898cd05afee197a10eab7adabdca0bc7eaede4b255b06834afb506ca223", func := "reredos/reredoskeep.ForgetReads", spec := "forgetReads", inPlace := ["slices.overlaps[reredos/api.Item]"], unfollowed := true, recurses := true, plainKeys := false, apart := false, narrowed := true }
def ForgetReadsUptoSaid : Prop := forgetReadsUptoRow.holds Try.pinned (OpenSpec.upto forgetReadsSpec)

end Rows
end Go.Proofs.Ytbmbahifkegehab
