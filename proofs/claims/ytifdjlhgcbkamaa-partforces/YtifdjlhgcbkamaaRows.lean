/-
  No cell of these rows narrows 'for every input' (looked for: loops, veiled, ifaces, maps, wideKeys, modest, calm, conditions, laid).
  DERIVED. THE GIVEN ROWS OF THIS SEAT. 4 by the template 'for every input the law returns true; each argument reads behind the call as it read before'; 0 by the template 'total and deterministic' (their statements: YtifdjlhgcbkamaaTotals.lean).
  GIVEN WITH THE SEED: the statements are not yours to turn. If you find one false, say at which input.
  Laid BY PROGRAM, IN A SANDBOX (cutbox-rows.mjs): the forced cells as the released guide's own fill.sh prints them over the translation d7ea5578b97de97b… (all of the seat's roots in one cut). By AI agents, Wed Nov 11 2026. No macro, syntax, notation, axiom, sorry.
-/
import Derived.Test.YtifdjlhgcbkamaaChecked
import GoSem.Claim
import GoSem.ClaimJoined
import GoSem.ClaimMapViews
import Derived.JoinedTies
import Derived.KernelRfl
namespace Go.Proofs.Ytifdjlhgcbkamaa
/- THE CELL 'sum', in the pinned program and in every row, IS THE sha256 OF THE DUMP (.gsa) THAT YtifdjlhgcbkamaaProg.lean LOADS. Nothing in Lean hashes anything: it is a label: what it is worth is what the hold of that sum in a sandbox is worth. -/
noncomputable def Try.pinned : Pinned := { name := "ytifdjlhgcbkamaa", sum := "d7ea5578b97de97b78039db5d9e9d60edf6843717483e58cb601b9498c86a2a5", checked := Try.checked }
namespace Rows
def none {H : Type} : Left H := { results := [], args := [] }

/-- 'reredoslaw.PartForces': WHATEVER THE INPUT: true; the input reads as it did. -/
def partForcesSpec : ChangeSpec := { name := "partForces", fn := fun _ => fun
  | [d1, d2, d3, d4, d5, d6, d7] => { results := [.lit (.bool true)], args := [d1, d2, d3, d4, d5, d6, d7] }
  | _ => none }
def partForcesRow : OpenClaim := { program := "ytifdjlhgcbkamaa", sum := "d7ea5578b97de97b78039db5d9e9d60edf6843717483e58cb601b9498c86a2a5", func := "reredos/reredoslaw.PartForces", spec := "partForces", inPlace := ["slices.overlaps[reredos/api.Item]"], unfollowed := true, recurses := true, plainKeys := false, apart := false }
def PartForcesSaid : Prop := partForcesRow.holds Try.pinned (OpenSpec.ofChange partForcesSpec)

/-- ITS FALSE NEIGHBOUR: 'it returns false'. Refute it at one input. -/
def partForcesWrong : ChangeSpec := { name := "partForces", fn := fun _ => fun
  | [d1, d2, d3, d4, d5, d6, d7] => { results := [.lit (.bool false)], args := [d1, d2, d3, d4, d5, d6, d7] }
  | _ => none }
def PartForcesWrongFalsely : Prop := partForcesRow.holds Try.pinned (OpenSpec.ofChange partForcesWrong)

/-- 'reredoslaw.PartTicks': WHATEVER THE INPUT: true; the input reads as it did. -/
def partTicksSpec : ChangeSpec := { name := "partTicks", fn := fun _ => fun
  | [d1, d2, d3, d4] => { results := [.lit (.bool true)], args := [d1, d2, d3, d4] }
  | _ => none }
def partTicksRow : OpenClaim := { program := "ytifdjlhgcbkamaa", sum := "d7ea5578b97de97b78039db5d9e9d60edf6843717483e58cb601b9498c86a2a5", func := "reredos/reredoslaw.PartTicks", spec := "partTicks", unfollowed := true, recurses := true, plainKeys := false, apart := false }
def PartTicksSaid : Prop := partTicksRow.holds Try.pinned (OpenSpec.ofChange partTicksSpec)

/-- ITS FALSE NEIGHBOUR: 'it returns false'. Refute it at one input. -/
def partTicksWrong : ChangeSpec := { name := "partTicks", fn := fun _ => fun
  | [d1, d2, d3, d4] => { results := [.lit (.bool false)], args := [d1, d2, d3, d4] }
  | _ => none }
def PartTicksWrongFalsely : Prop := partTicksRow.holds Try.pinned (OpenSpec.ofChange partTicksWrong)

/-- 'reredoskeep.ForceOnce': WHATEVER THE INPUT: true; the input reads as it did. -/
def forceOnceSpec : ChangeSpec := { name := "forceOnce", fn := fun _ => fun
  | [d1, d2, d3] => { results := [.lit (.bool true)], args := [d1, d2, d3] }
  | _ => none }
def forceOnceRow : OpenClaim := { program := "ytifdjlhgcbkamaa", sum := "d7ea5578b97de97b78039db5d9e9d60edf6843717483e58cb601b9498c86a2a5", func := "reredos/reredoskeep.ForceOnce", spec := "forceOnce", inPlace := ["slices.overlaps[reredos/api.Item]"], unfollowed := true, recurses := true, plainKeys := false, apart := false }
def ForceOnceSaid : Prop := forceOnceRow.holds Try.pinned (OpenSpec.ofChange forceOnceSpec)

/-- ITS FALSE NEIGHBOUR: 'it returns false'. Refute it at one input. -/
def forceOnceWrong : ChangeSpec := { name := "forceOnce", fn := fun _ => fun
  | [d1, d2, d3] => { results := [.lit (.bool false)], args := [d1, d2, d3] }
  | _ => none }
def ForceOnceWrongFalsely : Prop := forceOnceRow.holds Try.pinned (OpenSpec.ofChange forceOnceWrong)

/-- 'reredoskeep.PartAsks': WHATEVER THE INPUT: true; the input reads as it did. -/
def partAsksSpec : ChangeSpec := { name := "partAsks", fn := fun _ => fun
  | [d1, d2, d3] => { results := [.lit (.bool true)], args := [d1, d2, d3] }
  | _ => none }
def partAsksRow : OpenClaim := { program := "ytifdjlhgcbkamaa", sum := "d7ea5578b97de97b78039db5d9e9d60edf6843717483e58cb601b9498c86a2a5", func := "reredos/reredoskeep.PartAsks", spec := "partAsks", inPlace := ["slices.overlaps[reredos/api.Item]"], unfollowed := true, recurses := true, plainKeys := false, apart := false }
def PartAsksSaid : Prop := partAsksRow.holds Try.pinned (OpenSpec.ofChange partAsksSpec)

/-- ITS FALSE NEIGHBOUR: 'it returns false'. Refute it at one input. -/
def partAsksWrong : ChangeSpec := { name := "partAsks", fn := fun _ => fun
  | [d1, d2, d3] => { results := [.lit (.bool false)], args := [d1, d2, d3] }
  | _ => none }
def PartAsksWrongFalsely : Prop := partAsksRow.holds Try.pinned (OpenSpec.ofChange partAsksWrong)

/- THE SECOND FORM. 'bulk': how many values and letters a reading holds, each counted each time it is reached (what is shared counts as often as it is met; a slice's spare places count too). A statement '..UptoSaid' is the law's where the arguments, and the package variables that the reading takes, are together of bulk at most 1048576: NARROWER than '..Said'. Prove '..Said' where nothing that the law and all that it calls make is longer than what came in: it says more and counts as full. Else prove '..UptoSaid'. A law counts once. -/
mutual
def uptoBulk {H : Type} : DataW H → Nat
  | .lit (.string bytes) => bytes.length + 1
  | .lit _ => 1
  | .nil => 1
  | .ptr d => uptoBulk d + 1
  | .slice elems spare => uptoBulkAll elems + uptoBulkAll spare + 1
  | .agg parts => uptoBulkAll parts + 1
  | .iface _ d => uptoBulk d + 1
  | .map entries => uptoBulkEntries entries + 1
  | .held _ => 1
def uptoBulkAll {H : Type} : List (DataW H) → Nat
  | [] => 0
  | d :: r => uptoBulk d + uptoBulkAll r
def uptoBulkEntries {H : Type} : List (Lit × DataW H) → Nat
  | [] => 0
  | x :: r => uptoBulkEntry x + uptoBulkEntries r
def uptoBulkEntry {H : Type} : Lit × DataW H → Nat
  | (.string bytes, d) => bytes.length + uptoBulk d + 1
  | (_, d) => uptoBulk d + 1
 end
def uptoSmall : (H : Type) → List (DataW H) → Bool := fun _ ds => decide (uptoBulkAll ds ≤ 1048576)
def OpenSpec.upto (s : _root_.Go.ChangeSpec) : _root_.Go.OpenSpec := { _root_.Go.OpenSpec.ofChange s with cond := some uptoSmall }

/-- 'reredoslaw.PartForces', WHERE WHAT IT READS IS OF BULK AT MOST 1048576: true; the input reads as it did. -/
def partForcesUptoRow : OpenClaim := { program := "ytifdjlhgcbkamaa", sum := "d7ea5578b97de97b78039db5d9e9d60edf6843717483e58cb601b9498c86a2a5", func := "reredos/reredoslaw.PartForces", spec := "partForces", inPlace := ["slices.overlaps[reredos/api.Item]"], unfollowed := true, recurses := true, plainKeys := false, apart := false, narrowed := true }
def PartForcesUptoSaid : Prop := partForcesUptoRow.holds Try.pinned (OpenSpec.upto partForcesSpec)

/-- 'reredoslaw.PartTicks', WHERE WHAT IT READS IS OF BULK AT MOST 1048576: true; the input reads as it did. -/
def partTicksUptoRow : OpenClaim := { program := "ytifdjlhgcbkamaa", sum := "d7ea5578b97de97b78039db5d9e9d60edf6843717483e58cb601b9498c86a2a5", func := "reredos/reredoslaw.PartTicks", spec := "partTicks", unfollowed := true, recurses := true, plainKeys := false, apart := false, narrowed := true }
def PartTicksUptoSaid : Prop := partTicksUptoRow.holds Try.pinned (OpenSpec.upto partTicksSpec)

/-- 'reredoskeep.ForceOnce', WHERE WHAT IT READS IS OF BULK AT MOST 1048576: true; the input reads as it did. -/
def forceOnceUptoRow : OpenClaim := { program := "ytifdjlhgcbkamaa", sum := "d7ea5578b97de97b78039db5d9e9d60edf6843717483e58cb601b9498c86a2a5", func := "reredos/reredoskeep.ForceOnce", spec := "forceOnce", inPlace := ["slices.overlaps[reredos/api.Item]"], unfollowed := true, recurses := true, plainKeys := false, apart := false, narrowed := true }
def ForceOnceUptoSaid : Prop := forceOnceUptoRow.holds Try.pinned (OpenSpec.upto forceOnceSpec)

/-- 'reredoskeep.PartAsks', WHERE WHAT IT READS IS OF BULK AT MOST 1048576: true; the input reads as it did. -/
def partAsksUptoRow : OpenClaim := { program := "ytifdjlhgcbkamaa", sum := "d7ea5578b97de97b78039db5d9e9d60edf6843717483e58cb601b9498c86a2a5", func := "reredos/reredoskeep.PartAsks", spec := "partAsks", inPlace := ["slices.overlaps[reredos/api.Item]"], unfollowed := true, recurses := true, plainKeys := false, apart := false, narrowed := true }
def PartAsksUptoSaid : Prop := partAsksUptoRow.holds Try.pinned (OpenSpec.upto partAsksSpec)

end Rows
end Go.Proofs.Ytifdjlhgcbkamaa
