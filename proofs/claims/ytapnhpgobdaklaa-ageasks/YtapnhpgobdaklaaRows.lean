/-
  No cell of these rows narrows 'for every input' (looked for: loops, veiled, ifaces, maps, wideKeys, modest, calm, conditions, laid).
  DERIVED. THE GIVEN ROWS OF THIS SEAT. 6 by the template 'for every input the law returns true; each argument reads behind the call as it read before'; 0 by the template 'total and deterministic' (their statements: YtapnhpgobdaklaaTotals.lean).
  GIVEN WITH THE SEED: the statements are not yours to turn. If you find one false, say at which input.
  Laid BY PROGRAM, IN A SANDBOX (cutbox-rows.mjs): the forced cells as the released guide's own fill.sh prints them over the translation b0afaaba4636963d… (all of the seat's roots in one cut). By AI agents, Wed Nov 11 2026. No macro, syntax, notation, axiom, sorry.
-/
import Derived.Test.YtapnhpgobdaklaaChecked
import GoSem.Claim
import GoSem.ClaimJoined
import GoSem.ClaimMapViews
import Derived.JoinedTies
import Derived.KernelRfl
namespace Go.Proofs.Ytapnhpgobdaklaa
/- THE CELL 'sum', in the pinned program and in every row, IS THE sha256 OF THE DUMP (.gsa) THAT YtapnhpgobdaklaaProg.lean LOADS. Nothing in Lean hashes anything: it is a label: what it is worth is what the hold of that sum in a sandbox is worth. -/
noncomputable def Try.pinned : Pinned := { name := "ytapnhpgobdaklaa", sum := "b0afaaba4636963d419cd0c62cf10785176ee2cbac7fdae991921b7ac914bb6a", checked := Try.checked }
namespace Rows
def none {H : Type} : Left H := { results := [], args := [] }

/-- 'reredoskeep.AgeAsks': WHATEVER THE INPUT: true; the input reads as it did. -/
def ageAsksSpec : ChangeSpec := { name := "ageAsks", fn := fun _ => fun
  | [d1, d2] => { results := [.lit (.bool true)], args := [d1, d2] }
  | _ => none }
def ageAsksRow : OpenClaim := { program := "ytapnhpgobdaklaa", sum := "b0afaaba4636963d419cd0c62cf10785176ee2cbac7fdae991921b7ac914bb6a", func := "reredos/reredoskeep.AgeAsks", spec := "ageAsks", unfollowed := true, recurses := true, plainKeys := false, apart := false }
def AgeAsksSaid : Prop := ageAsksRow.holds Try.pinned (OpenSpec.ofChange ageAsksSpec)

/-- ITS FALSE NEIGHBOUR: 'it returns false'. Refute it at one input. -/
def ageAsksWrong : ChangeSpec := { name := "ageAsks", fn := fun _ => fun
  | [d1, d2] => { results := [.lit (.bool false)], args := [d1, d2] }
  | _ => none }
def AgeAsksWrongFalsely : Prop := ageAsksRow.holds Try.pinned (OpenSpec.ofChange ageAsksWrong)

/-- 'reredoskeep.ForgetReads': WHATEVER THE INPUT: true; the input reads as it did. -/
def forgetReadsSpec : ChangeSpec := { name := "forgetReads", fn := fun _ => fun
  | [d] => { results := [.lit (.bool true)], args := [d] }
  | _ => none }
def forgetReadsRow : OpenClaim := { program := "ytapnhpgobdaklaa", sum := "b0afaaba4636963d419cd0c62cf10785176ee2cbac7fdae991921b7ac914bb6a", func := "reredos/reredoskeep.ForgetReads", spec := "forgetReads", inPlace := ["slices.overlaps[reredos/api.Item]"], unfollowed := true, recurses := true, plainKeys := false, apart := false }
def ForgetReadsSaid : Prop := forgetReadsRow.holds Try.pinned (OpenSpec.ofChange forgetReadsSpec)

/-- ITS FALSE NEIGHBOUR: 'it returns false'. Refute it at one input. -/
def forgetReadsWrong : ChangeSpec := { name := "forgetReads", fn := fun _ => fun
  | [d] => { results := [.lit (.bool false)], args := [d] }
  | _ => none }
def ForgetReadsWrongFalsely : Prop := forgetReadsRow.holds Try.pinned (OpenSpec.ofChange forgetReadsWrong)

/-- 'reredoskeep.PeekNothing': WHATEVER THE INPUT: true; the input reads as it did. -/
def peekNothingSpec : ChangeSpec := { name := "peekNothing", fn := fun _ => fun
  | [d1, d2, d3] => { results := [.lit (.bool true)], args := [d1, d2, d3] }
  | _ => none }
def peekNothingRow : OpenClaim := { program := "ytapnhpgobdaklaa", sum := "b0afaaba4636963d419cd0c62cf10785176ee2cbac7fdae991921b7ac914bb6a", func := "reredos/reredoskeep.PeekNothing", spec := "peekNothing", inPlace := ["slices.overlaps[reredos/api.Item]"], unfollowed := true, recurses := true, plainKeys := false, apart := false }
def PeekNothingSaid : Prop := peekNothingRow.holds Try.pinned (OpenSpec.ofChange peekNothingSpec)

/-- ITS FALSE NEIGHBOUR: 'it returns false'. Refute it at one input. -/
def peekNothingWrong : ChangeSpec := { name := "peekNothing", fn := fun _ => fun
  | [d1, d2, d3] => { results := [.lit (.bool false)], args := [d1, d2, d3] }
  | _ => none }
def PeekNothingWrongFalsely : Prop := peekNothingRow.holds Try.pinned (OpenSpec.ofChange peekNothingWrong)

/-- 'reredoskeep.PartAsks': WHATEVER THE INPUT: true; the input reads as it did. -/
def partAsksSpec : ChangeSpec := { name := "partAsks", fn := fun _ => fun
  | [d1, d2, d3] => { results := [.lit (.bool true)], args := [d1, d2, d3] }
  | _ => none }
def partAsksRow : OpenClaim := { program := "ytapnhpgobdaklaa", sum := "b0afaaba4636963d419cd0c62cf10785176ee2cbac7fdae991921b7ac914bb6a", func := "reredos/reredoskeep.PartAsks", spec := "partAsks", inPlace := ["slices.overlaps[reredos/api.Item]"], unfollowed := true, recurses := true, plainKeys := false, apart := false }
def PartAsksSaid : Prop := partAsksRow.holds Try.pinned (OpenSpec.ofChange partAsksSpec)

/-- ITS FALSE NEIGHBOUR: 'it returns false'. Refute it at one input. -/
def partAsksWrong : ChangeSpec := { name := "partAsks", fn := fun _ => fun
  | [d1, d2, d3] => { results := [.lit (.bool false)], args := [d1, d2, d3] }
  | _ => none }
def PartAsksWrongFalsely : Prop := partAsksRow.holds Try.pinned (OpenSpec.ofChange partAsksWrong)

/-- 'reredoskeep.ForceOnce': WHATEVER THE INPUT: true; the input reads as it did. -/
def forceOnceSpec : ChangeSpec := { name := "forceOnce", fn := fun _ => fun
  | [d1, d2, d3] => { results := [.lit (.bool true)], args := [d1, d2, d3] }
  | _ => none }
def forceOnceRow : OpenClaim := { program := "ytapnhpgobdaklaa", sum := "b0afaaba4636963d419cd0c62cf10785176ee2cbac7fdae991921b7ac914bb6a", func := "reredos/reredoskeep.ForceOnce", spec := "forceOnce", inPlace := ["slices.overlaps[reredos/api.Item]"], unfollowed := true, recurses := true, plainKeys := false, apart := false }
def ForceOnceSaid : Prop := forceOnceRow.holds Try.pinned (OpenSpec.ofChange forceOnceSpec)

/-- ITS FALSE NEIGHBOUR: 'it returns false'. Refute it at one input. -/
def forceOnceWrong : ChangeSpec := { name := "forceOnce", fn := fun _ => fun
  | [d1, d2, d3] => { results := [.lit (.bool false)], args := [d1, d2, d3] }
  | _ => none }
def ForceOnceWrongFalsely : Prop := forceOnceRow.holds Try.pinned (OpenSpec.ofChange forceOnceWrong)

/-- 'reredoskeep.ReadTells': WHATEVER THE INPUT: true; the input reads as it did. -/
def readTellsSpec : ChangeSpec := { name := "readTells", fn := fun _ => fun
  | [d1, d2, d3] => { results := [.lit (.bool true)], args := [d1, d2, d3] }
  | _ => none }
def readTellsRow : OpenClaim := { program := "ytapnhpgobdaklaa", sum := "b0afaaba4636963d419cd0c62cf10785176ee2cbac7fdae991921b7ac914bb6a", func := "reredos/reredoskeep.ReadTells", spec := "readTells", inPlace := ["slices.overlaps[reredos/api.Item]"], unfollowed := true, recurses := true, plainKeys := false, apart := false }
def ReadTellsSaid : Prop := readTellsRow.holds Try.pinned (OpenSpec.ofChange readTellsSpec)

/-- ITS FALSE NEIGHBOUR: 'it returns false'. Refute it at one input. -/
def readTellsWrong : ChangeSpec := { name := "readTells", fn := fun _ => fun
  | [d1, d2, d3] => { results := [.lit (.bool false)], args := [d1, d2, d3] }
  | _ => none }
def ReadTellsWrongFalsely : Prop := readTellsRow.holds Try.pinned (OpenSpec.ofChange readTellsWrong)

/- THE SECOND FORM. 'bulk': how many values and letters a reading holds, each counted each time it is reached (what is shared counts as often as it is met; a slice's spare places count too). A statement '..UptoSaid' is the law's where the arguments, and the package variables that the reading takes, are together of bulk at most 1048576: NARROWER than '..Said'. Prove '..Said' where nothing that the law and all that it calls make is longer than what came in: it says more and counts as full. Else prove '..UptoSaid'. A law counts once. -/
mutual
def uptoBulk {H : Type} : DataW H → Nat
  | .lit (.string bytes) => bytes.length + 1
  | .lit _ => 1
  | .nil => 1
  | .ptr d => uptoBulk d + 1
  | .slice elems spare => uptoBulkAll elems + uptoBulkAll spare + 1
  | .agg parts => uptoBulkAll parts + 1
  | .iface _ d => uptoBulk d + 1
  | .map entries => uptoBulkEntries entries + 1
  | .held _ => 1
def uptoBulkAll {H : Type} : List (DataW H) → Nat
  | [] => 0
  | d :: r => uptoBulk d + uptoBulkAll r
def uptoBulkEntries {H : Type} : List (Lit × DataW H) → Nat
  | [] => 0
  | x :: r => uptoBulkEntry x + uptoBulkEntries r
def uptoBulkEntry {H : Type} : Lit × DataW H → Nat
  | (.string bytes, d) => bytes.length + uptoBulk d + 1
  | (_, d) => uptoBulk d + 1
 end
def uptoSmall : (H : Type) → List (DataW H) → Bool := fun _ ds => decide (uptoBulkAll ds ≤ 1048576)
def OpenSpec.upto (s : _root_.Go.ChangeSpec) : _root_.Go.OpenSpec := { _root_.Go.OpenSpec.ofChange s with cond := some uptoSmall }

/-- 'reredoskeep.AgeAsks', WHERE WHAT IT READS IS OF BULK AT MOST 1048576: true; the input reads as it did. -/
def ageAsksUptoRow : OpenClaim := { program := "ytapnhpgobdaklaa", sum := "b0afaaba4636963d419cd0c62cf10785176ee2cbac7fdae991921b7ac914bb6a", func := "reredos/reredoskeep.AgeAsks", spec := "ageAsks", unfollowed := true, recurses := true, plainKeys := false, apart := false, narrowed := true }
def AgeAsksUptoSaid : Prop := ageAsksUptoRow.holds Try.pinned (OpenSpec.upto ageAsksSpec)

/-- 'reredoskeep.ForgetReads', WHERE WHAT IT READS IS OF BULK AT MOST 1048576: true; the input reads as it did. -/
def forgetReadsUptoRow : OpenClaim := { program := "ytapnhpgobdaklaa", sum := "b0afaaba4636963d419cd0c62cf10785176ee2cbac7fdae991921b7ac914bb6a", func := "reredos/reredoskeep.ForgetReads", spec := "forgetReads", inPlace := ["slices.overlaps[reredos/api.Item]"], unfollowed := true, recurses := true, plainKeys := false, apart := false, narrowed := true }
def ForgetReadsUptoSaid : Prop := forgetReadsUptoRow.holds Try.pinned (OpenSpec.upto forgetReadsSpec)

/-- 'reredoskeep.PeekNothing', WHERE WHAT IT READS IS OF BULK AT MOST 1048576: true; the input reads as it did. -/
def peekNothingUptoRow : OpenClaim := { program := "ytapnhpgobdaklaa", sum := "b0afaaba4636963d419cd0c62cf10785176ee2cbac7fdae991921b7ac914bb6a", func := "reredos/reredoskeep.PeekNothing", spec := "peekNothing", inPlace := ["slices.overlaps[reredos/api.Item]"], unfollowed := true, recurses := true, plainKeys := false, apart := false, narrowed := true }
def PeekNothingUptoSaid : Prop := peekNothingUptoRow.holds Try.pinned (OpenSpec.upto peekNothingSpec)

/-- 'reredoskeep.PartAsks', WHERE WHAT IT READS IS OF BULK AT MOST 1048576: true; the input reads as it did. -/
def partAsksUptoRow : OpenClaim := { program := "ytapnhpgobdaklaa", sum := "b0afaaba4636963d419cd0c62cf10785176ee2cbac7fdae991921b7ac914bb6a", func := "reredos/reredoskeep.PartAsks", spec := "partAsks", inPlace := ["slices.overlaps[reredos/api.Item]"], unfollowed := true, recurses := true, plainKeys := false, apart := false, narrowed := true }
def PartAsksUptoSaid : Prop := partAsksUptoRow.holds Try.pinned (OpenSpec.upto partAsksSpec)

/-- 'reredoskeep.ForceOnce', WHERE WHAT IT READS IS OF BULK AT MOST 1048576: true; the input reads as it did. -/
def forceOnceUptoRow : OpenClaim := { program := "ytapnhpgobdaklaa", sum := "b0afaaba4636963d419cd0c62cf10785176ee2cbac7fdae991921b7ac914bb6a", func := "reredos/reredoskeep.ForceOnce", spec := "forceOnce", inPlace := ["slices.overlaps[reredos/api.Item]"], unfollowed := true, recurses := true, plainKeys := false, apart := false, narrowed := true }
def ForceOnceUptoSaid : Prop := forceOnceUptoRow.holds Try.pinned (OpenSpec.upto forceOnceSpec)

/-- 'reredoskeep.ReadTells', WHERE WHAT IT READS IS OF BULK AT MOST 1048576: true; the input reads as it did. -/
def readTellsUptoRow : OpenClaim := { program := "ytapnhpgobdaklaa", sum := "b0afaaba4636963d419cd0c62cf10785176ee2cbac7fdae991921b7ac914bb6a", func := "reredos/reredoskeep.ReadTells", spec := "readTells", inPlace := ["slices.overlaps[reredos/api.Item]"], unfollowed := true, recurses := true, plainKeys := false, apart := false, narrowed := true }
def ReadTellsUptoSaid : Prop := readTellsUptoRow.holds Try.pinned (OpenSpec.upto readTellsSpec)

end Rows
end Go.Proofs.Ytapnhpgobdaklaa
