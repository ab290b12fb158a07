/-
  No cell of these rows narrows 'for every input' (looked for: loops, veiled, ifaces, maps, wideKeys, modest, calm, conditions, laid).
  DERIVED. THE GIVEN ROWS OF THIS SEAT. 6 by the template 'for every input the law returns true; each argument reads behind the call as it read before'; 0 by the template 'total and deterministic' (their statements: YtbmbahifkegehaaTotals.lean).
  GIVEN WITH THE SEED: the statements are not yours to turn. If you find one false, say at which input.
  Laid BY PROGRAM, IN A SANDBOX (cutbox-rows.mjs): the forced cells as the released guide's own fill.sh prints them over the translation e7cef06e37dd681a… (all of the seat's roots in one cut). By AI agents, Wed Nov 11 2026. No macro, syntax, notation, axiom, sorry.
-/
import Derived.Test.YtbmbahifkegehaaChecked
import GoSem.Claim
import GoSem.ClaimJoined
import GoSem.ClaimMapViews
import Derived.JoinedTies
import Derived.KernelRfl
namespace Go.Proofs.Ytbmbahifkegehaa
/- THE CELL 'sum', in the pinned program and in every row, IS THE sha256 OF THE DUMP (.gsa) THAT YtbmbahifkegehaaProg.lean LOADS. Nothing in Lean hashes anything: it is a label: what it is worth is what the hold of that sum in a sandbox is worth. -/
noncomputable def Try.pinned : Pinned := { name := "ytbmbahifkegehaa", sum := "e7cef06e37dd681af98438a29c08c8713d160a43e942e9f083bc28b119eb58b4", checked := Try.checked }
namespace Rows
def none {H : Type} : Left H := { results := [], args := [] }

/-- 'reredoslaw.StoreEnds': WHATEVER THE INPUT: true; the input reads as it did. -/
def storeEndsSpec : ChangeSpec := { name := "storeEnds", fn := fun _ => fun
  | [d1, d2, d3] => { results := [.lit (.bool true)], args := [d1, d2, d3] }
  | _ => none }
def storeEndsRow : OpenClaim := { program := "ytbmbahifkegehaa", sum := "e7cef06e37dd681af98438a29c08c8713d160a43e942e9f083bc28b119eb58b4", func := "reredos/reredoslaw.StoreEnds", spec := "storeEnds", inPlace := ["slices.overlaps[reredos/api.Item]"], unfollowed := true, recurses := true, plainKeys := false, apart := false }
def StoreEndsSaid : Prop := storeEndsRow.holds Try.pinned (OpenSpec.ofChange storeEndsSpec)

/-- ITS FALSE NEIGHBOUR: 'it returns false'. Refute it at one input. -/
def storeEndsWrong : ChangeSpec := { name := "storeEnds", fn := fun _ => fun
  | [d1, d2, d3] => { results := [.lit (.bool false)], args := [d1, d2, d3] }
  | _ => none }
def StoreEndsWrongFalsely : Prop := storeEndsRow.holds Try.pinned (OpenSpec.ofChange storeEndsWrong)

/-- 'reredoskeep.StoreGood': WHATEVER THE INPUT: true; the input reads as it did. -/
def storeGoodSpec : ChangeSpec := { name := "storeGood", fn := fun _ => fun
  | [d] => { results := [.lit (.bool true)], args := [d] }
  | _ => none }
def storeGoodRow : OpenClaim := { program := "ytbmbahifkegehaa", sum := "e7cef06e37dd681af98438a29c08c8713d160a43e942e9f083bc28b119eb58b4", func := "reredos/reredoskeep.StoreGood", spec := "storeGood", inPlace := ["slices.overlaps[reredos/api.Item]"], unfollowed := true, recurses := true, plainKeys := false, apart := false }
def StoreGoodSaid : Prop := storeGoodRow.holds Try.pinned (OpenSpec.ofChange storeGoodSpec)

/-- ITS FALSE NEIGHBOUR: 'it returns false'. Refute it at one input. -/
def storeGoodWrong : ChangeSpec := { name := "storeGood", fn := fun _ => fun
  | [d] => { results := [.lit (.bool false)], args := [d] }
  | _ => none }
def StoreGoodWrongFalsely : Prop := storeGoodRow.holds Try.pinned (OpenSpec.ofChange storeGoodWrong)

/-- 'reredoskeep.ReadTells': WHATEVER THE INPUT: true; the input reads as it did. -/
def readTellsSpec : ChangeSpec := { name := "readTells", fn := fun _ => fun
  | [d1, d2, d3] => { results := [.lit (.bool true)], args := [d1, d2, d3] }
  | _ => none }
def readTellsRow : OpenClaim := { program := "ytbmbahifkegehaa", sum := "e7cef06e37dd681af98438a29c08c8713d160a43e942e9f083bc28b119eb58b4", func := "reredos/reredoskeep.ReadTells", spec := "readTells", inPlace := ["slices.overlaps[reredos/api.Item]"], unfollowed := true, recurses := true, plainKeys := false, apart := false }
def ReadTellsSaid : Prop := readTellsRow.holds Try.pinned (OpenSpec.ofChange readTellsSpec)

/-- ITS FALSE NEIGHBOUR: 'it returns false'. Refute it at one input. -/
def readTellsWrong : ChangeSpec := { name := "readTells", fn := fun _ => fun
  | [d1, d2, d3] => { results := [.lit (.bool false)], args := [d1, d2, d3] }
  | _ => none }
def ReadTellsWrongFalsely : Prop := readTellsRow.holds Try.pinned (OpenSpec.ofChange readTellsWrong)

/-- 'reredoskeep.WriteAlone': WHATEVER THE INPUT: true; the input reads as it did. -/
def writeAloneSpec : ChangeSpec := { name := "writeAlone", fn := fun _ => fun
  | [d1, d2, d3, d4, d5] => { results := [.lit (.bool true)], args := [d1, d2, d3, d4, d5] }
  | _ => none }
def writeAloneRow : OpenClaim := { program := "ytbmbahifkegehaa", sum := "e7cef06e37dd681af98438a29c08c8713d160a43e942e9f083bc28b119eb58b4", func := "reredos/reredoskeep.WriteAlone", spec := "writeAlone", inPlace := ["slices.overlaps[reredos/api.Item]"], unfollowed := true, recurses := true, plainKeys := false, apart := false }
def WriteAloneSaid : Prop := writeAloneRow.holds Try.pinned (OpenSpec.ofChange writeAloneSpec)

/-- ITS FALSE NEIGHBOUR: 'it returns false'. Refute it at one input. -/
def writeAloneWrong : ChangeSpec := { name := "writeAlone", fn := fun _ => fun
  | [d1, d2, d3, d4, d5] => { results := [.lit (.bool false)], args := [d1, d2, d3, d4, d5] }
  | _ => none }
def WriteAloneWrongFalsely : Prop := writeAloneRow.holds Try.pinned (OpenSpec.ofChange writeAloneWrong)

/-- 'reredoskeep.WriteLater': WHATEVER THE INPUT: true; the input reads as it did. -/
def writeLaterSpec : ChangeSpec := { name := "writeLater", fn := fun _ => fun
  | [d1, d2, d3, d4, d5, d6, d7] => { results := [.lit (.bool true)], args := [d1, d2, d3, d4, d5, d6, d7] }
  | _ => none }
def writeLaterRow : OpenClaim := { program := "ytbmbahifkegehaa", sum := "e7cef06e37dd681af98438a29c08c8713d160a43e942e9f083bc28b119eb58b4", func := "reredos/reredoskeep.WriteLater", spec := "writeLater", inPlace := ["slices.overlaps[reredos/api.Item]"], unfollowed := true, recurses := true, plainKeys := false, apart := false }
def WriteLaterSaid : Prop := writeLaterRow.holds Try.pinned (OpenSpec.ofChange writeLaterSpec)

/-- ITS FALSE NEIGHBOUR: 'it returns false'. Refute it at one input. -/
def writeLaterWrong : ChangeSpec := { name := "writeLater", fn := fun _ => fun
  | [d1, d2, d3, d4, d5, d6, d7] => { results := [.lit (.bool false)], args := [d1, d2, d3, d4, d5, d6, d7] }
  | _ => none }
def WriteLaterWrongFalsely : Prop := writeLaterRow.holds Try.pinned (OpenSpec.ofChange writeLaterWrong)

/-- 'reredoskeep.EndApplies': WHATEVER THE INPUT: true; the input reads as it did. -/
def endAppliesSpec : ChangeSpec := { name := "endApplies", fn := fun _ => fun
  | [d1, d2, d3, d4, d5] => { results := [.lit (.bool true)], args := [d1, d2, d3, d4, d5] }
  | _ => none }
def endAppliesRow : OpenClaim := { program := "ytbmbahifkegehaa", sum := "e7cef06e37dd681af98438a29c08c8713d160a43e942e9f083bc28b119eb58b4", func := "reredos/reredoskeep.EndApplies", spec := "endApplies", inPlace := ["slices.overlaps[reredos/api.Item]"], unfollowed := true, recurses := true, plainKeys := false, apart := false }
def EndAppliesSaid : Prop := endAppliesRow.holds Try.pinned (OpenSpec.ofChange endAppliesSpec)

/-- ITS FALSE NEIGHBOUR: 'it returns false'. Refute it at one input. -/
def endAppliesWrong : ChangeSpec := { name := "endApplies", fn := fun _ => fun
  | [d1, d2, d3, d4, d5] => { results := [.lit (.bool false)], args := [d1, d2, d3, d4, d5] }
  | _ => none }
def EndAppliesWrongFalsely : Prop := endAppliesRow.holds Try.pinned (OpenSpec.ofChange endAppliesWrong)

/- THE SECOND FORM. 'bulk': how many values and letters a reading holds, each counted each time it is reached (what is shared counts as often as it is met; a slice's spare places count too). A statement '..UptoSaid' is the law's where the arguments, and the package variables that the reading takes, are together of bulk at most 1048576: NARROWER than '..Said'. Prove '..Said' where nothing that the law and all that it calls make is longer than what came in: it says more and counts as full. Else prove '..UptoSaid'. A law counts once. -/
mutual
def uptoBulk {H : Type} : DataW H → Nat
  | .lit (.string bytes) => bytes.length + 1
  | .lit _ => 1
  | .nil => 1
  | .ptr d => uptoBulk d + 1
  | .slice elems spare => uptoBulkAll elems + uptoBulkAll spare + 1
  | .agg parts => uptoBulkAll parts + 1
  | .iface _ d => uptoBulk d + 1
  | .map entries => uptoBulkEntries entries + 1
  | .held _ => 1
def uptoBulkAll {H : Type} : List (DataW H) → Nat
  | [] => 0
  | d :: r => uptoBulk d + uptoBulkAll r
def uptoBulkEntries {H : Type} : List (Lit × DataW H) → Nat
  | [] => 0
  | x :: r => uptoBulkEntry x + uptoBulkEntries r
def uptoBulkEntry {H : Type} : Lit × DataW H → Nat
  | (.string bytes, d) => bytes.length + uptoBulk d + 1
  | (_, d) => uptoBulk d + 1
 end
def uptoSmall : (H : Type) → List (DataW H) → Bool := fun _ ds => decide (uptoBulkAll ds ≤ 1048576)
def OpenSpec.upto (s : _root_.Go.ChangeSpec) : _root_.Go.OpenSpec := { _root_.Go.OpenSpec.ofChange s with cond := some uptoSmall }

/-- 'reredoslaw.StoreEnds', WHERE WHAT IT READS IS OF BULK AT MOST 1048576: true; the input reads as it did. -/
def storeEndsUptoRow : OpenClaim := { program := "ytbmbahifkegehaa", sum := "e7cef06e37dd681af98438a29c08c8713d160a43e942e9f083bc28b119eb58b4", func := "reredos/reredoslaw.StoreEnds", spec := "storeEnds", inPlace := ["slices.overlaps[reredos/api.Item]"], unfollowed := true, recurses := true, plainKeys := false, apart := false, narrowed := true }
def StoreEndsUptoSaid : Prop := storeEndsUptoRow.holds Try.pinned (OpenSpec.upto storeEndsSpec)

/-- 'reredoskeep.StoreGood', WHERE WHAT IT READS IS OF BULK AT MOST 1048576: true; the input reads as it did. -/
def storeGoodUptoRow : OpenClaim := { program := "ytbmbahifkegehaa", sum := "e7cef06e37dd681af98438a29c08c8713d160a43e942e9f083bc28b119eb58b4", func := "reredos/reredoskeep.StoreGood", spec := "storeGood", inPlace := ["slices.overlaps[reredos/api.Item]"], unfollowed := true, recurses := true, plainKeys := false, apart := false, narrowed := true }
def StoreGoodUptoSaid : Prop := storeGoodUptoRow.holds Try.pinned (OpenSpec.upto storeGoodSpec)

/-- 'reredoskeep.ReadTells', WHERE WHAT IT READS IS OF BULK AT MOST 1048576: true; the input reads as it did. -/
def readTellsUptoRow : OpenClaim := { program := "ytbmbahifkegehaa", sum := "e7cef06e37dd681af98438a29c08c8713d160a43e942e9f083bc28b119eb58b4", func := "reredos/reredoskeep.ReadTells", spec := "readTells", inPlace := ["slices.overlaps[reredos/api.Item]"], unfollowed := true, recurses := true, plainKeys := false, apart := false, narrowed := true }
def ReadTellsUptoSaid : Prop := readTellsUptoRow.holds Try.pinned (OpenSpec.upto readTellsSpec)

/-- 'reredoskeep.WriteAlone', WHERE WHAT IT READS IS OF BULK AT MOST 1048576: true; the input reads as it did. -/
def writeAloneUptoRow : OpenClaim := { program := "ytbmbahifkegehaa", sum := "e7cef06e37dd681af98438a29c08c8713d160a43e942e9f083bc28b119eb58b4", func := "reredos/reredoskeep.WriteAlone", spec := "writeAlone", inPlace := ["slices.overlaps[reredos/api.Item]"], unfollowed := true, recurses := true, plainKeys := false, apart := false, narrowed := true }
def WriteAloneUptoSaid : Prop := writeAloneUptoRow.holds Try.pinned (OpenSpec.upto writeAloneSpec)

/-- 'reredoskeep.WriteLater', WHERE WHAT IT READS IS OF BULK AT MOST 1048576: true; the input reads as it did. -/
def writeLaterUptoRow : OpenClaim := { program := "ytbmbahifkegehaa", sum := "e7cef06e37dd681af98438a29c08c8713d160a43e942e9f083bc28b119eb58b4", func := "reredos/reredoskeep.WriteLater", spec := "writeLater", inPlace := ["slices.overlaps[reredos/api.Item]"], unfollowed := true, recurses := true, plainKeys := false, apart := false, narrowed := true }
def WriteLaterUptoSaid : Prop := writeLaterUptoRow.holds Try.pinned (OpenSpec.upto writeLaterSpec)

/-- 'reredoskeep.EndApplies', WHERE WHAT IT READS IS OF BULK AT MOST 1048576: true; the input reads as it did. -/
def endAppliesUptoRow : OpenClaim := { program := "ytbmbahifkegehaa", sum := "e7cef06e37dd681af98438a29c08c8713d160a43e942e9f083bc28b119eb58b4", func := "reredos/reredoskeep.EndApplies", spec := "endApplies", inPlace := ["slices.overlaps[reredos/api.Item]"], unfollowed := true, recurses := true, plainKeys := false, apart := false, narrowed := true }
def EndAppliesUptoSaid : Prop := endAppliesUptoRow.holds Try.pinned (OpenSpec.upto endAppliesSpec)

end Rows
end Go.Proofs.Ytbmbahifkegehaa
