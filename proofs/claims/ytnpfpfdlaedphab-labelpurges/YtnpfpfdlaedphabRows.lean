/-
  No cell of these rows narrows 'for every input' (looked for: loops, veiled, ifaces, maps, wideKeys, modest, calm, conditions, laid).
  DERIVED. THE GIVEN ROWS OF THIS SEAT. 6 by the template 'for every input the law returns true; each argument reads behind the call as it read before'; 0 by the template 'total and deterministic' (their statements: YtnpfpfdlaedphabTotals.lean).
  GIVEN WITH THE SEED: the statements are not yours to turn. If you find one false, say at which input.
  Laid BY PROGRAM, IN A SANDBOX (cutbox-rows.mjs): the forced cells as the released guide's own fill.sh prints them over the translation 806dabc6f175db4c… (all of the seat's roots in one cut). By AI agents, Wed Nov 11 2026. No macro, syntax, notation, axiom, sorry.
-/
import Derived.Test.YtnpfpfdlaedphabChecked
import GoSem.Claim
import GoSem.ClaimJoined
import GoSem.ClaimMapViews
import Derived.JoinedTies
import Derived.KernelRfl
namespace Go.Proofs.Ytnpfpfdlaedphab
/- THE CELL 'sum', in the pinned program and in every row, IS THE sha256 OF THE DUMP (.gsa) THAT YtnpfpfdlaedphabProg.lean LOADS. Nothing in Lean hashes anything: it is a label: what it is worth is what the hold of that sum in a sandbox is worth. -/
noncomputable def Try.pinned : Pinned := { name := "ytnpfpfdlaedphab", sum := "806dabc6f175db4c4a02fae0982ae9314286b28142f367dac08b2d7e12c5a624", checked := Try.checked }
namespace Rows
def none {H : Type} : Left H := { results := [], args := [] }

/-- 'reredoslaw.LabelPurges': WHATEVER THE INPUT: true; the input reads as it did. -/
def labelPurgesSpec : ChangeSpec := { name := "labelPurges", fn := fun _ => fun
  | [d1, d2, d3] => { results := [.lit (.bool true)], args := [d1, d2, d3] }
  | _ => none }
def labelPurgesRow : OpenClaim := { program := "ytnpfpfdlaedphab", sum := "806dabc6f175db4c4a02fae0982ae9314286b28142f367dac08b2d7e12c5a624", func := "reredos/reredoslaw.LabelPurges", spec := "labelPurges", apart := false }
def LabelPurgesSaid : Prop := labelPurgesRow.holds Try.pinned (OpenSpec.ofChange labelPurgesSpec)

/-- ITS FALSE NEIGHBOUR: 'it returns false'. Refute it at one input. -/
def labelPurgesWrong : ChangeSpec := { name := "labelPurges", fn := fun _ => fun
  | [d1, d2, d3] => { results := [.lit (.bool false)], args := [d1, d2, d3] }
  | _ => none }
def LabelPurgesWrongFalsely : Prop := labelPurgesRow.holds Try.pinned (OpenSpec.ofChange labelPurgesWrong)

/-- 'reredoskeep.AboveOrder': WHATEVER THE INPUT: true; the input reads as it did. -/
def aboveOrderSpec : ChangeSpec := { name := "aboveOrder", fn := fun _ => fun
  | [d1, d2, d3] => { results := [.lit (.bool true)], args := [d1, d2, d3] }
  | _ => none }
def aboveOrderRow : OpenClaim := { program := "ytnpfpfdlaedphab", sum := "806dabc6f175db4c4a02fae0982ae9314286b28142f367dac08b2d7e12c5a624", func := "reredos/reredoskeep.AboveOrder", spec := "aboveOrder", apart := false }
def AboveOrderSaid : Prop := aboveOrderRow.holds Try.pinned (OpenSpec.ofChange aboveOrderSpec)

/-- ITS FALSE NEIGHBOUR: 'it returns false'. Refute it at one input. -/
def aboveOrderWrong : ChangeSpec := { name := "aboveOrder", fn := fun _ => fun
  | [d1, d2, d3] => { results := [.lit (.bool false)], args := [d1, d2, d3] }
  | _ => none }
def AboveOrderWrongFalsely : Prop := aboveOrderRow.holds Try.pinned (OpenSpec.ofChange aboveOrderWrong)

/-- 'reredoskeep.JoinLeast': WHATEVER THE INPUT: true; the input reads as it did. -/
def joinLeastSpec : ChangeSpec := { name := "joinLeast", fn := fun _ => fun
  | [d1, d2, d3] => { results := [.lit (.bool true)], args := [d1, d2, d3] }
  | _ => none }
def joinLeastRow : OpenClaim := { program := "ytnpfpfdlaedphab", sum := "806dabc6f175db4c4a02fae0982ae9314286b28142f367dac08b2d7e12c5a624", func := "reredos/reredoskeep.JoinLeast", spec := "joinLeast", apart := false }
def JoinLeastSaid : Prop := joinLeastRow.holds Try.pinned (OpenSpec.ofChange joinLeastSpec)

/-- ITS FALSE NEIGHBOUR: 'it returns false'. Refute it at one input. -/
def joinLeastWrong : ChangeSpec := { name := "joinLeast", fn := fun _ => fun
  | [d1, d2, d3] => { results := [.lit (.bool false)], args := [d1, d2, d3] }
  | _ => none }
def JoinLeastWrongFalsely : Prop := joinLeastRow.holds Try.pinned (OpenSpec.ofChange joinLeastWrong)

/-- 'reredoskeep.MeetMost': WHATEVER THE INPUT: true; the input reads as it did. -/
def meetMostSpec : ChangeSpec := { name := "meetMost", fn := fun _ => fun
  | [d1, d2, d3] => { results := [.lit (.bool true)], args := [d1, d2, d3] }
  | _ => none }
def meetMostRow : OpenClaim := { program := "ytnpfpfdlaedphab", sum := "806dabc6f175db4c4a02fae0982ae9314286b28142f367dac08b2d7e12c5a624", func := "reredos/reredoskeep.MeetMost", spec := "meetMost", apart := false }
def MeetMostSaid : Prop := meetMostRow.holds Try.pinned (OpenSpec.ofChange meetMostSpec)

/-- ITS FALSE NEIGHBOUR: 'it returns false'. Refute it at one input. -/
def meetMostWrong : ChangeSpec := { name := "meetMost", fn := fun _ => fun
  | [d1, d2, d3] => { results := [.lit (.bool false)], args := [d1, d2, d3] }
  | _ => none }
def MeetMostWrongFalsely : Prop := meetMostRow.holds Try.pinned (OpenSpec.ofChange meetMostWrong)

/-- 'reredoskeep.ConfigGood': WHATEVER THE INPUT: true; the input reads as it did. -/
def configGoodSpec : ChangeSpec := { name := "configGood", fn := fun _ => fun
  | [d1, d2, d3] => { results := [.lit (.bool true)], args := [d1, d2, d3] }
  | _ => none }
def configGoodRow : OpenClaim := { program := "ytnpfpfdlaedphab", sum := "806dabc6f175db4c4a02fae0982ae9314286b28142f367dac08b2d7e12c5a624", func := "reredos/reredoskeep.ConfigGood", spec := "configGood", apart := false }
def ConfigGoodSaid : Prop := configGoodRow.holds Try.pinned (OpenSpec.ofChange configGoodSpec)

/-- ITS FALSE NEIGHBOUR: 'it returns false'. Refute it at one input. -/
def configGoodWrong : ChangeSpec := { name := "configGood", fn := fun _ => fun
  | [d1, d2, d3] => { results := [.lit (.bool false)], args := [d1, d2, d3] }
  | _ => none }
def ConfigGoodWrongFalsely : Prop := configGoodRow.holds Try.pinned (OpenSpec.ofChange configGoodWrong)

/-- 'reredoskeep.HomeOne': WHATEVER THE INPUT: true; the input reads as it did. -/
def homeOneSpec : ChangeSpec := { name := "homeOne", fn := fun _ => fun
  | [d1, d2, d3, d4] => { results := [.lit (.bool true)], args := [d1, d2, d3, d4] }
  | _ => none }
def homeOneRow : OpenClaim := { program := "ytnpfpfdlaedphab", sum := "806dabc6f175db4c4a02fae0982ae9314286b28142f367dac08b2d7e12c5a624", func := "reredos/reredoskeep.HomeOne", spec := "homeOne", apart := false }
def HomeOneSaid : Prop := homeOneRow.holds Try.pinned (OpenSpec.ofChange homeOneSpec)

/-- ITS FALSE NEIGHBOUR: 'it returns false'. Refute it at one input. -/
def homeOneWrong : ChangeSpec := { name := "homeOne", fn := fun _ => fun
  | [d1, d2, d3, d4] => { results := [.lit (.bool false)], args := [d1, d2, d3, d4] }
  | _ => none }
def HomeOneWrongFalsely : Prop := homeOneRow.holds Try.pinned (OpenSpec.ofChange homeOneWrong)

/- THE SECOND FORM. 'bulk': how many values and letters a reading holds, each counted each time it is reached (what is shared counts as often as it is met; a slice's spare places count too). A statement '..UptoSaid' is the law's where the arguments, and the package variables that the reading takes, are together of bulk at most 1048576: NARROWER than '..Said'. Prove '..Said' where nothing that the law and all that it calls make is longer than what came in: it says more and counts as full. Else prove '..UptoSaid'. A law counts once. -/
mutual
def uptoBulk {H : Type} : DataW H → Nat
  | .lit (.string bytes) => bytes.length + 1
  | .lit _ => 1
  | .nil => 1
  | .ptr d => uptoBulk d + 1
  | .slice elems spare => uptoBulkAll elems + uptoBulkAll spare + 1
  | .agg parts => uptoBulkAll parts + 1
  | .iface _ d => uptoBulk d + 1
  | .map entries => uptoBulkEntries entries + 1
  | .held _ => 1
def uptoBulkAll {H : Type} : List (DataW H) → Nat
  | [] => 0
  | d :: r => uptoBulk d + uptoBulkAll r
def uptoBulkEntries {H : Type} : List (Lit × DataW H) → Nat
  | [] => 0
  | x :: r => uptoBulkEntry x + uptoBulkEntries r
def uptoBulkEntry {H : Type} : Lit × DataW H → Nat
  | (.string bytes, d) => bytes.length + uptoBulk d + 1
  | (_, d) => uptoBulk d + 1
 end
def uptoSmall : (H : Type) → List (DataW H) → Bool := fun _ ds => decide (uptoBulkAll ds ≤ 1048576)
def OpenSpec.upto (s : _root_.Go.ChangeSpec) : _root_.Go.OpenSpec := { _root_.Go.OpenSpec.ofChange s with cond := some uptoSmall }

/-- 'reredoslaw.LabelPurges', WHERE WHAT IT READS IS OF BULK AT MOST 1048576: true; the input reads as it did. -/
def labelPurgesUptoRow : OpenClaim := { program := "ytnpfpfdlaedphab", sum := "806dabc6f175db4c4a02fae0982ae9314286b28142f367dac08b2d7e12c5a624", func := "reredos/reredoslaw.LabelPurges", spec := "labelPurges", apart := false, narrowed := true }
def LabelPurgesUptoSaid : Prop := labelPurgesUptoRow.holds Try.pinned (OpenSpec.upto labelPurgesSpec)

/-- 'reredoskeep.AboveOrder', WHERE WHAT IT READS IS OF BULK AT MOST 1048576: true; the input reads as it did. -/
def aboveOrderUptoRow : OpenClaim := { program := "ytnpfpfdlaedphab", sum := "806dabc6f175db4c4a02fae0982ae9314286b28142f367dac08b2d7e12c5a624", func := "reredos/reredoskeep.AboveOrder", spec := "aboveOrder", apart := false, narrowed := true }
def AboveOrderUptoSaid : Prop := aboveOrderUptoRow.holds Try.pinned (OpenSpec.upto aboveOrderSpec)

/-- 'reredoskeep.JoinLeast', WHERE WHAT IT READS IS OF BULK AT MOST 1048576: true; the input reads as it did. -/
def joinLeastUptoRow : OpenClaim := { program := "ytnpfpfdlaedphab", sum := "806dabc6f175db4c4a02fae0982ae9314286b28142f367dac08b2d7e12c5a624", func := "reredos/reredoskeep.JoinLeast", spec := "joinLeast", apart := false, narrowed := true }
def JoinLeastUptoSaid : Prop := joinLeastUptoRow.holds Try.pinned (OpenSpec.upto joinLeastSpec)

/-- 'reredoskeep.MeetMost', WHERE WHAT IT READS IS OF BULK AT MOST 1048576: true; the input reads as it did. -/
def meetMostUptoRow : OpenClaim := { program := "ytnpfpfdlaedphab", sum := "806dabc6f175db4c4a02fae0982ae9314286b28142f367dac08b2d7e12c5a624", func := "reredos/reredoskeep.MeetMost", spec := "meetMost", apart := false, narrowed := true }
def MeetMostUptoSaid : Prop := meetMostUptoRow.holds Try.pinned (OpenSpec.upto meetMostSpec)

/-- 'reredoskeep.ConfigGood', WHERE WHAT IT READS IS OF BULK AT MOST 1048576: true; the input reads as it did. -/
def configGoodUptoRow : OpenClaim := { program := "ytnpfpfdlaedphab", sum := "806dabc6f175db4c4a02fae0982ae9314286b28142f367dac08b2d7e12c5a624", func := "reredos/reredoskeep.ConfigGood", spec := "configGood", apart := false, narrowed := true }
def ConfigGoodUptoSaid : Prop := configGoodUptoRow.holds Try.pinned (OpenSpec.upto configGoodSpec)

/-- 'reredoskeep.HomeOne', WHERE WHAT IT READS IS OF BULK AT MOST 1048576: true; the input reads as it did. -/
def homeOneUptoRow : OpenClaim := { program := "ytnpfpfdlaedphab", sum := "806dabc6f175db4c4a02fae0982ae9314286b28142f367dac08b2d7e12c5a624", func := "reredos/reredoskeep.HomeOne", spec := "homeOne", apart := false, narrowed := true }
def HomeOneUptoSaid : Prop := homeOneUptoRow.holds Try.pinned (OpenSpec.upto homeOneSpec)

end Rows
end Go.Proofs.Ytnpfpfdlaedphab
