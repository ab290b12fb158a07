/-
  No cell of these rows narrows 'for every input' (looked for: loops, veiled, ifaces, maps, wideKeys, modest, calm, conditions, laid).
  DERIVED. THE GIVEN ROWS OF THIS SEAT. 4 by the template 'for every input the law returns true; each argument reads behind the call as it read before'; 0 by the template 'total and deterministic' (their statements: YtijpncibpfbkaaaTotals.lean).
  GIVEN WITH THE SEED: the statements are not yours to turn. If you find one false, say at which input.
  Laid BY PROGRAM, IN A SANDBOX (cutbox-rows.mjs): the forced cells as the released guide's own fill.sh prints them over the translation a12fe6106d18c666… (all of the seat's roots in one cut). By AI agents, Wed Nov 11 2026. No macro, syntax, notation, axiom, sorry.
-/
import Derived.Test.YtijpncibpfbkaaaChecked
import GoSem.Claim
import GoSem.ClaimJoined
import GoSem.ClaimMapViews
import Derived.JoinedTies
import Derived.KernelRfl
namespace Go.Proofs.Ytijpncibpfbkaaa
/- THE CELL 'sum', in the pinned program and in every row, IS THE sha256 OF THE DUMP (.gsa) THAT YtijpncibpfbkaaaProg.lean LOADS. Nothing in Lean hashes anything: it is a label: what it is worth is what the hold of that sum in a sandbox is worth. -/
noncomputable def Try.pinned : Pinned := { name := "ytijpncibpfbkaaa", sum := "a12fe6106d18c666928133b61af82b4f40d1e91703a00c2e25dc2e0286d37248", checked := Try.checked }
namespace Rows
def none {H : Type} : Left H := { results := [], args := [] }

/-- 'reredoslaw.LabelChecks': WHATEVER THE INPUT: true; the input reads as it did. -/
def labelChecksSpec : ChangeSpec := { name := "labelChecks", fn := fun _ => fun
  | [d] => { results := [.lit (.bool true)], args := [d] }
  | _ => none }
def labelChecksRow : OpenClaim := { program := "ytijpncibpfbkaaa", sum := "a12fe6106d18c666928133b61af82b4f40d1e91703a00c2e25dc2e0286d37248", func := "reredos/reredoslaw.LabelChecks", spec := "labelChecks", apart := false }
def LabelChecksSaid : Prop := labelChecksRow.holds Try.pinned (OpenSpec.ofChange labelChecksSpec)

/-- ITS FALSE NEIGHBOUR: 'it returns false'. Refute it at one input. -/
def labelChecksWrong : ChangeSpec := { name := "labelChecks", fn := fun _ => fun
  | [d] => { results := [.lit (.bool false)], args := [d] }
  | _ => none }
def LabelChecksWrongFalsely : Prop := labelChecksRow.holds Try.pinned (OpenSpec.ofChange labelChecksWrong)

/-- 'reredoslaw.LabelSees': WHATEVER THE INPUT: true; the input reads as it did. -/
def labelSeesSpec : ChangeSpec := { name := "labelSees", fn := fun _ => fun
  | [d1, d2, d3] => { results := [.lit (.bool true)], args := [d1, d2, d3] }
  | _ => none }
def labelSeesRow : OpenClaim := { program := "ytijpncibpfbkaaa", sum := "a12fe6106d18c666928133b61af82b4f40d1e91703a00c2e25dc2e0286d37248", func := "reredos/reredoslaw.LabelSees", spec := "labelSees", apart := false }
def LabelSeesSaid : Prop := labelSeesRow.holds Try.pinned (OpenSpec.ofChange labelSeesSpec)

/-- ITS FALSE NEIGHBOUR: 'it returns false'. Refute it at one input. -/
def labelSeesWrong : ChangeSpec := { name := "labelSees", fn := fun _ => fun
  | [d1, d2, d3] => { results := [.lit (.bool false)], args := [d1, d2, d3] }
  | _ => none }
def LabelSeesWrongFalsely : Prop := labelSeesRow.holds Try.pinned (OpenSpec.ofChange labelSeesWrong)

/-- 'reredoslaw.LabelHomes': WHATEVER THE INPUT: true; the input reads as it did. -/
def labelHomesSpec : ChangeSpec := { name := "labelHomes", fn := fun _ => fun
  | [d1, d2] => { results := [.lit (.bool true)], args := [d1, d2] }
  | _ => none }
def labelHomesRow : OpenClaim := { program := "ytijpncibpfbkaaa", sum := "a12fe6106d18c666928133b61af82b4f40d1e91703a00c2e25dc2e0286d37248", func := "reredos/reredoslaw.LabelHomes", spec := "labelHomes", apart := false }
def LabelHomesSaid : Prop := labelHomesRow.holds Try.pinned (OpenSpec.ofChange labelHomesSpec)

/-- ITS FALSE NEIGHBOUR: 'it returns false'. Refute it at one input. -/
def labelHomesWrong : ChangeSpec := { name := "labelHomes", fn := fun _ => fun
  | [d1, d2] => { results := [.lit (.bool false)], args := [d1, d2] }
  | _ => none }
def LabelHomesWrongFalsely : Prop := labelHomesRow.holds Try.pinned (OpenSpec.ofChange labelHomesWrong)

/-- 'reredoslaw.LabelPurges': WHATEVER THE INPUT: true; the input reads as it did. -/
def labelPurgesSpec : ChangeSpec := { name := "labelPurges", fn := fun _ => fun
  | [d1, d2, d3] => { results := [.lit (.bool true)], args := [d1, d2, d3] }
  | _ => none }
def labelPurgesRow : OpenClaim := { program := "ytijpncibpfbkaaa", sum := "a12fe6106d18c666928133b61af82b4f40d1e91703a00c2e25dc2e0286d37248", func := "reredos/reredoslaw.LabelPurges", spec := "labelPurges", apart := false }
def LabelPurgesSaid : Prop := labelPurgesRow.holds Try.pinned (OpenSpec.ofChange labelPurgesSpec)

/-- ITS FALSE NEIGHBOUR: 'it returns false'. Refute it at one input. -/
def labelPurgesWrong : ChangeSpec := { name := "labelPurges", fn := fun _ => fun
  | [d1, d2, d3] => { results := [.lit (.bool false)], args := [d1, d2, d3] }
  | _ => none }
def LabelPurgesWrongFalsely : Prop := labelPurgesRow.holds Try.pinned (OpenSpec.ofChange labelPurgesWrong)

/- THE SECOND FORM. 'bulk': how many values and letters a reading holds, each counted each time it is reached (what is shared counts as often as it is met; a slice's spare places count too). A statement '..UptoSaid' is the law's where the arguments, and the package variables that the reading takes, are together of bulk at most 1048576: NARROWER than '..Said'. Prove '..Said' where nothing that the law and all that it calls make is longer than what came in: it says more and counts as full. Else prove '..UptoSaid'. A law counts once. -/
mutual
def uptoBulk {H : Type} : DataW H → Nat
  | .lit (.string bytes) => bytes.length + 1
  | .lit _ => 1
  | .nil => 1
  | .ptr d => uptoBulk d + 1
  | .slice elems spare => uptoBulkAll elems + uptoBulkAll spare + 1
  | .agg parts => uptoBulkAll parts + 1
  | .iface _ d => uptoBulk d + 1
  | .map entries => uptoBulkEntries entries + 1
  | .held _ => 1
def uptoBulkAll {H : Type} : List (DataW H) → Nat
  | [] => 0
  | d :: r => uptoBulk d + uptoBulkAll r
def uptoBulkEntries {H : Type} : List (Lit × DataW H) → Nat
  | [] => 0
  | x :: r => uptoBulkEntry x + uptoBulkEntries r
def uptoBulkEntry {H : Type} : Lit × DataW H → Nat
  | (.string bytes, d) => bytes.length + uptoBulk d + 1
  | (_, d) => uptoBulk d + 1
 end
def uptoSmall : (H : Type) → List (DataW H) → Bool := fun _ ds => decide (uptoBulkAll ds ≤ 1048576)
def OpenSpec.upto (s : _root_.Go.ChangeSpec) : _root_.Go.OpenSpec := { _root_.Go.OpenSpec.ofChange s with cond := some uptoSmall }

/-- 'reredoslaw.LabelChecks', WHERE WHAT IT READS IS OF BULK AT MOST 1048576: true; the input reads as it did. -/
def labelChecksUptoRow : OpenClaim := { program := "ytijpncibpfbkaaa", sum := "a12fe6106d18c666928133b61af82b4f40d1e91703a00c2e25dc2e0286d37248", func := "reredos/reredoslaw.LabelChecks", spec := "labelChecks", apart := false, narrowed := true }
def LabelChecksUptoSaid : Prop := labelChecksUptoRow.holds Try.pinned (OpenSpec.upto labelChecksSpec)

/-- 'reredoslaw.LabelSees', WHERE WHAT IT READS IS OF BULK AT MOST 1048576: true; the input reads as it did. -/
def labelSeesUptoRow : OpenClaim := { program := "ytijpncibpfbkaaa", sum := "a12fe6106d18c666928133b61af82b4f40d1e91703a00c2e25dc2e0286d37248", func := "reredos/reredoslaw.LabelSees", spec := "labelSees", apart := false, narrowed := true }
def LabelSeesUptoSaid : Prop := labelSeesUptoRow.holds Try.pinned (OpenSpec.upto labelSeesSpec)

/-- 'reredoslaw.LabelHomes', WHERE WHAT IT READS IS OF BULK AT MOST 1048576: true; the input reads as it did. -/
def labelHomesUptoRow : OpenClaim := { program := "ytijpncibpfbkaaa", sum := "a12fe6106d18c666928133b61af82b4f40d1e91703a00c2e25dc2e0286d37248", func := "reredos/reredoslaw.LabelHomes", spec := "labelHomes", apart := false, narrowed := true }
def LabelHomesUptoSaid : Prop := labelHomesUptoRow.holds Try.pinned (OpenSpec.upto labelHomesSpec)

/-- 'reredoslaw.LabelPurges', WHERE WHAT IT READS IS OF BULK AT MOST 1048576: true; the input reads as it did. -/
def labelPurgesUptoRow : OpenClaim := { program := "ytijpncibpfbkaaa", sum := "a12fe6106d18c666928133b61af82b4f40d1e91703a00c2e25dc2e0286d37248", func := "reredos/reredoslaw.LabelPurges", spec := "labelPurges", apart := false, narrowed := true }
def LabelPurgesUptoSaid : Prop := labelPurgesUptoRow.holds Try.pinned (OpenSpec.upto labelPurgesSpec)

end Rows
end Go.Proofs.Ytijpncibpfbkaaa
