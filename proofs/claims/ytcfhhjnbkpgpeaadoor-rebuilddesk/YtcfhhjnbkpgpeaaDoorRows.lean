/-
  NARROWER THAN 'FOR EVERY INPUT', by the rows' own cells (each row's printed sentence says how): RebuildStore: laid · RebuildDesk: laid · RebuildGood: laid · RebuildOn: laid.
  DERIVED. THE GIVEN ROWS OF THIS SEAT. 4 by the template 'for every input the law returns true; each argument reads behind the call as it read before'; 0 by the template 'total and deterministic' (their statements: YtcfhhjnbkpgpeaaDoorTotals.lean).
  GIVEN WITH THE SEED: the statements are not yours to turn. If you find one false, say at which input.
  Laid BY PROGRAM, IN A SANDBOX (cutbox-rows.mjs): the forced cells as the released guide's own fill.sh prints them over the translation e999fa9df04b493b… (all of the seat's roots in one cut). By AI agents, Wed Nov 11 2026. No macro, syntax, notation, axiom, sorry.
-/
import Derived.Test.YtcfhhjnbkpgpeaaDoorChecked
import GoSem.Claim
import GoSem.ClaimJoined
import GoSem.ClaimMapViews
import Derived.JoinedTies
import Derived.KernelRfl
namespace Go.Proofs.YtcfhhjnbkpgpeaaDoor
/- THE CELL 'sum', in the pinned program and in every row, IS THE sha256 OF THE DUMP (.gsa) THAT YtcfhhjnbkpgpeaaDoorProg.lean LOADS. Nothing in Lean hashes anything: it is a label: what it is worth is what the hold of that sum in a sandbox is worth. -/
noncomputable def Tryd.pinned : Pinned := { name := "ytcfhhjnbkpgpeaadoor", sum := "e999fa9df04b493b6f51930cd61283a83310058c643a5a214099f4f9d070cc61", checked := Tryd.checked }
namespace Rows
def none {H : Type} : Left H := { results := [], args := [] }

/- WHAT THE LISTED PACKAGE-LEVEL VARIABLES READ AS WHEN THE CALL BEGINS. Each datum BY PROGRAM (the guide's laid-datum.mjs) off the statement by which the dump's own 'gosem.cut.vars' lays the variable. In a bare row this is a premise. The card (YtcfhhjnbkpgpeaaDoorCards.lean) ties it to the program's text. -/
def laid_reredos_wire_recordHas {H : Type} : DataW H := .agg [.agg [.lit (.bool false), .lit (.bool false), .lit (.bool false), .lit (.bool false), .lit (.bool false), .lit (.bool false), .lit (.bool false), .lit (.bool false)], .agg [.lit (.bool false), .lit (.bool true), .lit (.bool true), .lit (.bool false), .lit (.bool true), .lit (.bool false), .lit (.bool false), .lit (.bool false)], .agg [.lit (.bool false), .lit (.bool false), .lit (.bool false), .lit (.bool false), .lit (.bool false), .lit (.bool true), .lit (.bool false), .lit (.bool false)], .agg [.lit (.bool false), .lit (.bool false), .lit (.bool false), .lit (.bool false), .lit (.bool false), .lit (.bool false), .lit (.bool false), .lit (.bool true)], .agg [.lit (.bool false), .lit (.bool false), .lit (.bool false), .lit (.bool false), .lit (.bool false), .lit (.bool false), .lit (.bool false), .lit (.bool false)], .agg [.lit (.bool false), .lit (.bool false), .lit (.bool false), .lit (.bool false), .lit (.bool false), .lit (.bool false), .lit (.bool false), .lit (.bool false)], .agg [.lit (.bool false), .lit (.bool false), .lit (.bool false), .lit (.bool false), .lit (.bool false), .lit (.bool true), .lit (.bool false), .lit (.bool false)]]
def laid_reredos_wire_tops {H : Type} : DataW H := .agg [.lit (.int .i64 5), .lit (.int .i64 7), .lit (.int .i64 1073741824), .lit (.int .i64 1048576), .lit (.int .i64 1048576), .lit (.int .i64 1), .lit (.int .i64 11), .lit (.int .i64 4)]

/-- 'reredoskeep.RebuildStore': WHATEVER THE INPUT: true; the input reads as it did. -/
def rebuildStoreSpec : ChangeSpec := { name := "rebuildStore", fn := fun _ => fun
  | [d1, d2, d3, d4] => { results := [.lit (.bool true)], args := [d1, d2, d3, d4] }
  | _ => none }
def rebuildStoreRow : OpenClaim := { program := "ytcfhhjnbkpgpeaadoor", sum := "e999fa9df04b493b6f51930cd61283a83310058c643a5a214099f4f9d070cc61", func := "reredos/reredoskeep.RebuildStore", spec := "rebuildStore", inPlace := ["slices.overlaps[reredos/api.Item]", "slices.overlaps[reredos/api.Job]"], unfollowed := true, recurses := true, named := ["reredos/wire.recordHas", "reredos/wire.tops"], plainKeys := false, apart := false, laid := [("reredos/wire.recordHas", laid_reredos_wire_recordHas), ("reredos/wire.tops", laid_reredos_wire_tops)] }
def RebuildStoreSaid : Prop := rebuildStoreRow.holds Tryd.pinned (OpenSpec.ofChange rebuildStoreSpec)

/-- ITS FALSE NEIGHBOUR: 'it returns false'. Refute it at one input. -/
def rebuildStoreWrong : ChangeSpec := { name := "rebuildStore", fn := fun _ => fun
  | [d1, d2, d3, d4] => { results := [.lit (.bool false)], args := [d1, d2, d3, d4] }
  | _ => none }
def RebuildStoreWrongFalsely : Prop := rebuildStoreRow.holds Tryd.pinned (OpenSpec.ofChange rebuildStoreWrong)

/-- 'reredoskeep.RebuildDesk': WHATEVER THE INPUT: true; the input reads as it did. -/
def rebuildDeskSpec : ChangeSpec := { name := "rebuildDesk", fn := fun _ => fun
  | [d1, d2, d3] => { results := [.lit (.bool true)], args := [d1, d2, d3] }
  | _ => none }
def rebuildDeskRow : OpenClaim := { program := "ytcfhhjnbkpgpeaadoor", sum := "e999fa9df04b493b6f51930cd61283a83310058c643a5a214099f4f9d070cc61", func := "reredos/reredoskeep.RebuildDesk", spec := "rebuildDesk", inPlace := ["slices.overlaps[reredos/api.Item]", "slices.overlaps[reredos/api.Job]"], unfollowed := true, recurses := true, named := ["reredos/wire.recordHas", "reredos/wire.tops"], plainKeys := false, apart := false, laid := [("reredos/wire.recordHas", laid_reredos_wire_recordHas), ("reredos/wire.tops", laid_reredos_wire_tops)] }
def RebuildDeskSaid : Prop := rebuildDeskRow.holds Tryd.pinned (OpenSpec.ofChange rebuildDeskSpec)

/-- ITS FALSE NEIGHBOUR: 'it returns false'. Refute it at one input. -/
def rebuildDeskWrong : ChangeSpec := { name := "rebuildDesk", fn := fun _ => fun
  | [d1, d2, d3] => { results := [.lit (.bool false)], args := [d1, d2, d3] }
  | _ => none }
def RebuildDeskWrongFalsely : Prop := rebuildDeskRow.holds Tryd.pinned (OpenSpec.ofChange rebuildDeskWrong)

/-- 'reredoskeep.RebuildGood': WHATEVER THE INPUT: true; the input reads as it did. -/
def rebuildGoodSpec : ChangeSpec := { name := "rebuildGood", fn := fun _ => fun
  | [d1, d2, d3] => { results := [.lit (.bool true)], args := [d1, d2, d3] }
  | _ => none }
def rebuildGoodRow : OpenClaim := { program := "ytcfhhjnbkpgpeaadoor", sum := "e999fa9df04b493b6f51930cd61283a83310058c643a5a214099f4f9d070cc61", func := "reredos/reredoskeep.RebuildGood", spec := "rebuildGood", inPlace := ["slices.overlaps[reredos/api.Item]", "slices.overlaps[reredos/api.Job]"], unfollowed := true, recurses := true, named := ["reredos/wire.recordHas", "reredos/wire.tops"], plainKeys := false, apart := false, laid := [("reredos/wire.recordHas", laid_reredos_wire_recordHas), ("reredos/wire.tops", laid_reredos_wire_tops)] }
def RebuildGoodSaid : Prop := rebuildGoodRow.holds Tryd.pinned (OpenSpec.ofChange rebuildGoodSpec)

/-- ITS FALSE NEIGHBOUR: 'it returns false'. Refute it at one input. -/
def rebuildGoodWrong : ChangeSpec := { name := "rebuildGood", fn := fun _ => fun
  | [d1, d2, d3] => { results := [.lit (.bool false)], args := [d1, d2, d3] }
  | _ => none }
def RebuildGoodWrongFalsely : Prop := rebuildGoodRow.holds Tryd.pinned (OpenSpec.ofChange rebuildGoodWrong)

/-- 'reredoskeep.RebuildOn': WHATEVER THE INPUT: true; the input reads as it did. -/
def rebuildOnSpec : ChangeSpec := { name := "rebuildOn", fn := fun _ => fun
  | [d1, d2, d3, d4] => { results := [.lit (.bool true)], args := [d1, d2, d3, d4] }
  | _ => none }
def rebuildOnRow : OpenClaim := { program := "ytcfhhjnbkpgpeaadoor", sum := "e999fa9df04b493b6f51930cd61283a83310058c643a5a214099f4f9d070cc61", func := "reredos/reredoskeep.RebuildOn", spec := "rebuildOn", inPlace := ["slices.overlaps[reredos/api.Item]", "slices.overlaps[reredos/api.Job]"], unfollowed := true, recurses := true, named := ["reredos/wire.recordHas", "reredos/wire.tops"], plainKeys := false, apart := false, laid := [("reredos/wire.recordHas", laid_reredos_wire_recordHas), ("reredos/wire.tops", laid_reredos_wire_tops)] }
def RebuildOnSaid : Prop := rebuildOnRow.holds Tryd.pinned (OpenSpec.ofChange rebuildOnSpec)

/-- ITS FALSE NEIGHBOUR: 'it returns false'. Refute it at one input. -/
def rebuildOnWrong : ChangeSpec := { name := "rebuildOn", fn := fun _ => fun
  | [d1, d2, d3, d4] => { results := [.lit (.bool false)], args := [d1, d2, d3, d4] }
  | _ => none }
def RebuildOnWrongFalsely : Prop := rebuildOnRow.holds Tryd.pinned (OpenSpec.ofChange rebuildOnWrong)

/- THE SECOND FORM. 'bulk': how many values and letters a reading holds, each counted each time it is reached (what is shared counts as often as it is met; a slice's spare places count too). A statement '..UptoSaid' is the law's where the arguments, and the package variables that the reading takes, are together of bulk at most 1048576: NARROWER than '..Said'. Prove '..Said' where nothing that the law and all that it calls make is longer than what came in: it says more and counts as full. Else prove '..UptoSaid'. A law counts once. -/
mutual
def uptoBulk {H : Type} : DataW H → Nat
  | .lit (.string bytes) => bytes.length + 1
  | .lit _ => 1
  | .nil => 1
  | .ptr d => uptoBulk d + 1
  | .slice elems spare => uptoBulkAll elems + uptoBulkAll spare + 1
  | .agg parts => uptoBulkAll parts + 1
  | .iface _ d => uptoBulk d + 1
  | .map entries => uptoBulkEntries entries + 1
  | .held _ => 1
def uptoBulkAll {H : Type} : List (DataW H) → Nat
  | [] => 0
  | d :: r => uptoBulk d + uptoBulkAll r
def uptoBulkEntries {H : Type} : List (Lit × DataW H) → Nat
  | [] => 0
  | x :: r => uptoBulkEntry x + uptoBulkEntries r
def uptoBulkEntry {H : Type} : Lit × DataW H → Nat
  | (.string bytes, d) => bytes.length + uptoBulk d + 1
  | (_, d) => uptoBulk d + 1
 end
def uptoSmall : (H : Type) → List (DataW H) → Bool := fun _ ds => decide (uptoBulkAll ds ≤ 1048576)
def OpenSpec.upto (s : _root_.Go.ChangeSpec) : _root_.Go.OpenSpec := { _root_.Go.OpenSpec.ofChange s with cond := some uptoSmall }

/-- 'reredoskeep.RebuildStore', WHERE WHAT IT READS IS OF BULK AT MOST 1048576: true; the input reads as it did. -/
def rebuildStoreUptoRow : OpenClaim := { program := "ytcfhhjnbkpgpeaadoor", sum := "e999fa9df04b493b6f51930cd61283a83310058c643a5a214099f4f9d070cc61", func := "reredos/reredoskeep.RebuildStore", spec := "rebuildStore", inPlace := ["slices.overlaps[reredos/api.Item]", "slices.overlaps[reredos/api.Job]"], unfollowed := true, recurses := true, named := ["reredos/wire.recordHas", "reredos/wire.tops"], plainKeys := false, apart := false, laid := [("reredos/wire.recordHas", laid_reredos_wire_recordHas), ("reredos/wire.tops", laid_reredos_wire_tops)], narrowed := true }
def RebuildStoreUptoSaid : Prop := rebuildStoreUptoRow.holds Tryd.pinned (OpenSpec.upto rebuildStoreSpec)

/-- 'reredoskeep.RebuildDesk', WHERE WHAT IT READS IS OF BULK AT MOST 1048576: true; the input reads as it did. -/
def rebuildDeskUptoRow : OpenClaim := { program := "ytcfhhjnbkpgpeaadoor", sum := "e999fa9df04b493b6f51930cd61283a83310058c643a5a214099f4f9d070cc61", func := "reredos/reredoskeep.RebuildDesk", spec := "rebuildDesk", inPlace := ["slices.overlaps[reredos/api.Item]", "slices.overlaps[reredos/api.Job]"], unfollowed := true, recurses := true, named := ["reredos/wire.recordHas", "reredos/wire.tops"], plainKeys := false, apart := false, laid := [("reredos/wire.recordHas", laid_reredos_wire_recordHas), ("reredos/wire.tops", laid_reredos_wire_tops)], narrowed := true }
def RebuildDeskUptoSaid : Prop := rebuildDeskUptoRow.holds Tryd.pinned (OpenSpec.upto rebuildDeskSpec)

/-- 'reredoskeep.RebuildGood', WHERE WHAT IT READS IS OF BULK AT MOST 1048576: true; the input reads as it did. -/
def rebuildGoodUptoRow : OpenClaim := { program := "ytcfhhjnbkpgpeaadoor", sum := "e999fa9df04b493b6f51930cd61283a83310058c643a5a214099f4f9d070cc61", func := "reredos/reredoskeep.RebuildGood", spec := "rebuildGood", inPlace := ["slices.overlaps[reredos/api.Item]", "slices.overlaps[reredos/api.Job]"], unfollowed := true, recurses := true, named := ["reredos/wire.recordHas", "reredos/wire.tops"], plainKeys := false, apart := false, laid := [("reredos/wire.recordHas", laid_reredos_wire_recordHas), ("reredos/wire.tops", laid_reredos_wire_tops)], narrowed := true }
def RebuildGoodUptoSaid : Prop := rebuildGoodUptoRow.holds Tryd.pinned (OpenSpec.upto rebuildGoodSpec)

/-- 'reredoskeep.RebuildOn', WHERE WHAT IT READS IS OF BULK AT MOST 1048576: true; the input reads as it did. -/
def rebuildOnUptoRow : OpenClaim := { program := "ytcfhhjnbkpgpeaadoor", sum := "e999fa9df04b493b6f51930cd61283a83310058c643a5a214099f4f9d070cc61", func := "reredos/reredoskeep.RebuildOn", spec := "rebuildOn", inPlace := ["slices.overlaps[reredos/api.Item]", "slices.overlaps[reredos/api.Job]"], unfollowed := true, recurses := true, named := ["reredos/wire.recordHas", "reredos/wire.tops"], plainKeys := false, apart := false, laid := [("reredos/wire.recordHas", laid_reredos_wire_recordHas), ("reredos/wire.tops", laid_reredos_wire_tops)], narrowed := true }
def RebuildOnUptoSaid : Prop := rebuildOnUptoRow.holds Tryd.pinned (OpenSpec.upto rebuildOnSpec)

end Rows
end Go.Proofs.YtcfhhjnbkpgpeaaDoor
