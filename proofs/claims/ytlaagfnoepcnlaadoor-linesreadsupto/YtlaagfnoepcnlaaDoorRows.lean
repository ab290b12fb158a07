/-
  NARROWER THAN 'FOR EVERY INPUT', by the rows' own cells (each row's printed sentence says how): LinesShows: laid · LinesReads: laid · LinesBack: laid · LinesFixed: laid · LinesBad: laid · LinesJoin: laid.
  DERIVED. THE GIVEN ROWS OF THIS SEAT. 6 by the template 'for every input the law returns true; each argument reads behind the call as it read before'; 0 by the template 'total and deterministic' (their statements: YtlaagfnoepcnlaaDoorTotals.lean).
  GIVEN WITH THE SEED: the statements are not yours to turn. If you find one false, say at which input.
  Laid BY PROGRAM, IN A SANDBOX (cutbox-rows.mjs): the forced cells as the released guide's own fill.sh prints them over the translation 09509d50151c9a75… (all of the seat's roots in one cut). By AI agents, Wed Nov 11 2026. No macro, syntax, notation, axiom, sorry.
-/
import Derived.Test.YtlaagfnoepcnlaaDoorChecked
import GoSem.Claim
import GoSem.ClaimJoined
import GoSem.ClaimMapViews
import Derived.JoinedTies
import Derived.KernelRfl
namespace Go.Proofs.YtlaagfnoepcnlaaDoor
/- THE CELL 'sum', in the pinned program and in every row, IS THE sha256 OF THE DUMP (.gsa) THAT YtlaagfnoepcnlaaDoorProg.lean LOADS. Nothing in Lean hashes anything: it is a label: what it is worth is what the hold of that sum in a sandbox is worth. -/
noncomputable def Tryd.pinned : Pinned := { name := "ytlaagfnoepcnlaadoor", sum := "09509d50151c9a751892bbe4ee3c3974fe7b6ae50043918f7646d121865f7027", checked := Tryd.checked }
namespace Rows
def none {H : Type} : Left H := { results := [], args := [] }

/- WHAT THE LISTED PACKAGE-LEVEL VARIABLES READ AS WHEN THE CALL BEGINS. Each datum BY PROGRAM (the guide's laid-datum.mjs) off the statement by which the dump's own 'gosem.cut.vars' lays the variable. In a bare row this is a premise. The card (YtlaagfnoepcnlaaDoorCards.lean) ties it to the program's text. -/
def laid_math_bits_deBruijn32tab {H : Type} : DataW H := .agg [.lit (.int .u8 0), .lit (.int .u8 1), .lit (.int .u8 28), .lit (.int .u8 2), .lit (.int .u8 29), .lit (.int .u8 14), .lit (.int .u8 24), .lit (.int .u8 3), .lit (.int .u8 30), .lit (.int .u8 22), .lit (.int .u8 20), .lit (.int .u8 15), .lit (.int .u8 25), .lit (.int .u8 17), .lit (.int .u8 4), .lit (.int .u8 8), .lit (.int .u8 31), .lit (.int .u8 27), .lit (.int .u8 13), .lit (.int .u8 23), .lit (.int .u8 21), .lit (.int .u8 19), .lit (.int .u8 16), .lit (.int .u8 7), .lit (.int .u8 26), .lit (.int .u8 12), .lit (.int .u8 18), .lit (.int .u8 6), .lit (.int .u8 11), .lit (.int .u8 5), .lit (.int .u8 10), .lit (.int .u8 9)]
def laid_math_bits_deBruijn64tab {H : Type} : DataW H := .agg [.lit (.int .u8 0), .lit (.int .u8 1), .lit (.int .u8 56), .lit (.int .u8 2), .lit (.int .u8 57), .lit (.int .u8 49), .lit (.int .u8 28), .lit (.int .u8 3), .lit (.int .u8 61), .lit (.int .u8 58), .lit (.int .u8 42), .lit (.int .u8 50), .lit (.int .u8 38), .lit (.int .u8 29), .lit (.int .u8 17), .lit (.int .u8 4), .lit (.int .u8 62), .lit (.int .u8 47), .lit (.int .u8 59), .lit (.int .u8 36), .lit (.int .u8 45), .lit (.int .u8 43), .lit (.int .u8 51), .lit (.int .u8 22), .lit (.int .u8 53), .lit (.int .u8 39), .lit (.int .u8 33), .lit (.int .u8 30), .lit (.int .u8 24), .lit (.int .u8 18), .lit (.int .u8 12), .lit (.int .u8 5), .lit (.int .u8 63), .lit (.int .u8 55), .lit (.int .u8 48), .lit (.int .u8 27), .lit (.int .u8 60), .lit (.int .u8 41), .lit (.int .u8 37), .lit (.int .u8 16), .lit (.int .u8 46), .lit (.int .u8 35), .lit (.int .u8 44), .lit (.int .u8 21), .lit (.int .u8 52), .lit (.int .u8 32), .lit (.int .u8 23), .lit (.int .u8 11), .lit (.int .u8 54), .lit (.int .u8 26), .lit (.int .u8 40), .lit (.int .u8 15), .lit (.int .u8 34), .lit (.int .u8 20), .lit (.int .u8 31), .lit (.int .u8 10), .lit (.int .u8 25), .lit (.int .u8 14), .lit (.int .u8 19), .lit (.int .u8 9), .lit (.int .u8 13), .lit (.int .u8 8), .lit (.int .u8 7), .lit (.int .u8 6)]
def laid_internal_strconv_uint64pow10 {H : Type} : DataW H := .agg [.lit (.int .u64 1), .lit (.int .u64 10), .lit (.int .u64 100), .lit (.int .u64 1000), .lit (.int .u64 10000), .lit (.int .u64 100000), .lit (.int .u64 1000000), .lit (.int .u64 10000000), .lit (.int .u64 100000000), .lit (.int .u64 1000000000), .lit (.int .u64 10000000000), .lit (.int .u64 100000000000), .lit (.int .u64 1000000000000), .lit (.int .u64 10000000000000), .lit (.int .u64 100000000000000), .lit (.int .u64 1000000000000000), .lit (.int .u64 10000000000000000), .lit (.int .u64 100000000000000000), .lit (.int .u64 1000000000000000000), .lit (.int .u64 10000000000000000000)]
def laid_reredos_lines_actWords {H : Type} : DataW H := .agg [.lit (.string []), .lit (.string [97, 115, 107]), .lit (.string [100, 101, 108, 105, 118, 101, 114]), .lit (.string [100, 114, 111, 112]), .lit (.string [99, 111, 112, 121]), .lit (.string [116, 105, 99, 107]), .lit (.string [99, 114, 97, 115, 104]), .lit (.string [115, 116, 97, 114, 116]), .lit (.string [116, 121, 112, 101])]
def laid_reredos_lines_actHas {H : Type} : DataW H := .agg [.agg [.lit (.bool false), .lit (.bool false), .lit (.bool false), .lit (.bool false), .lit (.bool false), .lit (.bool false), .lit (.bool false)], .agg [.lit (.bool true), .lit (.bool false), .lit (.bool true), .lit (.bool false), .lit (.bool false), .lit (.bool true), .lit (.bool false)], .agg [.lit (.bool true), .lit (.bool true), .lit (.bool true), .lit (.bool true), .lit (.bool false), .lit (.bool false), .lit (.bool false)], .agg [.lit (.bool true), .lit (.bool true), .lit (.bool true), .lit (.bool true), .lit (.bool false), .lit (.bool false), .lit (.bool false)], .agg [.lit (.bool true), .lit (.bool true), .lit (.bool true), .lit (.bool true), .lit (.bool false), .lit (.bool false), .lit (.bool false)], .agg [.lit (.bool false), .lit (.bool false), .lit (.bool false), .lit (.bool false), .lit (.bool false), .lit (.bool false), .lit (.bool false)], .agg [.lit (.bool true), .lit (.bool false), .lit (.bool false), .lit (.bool false), .lit (.bool true), .lit (.bool false), .lit (.bool false)], .agg [.lit (.bool true), .lit (.bool false), .lit (.bool false), .lit (.bool false), .lit (.bool false), .lit (.bool false), .lit (.bool false)], .agg [.lit (.bool true), .lit (.bool false), .lit (.bool true), .lit (.bool false), .lit (.bool false), .lit (.bool false), .lit (.bool true)]]
def laid_reredos_lines_callWords {H : Type} : DataW H := .agg [.lit (.string []), .lit (.string [98, 101, 103, 105, 110]), .lit (.string [103, 101, 116]), .lit (.string [112, 117, 116]), .lit (.string [99, 111, 109, 109, 105, 116]), .lit (.string [114, 111, 108, 108, 98, 97, 99, 107])]
def laid_reredos_lines_callHas {H : Type} : DataW H := .agg [.agg [.lit (.bool false), .lit (.bool false), .lit (.bool false), .lit (.bool false)], .agg [.lit (.bool false), .lit (.bool false), .lit (.bool false), .lit (.bool false)], .agg [.lit (.bool true), .lit (.bool true), .lit (.bool true), .lit (.bool false)], .agg [.lit (.bool true), .lit (.bool false), .lit (.bool true), .lit (.bool true)], .agg [.lit (.bool true), .lit (.bool false), .lit (.bool false), .lit (.bool false)], .agg [.lit (.bool true), .lit (.bool false), .lit (.bool false), .lit (.bool false)]]
def laid_reredos_lines_callTops {H : Type} : DataW H := .agg [.lit (.int .i64 1048576), .lit (.int .i64 5), .lit (.int .i64 8), .lit (.int .i64 1073741824)]
def laid_strconv_ErrRange {H : Type} : DataW H := .iface "*errors.errorString" (.ptr (.agg [.lit (.string [118, 97, 108, 117, 101, 32, 111, 117, 116, 32, 111, 102, 32, 114, 97, 110, 103, 101])]))
def laid_strconv_ErrSyntax {H : Type} : DataW H := .iface "*errors.errorString" (.ptr (.agg [.lit (.string [105, 110, 118, 97, 108, 105, 100, 32, 115, 121, 110, 116, 97, 120])]))

/-- 'reredoslaw.LinesShows': WHATEVER THE INPUT: true; the input reads as it did. -/
def linesShowsSpec : ChangeSpec := { name := "linesShows", fn := fun _ => fun
  | [d1, d2] => { results := [.lit (.bool true)], args := [d1, d2] }
  | _ => none }
def linesShowsRow : OpenClaim := { program := "ytlaagfnoepcnlaadoor", sum := "09509d50151c9a751892bbe4ee3c3974fe7b6ae50043918f7646d121865f7027", func := "reredos/reredoslaw.LinesShows", spec := "linesShows", inPlace := ["internal/abi.NoEscape", "internal/bytealg.MakeNoZero"], unfollowed := true, recurses := true, named := ["reredos/lines.actHas", "reredos/lines.callHas", "reredos/lines.callTops", "reredos/lines.actWords", "internal/strconv.uint64pow10", "math/bits.deBruijn32tab", "math/bits.deBruijn64tab", "reredos/lines.callWords"], apart := false, laid := [("math/bits.deBruijn32tab", laid_math_bits_deBruijn32tab), ("math/bits.deBruijn64tab", laid_math_bits_deBruijn64tab), ("internal/strconv.uint64pow10", laid_internal_strconv_uint64pow10), ("reredos/lines.actWords", laid_reredos_lines_actWords), ("reredos/lines.actHas", laid_reredos_lines_actHas), ("reredos/lines.callWords", laid_reredos_lines_callWords), ("reredos/lines.callHas", laid_reredos_lines_callHas), ("reredos/lines.callTops", laid_reredos_lines_callTops)] }
def LinesShowsSaid : Prop := linesShowsRow.holds Tryd.pinned (OpenSpec.ofChange linesShowsSpec)

/-- ITS FALSE NEIGHBOUR: 'it returns false'. Refute it at one input. -/
def linesShowsWrong : ChangeSpec := { name := "linesShows", fn := fun _ => fun
  | [d1, d2] => { results := [.lit (.bool false)], args := [d1, d2] }
  | _ => none }
def LinesShowsWrongFalsely : Prop := linesShowsRow.holds Tryd.pinned (OpenSpec.ofChange linesShowsWrong)

/-- 'reredoslaw.LinesReads': WHATEVER THE INPUT: true; the input reads as it did. -/
def linesReadsSpec : ChangeSpec := { name := "linesReads", fn := fun _ => fun
  | [d1, d2] => { results := [.lit (.bool true)], args := [d1, d2] }
  | _ => none }
def linesReadsRow : OpenClaim := { program := "ytlaagfnoepcnlaadoor", sum := "09509d50151c9a751892bbe4ee3c3974fe7b6ae50043918f7646d121865f7027", func := "reredos/reredoslaw.LinesReads", spec := "linesReads", inPlace := ["internal/bytealg.IndexByteString", "internal/bytealg.IndexString"], unfollowed := true, recurses := true, named := ["internal/bytealg.MaxLen", "reredos/lines.actHas", "reredos/lines.actWords", "strconv.ErrSyntax", "strconv.ErrRange", "internal/strconv.uint64pow10", "math/bits.deBruijn32tab", "math/bits.deBruijn64tab", "reredos/lines.callHas", "reredos/lines.callWords", "reredos/lines.callTops"], apart := false, laid := [("math/bits.deBruijn32tab", laid_math_bits_deBruijn32tab), ("math/bits.deBruijn64tab", laid_math_bits_deBruijn64tab), ("internal/strconv.uint64pow10", laid_internal_strconv_uint64pow10), ("strconv.ErrRange", laid_strconv_ErrRange), ("strconv.ErrSyntax", laid_strconv_ErrSyntax), ("reredos/lines.actWords", laid_reredos_lines_actWords), ("reredos/lines.actHas", laid_reredos_lines_actHas), ("reredos/lines.callWords", laid_reredos_lines_callWords), ("reredos/lines.callHas", laid_reredos_lines_callHas), ("reredos/lines.callTops", laid_reredos_lines_callTops)] }
def LinesReadsSaid : Prop := linesReadsRow.holds Tryd.pinned (OpenSpec.ofChange linesReadsSpec)

/-- ITS FALSE NEIGHBOUR: 'it returns false'. Refute it at one input. -/
def linesReadsWrong : ChangeSpec := { name := "linesReads", fn := fun _ => fun
  | [d1, d2] => { results := [.lit (.bool false)], args := [d1, d2] }
  | _ => none }
def LinesReadsWrongFalsely : Prop := linesReadsRow.holds Tryd.pinned (OpenSpec.ofChange linesReadsWrong)

/-- 'reredoskeep.LinesBack': WHATEVER THE INPUT: true; the input reads as it did. -/
def linesBackSpec : ChangeSpec := { name := "linesBack", fn := fun _ => fun
  | [d1, d2, d3, d4] => { results := [.lit (.bool true)], args := [d1, d2, d3, d4] }
  | _ => none }
def linesBackRow : OpenClaim := { program := "ytlaagfnoepcnlaadoor", sum := "09509d50151c9a751892bbe4ee3c3974fe7b6ae50043918f7646d121865f7027", func := "reredos/reredoskeep.LinesBack", spec := "linesBack", inPlace := ["internal/abi.NoEscape", "internal/bytealg.MakeNoZero", "internal/bytealg.IndexByteString", "internal/bytealg.IndexString"], unfollowed := true, recurses := true, named := ["reredos/lines.actHas", "reredos/lines.callHas", "reredos/lines.callTops", "reredos/lines.actWords", "internal/strconv.uint64pow10", "math/bits.deBruijn32tab", "math/bits.deBruijn64tab", "reredos/lines.callWords", "internal/bytealg.MaxLen", "strconv.ErrSyntax", "strconv.ErrRange"], apart := false, laid := [("math/bits.deBruijn32tab", laid_math_bits_deBruijn32tab), ("math/bits.deBruijn64tab", laid_math_bits_deBruijn64tab), ("internal/strconv.uint64pow10", laid_internal_strconv_uint64pow10), ("strconv.ErrRange", laid_strconv_ErrRange), ("strconv.ErrSyntax", laid_strconv_ErrSyntax), ("reredos/lines.actWords", laid_reredos_lines_actWords), ("reredos/lines.actHas", laid_reredos_lines_actHas), ("reredos/lines.callWords", laid_reredos_lines_callWords), ("reredos/lines.callHas", laid_reredos_lines_callHas), ("reredos/lines.callTops", laid_reredos_lines_callTops)] }
def LinesBackSaid : Prop := linesBackRow.holds Tryd.pinned (OpenSpec.ofChange linesBackSpec)

/-- ITS FALSE NEIGHBOUR: 'it returns false'. Refute it at one input. -/
def linesBackWrong : ChangeSpec := { name := "linesBack", fn := fun _ => fun
  | [d1, d2, d3, d4] => { results := [.lit (.bool false)], args := [d1, d2, d3, d4] }
  | _ => none }
def LinesBackWrongFalsely : Prop := linesBackRow.holds Tryd.pinned (OpenSpec.ofChange linesBackWrong)

/-- 'reredoskeep.LinesFixed': WHATEVER THE INPUT: true; the input reads as it did. -/
def linesFixedSpec : ChangeSpec := { name := "linesFixed", fn := fun _ => fun
  | [d1, d2, d3] => { results := [.lit (.bool true)], args := [d1, d2, d3] }
  | _ => none }
def linesFixedRow : OpenClaim := { program := "ytlaagfnoepcnlaadoor", sum := "09509d50151c9a751892bbe4ee3c3974fe7b6ae50043918f7646d121865f7027", func := "reredos/reredoskeep.LinesFixed", spec := "linesFixed", inPlace := ["internal/bytealg.IndexByteString", "internal/bytealg.IndexString", "internal/abi.NoEscape", "internal/bytealg.MakeNoZero"], unfollowed := true, recurses := true, named := ["internal/bytealg.MaxLen", "reredos/lines.actHas", "reredos/lines.actWords", "strconv.ErrSyntax", "strconv.ErrRange", "internal/strconv.uint64pow10", "math/bits.deBruijn32tab", "math/bits.deBruijn64tab", "reredos/lines.callHas", "reredos/lines.callWords", "reredos/lines.callTops"], apart := false, laid := [("math/bits.deBruijn32tab", laid_math_bits_deBruijn32tab), ("math/bits.deBruijn64tab", laid_math_bits_deBruijn64tab), ("internal/strconv.uint64pow10", laid_internal_strconv_uint64pow10), ("strconv.ErrRange", laid_strconv_ErrRange), ("strconv.ErrSyntax", laid_strconv_ErrSyntax), ("reredos/lines.actWords", laid_reredos_lines_actWords), ("reredos/lines.actHas", laid_reredos_lines_actHas), ("reredos/lines.callWords", laid_reredos_lines_callWords), ("reredos/lines.callHas", laid_reredos_lines_callHas), ("reredos/lines.callTops", laid_reredos_lines_callTops)] }
def LinesFixedSaid : Prop := linesFixedRow.holds Tryd.pinned (OpenSpec.ofChange linesFixedSpec)

/-- ITS FALSE NEIGHBOUR: 'it returns false'. Refute it at one input. -/
def linesFixedWrong : ChangeSpec := { name := "linesFixed", fn := fun _ => fun
  | [d1, d2, d3] => { results := [.lit (.bool false)], args := [d1, d2, d3] }
  | _ => none }
def LinesFixedWrongFalsely : Prop := linesFixedRow.holds Tryd.pinned (OpenSpec.ofChange linesFixedWrong)

/-- 'reredoskeep.LinesBad': WHATEVER THE INPUT: true; the input reads as it did. -/
def linesBadSpec : ChangeSpec := { name := "linesBad", fn := fun _ => fun
  | [d1, d2] => { results := [.lit (.bool true)], args := [d1, d2] }
  | _ => none }
def linesBadRow : OpenClaim := { program := "ytlaagfnoepcnlaadoor", sum := "09509d50151c9a751892bbe4ee3c3974fe7b6ae50043918f7646d121865f7027", func := "reredos/reredoskeep.LinesBad", spec := "linesBad", inPlace := ["internal/abi.NoEscape", "internal/bytealg.MakeNoZero", "internal/bytealg.IndexByteString", "internal/bytealg.IndexString"], unfollowed := true, recurses := true, named := ["reredos/lines.actHas", "reredos/lines.callHas", "reredos/lines.callTops", "reredos/lines.actWords", "internal/strconv.uint64pow10", "math/bits.deBruijn32tab", "math/bits.deBruijn64tab", "reredos/lines.callWords", "internal/bytealg.MaxLen", "strconv.ErrSyntax", "strconv.ErrRange"], apart := false, laid := [("math/bits.deBruijn32tab", laid_math_bits_deBruijn32tab), ("math/bits.deBruijn64tab", laid_math_bits_deBruijn64tab), ("internal/strconv.uint64pow10", laid_internal_strconv_uint64pow10), ("strconv.ErrRange", laid_strconv_ErrRange), ("strconv.ErrSyntax", laid_strconv_ErrSyntax), ("reredos/lines.actWords", laid_reredos_lines_actWords), ("reredos/lines.actHas", laid_reredos_lines_actHas), ("reredos/lines.callWords", laid_reredos_lines_callWords), ("reredos/lines.callHas", laid_reredos_lines_callHas), ("reredos/lines.callTops", laid_reredos_lines_callTops)] }
def LinesBadSaid : Prop := linesBadRow.holds Tryd.pinned (OpenSpec.ofChange linesBadSpec)

/-- ITS FALSE NEIGHBOUR: 'it returns false'. Refute it at one input. -/
def linesBadWrong : ChangeSpec := { name := "linesBad", fn := fun _ => fun
  | [d1, d2] => { results := [.lit (.bool false)], args := [d1, d2] }
  | _ => none }
def LinesBadWrongFalsely : Prop := linesBadRow.holds Tryd.pinned (OpenSpec.ofChange linesBadWrong)

/-- 'reredoskeep.LinesJoin': WHATEVER THE INPUT: true; the input reads as it did. -/
def linesJoinSpec : ChangeSpec := { name := "linesJoin", fn := fun _ => fun
  | [d1, d2] => { results := [.lit (.bool true)], args := [d1, d2] }
  | _ => none }
def linesJoinRow : OpenClaim := { program := "ytlaagfnoepcnlaadoor", sum := "09509d50151c9a751892bbe4ee3c3974fe7b6ae50043918f7646d121865f7027", func := "reredos/reredoskeep.LinesJoin", spec := "linesJoin", inPlace := ["internal/abi.NoEscape", "internal/bytealg.MakeNoZero"], unfollowed := true, recurses := true, named := ["reredos/lines.actHas", "reredos/lines.callHas", "reredos/lines.callTops", "reredos/lines.actWords", "internal/strconv.uint64pow10", "math/bits.deBruijn32tab", "math/bits.deBruijn64tab", "reredos/lines.callWords"], apart := false, laid := [("math/bits.deBruijn32tab", laid_math_bits_deBruijn32tab), ("math/bits.deBruijn64tab", laid_math_bits_deBruijn64tab), ("internal/strconv.uint64pow10", laid_internal_strconv_uint64pow10), ("reredos/lines.actWords", laid_reredos_lines_actWords), ("reredos/lines.actHas", laid_reredos_lines_actHas), ("reredos/lines.callWords", laid_reredos_lines_callWords), ("reredos/lines.callHas", laid_reredos_lines_callHas), ("reredos/lines.callTops", laid_reredos_lines_callTops)] }
def LinesJoinSaid : Prop := linesJoinRow.holds Tryd.pinned (OpenSpec.ofChange linesJoinSpec)

/-- ITS FALSE NEIGHBOUR: 'it returns false'. Refute it at one input. -/
def linesJoinWrong : ChangeSpec := { name := "linesJoin", fn := fun _ => fun
  | [d1, d2] => { results := [.lit (.bool false)], args := [d1, d2] }
  | _ => none }
def LinesJoinWrongFalsely : Prop := linesJoinRow.holds Tryd.pinned (OpenSpec.ofChange linesJoinWrong)

/- THE SECOND FORM. 'bulk': how many values and letters a reading holds, each counted each time it is reached (what is shared counts as often as it is met; a slice's spare places count too). A statement '..UptoSaid' is the law's where the arguments, and the package variables that the reading takes, are together of bulk at most 1048576: NARROWER than '..Said'. Prove '..Said' where nothing that the law and all that it calls make is longer than what came in: it says more and counts as full. Else prove '..UptoSaid'. A law counts once. -/
mutual
def uptoBulk {H : Type} : DataW H → Nat
  | .lit (.string bytes) => bytes.length + 1
  | .lit _ => 1
  | .nil => 1
  | .ptr d => uptoBulk d + 1
  | .slice elems spare => uptoBulkAll elems + uptoBulkAll spare + 1
  | .agg parts => uptoBulkAll parts + 1
  | .iface _ d => uptoBulk d + 1
  | .map entries => uptoBulkEntries entries + 1
  | .held _ => 1
def uptoBulkAll {H : Type} : List (DataW H) → Nat
  | [] => 0
  | d :: r => uptoBulk d + uptoBulkAll r
def uptoBulkEntries {H : Type} : List (Lit × DataW H) → Nat
  | [] => 0
  | x :: r => uptoBulkEntry x + uptoBulkEntries r
def uptoBulkEntry {H : Type} : Lit × DataW H → Nat
  | (.string bytes, d) => bytes.length + uptoBulk d + 1
  | (_, d) => uptoBulk d + 1
 end
def uptoSmall : (H : Type) → List (DataW H) → Bool := fun _ ds => decide (uptoBulkAll ds ≤ 1048576)
def OpenSpec.upto (s : _root_.Go.ChangeSpec) : _root_.Go.OpenSpec := { _root_.Go.OpenSpec.ofChange s with cond := some uptoSmall }

/-- 'reredoslaw.LinesShows', WHERE WHAT IT READS IS OF BULK AT MOST 1048576: true; the input reads as it did. -/
def linesShowsUptoRow : OpenClaim := { program := "ytlaagfnoepcnlaadoor", sum := "09509d50151c9a751892bbe4ee3c3974fe7b6ae50043918f7646d121865f7027", func := "reredos/reredoslaw.LinesShows", spec := "linesShows", inPlace := ["internal/abi.NoEscape", "internal/bytealg.MakeNoZero"], unfollowed := true, recurses := true, named := ["reredos/lines.actHas", "reredos/lines.callHas", "reredos/lines.callTops", "reredos/lines.actWords", "internal/strconv.uint64pow10", "math/bits.deBruijn32tab", "math/bits.deBruijn64tab", "reredos/lines.callWords"], apart := false, laid := [("math/bits.deBruijn32tab", laid_math_bits_deBruijn32tab), ("math/bits.deBruijn64tab", laid_math_bits_deBruijn64tab), ("internal/strconv.uint64pow10", laid_internal_strconv_uint64pow10), ("reredos/lines.actWords", laid_reredos_lines_actWords), ("reredos/lines.actHas", laid_reredos_lines_actHas), ("reredos/lines.callWords", laid_reredos_lines_callWords), ("reredos/lines.callHas", laid_reredos_lines_callHas), ("reredos/lines.callTops", laid_reredos_lines_callTops)], narrowed := true }
def LinesShowsUptoSaid : Prop := linesShowsUptoRow.holds Tryd.pinned (OpenSpec.upto linesShowsSpec)

/-- 'reredoslaw.LinesReads', WHERE WHAT IT READS IS OF BULK AT MOST 1048576: true; the input reads as it did. -/
def linesReadsUptoRow : OpenClaim := { program := "ytlaagfnoepcnlaadoor", sum := "09509d50151c9a751892bbe4ee3c3974fe7b6ae50043918f7646d121865f7027", func := "reredos/reredoslaw.LinesReads", spec := "linesReads", inPlace := ["internal/bytealg.IndexByteString", "internal/bytealg.IndexString"], unfollowed := true, recurses := true, named := ["internal/bytealg.MaxLen", "reredos/lines.actHas", "reredos/lines.actWords", "strconv.ErrSyntax", "strconv.ErrRange", "internal/strconv.uint64pow10", "math/bits.deBruijn32tab", "math/bits.deBruijn64tab", "reredos/lines.callHas", "reredos/lines.callWords", "reredos/lines.callTops"], apart := false, laid := [("math/bits.deBruijn32tab", laid_math_bits_deBruijn32tab), ("math/bits.deBruijn64tab", laid_math_bits_deBruijn64tab), ("internal/strconv.uint64pow10", laid_internal_strconv_uint64pow10), ("strconv.ErrRange", laid_strconv_ErrRange), ("strconv.ErrSyntax", laid_strconv_ErrSyntax), ("reredos/lines.actWords", laid_reredos_lines_actWords), ("reredos/lines.actHas", laid_reredos_lines_actHas), ("reredos/lines.callWords", laid_reredos_lines_callWords), ("reredos/lines.callHas", laid_reredos_lines_callHas), ("reredos/lines.callTops", laid_reredos_lines_callTops)], narrowed := true }
def LinesReadsUptoSaid : Prop := linesReadsUptoRow.holds Tryd.pinned (OpenSpec.upto linesReadsSpec)

/-- 'reredoskeep.LinesBack', WHERE WHAT IT READS IS OF BULK AT MOST 1048576: true; the input reads as it did. -/
def linesBackUptoRow : OpenClaim := { program := "ytlaagfnoepcnlaadoor", sum := "09509d50151c9a751892bbe4ee3c3974fe7b6ae50043918f7646d121865f7027", func := "reredos/reredoskeep.LinesBack", spec := "linesBack", inPlace := ["internal/abi.NoEscape", "internal/bytealg.MakeNoZero", "internal/bytealg.IndexByteString", "internal/bytealg.IndexString"], unfollowed := true, recurses := true, named := ["reredos/lines.actHas", "reredos/lines.callHas", "reredos/lines.callTops", "reredos/lines.actWords", "internal/strconv.uint64pow10", "math/bits.deBruijn32tab", "math/bits.deBruijn64tab", "reredos/lines.callWords", "internal/bytealg.MaxLen", "strconv.ErrSyntax", "strconv.ErrRange"], apart := false, laid := [("math/bits.deBruijn32tab", laid_math_bits_deBruijn32tab), ("math/bits.deBruijn64tab", laid_math_bits_deBruijn64tab), ("internal/strconv.uint64pow10", laid_internal_strconv_uint64pow10), ("strconv.ErrRange", laid_strconv_ErrRange), ("strconv.ErrSyntax", laid_strconv_ErrSyntax), ("reredos/lines.actWords", laid_reredos_lines_actWords), ("reredos/lines.actHas", laid_reredos_lines_actHas), ("reredos/lines.callWords", laid_reredos_lines_callWords), ("reredos/lines.callHas", laid_reredos_lines_callHas), ("reredos/lines.callTops", laid_reredos_lines_callTops)], narrowed := true }
def LinesBackUptoSaid : Prop := linesBackUptoRow.holds Tryd.pinned (OpenSpec.upto linesBackSpec)

/-- 'reredoskeep.LinesFixed', WHERE WHAT IT READS IS OF BULK AT MOST 1048576: true; the input reads as it did. -/
def linesFixedUptoRow : OpenClaim := { program := "ytlaagfnoepcnlaadoor", sum := "09509d50151c9a751892bbe4ee3c3974fe7b6ae50043918f7646d121865f7027", func := "reredos/reredoskeep.LinesFixed", spec := "linesFixed", inPlace := ["internal/bytealg.IndexByteString", "internal/bytealg.IndexString", "internal/abi.NoEscape", "internal/bytealg.MakeNoZero"], unfollowed := true, recurses := true, named := ["internal/bytealg.MaxLen", "reredos/lines.actHas", "reredos/lines.actWords", "strconv.ErrSyntax", "strconv.ErrRange", "internal/strconv.uint64pow10", "math/bits.deBruijn32tab", "math/bits.deBruijn64tab", "reredos/lines.callHas", "reredos/lines.callWords", "reredos/lines.callTops"], apart := false, laid := [("math/bits.deBruijn32tab", laid_math_bits_deBruijn32tab), ("math/bits.deBruijn64tab", laid_math_bits_deBruijn64tab), ("internal/strconv.uint64pow10", laid_internal_strconv_uint64pow10), ("strconv.ErrRange", laid_strconv_ErrRange), ("strconv.ErrSyntax", laid_strconv_ErrSyntax), ("reredos/lines.actWords", laid_reredos_lines_actWords), ("reredos/lines.actHas", laid_reredos_lines_actHas), ("reredos/lines.callWords", laid_reredos_lines_callWords), ("reredos/lines.callHas", laid_reredos_lines_callHas), ("reredos/lines.callTops", laid_reredos_lines_callTops)], narrowed := true }
def LinesFixedUptoSaid : Prop := linesFixedUptoRow.holds Tryd.pinned (OpenSpec.upto linesFixedSpec)

/-- 'reredoskeep.LinesBad', WHERE WHAT IT READS IS OF BULK AT MOST 1048576: true; the input reads as it did. -/
def linesBadUptoRow : OpenClaim := { program := "ytlaagfnoepcnlaadoor", sum := "09509d50151c9a751892bbe4ee3c3974fe7b6ae50043918f7646d121865f7027", func := "reredos/reredoskeep.LinesBad", spec := "linesBad", inPlace := ["internal/abi.NoEscape", "internal/bytealg.MakeNoZero", "internal/bytealg.IndexByteString", "internal/bytealg.IndexString"], unfollowed := true, recurses := true, named := ["reredos/lines.actHas", "reredos/lines.callHas", "reredos/lines.callTops", "reredos/lines.actWords", "internal/strconv.uint64pow10", "math/bits.deBruijn32tab", "math/bits.deBruijn64tab", "reredos/lines.callWords", "internal/bytealg.MaxLen", "strconv.ErrSyntax", "strconv.ErrRange"], apart := false, laid := [("math/bits.deBruijn32tab", laid_math_bits_deBruijn32tab), ("math/bits.deBruijn64tab", laid_math_bits_deBruijn64tab), ("internal/strconv.uint64pow10", laid_internal_strconv_uint64pow10), ("strconv.ErrRange", laid_strconv_ErrRange), ("strconv.ErrSyntax", laid_strconv_ErrSyntax), ("reredos/lines.actWords", laid_reredos_lines_actWords), ("reredos/lines.actHas", laid_reredos_lines_actHas), ("reredos/lines.callWords", laid_reredos_lines_callWords), ("reredos/lines.callHas", laid_reredos_lines_callHas), ("reredos/lines.callTops", laid_reredos_lines_callTops)], narrowed := true }
def LinesBadUptoSaid : Prop := linesBadUptoRow.holds Tryd.pinned (OpenSpec.upto linesBadSpec)

/-- 'reredoskeep.LinesJoin', WHERE WHAT IT READS IS OF BULK AT MOST 1048576: true; the input reads as it did. -/
def linesJoinUptoRow : OpenClaim := { program := "ytlaagfnoepcnlaadoor", sum := "09509d50151c9a751892bbe4ee3c3974fe7b6ae50043918f7646d121865f7027", func := "reredos/reredoskeep.LinesJoin", spec := "linesJoin", inPlace := ["internal/abi.NoEscape", "internal/bytealg.MakeNoZero"], unfollowed := true, recurses := true, named := ["reredos/lines.actHas", "reredos/lines.callHas", "reredos/lines.callTops", "reredos/lines.actWords", "internal/strconv.uint64pow10", "math/bits.deBruijn32tab", "math/bits.deBruijn64tab", "reredos/lines.callWords"], apart := false, laid := [("math/bits.deBruijn32tab", laid_math_bits_deBruijn32tab), ("math/bits.deBruijn64tab", laid_math_bits_deBruijn64tab), ("internal/strconv.uint64pow10", laid_internal_strconv_uint64pow10), ("reredos/lines.actWords", laid_reredos_lines_actWords), ("reredos/lines.actHas", laid_reredos_lines_actHas), ("reredos/lines.callWords", laid_reredos_lines_callWords), ("reredos/lines.callHas", laid_reredos_lines_callHas), ("reredos/lines.callTops", laid_reredos_lines_callTops)], narrowed := true }
def LinesJoinUptoSaid : Prop := linesJoinUptoRow.holds Tryd.pinned (OpenSpec.upto linesJoinSpec)

end Rows
end Go.Proofs.YtlaagfnoepcnlaaDoor
