/-
  DERIVED. GIVEN WITH THE SEED: THE CARDS: each row of YtoonldnbpnlalaaDoorRows.lean that lists a variable, with what it lists TIED to the program's text (the seventh form; the later family's looks); each row that meets fmt, with fmt's text TOLD by the authors' own Lean function (tested against real Go, not proved from fmt's source: count such statements apart). THE CARD IS WHAT COUNTS. Prove the row's statement (the work); the ties are given (YtoonldnbpnlalaaDoorTie.lean); close each card by the builder's one call (the guide's Derived/Test/ToyasCard.lean, 'card_holds'). Laid BY PROGRAM, IN A SANDBOX (cutbox-door.mjs). By AI agents, Wed Nov 11 2026. No macro, syntax, notation, axiom, sorry.
-/
import Derived.Test.YtoonldnbpnlalaaDoorRows
import GoSem.ClaimSeven
namespace Go.Proofs.YtoonldnbpnlalaaDoor
namespace Rows

/-- THE TIED CARD OF 'reredoslaw.LinesChecks'. -/
def linesChecksCard : Claim7 := { stood := { row := linesChecksRow, standIns := [], harness := (true, "021295c9ca06f86adb7e036ff43c3a315e581ff3f84ca6c3d796903a3bd13ee6"), looks := false }, kinds := [], alts := [], laidByText := true, laidKinds := [.data, .data, .data], laidTests := true, laidLooks := .later }
def LinesChecksCardSaid : Prop := Claim7.holds Tryd.pinned (.plain (OpenSpec.ofChange linesChecksSpec)) linesChecksCard

/-- THE TIED CARD OF 'reredoskeep.ActBare'. -/
def actBareCard : Claim7 := { stood := { row := actBareRow, standIns := [], harness := (true, "021295c9ca06f86adb7e036ff43c3a315e581ff3f84ca6c3d796903a3bd13ee6"), looks := false }, kinds := [], alts := [], laidByText := true, laidKinds := [.data, .data, .data], laidTests := true, laidLooks := .later }
def ActBareCardSaid : Prop := Claim7.holds Tryd.pinned (.plain (OpenSpec.ofChange actBareSpec)) actBareCard

/-- THE SECOND FORM's CARD OF 'reredoslaw.LinesChecks'. -/
def linesChecksUptoCard : Claim7 := { stood := { row := linesChecksUptoRow, standIns := [], harness := (true, "021295c9ca06f86adb7e036ff43c3a315e581ff3f84ca6c3d796903a3bd13ee6"), looks := false }, kinds := [], alts := [], laidByText := true, laidKinds := [.data, .data, .data], laidTests := true, laidLooks := .later }
def LinesChecksUptoCardSaid : Prop := Claim7.holds Tryd.pinned (.plain (OpenSpec.upto linesChecksSpec)) linesChecksUptoCard

/-- THE SECOND FORM's CARD OF 'reredoskeep.ActBare'. -/
def actBareUptoCard : Claim7 := { stood := { row := actBareUptoRow, standIns := [], harness := (true, "021295c9ca06f86adb7e036ff43c3a315e581ff3f84ca6c3d796903a3bd13ee6"), looks := false }, kinds := [], alts := [], laidByText := true, laidKinds := [.data, .data, .data], laidTests := true, laidLooks := .later }
def ActBareUptoCardSaid : Prop := Claim7.holds Tryd.pinned (.plain (OpenSpec.upto actBareSpec)) actBareUptoCard
end Rows
end Go.Proofs.YtoonldnbpnlalaaDoor
