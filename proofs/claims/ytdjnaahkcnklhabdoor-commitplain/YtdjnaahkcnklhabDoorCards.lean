/-
  DERIVED. GIVEN WITH THE SEED: THE CARDS: each row of YtdjnaahkcnklhabDoorRows.lean that lists a variable, with what it lists TIED to the program's text (the seventh form; the later family's looks); each row that meets fmt, with fmt's text TOLD by the authors' own Lean function (tested against real Go, not proved from fmt's source: count such statements apart). THE CARD IS WHAT COUNTS. Prove the row's statement (the work); the ties are given (YtdjnaahkcnklhabDoorTie.lean); close each card by the builder's one call (the guide's Derived/Test/ToyasCard.lean, 'card_holds'). Laid BY PROGRAM, IN A SANDBOX (cutbox-door.mjs). By AI agents, Wed Nov 11 2026. No macro, syntax, notation, axiom, sorry.
-/
import Derived.Test.YtdjnaahkcnklhabDoorRows
import GoSem.ClaimSeven
namespace Go.Proofs.YtdjnaahkcnklhabDoor
namespace Rows

/-- THE TIED CARD OF 'reredoskeep.CommitPlain'. -/
def commitPlainCard : Claim7 := { stood := { row := commitPlainRow, standIns := [], harness := (true, "d3ce9e721d415d2723e26ced7ab6f48d17f4b5367ba3707bc380843dd37690b9"), looks := false }, kinds := [], alts := [], laidByText := true, laidKinds := [.data, .data], laidTests := true, laidLooks := .later }
def CommitPlainCardSaid : Prop := Claim7.holds Tryd.pinned (.plain (OpenSpec.ofChange commitPlainSpec)) commitPlainCard

/-- THE TIED CARD OF 'reredoskeep.CommitAsks'. -/
def commitAsksCard : Claim7 := { stood := { row := commitAsksRow, standIns := [], harness := (true, "d3ce9e721d415d2723e26ced7ab6f48d17f4b5367ba3707bc380843dd37690b9"), looks := false }, kinds := [], alts := [], laidByText := true, laidKinds := [.data, .data], laidTests := true, laidLooks := .later }
def CommitAsksCardSaid : Prop := Claim7.holds Tryd.pinned (.plain (OpenSpec.ofChange commitAsksSpec)) commitAsksCard

/-- THE TIED CARD OF 'reredoskeep.DoubtsTold'. -/
def doubtsToldCard : Claim7 := { stood := { row := doubtsToldRow, standIns := [], harness := (true, "d3ce9e721d415d2723e26ced7ab6f48d17f4b5367ba3707bc380843dd37690b9"), looks := false }, kinds := [], alts := [], laidByText := true, laidKinds := [.data, .data], laidTests := true, laidLooks := .later }
def DoubtsToldCardSaid : Prop := Claim7.holds Tryd.pinned (.plain (OpenSpec.ofChange doubtsToldSpec)) doubtsToldCard

/-- THE TIED CARD OF 'reredoskeep.TickEnds'. -/
def tickEndsCard : Claim7 := { stood := { row := tickEndsRow, standIns := [], harness := (true, "d3ce9e721d415d2723e26ced7ab6f48d17f4b5367ba3707bc380843dd37690b9"), looks := false }, kinds := [], alts := [], laidByText := true, laidKinds := [.data, .data], laidTests := true, laidLooks := .later }
def TickEndsCardSaid : Prop := Claim7.holds Tryd.pinned (.plain (OpenSpec.ofChange tickEndsSpec)) tickEndsCard

/-- THE SECOND FORM's CARD OF 'reredoskeep.CommitPlain'. -/
def commitPlainUptoCard : Claim7 := { stood := { row := commitPlainUptoRow, standIns := [], harness := (true, "d3ce9e721d415d2723e26ced7ab6f48d17f4b5367ba3707bc380843dd37690b9"), looks := false }, kinds := [], alts := [], laidByText := true, laidKinds := [.data, .data], laidTests := true, laidLooks := .later }
def CommitPlainUptoCardSaid : Prop := Claim7.holds Tryd.pinned (.plain (OpenSpec.upto commitPlainSpec)) commitPlainUptoCard

/-- THE SECOND FORM's CARD OF 'reredoskeep.CommitAsks'. -/
def commitAsksUptoCard : Claim7 := { stood := { row := commitAsksUptoRow, standIns := [], harness := (true, "d3ce9e721d415d2723e26ced7ab6f48d17f4b5367ba3707bc380843dd37690b9"), looks := false }, kinds := [], alts := [], laidByText := true, laidKinds := [.data, .data], laidTests := true, laidLooks := .later }
def CommitAsksUptoCardSaid : Prop := Claim7.holds Tryd.pinned (.plain (OpenSpec.upto commitAsksSpec)) commitAsksUptoCard

/-- THE SECOND FORM's CARD OF 'reredoskeep.DoubtsTold'. -/
def doubtsToldUptoCard : Claim7 := { stood := { row := doubtsToldUptoRow, standIns := [], harness := (true, "d3ce9e721d415d2723e26ced7ab6f48d17f4b5367ba3707bc380843dd37690b9"), looks := false }, kinds := [], alts := [], laidByText := true, laidKinds := [.data, .data], laidTests := true, laidLooks := .later }
def DoubtsToldUptoCardSaid : Prop := Claim7.holds Tryd.pinned (.plain (OpenSpec.upto doubtsToldSpec)) doubtsToldUptoCard

/-- THE SECOND FORM's CARD OF 'reredoskeep.TickEnds'. -/
def tickEndsUptoCard : Claim7 := { stood := { row := tickEndsUptoRow, standIns := [], harness := (true, "d3ce9e721d415d2723e26ced7ab6f48d17f4b5367ba3707bc380843dd37690b9"), looks := false }, kinds := [], alts := [], laidByText := true, laidKinds := [.data, .data], laidTests := true, laidLooks := .later }
def TickEndsUptoCardSaid : Prop := Claim7.holds Tryd.pinned (.plain (OpenSpec.upto tickEndsSpec)) tickEndsUptoCard
end Rows
end Go.Proofs.YtdjnaahkcnklhabDoor
