/-
  DERIVED. GIVEN WITH THE SEED: THE CARDS: each row of YtgohpgollpjlnaaDoorRows.lean that lists a variable, with what it lists TIED to the program's text (the seventh form; the later family's looks); each row that meets fmt, with fmt's text TOLD by the authors' own Lean function (tested against real Go, not proved from fmt's source: count such statements apart). THE CARD IS WHAT COUNTS. Prove the row's statement (the work); the ties are given (YtgohpgollpjlnaaDoorTie.lean); close each card by the builder's one call (the guide's Derived/Test/ToyasCard.lean, 'card_holds'). Laid BY PROGRAM, IN A SANDBOX (cutbox-door.mjs). By AI agents, Wed Nov 11 2026. No macro, syntax, notation, axiom, sorry.
-/
import Derived.Test.YtgohpgollpjlnaaDoorRows
import GoSem.ClaimSeven
namespace Go.Proofs.YtgohpgollpjlnaaDoor
namespace Rows

/-- THE TIED CARD OF 'reredoslaw.ConsoleReads'. -/
def consoleReadsCard : Claim7 := { stood := { row := consoleReadsRow, standIns := [], harness := (true, "1203ebfa805ae32bda2a7463d90be488018ac721591328aee0773b476322e0fb"), looks := true }, kinds := [], alts := [], laidByText := true, laidKinds := [.data, .data, .data, .data, .sentinel, .sentinel, .pinned], laidTests := true, laidLooks := .later }
def ConsoleReadsCardSaid : Prop := Claim7.holds Tryd.pinned (.plain (OpenSpec.ofChange consoleReadsSpec)) consoleReadsCard

/-- THE TIED CARD OF 'reredoslaw.ConsoleShows'. -/
def consoleShowsCard : Claim7 := { stood := { row := consoleShowsRow, standIns := [], harness := (true, "1203ebfa805ae32bda2a7463d90be488018ac721591328aee0773b476322e0fb"), looks := true }, kinds := [], alts := [], laidByText := true, laidKinds := [.data, .data, .data], laidTests := true, laidLooks := .later }
def ConsoleShowsCardSaid : Prop := Claim7.holds Tryd.pinned (.plain (OpenSpec.ofChange consoleShowsSpec)) consoleShowsCard

/-- THE TIED CARD OF 'reredoskeep.ConsoleBack'. -/
def consoleBackCard : Claim7 := { stood := { row := consoleBackRow, standIns := [], harness := (true, "1203ebfa805ae32bda2a7463d90be488018ac721591328aee0773b476322e0fb"), looks := true }, kinds := [], alts := [], laidByText := true, laidKinds := [.data, .data, .data, .data, .sentinel, .sentinel, .pinned], laidTests := true, laidLooks := .later }
def ConsoleBackCardSaid : Prop := Claim7.holds Tryd.pinned (.plain (OpenSpec.ofChange consoleBackSpec)) consoleBackCard

/-- THE TIED CARD OF 'reredoskeep.ConsoleBad'. -/
def consoleBadCard : Claim7 := { stood := { row := consoleBadRow, standIns := [], harness := (true, "1203ebfa805ae32bda2a7463d90be488018ac721591328aee0773b476322e0fb"), looks := true }, kinds := [], alts := [], laidByText := true, laidKinds := [.data, .data, .data, .data, .sentinel, .sentinel, .pinned], laidTests := true, laidLooks := .later }
def ConsoleBadCardSaid : Prop := Claim7.holds Tryd.pinned (.plain (OpenSpec.ofChange consoleBadSpec)) consoleBadCard

/-- THE TIED CARD OF 'reredoskeep.ShowHidden'. -/
def showHiddenCard : Claim7 := { stood := { row := showHiddenRow, standIns := [], harness := (true, "1203ebfa805ae32bda2a7463d90be488018ac721591328aee0773b476322e0fb"), looks := true }, kinds := [], alts := [], laidByText := true, laidKinds := [.data, .data, .data], laidTests := true, laidLooks := .later }
def ShowHiddenCardSaid : Prop := Claim7.holds Tryd.pinned (.plain (OpenSpec.ofChange showHiddenSpec)) showHiddenCard

/-- THE TIED CARD OF 'reredoskeep.ShowList'. -/
def showListCard : Claim7 := { stood := { row := showListRow, standIns := [], harness := (true, "1203ebfa805ae32bda2a7463d90be488018ac721591328aee0773b476322e0fb"), looks := true }, kinds := [], alts := [], laidByText := true, laidKinds := [.data, .data, .data], laidTests := true, laidLooks := .later }
def ShowListCardSaid : Prop := Claim7.holds Tryd.pinned (.plain (OpenSpec.ofChange showListSpec)) showListCard

/-- THE SECOND FORM's CARD OF 'reredoslaw.ConsoleReads'. -/
def consoleReadsUptoCard : Claim7 := { stood := { row := consoleReadsUptoRow, standIns := [], harness := (true, "1203ebfa805ae32bda2a7463d90be488018ac721591328aee0773b476322e0fb"), looks := true }, kinds := [], alts := [], laidByText := true, laidKinds := [.data, .data, .data, .data, .sentinel, .sentinel, .pinned], laidTests := true, laidLooks := .later }
def ConsoleReadsUptoCardSaid : Prop := Claim7.holds Tryd.pinned (.plain (OpenSpec.upto consoleReadsSpec)) consoleReadsUptoCard

/-- THE SECOND FORM's CARD OF 'reredoslaw.ConsoleShows'. -/
def consoleShowsUptoCard : Claim7 := { stood := { row := consoleShowsUptoRow, standIns := [], harness := (true, "1203ebfa805ae32bda2a7463d90be488018ac721591328aee0773b476322e0fb"), looks := true }, kinds := [], alts := [], laidByText := true, laidKinds := [.data, .data, .data], laidTests := true, laidLooks := .later }
def ConsoleShowsUptoCardSaid : Prop := Claim7.holds Tryd.pinned (.plain (OpenSpec.upto consoleShowsSpec)) consoleShowsUptoCard

/-- THE SECOND FORM's CARD OF 'reredoskeep.ConsoleBack'. -/
def consoleBackUptoCard : Claim7 := { stood := { row := consoleBackUptoRow, standIns := [], harness := (true, "1203ebfa805ae32bda2a7463d90be488018ac721591328aee0773b476322e0fb"), looks := true }, kinds := [], alts := [], laidByText := true, laidKinds := [.data, .data, .data, .data, .sentinel, .sentinel, .pinned], laidTests := true, laidLooks := .later }
def ConsoleBackUptoCardSaid : Prop := Claim7.holds Tryd.pinned (.plain (OpenSpec.upto consoleBackSpec)) consoleBackUptoCard

/-- THE SECOND FORM's CARD OF 'reredoskeep.ConsoleBad'. -/
def consoleBadUptoCard : Claim7 := { stood := { row := consoleBadUptoRow, standIns := [], harness := (true, "1203ebfa805ae32bda2a7463d90be488018ac721591328aee0773b476322e0fb"), looks := true }, kinds := [], alts := [], laidByText := true, laidKinds := [.data, .data, .data, .data, .sentinel, .sentinel, .pinned], laidTests := true, laidLooks := .later }
def ConsoleBadUptoCardSaid : Prop := Claim7.holds Tryd.pinned (.plain (OpenSpec.upto consoleBadSpec)) consoleBadUptoCard

/-- THE SECOND FORM's CARD OF 'reredoskeep.ShowHidden'. -/
def showHiddenUptoCard : Claim7 := { stood := { row := showHiddenUptoRow, standIns := [], harness := (true, "1203ebfa805ae32bda2a7463d90be488018ac721591328aee0773b476322e0fb"), looks := true }, kinds := [], alts := [], laidByText := true, laidKinds := [.data, .data, .data], laidTests := true, laidLooks := .later }
def ShowHiddenUptoCardSaid : Prop := Claim7.holds Tryd.pinned (.plain (OpenSpec.upto showHiddenSpec)) showHiddenUptoCard

/-- THE SECOND FORM's CARD OF 'reredoskeep.ShowList'. -/
def showListUptoCard : Claim7 := { stood := { row := showListUptoRow, standIns := [], harness := (true, "1203ebfa805ae32bda2a7463d90be488018ac721591328aee0773b476322e0fb"), looks := true }, kinds := [], alts := [], laidByText := true, laidKinds := [.data, .data, .data], laidTests := true, laidLooks := .later }
def ShowListUptoCardSaid : Prop := Claim7.holds Tryd.pinned (.plain (OpenSpec.upto showListSpec)) showListUptoCard
end Rows
end Go.Proofs.YtgohpgollpjlnaaDoor
