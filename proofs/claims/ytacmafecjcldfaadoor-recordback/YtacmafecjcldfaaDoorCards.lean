/-
  DERIVED. GIVEN WITH THE SEED: THE CARDS: each row of YtacmafecjcldfaaDoorRows.lean that lists a variable, with what it lists TIED to the program's text (the seventh form; the later family's looks); each row that meets fmt, with fmt's text TOLD by the authors' own Lean function (tested against real Go, not proved from fmt's source: count such statements apart). THE CARD IS WHAT COUNTS. Prove the row's statement (the work); the ties are given (YtacmafecjcldfaaDoorTie.lean); close each card by the builder's one call (the guide's Derived/Test/ToyasCard.lean, 'card_holds'). Laid BY PROGRAM, IN A SANDBOX (cutbox-door.mjs). By AI agents, Wed Nov 11 2026. No macro, syntax, notation, axiom, sorry.
-/
import Derived.Test.YtacmafecjcldfaaDoorRows
import GoSem.ClaimSeven
namespace Go.Proofs.YtacmafecjcldfaaDoor
namespace Rows

/-- THE TIED CARD OF 'reredoskeep.MessageBack'. -/
def messageBackCard : Claim7 := { stood := { row := messageBackRow, standIns := [], harness := (true, "3e8b2a87c8f7342fdd05c8115d494ce31dc3ed891d5bf9cde59dc5b0afa3995a"), looks := false }, kinds := [], alts := [], laidByText := true, laidKinds := [.data, .data, .data], laidTests := true, laidLooks := .later }
def MessageBackCardSaid : Prop := Claim7.holds Tryd.pinned (.plain (OpenSpec.ofChange messageBackSpec)) messageBackCard

/-- THE TIED CARD OF 'reredoskeep.MessageFixed'. -/
def messageFixedCard : Claim7 := { stood := { row := messageFixedRow, standIns := [], harness := (true, "3e8b2a87c8f7342fdd05c8115d494ce31dc3ed891d5bf9cde59dc5b0afa3995a"), looks := false }, kinds := [], alts := [], laidByText := true, laidKinds := [.data, .data, .data], laidTests := true, laidLooks := .later }
def MessageFixedCardSaid : Prop := Claim7.holds Tryd.pinned (.plain (OpenSpec.ofChange messageFixedSpec)) messageFixedCard

/-- THE TIED CARD OF 'reredoskeep.MessageTorn'. -/
def messageTornCard : Claim7 := { stood := { row := messageTornRow, standIns := [], harness := (true, "3e8b2a87c8f7342fdd05c8115d494ce31dc3ed891d5bf9cde59dc5b0afa3995a"), looks := false }, kinds := [], alts := [], laidByText := true, laidKinds := [.data, .data, .data], laidTests := true, laidLooks := .later }
def MessageTornCardSaid : Prop := Claim7.holds Tryd.pinned (.plain (OpenSpec.ofChange messageTornSpec)) messageTornCard

/-- THE TIED CARD OF 'reredoskeep.RecordBack'. -/
def recordBackCard : Claim7 := { stood := { row := recordBackRow, standIns := [], harness := (true, "3e8b2a87c8f7342fdd05c8115d494ce31dc3ed891d5bf9cde59dc5b0afa3995a"), looks := false }, kinds := [], alts := [], laidByText := true, laidKinds := [.data, .data, .data], laidTests := true, laidLooks := .later }
def RecordBackCardSaid : Prop := Claim7.holds Tryd.pinned (.plain (OpenSpec.ofChange recordBackSpec)) recordBackCard

/-- THE TIED CARD OF 'reredoskeep.RecordFixed'. -/
def recordFixedCard : Claim7 := { stood := { row := recordFixedRow, standIns := [], harness := (true, "3e8b2a87c8f7342fdd05c8115d494ce31dc3ed891d5bf9cde59dc5b0afa3995a"), looks := false }, kinds := [], alts := [], laidByText := true, laidKinds := [.data, .data, .data], laidTests := true, laidLooks := .later }
def RecordFixedCardSaid : Prop := Claim7.holds Tryd.pinned (.plain (OpenSpec.ofChange recordFixedSpec)) recordFixedCard

/-- THE TIED CARD OF 'reredoskeep.TapeRoom'. -/
def tapeRoomCard : Claim7 := { stood := { row := tapeRoomRow, standIns := [], harness := (true, "3e8b2a87c8f7342fdd05c8115d494ce31dc3ed891d5bf9cde59dc5b0afa3995a"), looks := false }, kinds := [], alts := [], laidByText := true, laidKinds := [.data, .data, .data], laidTests := true, laidLooks := .later }
def TapeRoomCardSaid : Prop := Claim7.holds Tryd.pinned (.plain (OpenSpec.ofChange tapeRoomSpec)) tapeRoomCard

/-- THE SECOND FORM's CARD OF 'reredoskeep.MessageBack'. -/
def messageBackUptoCard : Claim7 := { stood := { row := messageBackUptoRow, standIns := [], harness := (true, "3e8b2a87c8f7342fdd05c8115d494ce31dc3ed891d5bf9cde59dc5b0afa3995a"), looks := false }, kinds := [], alts := [], laidByText := true, laidKinds := [.data, .data, .data], laidTests := true, laidLooks := .later }
def MessageBackUptoCardSaid : Prop := Claim7.holds Tryd.pinned (.plain (OpenSpec.upto messageBackSpec)) messageBackUptoCard

/-- THE SECOND FORM's CARD OF 'reredoskeep.MessageFixed'. -/
def messageFixedUptoCard : Claim7 := { stood := { row := messageFixedUptoRow, standIns := [], harness := (true, "3e8b2a87c8f7342fdd05c8115d494ce31dc3ed891d5bf9cde59dc5b0afa3995a"), looks := false }, kinds := [], alts := [], laidByText := true, laidKinds := [.data, .data, .data], laidTests := true, laidLooks := .later }
def MessageFixedUptoCardSaid : Prop := Claim7.holds Tryd.pinned (.plain (OpenSpec.upto messageFixedSpec)) messageFixedUptoCard

/-- THE SECOND FORM's CARD OF 'reredoskeep.MessageTorn'. -/
def messageTornUptoCard : Claim7 := { stood := { row := messageTornUptoRow, standIns := [], harness := (true, "3e8b2a87c8f7342fdd05c8115d494ce31dc3ed891d5bf9cde59dc5b0afa3995a"), looks := false }, kinds := [], alts := [], laidByText := true, laidKinds := [.data, .data, .data], laidTests := true, laidLooks := .later }
def MessageTornUptoCardSaid : Prop := Claim7.holds Tryd.pinned (.plain (OpenSpec.upto messageTornSpec)) messageTornUptoCard

/-- THE SECOND FORM's CARD OF 'reredoskeep.RecordBack'. -/
def recordBackUptoCard : Claim7 := { stood := { row := recordBackUptoRow, standIns := [], harness := (true, "3e8b2a87c8f7342fdd05c8115d494ce31dc3ed891d5bf9cde59dc5b0afa3995a"), looks := false }, kinds := [], alts := [], laidByText := true, laidKinds := [.data, .data, .data], laidTests := true, laidLooks := .later }
def RecordBackUptoCardSaid : Prop := Claim7.holds Tryd.pinned (.plain (OpenSpec.upto recordBackSpec)) recordBackUptoCard

/-- THE SECOND FORM's CARD OF 'reredoskeep.RecordFixed'. -/
def recordFixedUptoCard : Claim7 := { stood := { row := recordFixedUptoRow, standIns := [], harness := (true, "3e8b2a87c8f7342fdd05c8115d494ce31dc3ed891d5bf9cde59dc5b0afa3995a"), looks := false }, kinds := [], alts := [], laidByText := true, laidKinds := [.data, .data, .data], laidTests := true, laidLooks := .later }
def RecordFixedUptoCardSaid : Prop := Claim7.holds Tryd.pinned (.plain (OpenSpec.upto recordFixedSpec)) recordFixedUptoCard

/-- THE SECOND FORM's CARD OF 'reredoskeep.TapeRoom'. -/
def tapeRoomUptoCard : Claim7 := { stood := { row := tapeRoomUptoRow, standIns := [], harness := (true, "3e8b2a87c8f7342fdd05c8115d494ce31dc3ed891d5bf9cde59dc5b0afa3995a"), looks := false }, kinds := [], alts := [], laidByText := true, laidKinds := [.data, .data, .data], laidTests := true, laidLooks := .later }
def TapeRoomUptoCardSaid : Prop := Claim7.holds Tryd.pinned (.plain (OpenSpec.upto tapeRoomSpec)) tapeRoomUptoCard
end Rows
end Go.Proofs.YtacmafecjcldfaaDoor
