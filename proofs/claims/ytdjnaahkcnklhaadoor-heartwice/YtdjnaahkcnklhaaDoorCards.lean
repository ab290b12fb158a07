/-
  DERIVED. GIVEN WITH THE SEED: THE CARDS: each row of YtdjnaahkcnklhaaDoorRows.lean that lists a variable, with what it lists TIED to the program's text (the seventh form; the later family's looks); each row that meets fmt, with fmt's text TOLD by the authors' own Lean function (tested against real Go, not proved from fmt's source: count such statements apart). THE CARD IS WHAT COUNTS. Prove the row's statement (the work); the ties are given (YtdjnaahkcnklhaaDoorTie.lean); close each card by the builder's one call (the guide's Derived/Test/ToyasCard.lean, 'card_holds'). Laid BY PROGRAM, IN A SANDBOX (cutbox-door.mjs). By AI agents, Wed Nov 11 2026. No macro, syntax, notation, axiom, sorry.
-/
import Derived.Test.YtdjnaahkcnklhaaDoorRows
import GoSem.ClaimSeven
namespace Go.Proofs.YtdjnaahkcnklhaaDoor
namespace Rows

/-- THE TIED CARD OF 'reredoskeep.DeskGood'. -/
def deskGoodCard : Claim7 := { stood := { row := deskGoodRow, standIns := [], harness := (true, "f05c4804d7c76829766a412305b3dc135fec7e23f873f628b799f6ca9be460ea"), looks := false }, kinds := [], alts := [], laidByText := true, laidKinds := [.data, .data], laidTests := true, laidLooks := .later }
def DeskGoodCardSaid : Prop := Claim7.holds Tryd.pinned (.plain (OpenSpec.ofChange deskGoodSpec)) deskGoodCard

/-- THE TIED CARD OF 'reredoskeep.BeginNew'. -/
def beginNewCard : Claim7 := { stood := { row := beginNewRow, standIns := [], harness := (true, "f05c4804d7c76829766a412305b3dc135fec7e23f873f628b799f6ca9be460ea"), looks := false }, kinds := [], alts := [], laidByText := true, laidKinds := [.data, .data], laidTests := true, laidLooks := .later }
def BeginNewCardSaid : Prop := Claim7.holds Tryd.pinned (.plain (OpenSpec.ofChange beginNewSpec)) beginNewCard

/-- THE TIED CARD OF 'reredoskeep.CallRefused'. -/
def callRefusedCard : Claim7 := { stood := { row := callRefusedRow, standIns := [], harness := (true, "f05c4804d7c76829766a412305b3dc135fec7e23f873f628b799f6ca9be460ea"), looks := false }, kinds := [], alts := [], laidByText := true, laidKinds := [.data, .data], laidTests := true, laidLooks := .later }
def CallRefusedCardSaid : Prop := Claim7.holds Tryd.pinned (.plain (OpenSpec.ofChange callRefusedSpec)) callRefusedCard

/-- THE TIED CARD OF 'reredoskeep.HearTwice'. -/
def hearTwiceCard : Claim7 := { stood := { row := hearTwiceRow, standIns := [], harness := (true, "f05c4804d7c76829766a412305b3dc135fec7e23f873f628b799f6ca9be460ea"), looks := false }, kinds := [], alts := [], laidByText := true, laidKinds := [.data, .data], laidTests := true, laidLooks := .later }
def HearTwiceCardSaid : Prop := Claim7.holds Tryd.pinned (.plain (OpenSpec.ofChange hearTwiceSpec)) hearTwiceCard

/-- THE SECOND FORM's CARD OF 'reredoskeep.DeskGood'. -/
def deskGoodUptoCard : Claim7 := { stood := { row := deskGoodUptoRow, standIns := [], harness := (true, "f05c4804d7c76829766a412305b3dc135fec7e23f873f628b799f6ca9be460ea"), looks := false }, kinds := [], alts := [], laidByText := true, laidKinds := [.data, .data], laidTests := true, laidLooks := .later }
def DeskGoodUptoCardSaid : Prop := Claim7.holds Tryd.pinned (.plain (OpenSpec.upto deskGoodSpec)) deskGoodUptoCard

/-- THE SECOND FORM's CARD OF 'reredoskeep.BeginNew'. -/
def beginNewUptoCard : Claim7 := { stood := { row := beginNewUptoRow, standIns := [], harness := (true, "f05c4804d7c76829766a412305b3dc135fec7e23f873f628b799f6ca9be460ea"), looks := false }, kinds := [], alts := [], laidByText := true, laidKinds := [.data, .data], laidTests := true, laidLooks := .later }
def BeginNewUptoCardSaid : Prop := Claim7.holds Tryd.pinned (.plain (OpenSpec.upto beginNewSpec)) beginNewUptoCard

/-- THE SECOND FORM's CARD OF 'reredoskeep.CallRefused'. -/
def callRefusedUptoCard : Claim7 := { stood := { row := callRefusedUptoRow, standIns := [], harness := (true, "f05c4804d7c76829766a412305b3dc135fec7e23f873f628b799f6ca9be460ea"), looks := false }, kinds := [], alts := [], laidByText := true, laidKinds := [.data, .data], laidTests := true, laidLooks := .later }
def CallRefusedUptoCardSaid : Prop := Claim7.holds Tryd.pinned (.plain (OpenSpec.upto callRefusedSpec)) callRefusedUptoCard

/-- THE SECOND FORM's CARD OF 'reredoskeep.HearTwice'. -/
def hearTwiceUptoCard : Claim7 := { stood := { row := hearTwiceUptoRow, standIns := [], harness := (true, "f05c4804d7c76829766a412305b3dc135fec7e23f873f628b799f6ca9be460ea"), looks := false }, kinds := [], alts := [], laidByText := true, laidKinds := [.data, .data], laidTests := true, laidLooks := .later }
def HearTwiceUptoCardSaid : Prop := Claim7.holds Tryd.pinned (.plain (OpenSpec.upto hearTwiceSpec)) hearTwiceUptoCard
end Rows
end Go.Proofs.YtdjnaahkcnklhaaDoor
