/-
  DERIVED. GIVEN WITH THE SEED: THE CARDS: each row of YtcmjcopopkafnabDoorRows.lean that lists a variable, with what it lists TIED to the program's text (the seventh form; the later family's looks); each row that meets fmt, with fmt's text TOLD by the authors' own Lean function (tested against real Go, not proved from fmt's source: count such statements apart). THE CARD IS WHAT COUNTS. Prove the row's statement (the work); the ties are given (YtcmjcopopkafnabDoorTie.lean); close each card by the builder's one call (the guide's Derived/Test/ToyasCard.lean, 'card_holds'). Laid BY PROGRAM, IN A SANDBOX (cutbox-door.mjs). By AI agents, Wed Nov 11 2026. No macro, syntax, notation, axiom, sorry.
-/
import Derived.Test.YtcmjcopopkafnabDoorRows
import GoSem.ClaimSeven
namespace Go.Proofs.YtcmjcopopkafnabDoor
namespace Rows

/-- THE TIED CARD OF 'reredoskeep.ForceDamage'. -/
def forceDamageCard : Claim7 := { stood := { row := forceDamageRow, standIns := [], harness := (true, "8f8b0cfc21286694cee0d6bed78c96f628827a30d3ff40be6f37a00924e3f7c9"), looks := false }, kinds := [], alts := [], laidByText := true, laidKinds := [.data, .data], laidTests := true, laidLooks := .later }
def ForceDamageCardSaid : Prop := Claim7.holds Tryd.pinned (.plain (OpenSpec.ofChange forceDamageSpec)) forceDamageCard

/-- THE SECOND FORM's CARD OF 'reredoskeep.ForceDamage'. -/
def forceDamageUptoCard : Claim7 := { stood := { row := forceDamageUptoRow, standIns := [], harness := (true, "8f8b0cfc21286694cee0d6bed78c96f628827a30d3ff40be6f37a00924e3f7c9"), looks := false }, kinds := [], alts := [], laidByText := true, laidKinds := [.data, .data], laidTests := true, laidLooks := .later }
def ForceDamageUptoCardSaid : Prop := Claim7.holds Tryd.pinned (.plain (OpenSpec.upto forceDamageSpec)) forceDamageUptoCard
end Rows
end Go.Proofs.YtcmjcopopkafnabDoor
