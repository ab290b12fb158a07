/-
  DERIVED. GIVEN WITH THE SEED: THE CARDS: each row of YtekglahigjblkaaGreatDoorRows.lean that lists a variable, with what it lists TIED to the program's text (the seventh form; the later family's looks); each row that meets fmt, with fmt's text TOLD by the authors' own Lean function (tested against real Go, not proved from fmt's source: count such statements apart). THE CARD IS WHAT COUNTS. Prove the row's statement (the work); the ties are given (YtekglahigjblkaaGreatDoorTie.lean); close each card by the builder's one call (the guide's Derived/Test/ToyasCard.lean, 'card_holds'). Laid BY PROGRAM, IN A SANDBOX (cutbox-door.mjs). By AI agents, Wed Nov 11 2026. No macro, syntax, notation, axiom, sorry.
-/
import Derived.Test.YtekglahigjblkaaGreatDoorRows
import GoSem.ClaimSeven
namespace Go.Proofs.YtekglahigjblkaaGreatDoor
namespace Rows

/-- THE TIED CARD OF 'reredoslaw.RecoverRebuilds'. -/
def recoverRebuildsCard : Claim7 := { stood := { row := recoverRebuildsRow, standIns := [], harness := (true, "1a2a38c8a92a66c6503322d8494afa264e0c2551b013804cdc430321f5e818fa"), looks := false }, kinds := [], alts := [], laidByText := true, laidKinds := [.data, .data], laidTests := true, laidLooks := .later }
def RecoverRebuildsCardSaid : Prop := Claim7.holds Tryz.pinned (.plain (OpenSpec.ofChange recoverRebuildsSpec)) recoverRebuildsCard

/-- THE SECOND FORM's CARD OF 'reredoslaw.RecoverRebuilds'. -/
def recoverRebuildsUptoCard : Claim7 := { stood := { row := recoverRebuildsUptoRow, standIns := [], harness := (true, "1a2a38c8a92a66c6503322d8494afa264e0c2551b013804cdc430321f5e818fa"), looks := false }, kinds := [], alts := [], laidByText := true, laidKinds := [.data, .data], laidTests := true, laidLooks := .later }
def RecoverRebuildsUptoCardSaid : Prop := Claim7.holds Tryz.pinned (.plain (OpenSpec.upto recoverRebuildsSpec)) recoverRebuildsUptoCard
end Rows
end Go.Proofs.YtekglahigjblkaaGreatDoor
