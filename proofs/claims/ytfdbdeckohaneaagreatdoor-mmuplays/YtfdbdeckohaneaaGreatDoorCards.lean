/-
  DERIVED. GIVEN WITH THE SEED: THE CARDS: each row of YtfdbdeckohaneaaGreatDoorRows.lean that lists a variable, with what it lists TIED to the program's text (the seventh form; the later family's looks); each row that meets fmt, with fmt's text TOLD by the authors' own Lean function (tested against real Go, not proved from fmt's source: count such statements apart). THE CARD IS WHAT COUNTS. Prove the row's statement (the work); the ties are given (YtfdbdeckohaneaaGreatDoorTie.lean); close each card by the builder's one call (the guide's Derived/Test/ToyasCard.lean, 'card_holds'). Laid BY PROGRAM, IN A SANDBOX (cutbox-door.mjs). By AI agents, Wed Nov 11 2026. No macro, syntax, notation, axiom, sorry.
-/
import Derived.Test.YtfdbdeckohaneaaGreatDoorRows
import GoSem.ClaimSeven
namespace Go.Proofs.YtfdbdeckohaneaaGreatDoor
namespace Rows

/-- THE TIED CARD OF 'portreevelaw09.MmuPlays'. -/
def mmuPlaysCard : Claim7 := { stood := { row := mmuPlaysRow, standIns := [], harness := (true, "28e44aeb06bc082784c56ce8f91ebdd0d3ed069124b245ddc66d8d7761e6d9ac"), looks := true }, kinds := [], alts := [], laidByText := true, laidKinds := [.wider, .wider, .wider, .data], laidTests := true, laidLooks := .later }
def MmuPlaysCardSaid : Prop := Claim7.holds Tryz.pinned (.plain (OpenSpec.ofChange mmuPlaysSpec)) mmuPlaysCard

/-- THE SECOND FORM's CARD OF 'portreevelaw09.MmuPlays'. -/
def mmuPlaysUptoCard : Claim7 := { stood := { row := mmuPlaysUptoRow, standIns := [], harness := (true, "28e44aeb06bc082784c56ce8f91ebdd0d3ed069124b245ddc66d8d7761e6d9ac"), looks := true }, kinds := [], alts := [], laidByText := true, laidKinds := [.wider, .wider, .wider, .data], laidTests := true, laidLooks := .later }
def MmuPlaysUptoCardSaid : Prop := Claim7.holds Tryz.pinned (.plain (OpenSpec.upto mmuPlaysSpec)) mmuPlaysUptoCard
end Rows
end Go.Proofs.YtfdbdeckohaneaaGreatDoor
