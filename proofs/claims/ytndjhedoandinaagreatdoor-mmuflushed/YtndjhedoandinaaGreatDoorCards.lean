/-
  DERIVED. GIVEN WITH THE SEED: THE CARDS: each row of YtndjhedoandinaaGreatDoorRows.lean that lists a variable, with what it lists TIED to the program's text (the seventh form; the later family's looks); each row that meets fmt, with fmt's text TOLD by the authors' own Lean function (tested against real Go, not proved from fmt's source: count such statements apart). THE CARD IS WHAT COUNTS. Prove the row's statement (the work); the ties are given (YtndjhedoandinaaGreatDoorTie.lean); close each card by the builder's one call (the guide's Derived/Test/ToyasCard.lean, 'card_holds'). Laid BY PROGRAM, IN A SANDBOX (cutbox-door.mjs). By AI agents, Wed Nov 11 2026. No macro, syntax, notation, axiom, sorry.
-/
import Derived.Test.YtndjhedoandinaaGreatDoorRows
import GoSem.ClaimSeven
namespace Go.Proofs.YtndjhedoandinaaGreatDoor
namespace Rows

/-- THE TIED CARD OF 'portreevelaw09.MmuPlays'. -/
def mmuPlaysCard : Claim7 := { stood := { row := mmuPlaysRow, standIns := [], harness := (true, "4eabbb6f2aab318a8240c896ba709cb48338b8a3c1037cea6b4360597098eb88"), looks := true }, kinds := [], alts := [], laidByText := true, laidKinds := [.wider, .wider, .wider, .data], laidTests := true, laidLooks := .later }
def MmuPlaysCardSaid : Prop := Claim7.holds Tryz.pinned (.plain (OpenSpec.ofChange mmuPlaysSpec)) mmuPlaysCard

/-- THE TIED CARD OF 'portreevelaw09.MmuErased'. -/
def mmuErasedCard : Claim7 := { stood := { row := mmuErasedRow, standIns := [], harness := (true, "4eabbb6f2aab318a8240c896ba709cb48338b8a3c1037cea6b4360597098eb88"), looks := true }, kinds := [], alts := [], laidByText := true, laidKinds := [.wider, .wider, .wider, .data], laidTests := true, laidLooks := .later }
def MmuErasedCardSaid : Prop := Claim7.holds Tryz.pinned (.plain (OpenSpec.ofChange mmuErasedSpec)) mmuErasedCard

/-- THE TIED CARD OF 'portreevelaw09.MmuFlushed'. -/
def mmuFlushedCard : Claim7 := { stood := { row := mmuFlushedRow, standIns := [], harness := (true, "4eabbb6f2aab318a8240c896ba709cb48338b8a3c1037cea6b4360597098eb88"), looks := true }, kinds := [], alts := [], laidByText := true, laidKinds := [.wider, .wider, .wider, .data], laidTests := true, laidLooks := .later }
def MmuFlushedCardSaid : Prop := Claim7.holds Tryz.pinned (.plain (OpenSpec.ofChange mmuFlushedSpec)) mmuFlushedCard

/-- THE TIED CARD OF 'portreevelaw09.MmuBlocks'. -/
def mmuBlocksCard : Claim7 := { stood := { row := mmuBlocksRow, standIns := [], harness := (true, "4eabbb6f2aab318a8240c896ba709cb48338b8a3c1037cea6b4360597098eb88"), looks := true }, kinds := [], alts := [], laidByText := true, laidKinds := [.wider, .wider, .wider, .data], laidTests := true, laidLooks := .later }
def MmuBlocksCardSaid : Prop := Claim7.holds Tryz.pinned (.plain (OpenSpec.ofChange mmuBlocksSpec)) mmuBlocksCard

/-- THE SECOND FORM's CARD OF 'portreevelaw09.MmuPlays'. -/
def mmuPlaysUptoCard : Claim7 := { stood := { row := mmuPlaysUptoRow, standIns := [], harness := (true, "4eabbb6f2aab318a8240c896ba709cb48338b8a3c1037cea6b4360597098eb88"), looks := true }, kinds := [], alts := [], laidByText := true, laidKinds := [.wider, .wider, .wider, .data], laidTests := true, laidLooks := .later }
def MmuPlaysUptoCardSaid : Prop := Claim7.holds Tryz.pinned (.plain (OpenSpec.upto mmuPlaysSpec)) mmuPlaysUptoCard

/-- THE SECOND FORM's CARD OF 'portreevelaw09.MmuErased'. -/
def mmuErasedUptoCard : Claim7 := { stood := { row := mmuErasedUptoRow, standIns := [], harness := (true, "4eabbb6f2aab318a8240c896ba709cb48338b8a3c1037cea6b4360597098eb88"), looks := true }, kinds := [], alts := [], laidByText := true, laidKinds := [.wider, .wider, .wider, .data], laidTests := true, laidLooks := .later }
def MmuErasedUptoCardSaid : Prop := Claim7.holds Tryz.pinned (.plain (OpenSpec.upto mmuErasedSpec)) mmuErasedUptoCard

/-- THE SECOND FORM's CARD OF 'portreevelaw09.MmuFlushed'. -/
def mmuFlushedUptoCard : Claim7 := { stood := { row := mmuFlushedUptoRow, standIns := [], harness := (true, "4eabbb6f2aab318a8240c896ba709cb48338b8a3c1037cea6b4360597098eb88"), looks := true }, kinds := [], alts := [], laidByText := true, laidKinds := [.wider, .wider, .wider, .data], laidTests := true, laidLooks := .later }
def MmuFlushedUptoCardSaid : Prop := Claim7.holds Tryz.pinned (.plain (OpenSpec.upto mmuFlushedSpec)) mmuFlushedUptoCard

/-- THE SECOND FORM's CARD OF 'portreevelaw09.MmuBlocks'. -/
def mmuBlocksUptoCard : Claim7 := { stood := { row := mmuBlocksUptoRow, standIns := [], harness := (true, "4eabbb6f2aab318a8240c896ba709cb48338b8a3c1037cea6b4360597098eb88"), looks := true }, kinds := [], alts := [], laidByText := true, laidKinds := [.wider, .wider, .wider, .data], laidTests := true, laidLooks := .later }
def MmuBlocksUptoCardSaid : Prop := Claim7.holds Tryz.pinned (.plain (OpenSpec.upto mmuBlocksSpec)) mmuBlocksUptoCard
end Rows
end Go.Proofs.YtndjhedoandinaaGreatDoor
