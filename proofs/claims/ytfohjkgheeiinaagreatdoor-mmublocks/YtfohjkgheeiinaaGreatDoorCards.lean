/-
  DERIVED. GIVEN WITH THE SEED: THE CARDS: each row of YtfohjkgheeiinaaGreatDoorRows.lean that lists a variable, with what it lists TIED to the program's text (the seventh form; the later family's looks); each row that meets fmt, with fmt's text TOLD by the authors' own Lean function (tested against real Go, not proved from fmt's source: count such statements apart). THE CARD IS WHAT COUNTS. Prove the row's statement (the work); the ties are given (YtfohjkgheeiinaaGreatDoorTie.lean); close each card by the builder's one call (the guide's Derived/Test/ToyasCard.lean, 'card_holds'). Laid BY PROGRAM, IN A SANDBOX (cutbox-door.mjs). By AI agents, Wed Nov 11 2026. No macro, syntax, notation, axiom, sorry.
-/
import Derived.Test.YtfohjkgheeiinaaGreatDoorRows
import GoSem.ClaimSeven
namespace Go.Proofs.YtfohjkgheeiinaaGreatDoor
namespace Rows

/-- THE TIED CARD OF 'portreevelaw09.MmuPlays'. -/
def mmuPlaysCard : Claim7 := { stood := { row := mmuPlaysRow, standIns := [], harness := (true, "de0a69ab7c57dba4eed5dbff14d8ca49beb9db827f353f47883dab7ad84aa502"), looks := true }, kinds := [], alts := [], laidByText := true, laidKinds := [.wider, .wider, .wider, .data], laidTests := true, laidLooks := .later }
def MmuPlaysCardSaid : Prop := Claim7.holds Tryz.pinned (.plain (OpenSpec.ofChange mmuPlaysSpec)) mmuPlaysCard

/-- THE TIED CARD OF 'portreevelaw09.MmuBlocks'. -/
def mmuBlocksCard : Claim7 := { stood := { row := mmuBlocksRow, standIns := [], harness := (true, "de0a69ab7c57dba4eed5dbff14d8ca49beb9db827f353f47883dab7ad84aa502"), looks := true }, kinds := [], alts := [], laidByText := true, laidKinds := [.wider, .wider, .wider, .data], laidTests := true, laidLooks := .later }
def MmuBlocksCardSaid : Prop := Claim7.holds Tryz.pinned (.plain (OpenSpec.ofChange mmuBlocksSpec)) mmuBlocksCard

/-- THE SECOND FORM's CARD OF 'portreevelaw09.MmuPlays'. -/
def mmuPlaysUptoCard : Claim7 := { stood := { row := mmuPlaysUptoRow, standIns := [], harness := (true, "de0a69ab7c57dba4eed5dbff14d8ca49beb9db827f353f47883dab7ad84aa502"), looks := true }, kinds := [], alts := [], laidByText := true, laidKinds := [.wider, .wider, .wider, .data], laidTests := true, laidLooks := .later }
def MmuPlaysUptoCardSaid : Prop := Claim7.holds Tryz.pinned (.plain (OpenSpec.upto mmuPlaysSpec)) mmuPlaysUptoCard

/-- THE SECOND FORM's CARD OF 'portreevelaw09.MmuBlocks'. -/
def mmuBlocksUptoCard : Claim7 := { stood := { row := mmuBlocksUptoRow, standIns := [], harness := (true, "de0a69ab7c57dba4eed5dbff14d8ca49beb9db827f353f47883dab7ad84aa502"), looks := true }, kinds := [], alts := [], laidByText := true, laidKinds := [.wider, .wider, .wider, .data], laidTests := true, laidLooks := .later }
def MmuBlocksUptoCardSaid : Prop := Claim7.holds Tryz.pinned (.plain (OpenSpec.upto mmuBlocksSpec)) mmuBlocksUptoCard
end Rows
end Go.Proofs.YtfohjkgheeiinaaGreatDoor
