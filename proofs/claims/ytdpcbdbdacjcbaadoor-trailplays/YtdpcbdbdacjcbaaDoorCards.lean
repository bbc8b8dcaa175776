/-
  DERIVED. GIVEN WITH THE SEED: THE CARDS: each row of YtdpcbdbdacjcbaaDoorRows.lean that lists a variable, with what it lists TIED to the program's text (the seventh form; the later family's looks); each row that meets fmt, with fmt's text TOLD by the authors' own Lean function (tested against real Go, not proved from fmt's source: count such statements apart). THE CARD IS WHAT COUNTS. Prove the row's statement (the work); the ties are given (YtdpcbdbdacjcbaaDoorTie.lean); close each card by the builder's one call (the guide's Derived/Test/ToyasCard.lean, 'card_holds'). Laid BY PROGRAM, IN A SANDBOX (cutbox-door.mjs). By AI agents, Wed Nov 11 2026. No macro, syntax, notation, axiom, sorry.
-/
import Derived.Test.YtdpcbdbdacjcbaaDoorRows
import GoSem.ClaimSeven
namespace Go.Proofs.YtdpcbdbdacjcbaaDoor
namespace Rows

/-- THE TIED CARD OF 'portreevelaw08.TrailPlays'. -/
def trailPlaysCard : Claim7 := { stood := { row := trailPlaysRow, standIns := [], harness := (true, "0da72c4eacad5ef3872c388a731138d3868ae754384d64e26800f0c4b142c471"), looks := false }, kinds := [], alts := [], laidByText := true, laidKinds := [.wider, .wider, .data], laidTests := true, laidLooks := .later }
def TrailPlaysCardSaid : Prop := Claim7.holds Tryd.pinned (.plain (OpenSpec.ofChange trailPlaysSpec)) trailPlaysCard

/-- THE TIED CARD OF 'portreevelaw08.TrailWalks'. -/
def trailWalksCard : Claim7 := { stood := { row := trailWalksRow, standIns := [], harness := (true, "0da72c4eacad5ef3872c388a731138d3868ae754384d64e26800f0c4b142c471"), looks := false }, kinds := [], alts := [], laidByText := true, laidKinds := [.wider, .wider, .data], laidTests := true, laidLooks := .later }
def TrailWalksCardSaid : Prop := Claim7.holds Tryd.pinned (.plain (OpenSpec.ofChange trailWalksSpec)) trailWalksCard

/-- THE TIED CARD OF 'portreevelaw08.TrailFlushes'. -/
def trailFlushesCard : Claim7 := { stood := { row := trailFlushesRow, standIns := [], harness := (true, "0da72c4eacad5ef3872c388a731138d3868ae754384d64e26800f0c4b142c471"), looks := false }, kinds := [], alts := [], laidByText := true, laidKinds := [.wider, .wider, .data], laidTests := true, laidLooks := .later }
def TrailFlushesCardSaid : Prop := Claim7.holds Tryd.pinned (.plain (OpenSpec.ofChange trailFlushesSpec)) trailFlushesCard

/-- THE SECOND FORM's CARD OF 'portreevelaw08.TrailPlays'. -/
def trailPlaysUptoCard : Claim7 := { stood := { row := trailPlaysUptoRow, standIns := [], harness := (true, "0da72c4eacad5ef3872c388a731138d3868ae754384d64e26800f0c4b142c471"), looks := false }, kinds := [], alts := [], laidByText := true, laidKinds := [.wider, .wider, .data], laidTests := true, laidLooks := .later }
def TrailPlaysUptoCardSaid : Prop := Claim7.holds Tryd.pinned (.plain (OpenSpec.upto trailPlaysSpec)) trailPlaysUptoCard

/-- THE SECOND FORM's CARD OF 'portreevelaw08.TrailWalks'. -/
def trailWalksUptoCard : Claim7 := { stood := { row := trailWalksUptoRow, standIns := [], harness := (true, "0da72c4eacad5ef3872c388a731138d3868ae754384d64e26800f0c4b142c471"), looks := false }, kinds := [], alts := [], laidByText := true, laidKinds := [.wider, .wider, .data], laidTests := true, laidLooks := .later }
def TrailWalksUptoCardSaid : Prop := Claim7.holds Tryd.pinned (.plain (OpenSpec.upto trailWalksSpec)) trailWalksUptoCard

/-- THE SECOND FORM's CARD OF 'portreevelaw08.TrailFlushes'. -/
def trailFlushesUptoCard : Claim7 := { stood := { row := trailFlushesUptoRow, standIns := [], harness := (true, "0da72c4eacad5ef3872c388a731138d3868ae754384d64e26800f0c4b142c471"), looks := false }, kinds := [], alts := [], laidByText := true, laidKinds := [.wider, .wider, .data], laidTests := true, laidLooks := .later }
def TrailFlushesUptoCardSaid : Prop := Claim7.holds Tryd.pinned (.plain (OpenSpec.upto trailFlushesSpec)) trailFlushesUptoCard
end Rows
end Go.Proofs.YtdpcbdbdacjcbaaDoor
