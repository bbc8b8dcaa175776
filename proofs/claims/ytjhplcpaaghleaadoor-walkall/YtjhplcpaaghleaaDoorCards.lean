/-
  DERIVED. GIVEN WITH THE SEED: THE CARDS: each row of YtjhplcpaaghleaaDoorRows.lean that lists a variable, with what it lists TIED to the program's text (the seventh form; the later family's looks); each row that meets fmt, with fmt's text TOLD by the authors' own Lean function (tested against real Go, not proved from fmt's source: count such statements apart). THE CARD IS WHAT COUNTS. Prove the row's statement (the work); the ties are given (YtjhplcpaaghleaaDoorTie.lean); close each card by the builder's one call (the guide's Derived/Test/ToyasCard.lean, 'card_holds'). Laid BY PROGRAM, IN A SANDBOX (cutbox-door.mjs). By AI agents, Wed Nov 11 2026. No macro, syntax, notation, axiom, sorry.
-/
import Derived.Test.YtjhplcpaaghleaaDoorRows
import GoSem.ClaimSeven
namespace Go.Proofs.YtjhplcpaaghleaaDoor
namespace Rows

/-- THE TIED CARD OF 'portreevelaw06.WalkPlays'. -/
def walkPlaysCard : Claim7 := { stood := { row := walkPlaysRow, standIns := [], harness := (true, "0fdac4a509af74922fb0e673648bf42a26d1b50e06a2a21f74abd51b88fe2c10"), looks := false }, kinds := [], alts := [], laidByText := true, laidKinds := [.wider, .wider], laidTests := true, laidLooks := .later }
def WalkPlaysCardSaid : Prop := Claim7.holds Tryd.pinned (.plain (OpenSpec.ofChange walkPlaysSpec)) walkPlaysCard

/-- THE TIED CARD OF 'portreevelaw06.WalkRoots'. -/
def walkRootsCard : Claim7 := { stood := { row := walkRootsRow, standIns := [], harness := (true, "0fdac4a509af74922fb0e673648bf42a26d1b50e06a2a21f74abd51b88fe2c10"), looks := false }, kinds := [], alts := [], laidByText := true, laidKinds := [.wider, .wider], laidTests := true, laidLooks := .later }
def WalkRootsCardSaid : Prop := Claim7.holds Tryd.pinned (.plain (OpenSpec.ofChange walkRootsSpec)) walkRootsCard

/-- THE TIED CARD OF 'portreevelaw06.WalkStretch'. -/
def walkStretchCard : Claim7 := { stood := { row := walkStretchRow, standIns := [], harness := (true, "0fdac4a509af74922fb0e673648bf42a26d1b50e06a2a21f74abd51b88fe2c10"), looks := false }, kinds := [], alts := [], laidByText := true, laidKinds := [.wider, .wider], laidTests := true, laidLooks := .later }
def WalkStretchCardSaid : Prop := Claim7.holds Tryd.pinned (.plain (OpenSpec.ofChange walkStretchSpec)) walkStretchCard

/-- THE TIED CARD OF 'portreevelaw06.WalkAll'. -/
def walkAllCard : Claim7 := { stood := { row := walkAllRow, standIns := [], harness := (true, "0fdac4a509af74922fb0e673648bf42a26d1b50e06a2a21f74abd51b88fe2c10"), looks := false }, kinds := [], alts := [], laidByText := true, laidKinds := [.wider, .wider], laidTests := true, laidLooks := .later }
def WalkAllCardSaid : Prop := Claim7.holds Tryd.pinned (.plain (OpenSpec.ofChange walkAllSpec)) walkAllCard

/-- THE SECOND FORM's CARD OF 'portreevelaw06.WalkPlays'. -/
def walkPlaysUptoCard : Claim7 := { stood := { row := walkPlaysUptoRow, standIns := [], harness := (true, "0fdac4a509af74922fb0e673648bf42a26d1b50e06a2a21f74abd51b88fe2c10"), looks := false }, kinds := [], alts := [], laidByText := true, laidKinds := [.wider, .wider], laidTests := true, laidLooks := .later }
def WalkPlaysUptoCardSaid : Prop := Claim7.holds Tryd.pinned (.plain (OpenSpec.upto walkPlaysSpec)) walkPlaysUptoCard

/-- THE SECOND FORM's CARD OF 'portreevelaw06.WalkRoots'. -/
def walkRootsUptoCard : Claim7 := { stood := { row := walkRootsUptoRow, standIns := [], harness := (true, "0fdac4a509af74922fb0e673648bf42a26d1b50e06a2a21f74abd51b88fe2c10"), looks := false }, kinds := [], alts := [], laidByText := true, laidKinds := [.wider, .wider], laidTests := true, laidLooks := .later }
def WalkRootsUptoCardSaid : Prop := Claim7.holds Tryd.pinned (.plain (OpenSpec.upto walkRootsSpec)) walkRootsUptoCard

/-- THE SECOND FORM's CARD OF 'portreevelaw06.WalkStretch'. -/
def walkStretchUptoCard : Claim7 := { stood := { row := walkStretchUptoRow, standIns := [], harness := (true, "0fdac4a509af74922fb0e673648bf42a26d1b50e06a2a21f74abd51b88fe2c10"), looks := false }, kinds := [], alts := [], laidByText := true, laidKinds := [.wider, .wider], laidTests := true, laidLooks := .later }
def WalkStretchUptoCardSaid : Prop := Claim7.holds Tryd.pinned (.plain (OpenSpec.upto walkStretchSpec)) walkStretchUptoCard

/-- THE SECOND FORM's CARD OF 'portreevelaw06.WalkAll'. -/
def walkAllUptoCard : Claim7 := { stood := { row := walkAllUptoRow, standIns := [], harness := (true, "0fdac4a509af74922fb0e673648bf42a26d1b50e06a2a21f74abd51b88fe2c10"), looks := false }, kinds := [], alts := [], laidByText := true, laidKinds := [.wider, .wider], laidTests := true, laidLooks := .later }
def WalkAllUptoCardSaid : Prop := Claim7.holds Tryd.pinned (.plain (OpenSpec.upto walkAllSpec)) walkAllUptoCard
end Rows
end Go.Proofs.YtjhplcpaaghleaaDoor
