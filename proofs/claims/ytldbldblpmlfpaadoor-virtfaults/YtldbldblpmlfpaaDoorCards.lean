/-
  DERIVED. GIVEN WITH THE SEED: THE CARDS: each row of YtldbldblpmlfpaaDoorRows.lean that lists a variable, with what it lists TIED to the program's text (the seventh form; the later family's looks); each row that meets fmt, with fmt's text TOLD by the authors' own Lean function (tested against real Go, not proved from fmt's source: count such statements apart). THE CARD IS WHAT COUNTS. Prove the row's statement (the work); the ties are given (YtldbldblpmlfpaaDoorTie.lean); close each card by the builder's one call (the guide's Derived/Test/ToyasCard.lean, 'card_holds'). Laid BY PROGRAM, IN A SANDBOX (cutbox-door.mjs). By AI agents, Wed Nov 11 2026. No macro, syntax, notation, axiom, sorry.
-/
import Derived.Test.YtldbldblpmlfpaaDoorRows
import GoSem.ClaimSeven
namespace Go.Proofs.YtldbldblpmlfpaaDoor
namespace Rows

/-- THE TIED CARD OF 'portreevelaw05.VirtFaults'. -/
def virtFaultsCard : Claim7 := { stood := { row := virtFaultsRow, standIns := [], harness := (true, "d12cd496eb12a9b71901affacbb79a46bc858ba027e5457b468cfbc2179a55b3"), looks := false }, kinds := [], alts := [], laidByText := true, laidKinds := [.wider, .wider], laidTests := true, laidLooks := .later }
def VirtFaultsCardSaid : Prop := Claim7.holds Tryd.pinned (.plain (OpenSpec.ofChange virtFaultsSpec)) virtFaultsCard

/-- THE SECOND FORM's CARD OF 'portreevelaw05.VirtFaults'. -/
def virtFaultsUptoCard : Claim7 := { stood := { row := virtFaultsUptoRow, standIns := [], harness := (true, "d12cd496eb12a9b71901affacbb79a46bc858ba027e5457b468cfbc2179a55b3"), looks := false }, kinds := [], alts := [], laidByText := true, laidKinds := [.wider, .wider], laidTests := true, laidLooks := .later }
def VirtFaultsUptoCardSaid : Prop := Claim7.holds Tryd.pinned (.plain (OpenSpec.upto virtFaultsSpec)) virtFaultsUptoCard
end Rows
end Go.Proofs.YtldbldblpmlfpaaDoor
