/-
  DERIVED. GIVEN WITH THE SEED: THE CARDS: each row of YtoolmhkonhcfpaaDoorRows.lean that lists a variable, with what it lists TIED to the program's text (the seventh form; the later family's looks); each row that meets fmt, with fmt's text TOLD by the authors' own Lean function (tested against real Go, not proved from fmt's source: count such statements apart). THE CARD IS WHAT COUNTS. Prove the row's statement (the work); the ties are given (YtoolmhkonhcfpaaDoorTie.lean); close each card by the builder's one call (the guide's Derived/Test/ToyasCard.lean, 'card_holds'). Laid BY PROGRAM, IN A SANDBOX (cutbox-door.mjs). By AI agents, Wed Nov 11 2026. No macro, syntax, notation, axiom, sorry.
-/
import Derived.Test.YtoolmhkonhcfpaaDoorRows
import GoSem.ClaimSeven
namespace Go.Proofs.YtoolmhkonhcfpaaDoor
namespace Rows

/-- THE TIED CARD OF 'portreevelaw04.DescEncodes'. -/
def descEncodesCard : Claim7 := { stood := { row := descEncodesRow, standIns := [], harness := (true, "b33a189543569f890d96ac58fa03e0b39ab0b2c6104d718656e86ab74bfdc420"), looks := false }, kinds := [], alts := [], laidByText := true, laidKinds := [.wider, .wider], laidTests := true, laidLooks := .later }
def DescEncodesCardSaid : Prop := Claim7.holds Tryd.pinned (.plain (OpenSpec.ofChange descEncodesSpec)) descEncodesCard

/-- THE TIED CARD OF 'portreevelaw04.DescDecodes'. -/
def descDecodesCard : Claim7 := { stood := { row := descDecodesRow, standIns := [], harness := (true, "b33a189543569f890d96ac58fa03e0b39ab0b2c6104d718656e86ab74bfdc420"), looks := false }, kinds := [], alts := [], laidByText := true, laidKinds := [.wider, .wider], laidTests := true, laidLooks := .later }
def DescDecodesCardSaid : Prop := Claim7.holds Tryd.pinned (.plain (OpenSpec.ofChange descDecodesSpec)) descDecodesCard

/-- THE TIED CARD OF 'portreevelaw04.DescBases'. -/
def descBasesCard : Claim7 := { stood := { row := descBasesRow, standIns := [], harness := (true, "b33a189543569f890d96ac58fa03e0b39ab0b2c6104d718656e86ab74bfdc420"), looks := false }, kinds := [], alts := [], laidByText := true, laidKinds := [.wider, .wider, .wider], laidTests := true, laidLooks := .later }
def DescBasesCardSaid : Prop := Claim7.holds Tryd.pinned (.plain (OpenSpec.ofChange descBasesSpec)) descBasesCard

/-- THE TIED CARD OF 'portreevelaw04.DescBits'. -/
def descBitsCard : Claim7 := { stood := { row := descBitsRow, standIns := [], harness := (true, "b33a189543569f890d96ac58fa03e0b39ab0b2c6104d718656e86ab74bfdc420"), looks := false }, kinds := [], alts := [], laidByText := true, laidKinds := [.wider, .wider], laidTests := true, laidLooks := .later }
def DescBitsCardSaid : Prop := Claim7.holds Tryd.pinned (.plain (OpenSpec.ofChange descBitsSpec)) descBitsCard

/-- THE SECOND FORM's CARD OF 'portreevelaw04.DescEncodes'. -/
def descEncodesUptoCard : Claim7 := { stood := { row := descEncodesUptoRow, standIns := [], harness := (true, "b33a189543569f890d96ac58fa03e0b39ab0b2c6104d718656e86ab74bfdc420"), looks := false }, kinds := [], alts := [], laidByText := true, laidKinds := [.wider, .wider], laidTests := true, laidLooks := .later }
def DescEncodesUptoCardSaid : Prop := Claim7.holds Tryd.pinned (.plain (OpenSpec.upto descEncodesSpec)) descEncodesUptoCard

/-- THE SECOND FORM's CARD OF 'portreevelaw04.DescDecodes'. -/
def descDecodesUptoCard : Claim7 := { stood := { row := descDecodesUptoRow, standIns := [], harness := (true, "b33a189543569f890d96ac58fa03e0b39ab0b2c6104d718656e86ab74bfdc420"), looks := false }, kinds := [], alts := [], laidByText := true, laidKinds := [.wider, .wider], laidTests := true, laidLooks := .later }
def DescDecodesUptoCardSaid : Prop := Claim7.holds Tryd.pinned (.plain (OpenSpec.upto descDecodesSpec)) descDecodesUptoCard

/-- THE SECOND FORM's CARD OF 'portreevelaw04.DescBases'. -/
def descBasesUptoCard : Claim7 := { stood := { row := descBasesUptoRow, standIns := [], harness := (true, "b33a189543569f890d96ac58fa03e0b39ab0b2c6104d718656e86ab74bfdc420"), looks := false }, kinds := [], alts := [], laidByText := true, laidKinds := [.wider, .wider, .wider], laidTests := true, laidLooks := .later }
def DescBasesUptoCardSaid : Prop := Claim7.holds Tryd.pinned (.plain (OpenSpec.upto descBasesSpec)) descBasesUptoCard

/-- THE SECOND FORM's CARD OF 'portreevelaw04.DescBits'. -/
def descBitsUptoCard : Claim7 := { stood := { row := descBitsUptoRow, standIns := [], harness := (true, "b33a189543569f890d96ac58fa03e0b39ab0b2c6104d718656e86ab74bfdc420"), looks := false }, kinds := [], alts := [], laidByText := true, laidKinds := [.wider, .wider], laidTests := true, laidLooks := .later }
def DescBitsUptoCardSaid : Prop := Claim7.holds Tryd.pinned (.plain (OpenSpec.upto descBitsSpec)) descBitsUptoCard
end Rows
end Go.Proofs.YtoolmhkonhcfpaaDoor
