/-
  DERIVED. GIVEN WITH THE SEED: THE CARDS: each row of YtkedoajkdobjdaaDoorRows.lean that lists a variable, with what it lists TIED to the program's text (the seventh form; the later family's looks); each row that meets fmt, with fmt's text TOLD by the authors' own Lean function (tested against real Go, not proved from fmt's source: count such statements apart). THE CARD IS WHAT COUNTS. Prove the row's statement (the work); the ties are given (YtkedoajkdobjdaaDoorTie.lean); close each card by the builder's one call (the guide's Derived/Test/ToyasCard.lean, 'card_holds'). Laid BY PROGRAM, IN A SANDBOX (cutbox-door.mjs). By AI agents, Wed Nov 11 2026. No macro, syntax, notation, axiom, sorry.
-/
import Derived.Test.YtkedoajkdobjdaaDoorRows
import GoSem.ClaimSeven
namespace Go.Proofs.YtkedoajkdobjdaaDoor
namespace Rows

/-- THE TIED CARD OF 'portreevelaw11.CapWords'. -/
def capWordsCard : Claim7 := { stood := { row := capWordsRow, standIns := [], harness := (true, "15c0afbbc315a85b5ae6a646b904937f7d6e5730edf8178939acf2f9a513cb3e"), looks := true }, kinds := [], alts := [], laidByText := true, laidKinds := [.wider, .wider, .wider, .wider, .wider, .wider], laidTests := true, laidLooks := .later }
def CapWordsCardSaid : Prop := Claim7.holds Tryd.pinned (.plain (OpenSpec.ofChange capWordsSpec)) capWordsCard

/-- THE TIED CARD OF 'portreevelaw11.CapReads'. -/
def capReadsCard : Claim7 := { stood := { row := capReadsRow, standIns := [], harness := (true, "15c0afbbc315a85b5ae6a646b904937f7d6e5730edf8178939acf2f9a513cb3e"), looks := true }, kinds := [], alts := [], laidByText := true, laidKinds := [.wider, .wider, .wider, .wider, .wider, .wider], laidTests := true, laidLooks := .later }
def CapReadsCardSaid : Prop := Claim7.holds Tryd.pinned (.plain (OpenSpec.ofChange capReadsSpec)) capReadsCard

/-- THE TIED CARD OF 'portreevelaw11.CapSizes'. -/
def capSizesCard : Claim7 := { stood := { row := capSizesRow, standIns := [], harness := (true, "15c0afbbc315a85b5ae6a646b904937f7d6e5730edf8178939acf2f9a513cb3e"), looks := true }, kinds := [], alts := [], laidByText := true, laidKinds := [.wider, .wider, .wider, .wider, .wider, .wider], laidTests := true, laidLooks := .later }
def CapSizesCardSaid : Prop := Claim7.holds Tryd.pinned (.plain (OpenSpec.ofChange capSizesSpec)) capSizesCard

/-- THE TIED CARD OF 'portreevelaw11.CapObjects'. -/
def capObjectsCard : Claim7 := { stood := { row := capObjectsRow, standIns := [], harness := (true, "15c0afbbc315a85b5ae6a646b904937f7d6e5730edf8178939acf2f9a513cb3e"), looks := true }, kinds := [], alts := [], laidByText := true, laidKinds := [.wider, .wider, .wider, .wider, .wider, .wider], laidTests := true, laidLooks := .later }
def CapObjectsCardSaid : Prop := Claim7.holds Tryd.pinned (.plain (OpenSpec.ofChange capObjectsSpec)) capObjectsCard

/-- THE TIED CARD OF 'portreevelaw11.CapNames'. -/
def capNamesCard : Claim7 := { stood := { row := capNamesRow, standIns := [], harness := (true, "15c0afbbc315a85b5ae6a646b904937f7d6e5730edf8178939acf2f9a513cb3e"), looks := true }, kinds := [], alts := [], laidByText := true, laidKinds := [.data, .wider, .wider, .wider, .wider, .wider, .wider], laidTests := true, laidLooks := .later }
def CapNamesCardSaid : Prop := Claim7.holds Tryd.pinned (.plain (OpenSpec.ofChange capNamesSpec)) capNamesCard

/-- THE TIED CARD OF 'portreevelaw11.CapCovers'. -/
def capCoversCard : Claim7 := { stood := { row := capCoversRow, standIns := [], harness := (true, "15c0afbbc315a85b5ae6a646b904937f7d6e5730edf8178939acf2f9a513cb3e"), looks := true }, kinds := [], alts := [], laidByText := true, laidKinds := [.wider, .wider, .wider, .wider, .wider, .wider], laidTests := true, laidLooks := .later }
def CapCoversCardSaid : Prop := Claim7.holds Tryd.pinned (.plain (OpenSpec.ofChange capCoversSpec)) capCoversCard

/-- THE TIED CARD OF 'portreevelaw11.CapShows'. -/
def capShowsCard : Claim7 := { stood := { row := capShowsRow, standIns := [], harness := (true, "15c0afbbc315a85b5ae6a646b904937f7d6e5730edf8178939acf2f9a513cb3e"), looks := true }, kinds := [], alts := [], laidByText := true, laidKinds := [.data, .data, .data, .data, .wider, .wider, .wider, .wider, .wider, .wider], laidTests := true, laidLooks := .later }
def CapShowsCardSaid : Prop := Claim7.holds Tryd.pinned (.plain (OpenSpec.ofChange capShowsSpec)) capShowsCard

/-- THE SECOND FORM's CARD OF 'portreevelaw11.CapWords'. -/
def capWordsUptoCard : Claim7 := { stood := { row := capWordsUptoRow, standIns := [], harness := (true, "15c0afbbc315a85b5ae6a646b904937f7d6e5730edf8178939acf2f9a513cb3e"), looks := true }, kinds := [], alts := [], laidByText := true, laidKinds := [.wider, .wider, .wider, .wider, .wider, .wider], laidTests := true, laidLooks := .later }
def CapWordsUptoCardSaid : Prop := Claim7.holds Tryd.pinned (.plain (OpenSpec.upto capWordsSpec)) capWordsUptoCard

/-- THE SECOND FORM's CARD OF 'portreevelaw11.CapReads'. -/
def capReadsUptoCard : Claim7 := { stood := { row := capReadsUptoRow, standIns := [], harness := (true, "15c0afbbc315a85b5ae6a646b904937f7d6e5730edf8178939acf2f9a513cb3e"), looks := true }, kinds := [], alts := [], laidByText := true, laidKinds := [.wider, .wider, .wider, .wider, .wider, .wider], laidTests := true, laidLooks := .later }
def CapReadsUptoCardSaid : Prop := Claim7.holds Tryd.pinned (.plain (OpenSpec.upto capReadsSpec)) capReadsUptoCard

/-- THE SECOND FORM's CARD OF 'portreevelaw11.CapSizes'. -/
def capSizesUptoCard : Claim7 := { stood := { row := capSizesUptoRow, standIns := [], harness := (true, "15c0afbbc315a85b5ae6a646b904937f7d6e5730edf8178939acf2f9a513cb3e"), looks := true }, kinds := [], alts := [], laidByText := true, laidKinds := [.wider, .wider, .wider, .wider, .wider, .wider], laidTests := true, laidLooks := .later }
def CapSizesUptoCardSaid : Prop := Claim7.holds Tryd.pinned (.plain (OpenSpec.upto capSizesSpec)) capSizesUptoCard

/-- THE SECOND FORM's CARD OF 'portreevelaw11.CapObjects'. -/
def capObjectsUptoCard : Claim7 := { stood := { row := capObjectsUptoRow, standIns := [], harness := (true, "15c0afbbc315a85b5ae6a646b904937f7d6e5730edf8178939acf2f9a513cb3e"), looks := true }, kinds := [], alts := [], laidByText := true, laidKinds := [.wider, .wider, .wider, .wider, .wider, .wider], laidTests := true, laidLooks := .later }
def CapObjectsUptoCardSaid : Prop := Claim7.holds Tryd.pinned (.plain (OpenSpec.upto capObjectsSpec)) capObjectsUptoCard

/-- THE SECOND FORM's CARD OF 'portreevelaw11.CapNames'. -/
def capNamesUptoCard : Claim7 := { stood := { row := capNamesUptoRow, standIns := [], harness := (true, "15c0afbbc315a85b5ae6a646b904937f7d6e5730edf8178939acf2f9a513cb3e"), looks := true }, kinds := [], alts := [], laidByText := true, laidKinds := [.data, .wider, .wider, .wider, .wider, .wider, .wider], laidTests := true, laidLooks := .later }
def CapNamesUptoCardSaid : Prop := Claim7.holds Tryd.pinned (.plain (OpenSpec.upto capNamesSpec)) capNamesUptoCard

/-- THE SECOND FORM's CARD OF 'portreevelaw11.CapCovers'. -/
def capCoversUptoCard : Claim7 := { stood := { row := capCoversUptoRow, standIns := [], harness := (true, "15c0afbbc315a85b5ae6a646b904937f7d6e5730edf8178939acf2f9a513cb3e"), looks := true }, kinds := [], alts := [], laidByText := true, laidKinds := [.wider, .wider, .wider, .wider, .wider, .wider], laidTests := true, laidLooks := .later }
def CapCoversUptoCardSaid : Prop := Claim7.holds Tryd.pinned (.plain (OpenSpec.upto capCoversSpec)) capCoversUptoCard

/-- THE SECOND FORM's CARD OF 'portreevelaw11.CapShows'. -/
def capShowsUptoCard : Claim7 := { stood := { row := capShowsUptoRow, standIns := [], harness := (true, "15c0afbbc315a85b5ae6a646b904937f7d6e5730edf8178939acf2f9a513cb3e"), looks := true }, kinds := [], alts := [], laidByText := true, laidKinds := [.data, .data, .data, .data, .wider, .wider, .wider, .wider, .wider, .wider], laidTests := true, laidLooks := .later }
def CapShowsUptoCardSaid : Prop := Claim7.holds Tryd.pinned (.plain (OpenSpec.upto capShowsSpec)) capShowsUptoCard
end Rows
end Go.Proofs.YtkedoajkdobjdaaDoor
