/-
  DERIVED. GIVEN WITH THE SEED: THE CARDS: each row of YtoblkicbfkgjnaaDoorRows.lean that lists a variable, with what it lists TIED to the program's text (the seventh form; the later family's looks); each row that meets fmt, with fmt's text TOLD by the authors' own Lean function (tested against real Go, not proved from fmt's source: count such statements apart). THE CARD IS WHAT COUNTS. Prove the row's statement (the work); the ties are given (YtoblkicbfkgjnaaDoorTie.lean); close each card by the builder's one call (the guide's Derived/Test/ToyasCard.lean, 'card_holds'). Laid BY PROGRAM, IN A SANDBOX (cutbox-door.mjs). By AI agents, Wed Nov 11 2026. No macro, syntax, notation, axiom, sorry.
-/
import Derived.Test.YtoblkicbfkgjnaaDoorRows
import GoSem.ClaimSeven
namespace Go.Proofs.YtoblkicbfkgjnaaDoor
namespace Rows

/-- THE TIED CARD OF 'portreevelaw10.RightMeets'. -/
def rightMeetsCard : Claim7 := { stood := { row := rightMeetsRow, standIns := [], harness := (true, "ac74b455a32ef87a9844bfd761656230508b8111b78b1037231f7dd3cb109631"), looks := false }, kinds := [], alts := [], laidByText := true, laidKinds := [.wider], laidTests := true, laidLooks := .later }
def RightMeetsCardSaid : Prop := Claim7.holds Tryd.pinned (.plain (OpenSpec.ofChange rightMeetsSpec)) rightMeetsCard

/-- THE TIED CARD OF 'portreevelaw10.RightTexts'. -/
def rightTextsCard : Claim7 := { stood := { row := rightTextsRow, standIns := [], harness := (true, "ac74b455a32ef87a9844bfd761656230508b8111b78b1037231f7dd3cb109631"), looks := false }, kinds := [], alts := [], laidByText := true, laidKinds := [.wider], laidTests := true, laidLooks := .later }
def RightTextsCardSaid : Prop := Claim7.holds Tryd.pinned (.plain (OpenSpec.ofChange rightTextsSpec)) rightTextsCard

/-- THE TIED CARD OF 'portreevelaw10.RightLeaves'. -/
def rightLeavesCard : Claim7 := { stood := { row := rightLeavesRow, standIns := [], harness := (true, "ac74b455a32ef87a9844bfd761656230508b8111b78b1037231f7dd3cb109631"), looks := false }, kinds := [], alts := [], laidByText := true, laidKinds := [.wider], laidTests := true, laidLooks := .later }
def RightLeavesCardSaid : Prop := Claim7.holds Tryd.pinned (.plain (OpenSpec.ofChange rightLeavesSpec)) rightLeavesCard

/-- THE TIED CARD OF 'portreevelaw10.RightOf'. -/
def rightOfCard : Claim7 := { stood := { row := rightOfRow, standIns := [], harness := (true, "ac74b455a32ef87a9844bfd761656230508b8111b78b1037231f7dd3cb109631"), looks := false }, kinds := [], alts := [], laidByText := true, laidKinds := [.wider], laidTests := true, laidLooks := .later }
def RightOfCardSaid : Prop := Claim7.holds Tryd.pinned (.plain (OpenSpec.ofChange rightOfSpec)) rightOfCard

/-- THE SECOND FORM's CARD OF 'portreevelaw10.RightMeets'. -/
def rightMeetsUptoCard : Claim7 := { stood := { row := rightMeetsUptoRow, standIns := [], harness := (true, "ac74b455a32ef87a9844bfd761656230508b8111b78b1037231f7dd3cb109631"), looks := false }, kinds := [], alts := [], laidByText := true, laidKinds := [.wider], laidTests := true, laidLooks := .later }
def RightMeetsUptoCardSaid : Prop := Claim7.holds Tryd.pinned (.plain (OpenSpec.upto rightMeetsSpec)) rightMeetsUptoCard

/-- THE SECOND FORM's CARD OF 'portreevelaw10.RightTexts'. -/
def rightTextsUptoCard : Claim7 := { stood := { row := rightTextsUptoRow, standIns := [], harness := (true, "ac74b455a32ef87a9844bfd761656230508b8111b78b1037231f7dd3cb109631"), looks := false }, kinds := [], alts := [], laidByText := true, laidKinds := [.wider], laidTests := true, laidLooks := .later }
def RightTextsUptoCardSaid : Prop := Claim7.holds Tryd.pinned (.plain (OpenSpec.upto rightTextsSpec)) rightTextsUptoCard

/-- THE SECOND FORM's CARD OF 'portreevelaw10.RightLeaves'. -/
def rightLeavesUptoCard : Claim7 := { stood := { row := rightLeavesUptoRow, standIns := [], harness := (true, "ac74b455a32ef87a9844bfd761656230508b8111b78b1037231f7dd3cb109631"), looks := false }, kinds := [], alts := [], laidByText := true, laidKinds := [.wider], laidTests := true, laidLooks := .later }
def RightLeavesUptoCardSaid : Prop := Claim7.holds Tryd.pinned (.plain (OpenSpec.upto rightLeavesSpec)) rightLeavesUptoCard

/-- THE SECOND FORM's CARD OF 'portreevelaw10.RightOf'. -/
def rightOfUptoCard : Claim7 := { stood := { row := rightOfUptoRow, standIns := [], harness := (true, "ac74b455a32ef87a9844bfd761656230508b8111b78b1037231f7dd3cb109631"), looks := false }, kinds := [], alts := [], laidByText := true, laidKinds := [.wider], laidTests := true, laidLooks := .later }
def RightOfUptoCardSaid : Prop := Claim7.holds Tryd.pinned (.plain (OpenSpec.upto rightOfSpec)) rightOfUptoCard
end Rows
end Go.Proofs.YtoblkicbfkgjnaaDoor
