/-
  DERIVED. GIVEN WITH THE SEED: THE CARDS: each row of YthebhgllnjgjhaaDoorRows.lean that lists a variable, with what it lists TIED to the program's text (the seventh form; the later family's looks); each row that meets fmt, with fmt's text TOLD by the authors' own Lean function (tested against real Go, not proved from fmt's source: count such statements apart). THE CARD IS WHAT COUNTS. Prove the row's statement (the work); the ties are given (YthebhgllnjgjhaaDoorTie.lean); close each card by the builder's one call (the guide's Derived/Test/ToyasCard.lean, 'card_holds'). Laid BY PROGRAM, IN A SANDBOX (cutbox-door.mjs). By AI agents, Wed Nov 11 2026. No macro, syntax, notation, axiom, sorry.
-/
import Derived.Test.YthebhgllnjgjhaaDoorRows
import GoSem.ClaimSeven
namespace Go.Proofs.YthebhgllnjgjhaaDoor
namespace Rows

/-- THE TIED CARD OF 'portreevelaw07.TlbPlays'. -/
def tlbPlaysCard : Claim7 := { stood := { row := tlbPlaysRow, standIns := [], harness := (true, "74e6248b23ff3e63acfd73279d8c40d99dd3cd432234783dc2ba99a85d9a3418"), looks := false }, kinds := [], alts := [], laidByText := true, laidKinds := [.wider], laidTests := true, laidLooks := .later }
def TlbPlaysCardSaid : Prop := Claim7.holds Tryd.pinned (.plain (OpenSpec.ofChange tlbPlaysSpec)) tlbPlaysCard

/-- THE TIED CARD OF 'portreevelaw07.TlbFlushes'. -/
def tlbFlushesCard : Claim7 := { stood := { row := tlbFlushesRow, standIns := [], harness := (true, "74e6248b23ff3e63acfd73279d8c40d99dd3cd432234783dc2ba99a85d9a3418"), looks := false }, kinds := [], alts := [], laidByText := true, laidKinds := [.wider], laidTests := true, laidLooks := .later }
def TlbFlushesCardSaid : Prop := Claim7.holds Tryd.pinned (.plain (OpenSpec.ofChange tlbFlushesSpec)) tlbFlushesCard

/-- THE TIED CARD OF 'portreevelaw07.TlbMatches'. -/
def tlbMatchesCard : Claim7 := { stood := { row := tlbMatchesRow, standIns := [], harness := (true, "74e6248b23ff3e63acfd73279d8c40d99dd3cd432234783dc2ba99a85d9a3418"), looks := false }, kinds := [], alts := [], laidByText := true, laidKinds := [.wider], laidTests := true, laidLooks := .later }
def TlbMatchesCardSaid : Prop := Claim7.holds Tryd.pinned (.plain (OpenSpec.ofChange tlbMatchesSpec)) tlbMatchesCard

/-- THE TIED CARD OF 'portreevelaw07.TlbClashes'. -/
def tlbClashesCard : Claim7 := { stood := { row := tlbClashesRow, standIns := [], harness := (true, "74e6248b23ff3e63acfd73279d8c40d99dd3cd432234783dc2ba99a85d9a3418"), looks := false }, kinds := [], alts := [], laidByText := true, laidKinds := [.wider], laidTests := true, laidLooks := .later }
def TlbClashesCardSaid : Prop := Claim7.holds Tryd.pinned (.plain (OpenSpec.ofChange tlbClashesSpec)) tlbClashesCard

/-- THE SECOND FORM's CARD OF 'portreevelaw07.TlbPlays'. -/
def tlbPlaysUptoCard : Claim7 := { stood := { row := tlbPlaysUptoRow, standIns := [], harness := (true, "74e6248b23ff3e63acfd73279d8c40d99dd3cd432234783dc2ba99a85d9a3418"), looks := false }, kinds := [], alts := [], laidByText := true, laidKinds := [.wider], laidTests := true, laidLooks := .later }
def TlbPlaysUptoCardSaid : Prop := Claim7.holds Tryd.pinned (.plain (OpenSpec.upto tlbPlaysSpec)) tlbPlaysUptoCard

/-- THE SECOND FORM's CARD OF 'portreevelaw07.TlbFlushes'. -/
def tlbFlushesUptoCard : Claim7 := { stood := { row := tlbFlushesUptoRow, standIns := [], harness := (true, "74e6248b23ff3e63acfd73279d8c40d99dd3cd432234783dc2ba99a85d9a3418"), looks := false }, kinds := [], alts := [], laidByText := true, laidKinds := [.wider], laidTests := true, laidLooks := .later }
def TlbFlushesUptoCardSaid : Prop := Claim7.holds Tryd.pinned (.plain (OpenSpec.upto tlbFlushesSpec)) tlbFlushesUptoCard

/-- THE SECOND FORM's CARD OF 'portreevelaw07.TlbMatches'. -/
def tlbMatchesUptoCard : Claim7 := { stood := { row := tlbMatchesUptoRow, standIns := [], harness := (true, "74e6248b23ff3e63acfd73279d8c40d99dd3cd432234783dc2ba99a85d9a3418"), looks := false }, kinds := [], alts := [], laidByText := true, laidKinds := [.wider], laidTests := true, laidLooks := .later }
def TlbMatchesUptoCardSaid : Prop := Claim7.holds Tryd.pinned (.plain (OpenSpec.upto tlbMatchesSpec)) tlbMatchesUptoCard

/-- THE SECOND FORM's CARD OF 'portreevelaw07.TlbClashes'. -/
def tlbClashesUptoCard : Claim7 := { stood := { row := tlbClashesUptoRow, standIns := [], harness := (true, "74e6248b23ff3e63acfd73279d8c40d99dd3cd432234783dc2ba99a85d9a3418"), looks := false }, kinds := [], alts := [], laidByText := true, laidKinds := [.wider], laidTests := true, laidLooks := .later }
def TlbClashesUptoCardSaid : Prop := Claim7.holds Tryd.pinned (.plain (OpenSpec.upto tlbClashesSpec)) tlbClashesUptoCard
end Rows
end Go.Proofs.YthebhgllnjgjhaaDoor
