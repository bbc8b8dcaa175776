/-
  DERIVED. GIVEN WITH THE SEED: THE CARDS: each row of YtieldgocgjoojaaDoorRows.lean that lists a variable, with what it lists TIED to the program's text (the seventh form; the later family's looks); each row that meets fmt, with fmt's text TOLD by the authors' own Lean function (tested against real Go, not proved from fmt's source: count such statements apart). THE CARD IS WHAT COUNTS. Prove the row's statement (the work); the ties are given (YtieldgocgjoojaaDoorTie.lean); close each card by the builder's one call (the guide's Derived/Test/ToyasCard.lean, 'card_holds'). Laid BY PROGRAM, IN A SANDBOX (cutbox-door.mjs). By AI agents, Wed Nov 11 2026. No macro, syntax, notation, axiom, sorry.
-/
import Derived.Test.YtieldgocgjoojaaDoorRows
import GoSem.ClaimSeven
namespace Go.Proofs.YtieldgocgjoojaaDoor
namespace Rows

/-- THE TIED CARD OF 'portreevelaw12.SlotStores'. -/
def slotStoresCard : Claim7 := { stood := { row := slotStoresRow, standIns := [], harness := (true, "ca89bb602c61132629fbaee3310648a73f557314611769eb895add6bdd357bbb"), looks := false }, kinds := [], alts := [], laidByText := true, laidKinds := [.wider, .wider, .wider, .wider, .wider, .wider, .wider, .wider], laidTests := true, laidLooks := .later }
def SlotStoresCardSaid : Prop := Claim7.holds Tryd.pinned (.plain (OpenSpec.ofChange slotStoresSpec)) slotStoresCard

/-- THE TIED CARD OF 'portreevelaw12.SlotLoads'. -/
def slotLoadsCard : Claim7 := { stood := { row := slotLoadsRow, standIns := [], harness := (true, "ca89bb602c61132629fbaee3310648a73f557314611769eb895add6bdd357bbb"), looks := false }, kinds := [], alts := [], laidByText := true, laidKinds := [.wider, .wider, .wider, .wider, .wider, .wider, .wider, .wider], laidTests := true, laidLooks := .later }
def SlotLoadsCardSaid : Prop := Claim7.holds Tryd.pinned (.plain (OpenSpec.ofChange slotLoadsSpec)) slotLoadsCard

/-- THE TIED CARD OF 'portreevelaw12.SlotWipes'. -/
def slotWipesCard : Claim7 := { stood := { row := slotWipesRow, standIns := [], harness := (true, "ca89bb602c61132629fbaee3310648a73f557314611769eb895add6bdd357bbb"), looks := false }, kinds := [], alts := [], laidByText := true, laidKinds := [.wider, .wider, .wider, .wider, .wider, .wider, .wider, .wider], laidTests := true, laidLooks := .later }
def SlotWipesCardSaid : Prop := Claim7.holds Tryd.pinned (.plain (OpenSpec.ofChange slotWipesSpec)) slotWipesCard

/-- THE SECOND FORM's CARD OF 'portreevelaw12.SlotStores'. -/
def slotStoresUptoCard : Claim7 := { stood := { row := slotStoresUptoRow, standIns := [], harness := (true, "ca89bb602c61132629fbaee3310648a73f557314611769eb895add6bdd357bbb"), looks := false }, kinds := [], alts := [], laidByText := true, laidKinds := [.wider, .wider, .wider, .wider, .wider, .wider, .wider, .wider], laidTests := true, laidLooks := .later }
def SlotStoresUptoCardSaid : Prop := Claim7.holds Tryd.pinned (.plain (OpenSpec.upto slotStoresSpec)) slotStoresUptoCard

/-- THE SECOND FORM's CARD OF 'portreevelaw12.SlotLoads'. -/
def slotLoadsUptoCard : Claim7 := { stood := { row := slotLoadsUptoRow, standIns := [], harness := (true, "ca89bb602c61132629fbaee3310648a73f557314611769eb895add6bdd357bbb"), looks := false }, kinds := [], alts := [], laidByText := true, laidKinds := [.wider, .wider, .wider, .wider, .wider, .wider, .wider, .wider], laidTests := true, laidLooks := .later }
def SlotLoadsUptoCardSaid : Prop := Claim7.holds Tryd.pinned (.plain (OpenSpec.upto slotLoadsSpec)) slotLoadsUptoCard

/-- THE SECOND FORM's CARD OF 'portreevelaw12.SlotWipes'. -/
def slotWipesUptoCard : Claim7 := { stood := { row := slotWipesUptoRow, standIns := [], harness := (true, "ca89bb602c61132629fbaee3310648a73f557314611769eb895add6bdd357bbb"), looks := false }, kinds := [], alts := [], laidByText := true, laidKinds := [.wider, .wider, .wider, .wider, .wider, .wider, .wider, .wider], laidTests := true, laidLooks := .later }
def SlotWipesUptoCardSaid : Prop := Claim7.holds Tryd.pinned (.plain (OpenSpec.upto slotWipesSpec)) slotWipesUptoCard
end Rows
end Go.Proofs.YtieldgocgjoojaaDoor
