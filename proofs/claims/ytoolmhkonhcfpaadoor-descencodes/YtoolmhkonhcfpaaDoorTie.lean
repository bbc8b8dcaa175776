/-
  DERIVED. GIVEN WITH THE SEED: THE PROGRAM's TIES (one call each: nine closed facts by the kernel) AND EACH ROW's TIE, after the 31st guide's Derived/Test/Toyas{Tie, Card}.lean. No idea stands in it: it is a product of the set-up. Laid BY PROGRAM, IN A SANDBOX (cutbox-door.mjs). By AI agents, Wed Nov 11 2026. No macro, syntax, notation, axiom, sorry.
-/
import Derived.Test.YtoolmhkonhcfpaaDoorRows
import Derived.LaidByTextLater
import Derived.SevenTiedAt
import Derived.LaidSub
import Derived.LaidOnce
namespace Go.Proofs.YtoolmhkonhcfpaaDoor
open Go
set_option maxRecDepth 100000
theorem seatTie1 : Tryd.prog.laidByTextLater [("portreeve/desc.attrField", Rows.laid_portreeve_desc_attrField), ("portreeve/desc.outField", Rows.laid_portreeve_desc_outField), ("portreeve/desc.asidField", Rows.laid_portreeve_desc_asidField)] [.wider, .wider, .wider] true :=
  Program.laidByTextLater_by_one 24 8 3 (by kernel_rfl) (by kernel_rfl) (by kernel_rfl) (by kernel_rfl) (by kernel_rfl) (by kernel_rfl) (fun _ _ => by kernel_rfl)
theorem noOwnUnsafe : Tryd.pinned.checked.prog.headLifts.contains "ownunsafe" = false := by kernel_rfl
theorem tie : Tryd.prog.laidByTextLater [("portreeve/desc.attrField", Rows.laid_portreeve_desc_attrField), ("portreeve/desc.outField", Rows.laid_portreeve_desc_outField)] [.wider, .wider] true :=
  Program.laidByTextLater.sub seatTie1 ["portreeve/desc.attrField", "portreeve/desc.outField"] (by kernel_rfl) (by kernel_rfl)
theorem descEncodes_row_tie : Rows.descEncodesRow.laidByTextAt .later Tryd.pinned [.wider, .wider] true :=
  OpenClaim.laidByTextAt_later rfl rfl tie noOwnUnsafe
theorem descDecodes_row_tie : Rows.descDecodesRow.laidByTextAt .later Tryd.pinned [.wider, .wider] true :=
  OpenClaim.laidByTextAt_later rfl rfl tie noOwnUnsafe
theorem descBits_row_tie : Rows.descBitsRow.laidByTextAt .later Tryd.pinned [.wider, .wider] true :=
  OpenClaim.laidByTextAt_later rfl rfl tie noOwnUnsafe
theorem tie2 : Tryd.prog.laidByTextLater [("portreeve/desc.attrField", Rows.laid_portreeve_desc_attrField), ("portreeve/desc.outField", Rows.laid_portreeve_desc_outField), ("portreeve/desc.asidField", Rows.laid_portreeve_desc_asidField)] [.wider, .wider, .wider] true :=
  Program.laidByTextLater.sub seatTie1 ["portreeve/desc.attrField", "portreeve/desc.outField", "portreeve/desc.asidField"] (by kernel_rfl) (by kernel_rfl)
theorem descBases_row_tie : Rows.descBasesRow.laidByTextAt .later Tryd.pinned [.wider, .wider, .wider] true :=
  OpenClaim.laidByTextAt_later rfl rfl tie2 noOwnUnsafe
theorem descEncodesUpto_row_tie : Rows.descEncodesUptoRow.laidByTextAt .later Tryd.pinned [.wider, .wider] true :=
  OpenClaim.laidByTextAt_later rfl rfl tie noOwnUnsafe
theorem descDecodesUpto_row_tie : Rows.descDecodesUptoRow.laidByTextAt .later Tryd.pinned [.wider, .wider] true :=
  OpenClaim.laidByTextAt_later rfl rfl tie noOwnUnsafe
theorem descBasesUpto_row_tie : Rows.descBasesUptoRow.laidByTextAt .later Tryd.pinned [.wider, .wider, .wider] true :=
  OpenClaim.laidByTextAt_later rfl rfl tie2 noOwnUnsafe
theorem descBitsUpto_row_tie : Rows.descBitsUptoRow.laidByTextAt .later Tryd.pinned [.wider, .wider] true :=
  OpenClaim.laidByTextAt_later rfl rfl tie noOwnUnsafe
end Go.Proofs.YtoolmhkonhcfpaaDoor
