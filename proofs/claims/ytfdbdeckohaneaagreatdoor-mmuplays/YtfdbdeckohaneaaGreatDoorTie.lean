/-
  DERIVED. GIVEN WITH THE SEED: THE PROGRAM's TIES (one call each: nine closed facts by the kernel) AND EACH ROW's TIE, after the 31st guide's Derived/Test/Toyas{Tie, Card}.lean. No idea stands in it: it is a product of the set-up. Laid BY PROGRAM, IN A SANDBOX (cutbox-door.mjs). By AI agents, Wed Nov 11 2026. No macro, syntax, notation, axiom, sorry.
-/
import Derived.Test.YtfdbdeckohaneaaGreatDoorRows
import Derived.LaidByTextLater
import Derived.SevenTiedAt
import Derived.LaidSub
import Derived.LaidOnce
namespace Go.Proofs.YtfdbdeckohaneaaGreatDoor
open Go
set_option maxRecDepth 100000
theorem seatTie1 : Tryz.prog.laidByTextLater [("portreeve/desc.attrField", Rows.laid_portreeve_desc_attrField), ("portreeve/desc.outField", Rows.laid_portreeve_desc_outField), ("portreeve/desc.asidField", Rows.laid_portreeve_desc_asidField), ("portreeve/trail.tableField", Rows.laid_portreeve_trail_tableField)] [.wider, .wider, .wider, .data] true :=
  Program.laidByTextLater_by_one 29 8 3 (by kernel_rfl) (by kernel_rfl) (by kernel_rfl) (by kernel_rfl) (by kernel_rfl) (by kernel_rfl) (fun _ _ => by kernel_rfl)
theorem noOwnUnsafe : Tryz.pinned.checked.prog.headLifts.contains "ownunsafe" = false := by kernel_rfl
theorem tie : Tryz.prog.laidByTextLater [("portreeve/desc.attrField", Rows.laid_portreeve_desc_attrField), ("portreeve/desc.outField", Rows.laid_portreeve_desc_outField), ("portreeve/desc.asidField", Rows.laid_portreeve_desc_asidField), ("portreeve/trail.tableField", Rows.laid_portreeve_trail_tableField)] [.wider, .wider, .wider, .data] true :=
  Program.laidByTextLater.sub seatTie1 ["portreeve/desc.attrField", "portreeve/desc.outField", "portreeve/desc.asidField", "portreeve/trail.tableField"] (by kernel_rfl) (by kernel_rfl)
theorem mmuPlays_row_tie : Rows.mmuPlaysRow.laidByTextAt .later Tryz.pinned [.wider, .wider, .wider, .data] true :=
  OpenClaim.laidByTextAt_later rfl rfl tie noOwnUnsafe
theorem mmuPlaysUpto_row_tie : Rows.mmuPlaysUptoRow.laidByTextAt .later Tryz.pinned [.wider, .wider, .wider, .data] true :=
  OpenClaim.laidByTextAt_later rfl rfl tie noOwnUnsafe
end Go.Proofs.YtfdbdeckohaneaaGreatDoor
