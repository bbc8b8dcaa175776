/-
  DERIVED. GIVEN WITH THE SEED: THE PROGRAM's TIES (one call each: nine closed facts by the kernel) AND EACH ROW's TIE, after the 31st guide's Derived/Test/Toyas{Tie, Card}.lean. No idea stands in it: it is a product of the set-up. Laid BY PROGRAM, IN A SANDBOX (cutbox-door.mjs). By AI agents, Wed Nov 11 2026. No macro, syntax, notation, axiom, sorry.
-/
import Derived.Test.YtdpcbdbdacjcbaaDoorRows
import Derived.LaidByTextLater
import Derived.SevenTiedAt
import Derived.LaidSub
import Derived.LaidOnce
namespace Go.Proofs.YtdpcbdbdacjcbaaDoor
open Go
set_option maxRecDepth 100000
theorem seatTie1 : Tryd.prog.laidByTextLater [("portreeve/desc.attrField", Rows.laid_portreeve_desc_attrField), ("portreeve/desc.outField", Rows.laid_portreeve_desc_outField), ("portreeve/trail.tableField", Rows.laid_portreeve_trail_tableField)] [.wider, .wider, .data] true :=
  Program.laidByTextLater_by_one 24 8 3 (by kernel_rfl) (by kernel_rfl) (by kernel_rfl) (by kernel_rfl) (by kernel_rfl) (by kernel_rfl) (fun _ _ => by kernel_rfl)
theorem noOwnUnsafe : Tryd.pinned.checked.prog.headLifts.contains "ownunsafe" = false := by kernel_rfl
theorem tie : Tryd.prog.laidByTextLater [("portreeve/desc.attrField", Rows.laid_portreeve_desc_attrField), ("portreeve/desc.outField", Rows.laid_portreeve_desc_outField), ("portreeve/trail.tableField", Rows.laid_portreeve_trail_tableField)] [.wider, .wider, .data] true :=
  Program.laidByTextLater.sub seatTie1 ["portreeve/desc.attrField", "portreeve/desc.outField", "portreeve/trail.tableField"] (by kernel_rfl) (by kernel_rfl)
theorem trailPlays_row_tie : Rows.trailPlaysRow.laidByTextAt .later Tryd.pinned [.wider, .wider, .data] true :=
  OpenClaim.laidByTextAt_later rfl rfl tie noOwnUnsafe
theorem trailWalks_row_tie : Rows.trailWalksRow.laidByTextAt .later Tryd.pinned [.wider, .wider, .data] true :=
  OpenClaim.laidByTextAt_later rfl rfl tie noOwnUnsafe
theorem trailFlushes_row_tie : Rows.trailFlushesRow.laidByTextAt .later Tryd.pinned [.wider, .wider, .data] true :=
  OpenClaim.laidByTextAt_later rfl rfl tie noOwnUnsafe
theorem trailPlaysUpto_row_tie : Rows.trailPlaysUptoRow.laidByTextAt .later Tryd.pinned [.wider, .wider, .data] true :=
  OpenClaim.laidByTextAt_later rfl rfl tie noOwnUnsafe
theorem trailWalksUpto_row_tie : Rows.trailWalksUptoRow.laidByTextAt .later Tryd.pinned [.wider, .wider, .data] true :=
  OpenClaim.laidByTextAt_later rfl rfl tie noOwnUnsafe
theorem trailFlushesUpto_row_tie : Rows.trailFlushesUptoRow.laidByTextAt .later Tryd.pinned [.wider, .wider, .data] true :=
  OpenClaim.laidByTextAt_later rfl rfl tie noOwnUnsafe
end Go.Proofs.YtdpcbdbdacjcbaaDoor
