/-
  DERIVED. GIVEN WITH THE SEED: THE PROGRAM's TIES (one call each: nine closed facts by the kernel) AND EACH ROW's TIE, after the 31st guide's Derived/Test/Toyas{Tie, Card}.lean. No idea stands in it: it is a product of the set-up. Laid BY PROGRAM, IN A SANDBOX (cutbox-door.mjs). By AI agents, Wed Nov 11 2026. No macro, syntax, notation, axiom, sorry.
-/
import Derived.Test.YtcmndefjmhcbhaaDoorRows
import Derived.LaidByTextLater
import Derived.SevenTiedAt
import Derived.LaidSub
import Derived.LaidOnce
namespace Go.Proofs.YtcmndefjmhcbhaaDoor
open Go
set_option maxRecDepth 100000
theorem seatTie1 : Tryd.prog.laidByTextLater [("portreeve/cap.kindPart", Rows.laid_portreeve_cap_kindPart), ("portreeve/cap.bitsPart", Rows.laid_portreeve_cap_bitsPart), ("portreeve/cap.rightsPart", Rows.laid_portreeve_cap_rightsPart), ("portreeve/cap.guardPart", Rows.laid_portreeve_cap_guardPart), ("portreeve/cap.asidPart", Rows.laid_portreeve_cap_asidPart), ("portreeve/cap.atPart", Rows.laid_portreeve_cap_atPart), ("portreeve/slot.nextPart", Rows.laid_portreeve_slot_nextPart), ("portreeve/slot.prevPart", Rows.laid_portreeve_slot_prevPart)] [.wider, .wider, .wider, .wider, .wider, .wider, .wider, .wider] true :=
  Program.laidByTextLater_by_one 55 8 4 (by kernel_rfl) (by kernel_rfl) (by kernel_rfl) (by kernel_rfl) (by kernel_rfl) (by kernel_rfl) (fun _ _ => by kernel_rfl)
theorem noOwnUnsafe : Tryd.pinned.checked.prog.headLifts.contains "ownunsafe" = false := by kernel_rfl
theorem tie : Tryd.prog.laidByTextLater [("portreeve/cap.kindPart", Rows.laid_portreeve_cap_kindPart), ("portreeve/cap.bitsPart", Rows.laid_portreeve_cap_bitsPart), ("portreeve/cap.rightsPart", Rows.laid_portreeve_cap_rightsPart), ("portreeve/cap.guardPart", Rows.laid_portreeve_cap_guardPart), ("portreeve/cap.asidPart", Rows.laid_portreeve_cap_asidPart), ("portreeve/cap.atPart", Rows.laid_portreeve_cap_atPart), ("portreeve/slot.nextPart", Rows.laid_portreeve_slot_nextPart), ("portreeve/slot.prevPart", Rows.laid_portreeve_slot_prevPart)] [.wider, .wider, .wider, .wider, .wider, .wider, .wider, .wider] true :=
  Program.laidByTextLater.sub seatTie1 ["portreeve/cap.kindPart", "portreeve/cap.bitsPart", "portreeve/cap.rightsPart", "portreeve/cap.guardPart", "portreeve/cap.asidPart", "portreeve/cap.atPart", "portreeve/slot.nextPart", "portreeve/slot.prevPart"] (by kernel_rfl) (by kernel_rfl)
theorem treeBelow_row_tie : Rows.treeBelowRow.laidByTextAt .later Tryd.pinned [.wider, .wider, .wider, .wider, .wider, .wider, .wider, .wider] true :=
  OpenClaim.laidByTextAt_later rfl rfl tie noOwnUnsafe
theorem treeWrites_row_tie : Rows.treeWritesRow.laidByTextAt .later Tryd.pinned [.wider, .wider, .wider, .wider, .wider, .wider, .wider, .wider] true :=
  OpenClaim.laidByTextAt_later rfl rfl tie noOwnUnsafe
theorem treeBelowUpto_row_tie : Rows.treeBelowUptoRow.laidByTextAt .later Tryd.pinned [.wider, .wider, .wider, .wider, .wider, .wider, .wider, .wider] true :=
  OpenClaim.laidByTextAt_later rfl rfl tie noOwnUnsafe
theorem treeWritesUpto_row_tie : Rows.treeWritesUptoRow.laidByTextAt .later Tryd.pinned [.wider, .wider, .wider, .wider, .wider, .wider, .wider, .wider] true :=
  OpenClaim.laidByTextAt_later rfl rfl tie noOwnUnsafe
end Go.Proofs.YtcmndefjmhcbhaaDoor
