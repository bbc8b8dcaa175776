/-
  DERIVED. GIVEN WITH THE SEED: THE PROGRAM's TIES (one call each: nine closed facts by the kernel) AND EACH ROW's TIE, after the 31st guide's Derived/Test/Toyas{Tie, Card}.lean. No idea stands in it: it is a product of the set-up. Laid BY PROGRAM, IN A SANDBOX (cutbox-door.mjs). By AI agents, Wed Nov 11 2026. No macro, syntax, notation, axiom, sorry.
-/
import Derived.Test.YtkedoajkdobjdaaDoorRows
import Derived.LaidByTextLater
import Derived.SevenTiedAt
import Derived.LaidSub
import Derived.LaidOnce
namespace Go.Proofs.YtkedoajkdobjdaaDoor
open Go
set_option maxRecDepth 100000
theorem seatTie1 : Tryd.prog.laidByTextLater [("math/bits.deBruijn32tab", Rows.laid_math_bits_deBruijn32tab), ("math/bits.deBruijn64tab", Rows.laid_math_bits_deBruijn64tab), ("internal/strconv.uint64pow10", Rows.laid_internal_strconv_uint64pow10), ("portreeve/cap.names", Rows.laid_portreeve_cap_names), ("portreeve/cap.kindPart", Rows.laid_portreeve_cap_kindPart), ("portreeve/cap.bitsPart", Rows.laid_portreeve_cap_bitsPart), ("portreeve/cap.rightsPart", Rows.laid_portreeve_cap_rightsPart), ("portreeve/cap.guardPart", Rows.laid_portreeve_cap_guardPart), ("portreeve/cap.asidPart", Rows.laid_portreeve_cap_asidPart), ("portreeve/cap.atPart", Rows.laid_portreeve_cap_atPart)] [.data, .data, .data, .data, .wider, .wider, .wider, .wider, .wider, .wider] true :=
  Program.laidByTextLater_by_one 65 8 65 (by kernel_rfl) (by kernel_rfl) (by kernel_rfl) (by kernel_rfl) (by kernel_rfl) (by kernel_rfl) (fun _ _ => by kernel_rfl)
theorem noOwnUnsafe : Tryd.pinned.checked.prog.headLifts.contains "ownunsafe" = false := by kernel_rfl
theorem tie : Tryd.prog.laidByTextLater [("portreeve/cap.kindPart", Rows.laid_portreeve_cap_kindPart), ("portreeve/cap.bitsPart", Rows.laid_portreeve_cap_bitsPart), ("portreeve/cap.rightsPart", Rows.laid_portreeve_cap_rightsPart), ("portreeve/cap.guardPart", Rows.laid_portreeve_cap_guardPart), ("portreeve/cap.asidPart", Rows.laid_portreeve_cap_asidPart), ("portreeve/cap.atPart", Rows.laid_portreeve_cap_atPart)] [.wider, .wider, .wider, .wider, .wider, .wider] true :=
  Program.laidByTextLater.sub seatTie1 ["portreeve/cap.kindPart", "portreeve/cap.bitsPart", "portreeve/cap.rightsPart", "portreeve/cap.guardPart", "portreeve/cap.asidPart", "portreeve/cap.atPart"] (by kernel_rfl) (by kernel_rfl)
theorem capWords_row_tie : Rows.capWordsRow.laidByTextAt .later Tryd.pinned [.wider, .wider, .wider, .wider, .wider, .wider] true :=
  OpenClaim.laidByTextAt_later rfl rfl tie noOwnUnsafe
theorem capReads_row_tie : Rows.capReadsRow.laidByTextAt .later Tryd.pinned [.wider, .wider, .wider, .wider, .wider, .wider] true :=
  OpenClaim.laidByTextAt_later rfl rfl tie noOwnUnsafe
theorem capSizes_row_tie : Rows.capSizesRow.laidByTextAt .later Tryd.pinned [.wider, .wider, .wider, .wider, .wider, .wider] true :=
  OpenClaim.laidByTextAt_later rfl rfl tie noOwnUnsafe
theorem capObjects_row_tie : Rows.capObjectsRow.laidByTextAt .later Tryd.pinned [.wider, .wider, .wider, .wider, .wider, .wider] true :=
  OpenClaim.laidByTextAt_later rfl rfl tie noOwnUnsafe
theorem capCovers_row_tie : Rows.capCoversRow.laidByTextAt .later Tryd.pinned [.wider, .wider, .wider, .wider, .wider, .wider] true :=
  OpenClaim.laidByTextAt_later rfl rfl tie noOwnUnsafe
theorem tie2 : Tryd.prog.laidByTextLater [("portreeve/cap.names", Rows.laid_portreeve_cap_names), ("portreeve/cap.kindPart", Rows.laid_portreeve_cap_kindPart), ("portreeve/cap.bitsPart", Rows.laid_portreeve_cap_bitsPart), ("portreeve/cap.rightsPart", Rows.laid_portreeve_cap_rightsPart), ("portreeve/cap.guardPart", Rows.laid_portreeve_cap_guardPart), ("portreeve/cap.asidPart", Rows.laid_portreeve_cap_asidPart), ("portreeve/cap.atPart", Rows.laid_portreeve_cap_atPart)] [.data, .wider, .wider, .wider, .wider, .wider, .wider] true :=
  Program.laidByTextLater.sub seatTie1 ["portreeve/cap.names", "portreeve/cap.kindPart", "portreeve/cap.bitsPart", "portreeve/cap.rightsPart", "portreeve/cap.guardPart", "portreeve/cap.asidPart", "portreeve/cap.atPart"] (by kernel_rfl) (by kernel_rfl)
theorem capNames_row_tie : Rows.capNamesRow.laidByTextAt .later Tryd.pinned [.data, .wider, .wider, .wider, .wider, .wider, .wider] true :=
  OpenClaim.laidByTextAt_later rfl rfl tie2 noOwnUnsafe
theorem tie3 : Tryd.prog.laidByTextLater [("math/bits.deBruijn32tab", Rows.laid_math_bits_deBruijn32tab), ("math/bits.deBruijn64tab", Rows.laid_math_bits_deBruijn64tab), ("internal/strconv.uint64pow10", Rows.laid_internal_strconv_uint64pow10), ("portreeve/cap.names", Rows.laid_portreeve_cap_names), ("portreeve/cap.kindPart", Rows.laid_portreeve_cap_kindPart), ("portreeve/cap.bitsPart", Rows.laid_portreeve_cap_bitsPart), ("portreeve/cap.rightsPart", Rows.laid_portreeve_cap_rightsPart), ("portreeve/cap.guardPart", Rows.laid_portreeve_cap_guardPart), ("portreeve/cap.asidPart", Rows.laid_portreeve_cap_asidPart), ("portreeve/cap.atPart", Rows.laid_portreeve_cap_atPart)] [.data, .data, .data, .data, .wider, .wider, .wider, .wider, .wider, .wider] true :=
  Program.laidByTextLater.sub seatTie1 ["math/bits.deBruijn32tab", "math/bits.deBruijn64tab", "internal/strconv.uint64pow10", "portreeve/cap.names", "portreeve/cap.kindPart", "portreeve/cap.bitsPart", "portreeve/cap.rightsPart", "portreeve/cap.guardPart", "portreeve/cap.asidPart", "portreeve/cap.atPart"] (by kernel_rfl) (by kernel_rfl)
theorem capShows_row_tie : Rows.capShowsRow.laidByTextAt .later Tryd.pinned [.data, .data, .data, .data, .wider, .wider, .wider, .wider, .wider, .wider] true :=
  OpenClaim.laidByTextAt_later rfl rfl tie3 noOwnUnsafe
theorem capWordsUpto_row_tie : Rows.capWordsUptoRow.laidByTextAt .later Tryd.pinned [.wider, .wider, .wider, .wider, .wider, .wider] true :=
  OpenClaim.laidByTextAt_later rfl rfl tie noOwnUnsafe
theorem capReadsUpto_row_tie : Rows.capReadsUptoRow.laidByTextAt .later Tryd.pinned [.wider, .wider, .wider, .wider, .wider, .wider] true :=
  OpenClaim.laidByTextAt_later rfl rfl tie noOwnUnsafe
theorem capSizesUpto_row_tie : Rows.capSizesUptoRow.laidByTextAt .later Tryd.pinned [.wider, .wider, .wider, .wider, .wider, .wider] true :=
  OpenClaim.laidByTextAt_later rfl rfl tie noOwnUnsafe
theorem capObjectsUpto_row_tie : Rows.capObjectsUptoRow.laidByTextAt .later Tryd.pinned [.wider, .wider, .wider, .wider, .wider, .wider] true :=
  OpenClaim.laidByTextAt_later rfl rfl tie noOwnUnsafe
theorem capNamesUpto_row_tie : Rows.capNamesUptoRow.laidByTextAt .later Tryd.pinned [.data, .wider, .wider, .wider, .wider, .wider, .wider] true :=
  OpenClaim.laidByTextAt_later rfl rfl tie2 noOwnUnsafe
theorem capCoversUpto_row_tie : Rows.capCoversUptoRow.laidByTextAt .later Tryd.pinned [.wider, .wider, .wider, .wider, .wider, .wider] true :=
  OpenClaim.laidByTextAt_later rfl rfl tie noOwnUnsafe
theorem capShowsUpto_row_tie : Rows.capShowsUptoRow.laidByTextAt .later Tryd.pinned [.data, .data, .data, .data, .wider, .wider, .wider, .wider, .wider, .wider] true :=
  OpenClaim.laidByTextAt_later rfl rfl tie3 noOwnUnsafe
end Go.Proofs.YtkedoajkdobjdaaDoor
