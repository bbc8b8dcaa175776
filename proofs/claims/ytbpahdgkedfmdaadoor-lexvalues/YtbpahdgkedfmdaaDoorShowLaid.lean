/- The one cell of math/bits.deBruijn64tab that Show reads, out of what a tied row lists. -/
import Derived.Test.YtbpahdgkedfmdaaDoorShowWalks
import Derived.Test.YtbpahdgkedfmdaaDoorLaidFrame
namespace Go.Proofs.YtbpahdgkedfmdaaDoor
open Go.Lib

def db64 : List Int := [0, 1, 56, 2, 57, 49, 28, 3, 61, 58, 42, 50, 38, 29, 17, 4, 62, 47, 59, 36, 45, 43, 51, 22, 53, 39, 33, 30, 24, 18, 12, 5, 63, 55, 48, 27, 60, 41, 37, 16, 46, 35, 44, 21, 52, 32, 23, 11, 54, 26, 40, 15, 34, 20, 31, 10, 25, 14, 19, 9, 13, 8, 7, 6]
theorem db_eq : (Rows.laid_math_bits_deBruijn64tab : DataW Unit) = Lib.tabData .u8 db64 := by kernel_rfl
theorem tz_of_reads {W : World} (h : VarReads Tryd.prog W "math/bits.deBruijn64tab" (Lib.tabData .u8 db64)) : Tz W := by
  obtain ⟨g, t, cs, fuel, p, hg, hty, hvar, hd⟩ := h
  obtain rfl := Option.some.inj ((show Tryd.prog.globalNamed "math/bits.deBruijn64tab" = some 5 by kernel_rfl).symm.trans hg)
  obtain rfl := Option.some.inj ((show (Tryd.prog.globals[5]?).map (·.type) = some 95 by kernel_rfl).symm.trans hty)
  have hcs := cells_of_tab Tryd.underlying95 Tryd.underlying5 (by kernel_rfl) (by kernel_rfl) hd
  unfold Tz
  rw [World.var?_cell hg hvar 15, ← Array.getElem?_toList, hcs]
  rfl
end Go.Proofs.YtbpahdgkedfmdaaDoor
