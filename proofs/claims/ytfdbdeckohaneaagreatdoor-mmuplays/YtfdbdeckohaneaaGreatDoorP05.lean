/- P05 -/
import Derived.Test.YtfdbdeckohaneaaGreatDoorP04
set_option maxHeartbeats 16000000
set_option maxRecDepth 100000
namespace Go.Proofs.YtfdbdeckohaneaaGreatDoor
open Go.RowKit
theorem low_lv {l : Int} (hl : isLv l = true) : l = 0 ∨ l = 1 ∨ l = 2 ∨ l = 3 := by have := qdf hl; omega
theorem refLow_any (l : Int) (hl : isLv l = true) (w : World) :
  Calls Tryz.prog 96 #[.int .i64 l] w fun e w' => e = .returned (.int .i64 (lowL l)) ∧ Below w.heap.size w w' := by
 rcases low_lv hl with rfl | rfl | rfl | rfl
 all_goals
  go_enter Tryz.func96, Tryz.ntmps96
  go_wp2
  go_ret
  exact ⟨rfl, qac _ _⟩
end Go.Proofs.YtfdbdeckohaneaaGreatDoor
