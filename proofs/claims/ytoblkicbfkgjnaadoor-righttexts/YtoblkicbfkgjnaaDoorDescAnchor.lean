/- The anchor of layer 4's statements: the document's example. And the document's table of covered bits. -/
import Derived.Test.YtoblkicbfkgjnaaDoorDescMath
namespace Go.Proofs.YtoblkicbfkgjnaaDoor
open Go.RowKit

theorem low_lv {l : Int} (hl : isLv l = true) : l = 0 ∨ l = 1 ∨ l = 2 ∨ l = 3 := by have := isLv_of hl; omega

set_option maxHeartbeats 2000000 in
theorem refLow_any (l : Int) (hl : isLv l = true) (w : World) :
    Calls Tryd.prog 31 #[.int .i64 l] w fun e w' => e = .returned (.int .i64 (lowL l)) ∧ Below w.heap.size w w' := by
  rcases low_lv hl with rfl | rfl | rfl | rfl
  all_goals
    go_enter Tryd.func31, Tryd.ntmps31
    go_wp2
    go_ret
    exact ⟨rfl, below_new _ _⟩

end Go.Proofs.YtoblkicbfkgjnaaDoor
