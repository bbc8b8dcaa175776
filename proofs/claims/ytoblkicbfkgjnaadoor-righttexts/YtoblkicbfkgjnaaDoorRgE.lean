/- Rights, fifth part: the anchor of layer 10's statements. -/
import Derived.Test.YtoblkicbfkgjnaaDoorRgD
import Derived.Deep.RegionHeld3
namespace Go.Proofs.YtoblkicbfkgjnaaDoor
open Go.RowKit Go.Lib

set_option maxHeartbeats 4000000 in
set_option maxRecDepth 100000 in
theorem anchorR_any (w : World) (hF : Flds w) :
    Calls Tryd.prog 7 #[] w fun e w' => e = .returned (.bool true) ∧ Below w.heap.size w w' := by
  have cP := fun w1 => parse_any ⟨#[114, 45, 120]⟩ w1
  have cL : ∀ w1, Flds w1 → Calls Tryd.prog 16 #[.int .i64 3, .int .u64 20480, .int .i64 6] w1 _ := fun w1 h => leaf_any 3 3 (Or.inr (Or.inr ⟨rfl, rfl⟩)) 20480 (by omega) 6 (by omega) w1 h
  have cS : ∀ w1, Calls Tryd.prog 13 #[.int .i64 5] w1 _ := fun w1 => show_any 5 (by omega) w1
  have cO : ∀ w1, Calls Tryd.prog 19 #[.agg #[.int .i64 3, .int .u64 20480, .bool false, .bool false, .bool false, .bool true, .int .i64 0]] w1 _ := fun w1 => of_any 3 20480 false false false true 0 w1
  have e1 : pV ⟨#[114, 45, 120]⟩ = 5 := by decide +kernel
  have e2 : pOk ⟨#[114, 45, 120]⟩ = true := by decide +kernel
  have e3 : lfV 3 3 20480 6 = true := by decide +kernel
  have e4 : lfA true 3 20480 6 = #[.int .i64 3, .int .u64 20480, .bool false, .bool false, .bool false, .bool true, .int .i64 0] := rfl
  have e5 : (shL 5 3).toArray = #[114, 45, 120] := by decide +kernel
  have e6 : ofV 3 false false false true = 0 := by decide +kernel
  have e7 : lfE true = 0 := rfl
  rw [e1, e2] at cP
  rw [e3, e4, e7] at cL
  rw [e5] at cS
  rw [e6] at cO
  clear e1 e2 e3 e4 e5 e6 e7
  go_enter Tryd.func7, Tryd.ntmps7
  go_wp2_with fail
  refine (cP _).mono ?_
  rintro e w1 ⟨rfl, hb1⟩
  go_wp2_with fail
  refine (cL _ (hF.later hb1)).mono ?_
  rintro e w2 ⟨rfl, hb2⟩
  have hB : Below w.heap.size w w2 := below_tr hb1 hb2
  clear hb1 hb2 cP cL
  go_wp2_with fail
  refine (cS _).mono ?_
  rintro e w3 ⟨rfl, hb3⟩
  have g1 := block_later hb3 (heap_alloc_new _ _)
  have hB3 : Below w.heap.size w w3 := below_tr (hB.alloc hB.size _) hb3
  obtain ⟨k0, k1, k2, k3, k4, k5, k6⟩ := cells7r g1
  clear hb3 cS
  go_wp2_with fail
  refine (cO _).mono ?_
  rintro e w4 ⟨rfl, hb4⟩
  have hB4 : Below w.heap.size w w4 := below_tr hB3 hb4
  clear cO hb4
  go_wp2
  go_ret
  exact ⟨rfl, hB4⟩
end Go.Proofs.YtoblkicbfkgjnaaDoor
