/- The walks of package desc, second part: leaves that are right. -/
import Derived.Test.YtoblkicbfkgjnaaDoorDescA
import Derived.Deep.RegionWith
namespace Go.Proofs.YtoblkicbfkgjnaaDoor
open Go.RowKit

theorem cell_alloc {W : World} {o : Obj} {a : Addr} {v : Value} (h : W.cell? a = some v) : (W.alloc o).cell? a = some v :=
  cell_later (below_new W o) h
theorem Flds.drew {w : World} (h : Flds w) : Flds w.drew := h.later (Below.refl _ _).drew
def leafB (l : Int) (o : Nat) (a : Int) : Bool := isOutB o (lowL l) && decide (0 ≤ a ∧ a ≤ 7)

set_option maxHeartbeats 2000000 in
theorem rightLeaf_any (l k : Int) (o : Nat) (u r x s : Bool) (a : Int) (ho : o < 18446744073709551616) (w : World) (hF : Flds w) :
    Calls Tryd.prog 27 #[.agg #[.int .i64 k, .int .u64 o, .bool u, .bool r, .bool x, .bool s, .int .i64 a], .int .i64 l] w fun e w' => e = .returned (.bool (leafB l o a)) ∧ Below w.heap.size w w' := by
  have hF1 := hF.alloc (.cells #[.int .i64 k, .int .u64 o, .bool u, .bool r, .bool x, .bool s, .int .i64 a] 32)
  have hB1 := (below_new w (.cells #[.int .i64 k, .int .u64 o, .bool u, .bool r, .bool x, .bool s, .int .i64 a] 32)).drew
  cases h1 : isOutB o (lowL l)
  · have HE : Hid (leafB l o a = false) := by show leafB l o a = _; unfold leafB; rw [h1]; rfl
    go_enter Tryd.func27, Tryd.ntmps27
    go_wp2
    first | (go_region_with (first
      | (go_at_call 34; refine (dbits_any _ _).mono ?_; rintro e w' ⟨rfl, rfl⟩)
      | (go_at_call 26; refine (isOut_any _ _ ho _ hF1.drew).mono ?_; rintro e w' ⟨rfl, hbm⟩; rw [h1]))) | fail
    all_goals go_wp2
    all_goals go_ret
    all_goals exact ⟨by rw [HE.out]; rfl, below_tr hB1 hbm⟩
  by_cases h2 : 0 ≤ a
  · have d2 : decide (0 ≤ a) = true := decide_eq_true h2
    have HE : Hid (leafB l o a = decide (a ≤ 7)) := by show leafB l o a = _; unfold leafB; rw [h1, Bool.true_and, decide_eq_decide]; omega
    go_enter Tryd.func27, Tryd.ntmps27
    go_wp2
    go_region_held3 (fun w' => w'.cell? ⟨w.heap.size, 1, none⟩ = some (.int .u64 o) ∧ w'.cell? ⟨w.heap.size, 6, none⟩ = some (.int .i64 a) ∧ Flds w' ∧ Below w.heap.size w w')
      ((go_split_ands; refine ⟨?_, ?_, ?_, ?_⟩ <;> first | (assumption; done) | exact cell_later hbm (by assumption) | exact Flds.later (by assumption) hbm | exact hF1.drew | exact below_tr (by assumption) hbm | (go_keep; done)))
      (first
        | (go_at_call 34; refine (dbits_any _ _).mono ?_; rintro e w' ⟨rfl, rfl⟩)
        | (go_at_call 26; refine (isOut_any _ _ ho _ (by go_split_ands; assumption)).mono ?_; rintro e w' ⟨rfl, hbm⟩; rw [h1]))
    all_goals go_wp2
    all_goals go_ret
    all_goals exact ⟨by rw [HE.out]; rfl, by go_split_ands; assumption⟩
  · have d2 : decide (0 ≤ a) = false := decide_eq_false h2
    have HE : Hid (leafB l o a = false) := by show leafB l o a = _; unfold leafB; rw [h1, Bool.true_and, decide_eq_false_iff_not]; omega
    go_enter Tryd.func27, Tryd.ntmps27
    go_wp2
    first | (go_region_with (first
      | (go_at_call 34; refine (dbits_any _ _).mono ?_; rintro e w' ⟨rfl, rfl⟩)
      | (go_at_call 26; refine (isOut_any _ _ ho _ hF1.drew).mono ?_; rintro e w' ⟨rfl, hbm⟩; rw [h1]; have c6 : w'.cell? ⟨w.heap.size, 6, none⟩ = some (.int .i64 a) := cell_later hbm (by go_keep)))) | fail
    all_goals go_wp2
    all_goals go_ret
    all_goals exact ⟨by rw [HE.out]; rfl, below_tr hB1 hbm⟩

end Go.Proofs.YtoblkicbfkgjnaaDoor
