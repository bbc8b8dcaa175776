/- The walks of Let, the program's and the document's: the fault of an access. -/
import Derived.Test.YtndjhedoandinaaGreatDoorVirtC
import Derived.Test.YtndjhedoandinaaGreatDoorDescF
namespace Go.Proofs.YtndjhedoandinaaGreatDoor
open Go.RowKit

/-- The fault's kind and level. -/
def letK (u wr x s : Bool) (ac : Int) : Int := if s = false then 2 else if u = false then 3 else if ac = 2 then (if wr = false then 3 else 0) else if ac = 3 then (if x = false then 3 else 0) else 0
def letL (u wr x s : Bool) (l ac : Int) : Int := if letK u wr x s ac = 0 then 0 else l

set_option maxHeartbeats 2000000 in
theorem let_any (k : Int) (o : Nat) (u wr x s : Bool) (a l ac : Int) (w : World) :
    Calls Tryz.prog 23 #[dv k o u wr x s a, .int .i64 l, .int .i64 ac] w fun e w' => e = .returned (.agg #[.int .i64 (letK u wr x s ac), .int .i64 (letL u wr x s l ac)]) ∧ Below w.heap.size w w' := by
  unfold dv
  cases s
  · rw [show letK u wr x false ac = 2 by rfl, show letL u wr x false l ac = l by rfl]
    go_enter Tryz.func23, Tryz.ntmps23
    go_wp2
    refine bodyPost_ret (v := .agg #[.int .i64 _, .int .i64 _]) ?_ rfl ⟨rfl, (below_new _ _).alloc (by simp) _⟩
    exact results_cell_row rfl _ _ (w.heap.size + 1) 48 _ _ _ rfl (by rw [heap_alloc2_new]) Tryz.underlying48 rfl (by kernel_rfl)
  cases u
  · rw [show letK false wr x true ac = 3 by rfl, show letL false wr x true l ac = l by rfl]
    go_enter Tryz.func23, Tryz.ntmps23
    go_wp2
    refine bodyPost_ret (v := .agg #[.int .i64 _, .int .i64 _]) ?_ rfl ⟨rfl, (below_new _ _).alloc (by simp) _⟩
    exact results_cell_row rfl _ _ (w.heap.size + 1) 48 _ _ _ rfl (by rw [heap_alloc2_new]) Tryz.underlying48 rfl (by kernel_rfl)
  by_cases h2 : ac = 2
  · subst h2
    cases wr
    · rw [show letK true false x true 2 = 3 by rfl, show letL true false x true l 2 = l by rfl]
      go_enter Tryz.func23, Tryz.ntmps23
      go_wp2
      refine bodyPost_ret (v := .agg #[.int .i64 _, .int .i64 _]) ?_ rfl ⟨rfl, (below_new _ _).alloc (by simp) _⟩
      exact results_cell_row rfl _ _ (w.heap.size + 1) 48 _ _ _ rfl (by rw [heap_alloc2_new]) Tryz.underlying48 rfl (by kernel_rfl)
    · rw [show letK true true x true 2 = 0 by rfl, show letL true true x true l 2 = 0 by rfl]
      go_enter Tryz.func23, Tryz.ntmps23
      go_wp2
      refine bodyPost_ret (v := .agg #[.int .i64 _, .int .i64 _]) ?_ rfl ⟨rfl, (below_new _ _).alloc (by simp) _⟩
      exact results_cell_row rfl _ _ (w.heap.size + 1) 48 _ _ _ rfl (by rw [heap_alloc2_new]) Tryz.underlying48 rfl (by kernel_rfl)
  have n2 : (ac == 2) = false := by rw [beq_eq_false_iff_ne]; omega
  by_cases h3 : ac = 3
  · subst h3
    cases x
    · rw [show letK true wr false true 3 = 3 by rfl, show letL true wr false true l 3 = l by rfl]
      go_enter Tryz.func23, Tryz.ntmps23
      go_wp2
      refine bodyPost_ret (v := .agg #[.int .i64 _, .int .i64 _]) ?_ rfl ⟨rfl, (below_new _ _).alloc (by simp) _⟩
      exact results_cell_row rfl _ _ (w.heap.size + 1) 48 _ _ _ rfl (by rw [heap_alloc2_new]) Tryz.underlying48 rfl (by kernel_rfl)
    · rw [show letK true wr true true 3 = 0 by rfl, show letL true wr true true l 3 = 0 by rfl]
      go_enter Tryz.func23, Tryz.ntmps23
      go_wp2
      refine bodyPost_ret (v := .agg #[.int .i64 _, .int .i64 _]) ?_ rfl ⟨rfl, (below_new _ _).alloc (by simp) _⟩
      exact results_cell_row rfl _ _ (w.heap.size + 1) 48 _ _ _ rfl (by rw [heap_alloc2_new]) Tryz.underlying48 rfl (by kernel_rfl)
  have n3 : (ac == 3) = false := by rw [beq_eq_false_iff_ne]; omega
  have e1 : letK true wr x true ac = 0 := by unfold letK; simp [h2, h3]
  have e2 : letL true wr x true l ac = 0 := by unfold letL; simp [e1]
  rw [e1, e2]
  clear e1 e2
  go_enter Tryz.func23, Tryz.ntmps23
  go_wp2
  refine bodyPost_ret (v := .agg #[.int .i64 _, .int .i64 _]) ?_ rfl ⟨rfl, (below_new _ _).alloc (by simp) _⟩
  exact results_cell_row rfl _ _ (w.heap.size + 1) 48 _ _ _ rfl (by rw [heap_alloc2_new]) Tryz.underlying48 rfl (by kernel_rfl)

set_option maxHeartbeats 2000000 in
theorem refLet_any (k : Int) (o : Nat) (u wr x s : Bool) (a l ac : Int) (w : World) :
    Calls Tryz.prog 69 #[dv k o u wr x s a, .int .i64 l, .int .i64 ac] w fun e w' => e = .returned (.agg #[.int .i64 (letK u wr x s ac), .int .i64 (letL u wr x s l ac)]) ∧ Below w.heap.size w w' := by
  unfold dv
  cases s
  · rw [show letK u wr x false ac = 2 by rfl, show letL u wr x false l ac = l by rfl]
    go_enter Tryz.func69, Tryz.ntmps69
    go_wp2
    refine bodyPost_ret (v := .agg #[.int .i64 _, .int .i64 _]) ?_ rfl ⟨rfl, (below_new _ _).alloc (by simp) _⟩
    exact results_cell_row rfl _ _ (w.heap.size + 1) 74 _ _ _ rfl (by rw [heap_alloc2_new]) Tryz.underlying74 rfl (by kernel_rfl)
  cases u
  · rw [show letK false wr x true ac = 3 by rfl, show letL false wr x true l ac = l by rfl]
    go_enter Tryz.func69, Tryz.ntmps69
    go_wp2
    refine bodyPost_ret (v := .agg #[.int .i64 _, .int .i64 _]) ?_ rfl ⟨rfl, (below_new _ _).alloc (by simp) _⟩
    exact results_cell_row rfl _ _ (w.heap.size + 1) 74 _ _ _ rfl (by rw [heap_alloc2_new]) Tryz.underlying74 rfl (by kernel_rfl)
  by_cases h2 : ac = 2
  · subst h2
    cases wr
    · rw [show letK true false x true 2 = 3 by rfl, show letL true false x true l 2 = l by rfl]
      go_enter Tryz.func69, Tryz.ntmps69
      go_wp2
      refine bodyPost_ret (v := .agg #[.int .i64 _, .int .i64 _]) ?_ rfl ⟨rfl, (below_new _ _).alloc (by simp) _⟩
      exact results_cell_row rfl _ _ (w.heap.size + 1) 74 _ _ _ rfl (by rw [heap_alloc2_new]) Tryz.underlying74 rfl (by kernel_rfl)
    · rw [show letK true true x true 2 = 0 by rfl, show letL true true x true l 2 = 0 by rfl]
      go_enter Tryz.func69, Tryz.ntmps69
      go_wp2
      refine bodyPost_ret (v := .agg #[.int .i64 _, .int .i64 _]) ?_ rfl ⟨rfl, (below_new _ _).alloc (by simp) _⟩
      exact results_cell_row rfl _ _ (w.heap.size + 1) 74 _ _ _ rfl (by rw [heap_alloc2_new]) Tryz.underlying74 rfl (by kernel_rfl)
  have n2 : (ac == 2) = false := by rw [beq_eq_false_iff_ne]; omega
  by_cases h3 : ac = 3
  · subst h3
    cases x
    · rw [show letK true wr false true 3 = 3 by rfl, show letL true wr false true l 3 = l by rfl]
      go_enter Tryz.func69, Tryz.ntmps69
      go_wp2
      refine bodyPost_ret (v := .agg #[.int .i64 _, .int .i64 _]) ?_ rfl ⟨rfl, (below_new _ _).alloc (by simp) _⟩
      exact results_cell_row rfl _ _ (w.heap.size + 1) 74 _ _ _ rfl (by rw [heap_alloc2_new]) Tryz.underlying74 rfl (by kernel_rfl)
    · rw [show letK true wr true true 3 = 0 by rfl, show letL true wr true true l 3 = 0 by rfl]
      go_enter Tryz.func69, Tryz.ntmps69
      go_wp2
      refine bodyPost_ret (v := .agg #[.int .i64 _, .int .i64 _]) ?_ rfl ⟨rfl, (below_new _ _).alloc (by simp) _⟩
      exact results_cell_row rfl _ _ (w.heap.size + 1) 74 _ _ _ rfl (by rw [heap_alloc2_new]) Tryz.underlying74 rfl (by kernel_rfl)
  have n3 : (ac == 3) = false := by rw [beq_eq_false_iff_ne]; omega
  have e1 : letK true wr x true ac = 0 := by unfold letK; simp [h2, h3]
  have e2 : letL true wr x true l ac = 0 := by unfold letL; simp [e1]
  rw [e1, e2]
  clear e1 e2
  go_enter Tryz.func69, Tryz.ntmps69
  go_wp2
  refine bodyPost_ret (v := .agg #[.int .i64 _, .int .i64 _]) ?_ rfl ⟨rfl, (below_new _ _).alloc (by simp) _⟩
  exact results_cell_row rfl _ _ (w.heap.size + 1) 74 _ _ _ rfl (by rw [heap_alloc2_new]) Tryz.underlying74 rfl (by kernel_rfl)
end Go.Proofs.YtndjhedoandinaaGreatDoor
