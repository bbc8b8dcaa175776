/- Faults: which may be, the program's and the document's; a fault's word. -/
import Derived.Test.YtldbldblpmlfpaaDoorVirtA
import Derived.BigQuiet
namespace Go.Proofs.YtldbldblpmlfpaaDoor
open Go.RowKit

/-- The two variables of package virt: the fields of a fault's word. -/
structure FF (w : World) : Prop where
  k0 : w.cell? ⟨1, 0, none⟩ = some (.int .i64 0)
  k1 : w.cell? ⟨1, 1, none⟩ = some (.int .i64 4)
  l0 : w.cell? ⟨0, 0, none⟩ = some (.int .i64 4)
  l1 : w.cell? ⟨0, 1, none⟩ = some (.int .i64 2)
theorem FF.later {w w' : World} (h : FF w) (hb : Below w.heap.size w w') : FF w' :=
  ⟨cell_later hb h.k0, cell_later hb h.k1, cell_later hb h.l0, cell_later hb h.l1⟩
theorem FF.alloc {w : World} (h : FF w) (o : Obj) : FF (w.alloc o) := h.later (below_new w o)

/-- Which faults may be. -/
def rightF (k l : Int) : Bool := decide (((k = 0 ∨ k = 5 ∨ k = 6) ∧ l = 0) ∨ ((1 ≤ k ∧ k ≤ 4) ∧ 0 ≤ l ∧ l ≤ 3))
/-- A fault's word. -/
def wordF (k l : Int) : Nat := if rightF k l = true then (k + 16 * l).toNat else 0

set_option maxHeartbeats 2000000 in
theorem fright_any (k l : Int) (w : World) :
    Calls Tryd.prog 11 #[.agg #[.int .i64 k, .int .i64 l]] w fun e w' => e = .returned (.bool (rightF k l)) ∧ Below w.heap.size w w' := by
  have cV := fun w1 => vlevel_any l w1
  by_cases h1 : k = 1 ∨ k = 2 ∨ k = 3 ∨ k = 4
  · have HE : Hid (rightF k l = isLv l) := by show rightF k l = _; unfold rightF isLv; rw [decide_eq_decide]; omega
    rcases h1 with rfl | rfl | rfl | rfl
    all_goals
      go_enter Tryd.func11, Tryd.ntmps11
      go_wp2_with (go_at_call 13; refine (cV _).mono ?_; rintro e w' ⟨rfl, rfl⟩)
      go_ret
      exact ⟨by rw [HE.out]; rfl, below_new _ _⟩
  by_cases h2 : k = 0 ∨ k = 5 ∨ k = 6
  · have HE : Hid (rightF k l = (l == 0)) := by
      show rightF k l = _
      rw [Bool.eq_iff_iff]; unfold rightF; simp; omega
    rcases h2 with rfl | rfl | rfl
    all_goals
      clear h1
      go_enter Tryd.func11, Tryd.ntmps11
      go_wp2
      go_ret
      exact ⟨by rw [HE.out]; rfl, below_new _ _⟩
  have HE : Hid (rightF k l = false) := by
    show rightF k l = _
    unfold rightF; rw [decide_eq_false_iff_not]; omega
  have n0 : (k == 0) = false := by rw [beq_eq_false_iff_ne]; omega
  have n1 : (k == 1) = false := by rw [beq_eq_false_iff_ne]; omega
  have n2 : (k == 2) = false := by rw [beq_eq_false_iff_ne]; omega
  have n3 : (k == 3) = false := by rw [beq_eq_false_iff_ne]; omega
  have n4 : (k == 4) = false := by rw [beq_eq_false_iff_ne]; omega
  have n5 : (k == 5) = false := by rw [beq_eq_false_iff_ne]; omega
  have n6 : (k == 6) = false := by rw [beq_eq_false_iff_ne]; omega
  clear h1 h2 cV
  go_enter Tryd.func11, Tryd.ntmps11
  go_wp2
  go_ret
  exact ⟨by rw [HE.out]; rfl, below_new _ _⟩

set_option maxHeartbeats 2000000 in
theorem refFRight_any (k l : Int) (w : World) :
    Calls Tryd.prog 5 #[.agg #[.int .i64 k, .int .i64 l]] w fun e w' => e = .returned (.bool (rightF k l)) ∧ Below w.heap.size w w' := by
  by_cases h2 : k = 0 ∨ k = 5 ∨ k = 6
  · have HE : Hid (rightF k l = (l == 0)) := by
      show rightF k l = _
      rw [Bool.eq_iff_iff]; unfold rightF; simp; omega
    rcases h2 with rfl | rfl | rfl
    all_goals
      go_enter Tryd.func5, Tryd.ntmps5
      go_wp2
      go_ret
      exact ⟨by rw [HE.out]; rfl, below_new _ _⟩
  have n0 : (k == 0) = false := by rw [beq_eq_false_iff_ne]; omega
  have n5 : (k == 5) = false := by rw [beq_eq_false_iff_ne]; omega
  have n6 : (k == 6) = false := by rw [beq_eq_false_iff_ne]; omega
  by_cases h1 : 1 ≤ k
  rotate_left
  · have HE : Hid (rightF k l = false) := by show rightF k l = _; unfold rightF; rw [decide_eq_false_iff_not]; omega
    have d1 : decide (1 ≤ k) = false := decide_eq_false h1
    clear h2
    go_enter Tryd.func5, Tryd.ntmps5
    go_wp2
    go_ret
    exact ⟨by rw [HE.out]; rfl, below_new _ _⟩
  have d1 : decide (1 ≤ k) = true := decide_eq_true h1
  by_cases h4 : k ≤ 4
  rotate_left
  · have HE : Hid (rightF k l = false) := by show rightF k l = _; unfold rightF; rw [decide_eq_false_iff_not]; omega
    have d4 : decide (k ≤ 4) = false := decide_eq_false h4
    clear h2
    go_enter Tryd.func5, Tryd.ntmps5
    go_wp2
    go_ret
    exact ⟨by rw [HE.out]; rfl, below_new _ _⟩
  have d4 : decide (k ≤ 4) = true := decide_eq_true h4
  by_cases h5 : 0 ≤ l
  rotate_left
  · have HE : Hid (rightF k l = false) := by show rightF k l = _; unfold rightF; rw [decide_eq_false_iff_not]; omega
    have d5 : decide (0 ≤ l) = false := decide_eq_false h5
    clear h2
    go_enter Tryd.func5, Tryd.ntmps5
    go_wp2
    go_ret
    exact ⟨by rw [HE.out]; rfl, below_new _ _⟩
  have d5 : decide (0 ≤ l) = true := decide_eq_true h5
  have HE : Hid (rightF k l = decide (l ≤ 3)) := by show rightF k l = _; unfold rightF; rw [decide_eq_decide]; omega
  clear h2
  go_enter Tryd.func5, Tryd.ntmps5
  go_wp2
  go_ret
  exact ⟨by rw [HE.out]; rfl, below_new _ _⟩

set_option maxHeartbeats 2000000 in
theorem fword_any (k l : Int) (w : World) (hF : FF w) :
    Calls Tryd.prog 6 #[.agg #[.int .i64 k, .int .i64 l]] w fun e w' => e = .returned (.int .u64 ((wordF k l : Nat) : Int)) ∧ Below w.heap.size w w' := by
  have cR := fun w1 => fright_any k l w1
  cases hr : rightF k l
  · have HE : Hid (wordF k l = 0) := by show wordF k l = _; unfold wordF; rw [hr]; rfl
    rw [hr] at cR
    go_enter Tryd.func6, Tryd.ntmps6
    go_wp2_with fail
    refine (cR _).mono ?_
    rintro e w1 ⟨rfl, hb⟩
    go_wp2
    go_ret
    exact ⟨by rw [HE.out]; rfl, below_tr (below_new _ _) hb⟩
  · have hb0 : 0 ≤ k ∧ k ≤ 6 ∧ 0 ≤ l ∧ l ≤ 3 := by
      have := of_decide_eq_true hr
      omega
    obtain ⟨a1, a2, a3, a4⟩ := hb0
    have HE : Hid (((wordF k l : Nat) : Int) = k + l * 16) := by
      show ((wordF k l : Nat) : Int) = _
      unfold wordF; rw [if_pos hr]; omega
    have hw : IntKind.u64.wrap (l * 16) = l * 16 := by rw [IntKind.wrap_u64]; omega
    have hw2 : IntKind.u64.wrap (l * 2 ^ 4) = l * 16 := by rw [IntKind.wrap_u64]; omega
    rw [hr] at cR
    clear hr
    go_enter Tryd.func6, Tryd.ntmps6
    go_wp2_with fail
    refine (cR _).mono ?_
    rintro e w1 ⟨rfl, hb⟩
    have hc0 : w1.cell? ⟨w.heap.size, 0, none⟩ = some (.int .i64 k) := cell_later hb (by simp)
    have hc1 : w1.cell? ⟨w.heap.size, 1, none⟩ = some (.int .i64 l) := cell_later hb (by simp)
    have hl0 := ((hF.alloc _).later hb).l0
    have HB : Hid (Below w.heap.size w w1) := below_tr (below_new _ _) hb
    clear hb cR hF
    go_wp2
    go_quiet (fail)
    go_wp2
    go_ret
    exact ⟨by rw [HE.out]; rfl, HB.out.trans ⟨rfl, rfl, rfl, Nat.le_refl _, fun _ _ => rfl⟩⟩
end Go.Proofs.YtldbldblpmlfpaaDoor
