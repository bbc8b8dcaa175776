/- The walks of package desc, first part: levels, addresses, what is right. -/
import Derived.Test.YtoblkicbfkgjnaaDoorAlignMath
namespace Go.Proofs.YtoblkicbfkgjnaaDoor
open Go.RowKit

/-- The two variables of package desc that every call reads: the fields of Out and of Attr. -/
structure Flds (w : World) : Prop where
  o0 : w.cell? ⟨0, 0, none⟩ = some (.int .i64 12)
  o1 : w.cell? ⟨0, 1, none⟩ = some (.int .i64 36)
  a0 : True
  a1 : True
theorem Flds.later {w w' : World} (h : Flds w) (hb : Below w.heap.size w w') : Flds w' :=
  ⟨cell_later hb h.o0, cell_later hb h.o1, by first | exact cell_later hb h.a0 | trivial, by first | exact cell_later hb h.a1 | trivial⟩
theorem below_new (w : World) (o : Obj) : Below w.heap.size w (w.alloc o) := (Below.refl _ _).alloc (Nat.le_refl _) _
theorem Flds.alloc {w : World} (h : Flds w) (o : Obj) : Flds (w.alloc o) := h.later (below_new w o)

def isLv (l : Int) : Bool := decide (0 ≤ l ∧ l ≤ 3)
theorem isLv_of {l : Int} (h : isLv l = true) : 0 ≤ l ∧ l ≤ 3 := of_decide_eq_true h

set_option maxHeartbeats 400000 in
theorem isLevel_any (l : Int) (w : World) :
    Calls Tryd.prog 25 #[.int .i64 l] w fun e w' => e = .returned (.bool (isLv l)) ∧ w = w' := by
  by_cases h1 : 0 ≤ l
  · have d1 : decide (0 ≤ l) = true := decide_eq_true h1
    have HE : Hid (isLv l = decide (l ≤ 3)) := by show isLv l = _; unfold isLv; rw [decide_eq_decide]; omega
    go_enter Tryd.func25, Tryd.ntmps25
    go_wp2
    go_ret
    exact ⟨by rw [HE.out]; rfl, rfl⟩
  · have d1 : decide (0 ≤ l) = false := decide_eq_false h1
    have HE : Hid (isLv l = false) := by show isLv l = _; unfold isLv; rw [decide_eq_false_iff_not]; omega
    go_enter Tryd.func25, Tryd.ntmps25
    go_wp2
    go_ret
    exact ⟨by rw [HE.out]; rfl, rfl⟩

/-- How many bits an entry of a level covers. -/
def lowL (l : Int) : Int := if isLv l = true then 39 - 9 * l else 0

set_option maxHeartbeats 400000 in
theorem dbits_any (l : Int) (w : World) :
    Calls Tryd.prog 34 #[.int .i64 l] w fun e w' => e = .returned (.int .i64 (lowL l)) ∧ w = w' := by
  cases hl : isLv l
  · have HE : Hid (lowL l = 0) := by show lowL l = _; unfold lowL; rw [hl]; rfl
    go_enter Tryd.func34, Tryd.ntmps34
    go_wp2_with (go_at_call 25; refine (isLevel_any _ _).mono ?_; rintro e w' ⟨rfl, rfl⟩; rw [hl])
    go_ret
    exact ⟨by rw [HE.out]; rfl, rfl⟩
  · have hb := isLv_of hl
    obtain ⟨h0, h3⟩ := hb
    have HE : Hid (lowL l = 12 + 9 * (3 - l)) := by show lowL l = _; unfold lowL; rw [hl, if_pos rfl]; omega
    go_enter Tryd.func34, Tryd.ntmps34
    go_wp2_with (go_at_call 25; refine (isLevel_any _ _).mono ?_; rintro e w' ⟨rfl, rfl⟩; rw [hl])
    go_ret
    exact ⟨by rw [HE.out]; rfl, rfl⟩

def isOutB (x : Nat) (n : Int) : Bool := (restV x [(12, 36)] == 0) && alignedB x n

set_option maxHeartbeats 400000 in
theorem isOut_any (x : Nat) (n : Int) (hx : x < 18446744073709551616) (w : World) (hF : Flds w) :
    Calls Tryd.prog 26 #[.int .u64 x, .int .i64 n] w fun e w' => e = .returned (.bool (isOutB x n)) ∧ Below w.heap.size w w' := by
  obtain ⟨o0, o1, _, _⟩ := hF
  by_cases h0 : restV x [(12, 36)] = 0
  · have HE : Hid (isOutB x n = alignedB x n) := by show isOutB x n = _; unfold isOutB; rw [h0]; rfl
    go_enter Tryd.func26, Tryd.ntmps26
    go_wp2_with fail
    refine (rest_some x hx [(12, 36)] _ _ (by decide) _ (fun i hi => ?_) (fun i hi => ?_)).mono ?_
    · obtain rfl : i = 0 := by simp at hi; exact hi
      simp
    · obtain rfl : i = 0 := by simp at hi; exact hi
      simp
    rintro e w1 ⟨rfl, hb⟩
    rw [h0]
    go_wp2_with (go_at_call 33; refine (aligned_any _ _ hx _).mono ?_; rintro e w' ⟨rfl, rfl⟩)
    go_ret
    exact ⟨by rw [HE.out]; rfl, below_tr (below_new _ _) hb⟩
  · have HE : Hid (isOutB x n = false) := by show isOutB x n = _; unfold isOutB; simp [h0]
    have hne : ((restV x [(12, 36)] : Int) == 0) = false := by rw [beq_eq_false_iff_ne]; omega
    go_enter Tryd.func26, Tryd.ntmps26
    go_wp2_with fail
    refine (rest_some x hx [(12, 36)] _ _ (by decide) _ (fun i hi => ?_) (fun i hi => ?_)).mono ?_
    · obtain rfl : i = 0 := by simp at hi; exact hi
      simp
    · obtain rfl : i = 0 := by simp at hi; exact hi
      simp
    rintro e w1 ⟨rfl, hb⟩
    generalize restV x [(12, 36)] = y at *
    go_wp2
    go_ret
    exact ⟨by rw [HE.out]; rfl, below_tr (below_new _ _) hb⟩

end Go.Proofs.YtoblkicbfkgjnaaDoor
