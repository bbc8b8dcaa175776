/- The walks of package desc, third part: what is right for a level. -/
import Derived.Test.YtoblkicbfkgjnaaDoorDescB
namespace Go.Proofs.YtoblkicbfkgjnaaDoor
open Go.RowKit

/-- Nothing but Kind and Out is said. -/
def bareB (u r x s : Bool) (a : Int) : Bool := !u && !r && !x && !s && a == 0
def rightP (l k : Int) (o : Nat) (u r x s : Bool) (a : Int) : Bool :=
  if isLv l = false then false
  else if k = 0 then bareB u r x s a && o == 0
  else if k = 1 then decide (l < 3) && bareB u r x s a && isOutB o 12
  else if k = 2 then decide (0 < l ∧ l < 3) && leafB l o a
  else if k = 3 then decide (l = 3) && leafB l o a
  else false

set_option maxHeartbeats 2000000 in
theorem right0 (l : Int) (o : Nat) (u r x s : Bool) (a : Int) (w : World) (hl : isLv l = true) :
    Calls Tryd.prog 18 #[.agg #[.int .i64 0, .int .u64 o, .bool u, .bool r, .bool x, .bool s, .int .i64 a], .int .i64 l] w fun e w' => e = .returned (.bool (bareB u r x s a && o == 0)) ∧ Below w.heap.size w w' := by
  go_enter Tryd.func18, Tryd.ntmps18
  go_wp2_with (go_at_call 25; refine (isLevel_any _ _).mono ?_; rintro e w' ⟨rfl, rfl⟩; rw [hl])
  all_goals go_ret
  all_goals refine ⟨?_, below_new _ _⟩
  all_goals (simp_all [bareB]; done)

set_option maxHeartbeats 2000000 in
theorem right1 (l : Int) (o : Nat) (u r x s : Bool) (a : Int) (ho : o < 18446744073709551616) (w : World) (hF : Flds w) (hl : isLv l = true) :
    Calls Tryd.prog 18 #[.agg #[.int .i64 1, .int .u64 o, .bool u, .bool r, .bool x, .bool s, .int .i64 a], .int .i64 l] w fun e w' => e = .returned (.bool (decide (l < 3) && bareB u r x s a && isOutB o 12)) ∧ Below w.heap.size w w' := by
  by_cases h3 : l < 3
  · have d3 : decide (l < 3) = true := decide_eq_true h3
    go_enter Tryd.func18, Tryd.ntmps18
    go_wp2_with (first
      | (go_at_call 25; refine (isLevel_any _ _).mono ?_; rintro e w' ⟨rfl, rfl⟩; rw [hl])
      | (go_at_call 26; refine (isOut_any _ _ ho _ (hF.alloc _)).mono ?_; rintro e w' ⟨rfl, hbm⟩))
    all_goals go_ret
    all_goals first | refine ⟨?_, below_new _ _⟩ | refine ⟨?_, below_tr (below_new _ _) hbm⟩
    all_goals (simp_all [bareB]; done)
  · have d3 : decide (l < 3) = false := decide_eq_false h3
    go_enter Tryd.func18, Tryd.ntmps18
    go_wp2_with (go_at_call 25; refine (isLevel_any _ _).mono ?_; rintro e w' ⟨rfl, rfl⟩; rw [hl])
    go_ret
    exact ⟨by rw [d3]; rfl, below_new _ _⟩

set_option maxHeartbeats 2000000 in
theorem right2 (l : Int) (o : Nat) (u r x s : Bool) (a : Int) (ho : o < 18446744073709551616) (w : World) (hF : Flds w) (hl : isLv l = true) :
    Calls Tryd.prog 18 #[.agg #[.int .i64 2, .int .u64 o, .bool u, .bool r, .bool x, .bool s, .int .i64 a], .int .i64 l] w fun e w' => e = .returned (.bool (decide (0 < l ∧ l < 3) && leafB l o a)) ∧ Below w.heap.size w w' := by
  by_cases h0 : 0 < l
  · have d0 : decide (0 < l) = true := decide_eq_true h0
    by_cases h3 : l < 3
    · have d3 : decide (l < 3) = true := decide_eq_true h3
      have HE : Hid (decide (0 < l ∧ l < 3) = true) := decide_eq_true ⟨h0, h3⟩
      go_enter Tryd.func18, Tryd.ntmps18
      go_wp2_with (first
        | (go_at_call 25; refine (isLevel_any _ _).mono ?_; rintro e w' ⟨rfl, rfl⟩; rw [hl])
        | (go_at_call 27; refine (rightLeaf_any _ _ _ _ _ _ _ _ ho _ (hF.alloc _)).mono ?_; rintro e w' ⟨rfl, hbm⟩))
      go_ret
      exact ⟨by rw [HE.out]; rfl, below_tr (below_new _ _) hbm⟩
    · have d3 : decide (l < 3) = false := decide_eq_false h3
      have HE : Hid (decide (0 < l ∧ l < 3) = false) := decide_eq_false fun h => h3 h.2
      go_enter Tryd.func18, Tryd.ntmps18
      go_wp2_with (go_at_call 25; refine (isLevel_any _ _).mono ?_; rintro e w' ⟨rfl, rfl⟩; rw [hl])
      go_ret
      exact ⟨by rw [HE.out]; rfl, below_new _ _⟩
  · have d0 : decide (0 < l) = false := decide_eq_false h0
    have HE : Hid (decide (0 < l ∧ l < 3) = false) := decide_eq_false fun h => h0 h.1
    go_enter Tryd.func18, Tryd.ntmps18
    go_wp2_with (go_at_call 25; refine (isLevel_any _ _).mono ?_; rintro e w' ⟨rfl, rfl⟩; rw [hl])
    go_ret
    exact ⟨by rw [HE.out]; rfl, below_new _ _⟩

set_option maxHeartbeats 2000000 in
theorem right3 (l : Int) (o : Nat) (u r x s : Bool) (a : Int) (ho : o < 18446744073709551616) (w : World) (hF : Flds w) (hl : isLv l = true) :
    Calls Tryd.prog 18 #[.agg #[.int .i64 3, .int .u64 o, .bool u, .bool r, .bool x, .bool s, .int .i64 a], .int .i64 l] w fun e w' => e = .returned (.bool (decide (l = 3) && leafB l o a)) ∧ Below w.heap.size w w' := by
  by_cases h3 : l = 3
  · have HE : Hid (decide (l = 3) = true) := decide_eq_true h3
    subst h3
    go_enter Tryd.func18, Tryd.ntmps18
    go_wp2_with (first
      | (go_at_call 25; refine (isLevel_any _ _).mono ?_; rintro e w' ⟨rfl, rfl⟩; rw [hl])
      | (go_at_call 27; refine (rightLeaf_any _ _ _ _ _ _ _ _ ho _ (hF.alloc _)).mono ?_; rintro e w' ⟨rfl, hbm⟩))
    go_ret
    exact ⟨by rw [HE.out]; rfl, below_tr (below_new _ _) hbm⟩
  · have HE : Hid (decide (l = 3) = false) := decide_eq_false h3
    have d3 : (l == 3) = false := by rw [beq_eq_false_iff_ne]; exact h3
    go_enter Tryd.func18, Tryd.ntmps18
    go_wp2_with (go_at_call 25; refine (isLevel_any _ _).mono ?_; rintro e w' ⟨rfl, rfl⟩; rw [hl])
    go_ret
    exact ⟨by rw [HE.out]; rfl, below_new _ _⟩

set_option maxHeartbeats 2000000 in
theorem right_d (l k : Int) (o : Nat) (u r x s : Bool) (a : Int) (ho : o < 18446744073709551616) (w : World) (hF : Flds w) :
    Calls Tryd.prog 18 #[.agg #[.int .i64 k, .int .u64 o, .bool u, .bool r, .bool x, .bool s, .int .i64 a], .int .i64 l] w fun e w' => e = .returned (.bool (rightP l k o u r x s a)) ∧ Below w.heap.size w w' := by
  cases hl : isLv l
  · have HE : Hid (rightP l k o u r x s a = false) := by show rightP l k o u r x s a = _; unfold rightP; rw [if_pos hl]
    go_enter Tryd.func18, Tryd.ntmps18
    go_wp2_with (go_at_call 25; refine (isLevel_any _ _).mono ?_; rintro e w' ⟨rfl, rfl⟩; rw [hl])
    go_ret
    exact ⟨by rw [HE.out]; rfl, below_new _ _⟩
  have hlf : ¬ isLv l = false := by rw [hl]; decide
  by_cases h0 : k = 0
  · subst h0; rw [rightP, if_neg hlf, if_pos rfl]; exact right0 l o u r x s a w hl
  by_cases h1 : k = 1
  · subst h1; rw [rightP, if_neg hlf, if_neg (by decide), if_pos rfl]; exact right1 l o u r x s a ho w hF hl
  by_cases h2 : k = 2
  · subst h2; rw [rightP, if_neg hlf, if_neg (by decide), if_neg (by decide), if_pos rfl]; exact right2 l o u r x s a ho w hF hl
  by_cases h3 : k = 3
  · subst h3; rw [rightP, if_neg hlf, if_neg (by decide), if_neg (by decide), if_neg (by decide), if_pos rfl]; exact right3 l o u r x s a ho w hF hl
  have HE : Hid (rightP l k o u r x s a = false) := by show rightP l k o u r x s a = _; unfold rightP; rw [if_neg hlf, if_neg h0, if_neg h1, if_neg h2, if_neg h3]
  have d0 : (k == 0) = false := by rw [beq_eq_false_iff_ne]; exact h0
  have d1 : (k == 1) = false := by rw [beq_eq_false_iff_ne]; exact h1
  have d2 : (k == 2) = false := by rw [beq_eq_false_iff_ne]; exact h2
  have d3 : (k == 3) = false := by rw [beq_eq_false_iff_ne]; exact h3
  clear h0 h1 h2 h3
  go_enter Tryd.func18, Tryd.ntmps18
  go_wp2_with (go_at_call 25; refine (isLevel_any _ _).mono ?_; rintro e w' ⟨rfl, rfl⟩; rw [hl])
  go_ret
  exact ⟨by rw [HE.out]; rfl, below_new _ _⟩

end Go.Proofs.YtoblkicbfkgjnaaDoor
