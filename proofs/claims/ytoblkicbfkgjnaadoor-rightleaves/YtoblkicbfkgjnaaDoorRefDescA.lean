/- The walks of the document's answers for layer 4, first part: listed, Right. -/
import Derived.Test.YtoblkicbfkgjnaaDoorDescMath
import Derived.Test.YtoblkicbfkgjnaaDoorDescAnchor
namespace Go.Proofs.YtoblkicbfkgjnaaDoor
open Go.RowKit

theorem rightP_out {l k : Int} {o : Nat} {u r x s : Bool} {a : Int} (ho : o < 18446744073709551616) (h : rightP l k o u r x s a = true) : 0 ≤ k ∧ k ≤ 3 ∧ 0 ≤ a ∧ a ≤ 7 ∧ o < 281474976710656 := by
  have hl : ¬ isLv l = false := by rw [rightP_lv h]; decide
  have hb : ∀ {n : Nat}, 12 ≤ n → n < 48 → isOutB o (n : Int) = true → o < 281474976710656 := fun h1 h2 h3 => by
    rw [isOut_mod o _ ho h1 h2] at h3
    exact (of_decide_eq_true h3).1
  have hll : leafB l o a = true → o < 281474976710656 := fun hlb => by
    unfold leafB at hlb
    rw [Bool.and_eq_true] at hlb
    rcases low_lv (rightP_lv h) with rfl | rfl | rfl | rfl
    · exact hb (n := 39) (by omega) (by omega) hlb.1
    · exact hb (n := 30) (by omega) (by omega) hlb.1
    · exact hb (n := 21) (by omega) (by omega) hlb.1
    · exact hb (n := 12) (by omega) (by omega) hlb.1
  have hbare : bareB u r x s a = true → a = 0 := fun hq => by
    unfold bareB at hq
    simp only [Bool.and_eq_true, beq_iff_eq] at hq
    exact hq.2
  have hk := rightP_kind h
  rcases hk with rfl | rfl | rfl | rfl
  · unfold rightP at h
    rw [if_neg hl, if_pos rfl, Bool.and_eq_true, beq_iff_eq] at h
    have := hbare h.1
    omega
  · unfold rightP at h
    rw [if_neg hl, if_neg (by decide), if_pos rfl, Bool.and_eq_true, Bool.and_eq_true] at h
    have := hbare h.1.2
    have := hb (n := 12) (by omega) (by omega) h.2
    omega
  · have := rightP_leaf (Or.inl rfl) h
    unfold rightP at h
    rw [if_neg hl, if_neg (by decide), if_neg (by decide), if_pos rfl, Bool.and_eq_true] at h
    have := hll h.2
    omega
  · have := rightP_leaf (Or.inr rfl) h
    unfold rightP at h
    rw [if_neg hl, if_neg (by decide), if_neg (by decide), if_neg (by decide), if_pos rfl, Bool.and_eq_true] at h
    have := hll h.2
    omega

set_option maxHeartbeats 2000000 in
theorem refRight_off (l k : Int) (o : Nat) (u r x s : Bool) (a : Int) (h : ¬ (0 ≤ k ∧ k ≤ 3 ∧ 0 ≤ a ∧ a ≤ 7 ∧ o < 281474976710656)) (w : World) :
    Calls Tryd.prog 24 #[.int .i64 l, dv k o u r x s a] w fun e w' => e = .returned (.bool false) ∧ Below w.heap.size w w' := by
  by_cases h1 : k < 0
  · have d1 : decide (k < 0) = true := decide_eq_true h1
    clear h
    go_enter Tryd.func24, Tryd.ntmps24
    go_wp2
    go_ret
    exact ⟨rfl, below_new _ _⟩
  have d1 : decide (k < 0) = false := decide_eq_false h1
  by_cases h2 : 3 < k
  · have d2 : decide (3 < k) = true := decide_eq_true h2
    clear h
    go_enter Tryd.func24, Tryd.ntmps24
    go_wp2
    go_ret
    exact ⟨rfl, below_new _ _⟩
  have d2 : decide (3 < k) = false := decide_eq_false h2
  by_cases h3 : a < 0
  · have d3 : decide (a < 0) = true := decide_eq_true h3
    clear h
    go_enter Tryd.func24, Tryd.ntmps24
    go_wp2
    go_ret
    exact ⟨rfl, below_new _ _⟩
  have d3 : decide (a < 0) = false := decide_eq_false h3
  by_cases h4 : 7 < a
  · have d4 : decide (7 < a) = true := decide_eq_true h4
    clear h
    go_enter Tryd.func24, Tryd.ntmps24
    go_wp2
    go_ret
    exact ⟨rfl, below_new _ _⟩
  have d4 : decide (7 < a) = false := decide_eq_false h4
  have h5 : (281474976710656 : Int) ≤ (o : Int) := by omega
  have d5 : decide ((281474976710656 : Int) ≤ (o : Int)) = true := decide_eq_true h5
  clear h
  go_enter Tryd.func24, Tryd.ntmps24
  go_wp2
  go_ret
  exact ⟨rfl, below_new _ _⟩

theorem down_al (o : Nat) (L : Int) (ho : o < 18446744073709551616) : ((downV o L : Int) == (o : Int)) = alignedB o L := by
  rcases align_cases o L ho with ⟨ha, hd, _⟩ | ⟨ha, hd, _⟩ | ⟨ha, hd, _⟩
  · rw [ha, hd]; simp
  · rw [ha, beq_eq_false_iff_ne]; omega
  · rw [ha, beq_eq_false_iff_ne]; omega
theorem leaf_al (l : Int) (o : Nat) (a : Int) (hl : isLv l = true) (ha0 : 0 ≤ a) (ha7 : a ≤ 7) (ho : o < 281474976710656) : leafB l o a = alignedB o (lowL l) := by
  have hq : ∀ {n : Nat}, 12 ≤ n → n < 48 → isOutB o (n : Int) = alignedB o (n : Int) := fun h1 h2 => by
    rw [isOut_mod o _ (by omega) h1 h2, aligned_mod o (by omega) (by omega), decide_eq_decide]
    exact ⟨fun h => h.2, fun h => ⟨ho, h⟩⟩
  unfold leafB
  rw [decide_eq_true (show 0 ≤ a ∧ a ≤ 7 from ⟨ha0, ha7⟩), Bool.and_true]
  rcases low_lv hl with rfl | rfl | rfl | rfl
  · exact hq (n := 39) (by omega) (by omega)
  · exact hq (n := 30) (by omega) (by omega)
  · exact hq (n := 21) (by omega) (by omega)
  · exact hq (n := 12) (by omega) (by omega)
theorem low_nn {l : Int} (hl : isLv l = true) : 0 ≤ lowL l := by
  rcases low_lv hl with rfl | rfl | rfl | rfl <;> decide
theorem cDownL (o : Nat) (L : Int) (h0 : 0 ≤ L) (ho : o < 18446744073709551616) (w : World) :
    Calls Tryd.prog 30 #[.int .u64 o, .int .i64 L] w fun e w' => e = .returned (.int .u64 ((downV o L : Nat) : Int)) ∧ Below w.heap.size w w' := by
  have c := refDown_any o L ho h0 w
  rw [refDown_eq o L L ho (by omega)] at c
  exact c

set_option maxRecDepth 100000 in
set_option maxHeartbeats 4000000 in
theorem refRight0 (l : Int) (o : Nat) (u r x s : Bool) (a : Int) (ha0 : 0 ≤ a) (ha7 : a ≤ 7) (ho48 : o < 281474976710656) (w : World) :
    Calls Tryd.prog 24 #[.int .i64 l, dv 0 o u r x s a] w fun e w' => e = .returned (.bool (bareB u r x s a && o == 0)) ∧ Below w.heap.size w w' := by
  have h3 : ¬ a < 0 := by omega
  have d3 : decide (a < 0) = false := decide_eq_false h3
  have h4 : ¬ 7 < a := by omega
  have d4 : decide (7 < a) = false := decide_eq_false h4
  have h5 : ¬ (281474976710656 : Int) ≤ (o : Int) := by omega
  have d5 : decide ((281474976710656 : Int) ≤ (o : Int)) = false := decide_eq_false h5
  have e6 : ((o : Int) == 0) = (o == 0) := by rw [Bool.eq_iff_iff]; simp
  clear ha0 ha7 ho48
  go_enter Tryd.func24, Tryd.ntmps24
  go_wp2
  all_goals go_ret
  all_goals refine ⟨?_, below_new _ _⟩
  all_goals (simp_all [bareB]; done)

set_option maxRecDepth 100000 in
set_option maxHeartbeats 4000000 in
theorem refRight1 (l : Int) (o : Nat) (u r x s : Bool) (a : Int) (ha0 : 0 ≤ a) (ha7 : a ≤ 7) (ho48 : o < 281474976710656) (w : World) :
    Calls Tryd.prog 24 #[.int .i64 l, dv 1 o u r x s a] w fun e w' => e = .returned (.bool (decide (l < 3) && bareB u r x s a && isOutB o 12)) ∧ Below w.heap.size w w' := by
  have h3 : ¬ a < 0 := by omega
  have d3 : decide (a < 0) = false := decide_eq_false h3
  have h4 : ¬ 7 < a := by omega
  have d4 : decide (7 < a) = false := decide_eq_false h4
  have h5 : ¬ (281474976710656 : Int) ≤ (o : Int) := by omega
  have d5 : decide ((281474976710656 : Int) ≤ (o : Int)) = false := decide_eq_false h5
  have e6 : isOutB o 12 = ((o : Int) % 4096 == 0) := by
    rw [show isOutB o 12 = isOutB o ((12 : Nat) : Int) from rfl, isOut_mod o 12 (by omega) (by omega) (by omega), Bool.eq_iff_iff]
    simp only [decide_eq_true_eq, beq_iff_eq]
    omega
  rw [e6]
  clear ha0 ha7 ho48 e6
  by_cases h3 : l < 3
  · have d6 : decide (l < 3) = true := decide_eq_true h3
    go_enter Tryd.func24, Tryd.ntmps24
    go_wp2
    all_goals go_ret
    all_goals refine ⟨?_, below_new _ _⟩
    all_goals (simp_all [bareB]; done)
  · have d6 : decide (l < 3) = false := decide_eq_false h3
    rw [d6, Bool.false_and, Bool.false_and]
    go_enter Tryd.func24, Tryd.ntmps24
    go_wp2
    all_goals go_ret
    all_goals exact ⟨rfl, below_new _ _⟩

set_option maxRecDepth 100000 in
set_option maxHeartbeats 4000000 in
theorem refRight20 (o : Nat) (u r x s : Bool) (a : Int) (ha0 : 0 ≤ a) (ha7 : a ≤ 7) (ho48 : o < 281474976710656) (w : World) :
    Calls Tryd.prog 24 #[.int .i64 0, dv 2 o u r x s a] w fun e w' => e = .returned (.bool false) ∧ Below w.heap.size w w' := by
  have h3 : ¬ a < 0 := by omega
  have d3 : decide (a < 0) = false := decide_eq_false h3
  have h4 : ¬ 7 < a := by omega
  have d4 : decide (7 < a) = false := decide_eq_false h4
  have h5 : ¬ (281474976710656 : Int) ≤ (o : Int) := by omega
  have d5 : decide ((281474976710656 : Int) ≤ (o : Int)) = false := decide_eq_false h5
  clear ha0 ha7 ho48
  go_enter Tryd.func24, Tryd.ntmps24
  go_wp2
  all_goals go_ret
  all_goals exact ⟨rfl, below_new _ _⟩

set_option maxRecDepth 100000 in
set_option maxHeartbeats 4000000 in
theorem refRight23 (o : Nat) (u r x s : Bool) (a : Int) (ha0 : 0 ≤ a) (ha7 : a ≤ 7) (ho48 : o < 281474976710656) (w : World) :
    Calls Tryd.prog 24 #[.int .i64 3, dv 2 o u r x s a] w fun e w' => e = .returned (.bool false) ∧ Below w.heap.size w w' := by
  have h3 : ¬ a < 0 := by omega
  have d3 : decide (a < 0) = false := decide_eq_false h3
  have h4 : ¬ 7 < a := by omega
  have d4 : decide (7 < a) = false := decide_eq_false h4
  have h5 : ¬ (281474976710656 : Int) ≤ (o : Int) := by omega
  have d5 : decide ((281474976710656 : Int) ≤ (o : Int)) = false := decide_eq_false h5
  clear ha0 ha7 ho48
  go_enter Tryd.func24, Tryd.ntmps24
  go_wp2
  all_goals go_ret
  all_goals exact ⟨rfl, below_new _ _⟩

set_option maxRecDepth 100000 in
set_option maxHeartbeats 4000000 in
theorem refRight30 (o : Nat) (u r x s : Bool) (a : Int) (ha0 : 0 ≤ a) (ha7 : a ≤ 7) (ho48 : o < 281474976710656) (w : World) :
    Calls Tryd.prog 24 #[.int .i64 0, dv 3 o u r x s a] w fun e w' => e = .returned (.bool false) ∧ Below w.heap.size w w' := by
  have h3 : ¬ a < 0 := by omega
  have d3 : decide (a < 0) = false := decide_eq_false h3
  have h4 : ¬ 7 < a := by omega
  have d4 : decide (7 < a) = false := decide_eq_false h4
  have h5 : ¬ (281474976710656 : Int) ≤ (o : Int) := by omega
  have d5 : decide ((281474976710656 : Int) ≤ (o : Int)) = false := decide_eq_false h5
  clear ha0 ha7 ho48
  go_enter Tryd.func24, Tryd.ntmps24
  go_wp2
  all_goals go_ret
  all_goals exact ⟨rfl, below_new _ _⟩

set_option maxRecDepth 100000 in
set_option maxHeartbeats 4000000 in
theorem refRight31 (o : Nat) (u r x s : Bool) (a : Int) (ha0 : 0 ≤ a) (ha7 : a ≤ 7) (ho48 : o < 281474976710656) (w : World) :
    Calls Tryd.prog 24 #[.int .i64 1, dv 3 o u r x s a] w fun e w' => e = .returned (.bool false) ∧ Below w.heap.size w w' := by
  have h3 : ¬ a < 0 := by omega
  have d3 : decide (a < 0) = false := decide_eq_false h3
  have h4 : ¬ 7 < a := by omega
  have d4 : decide (7 < a) = false := decide_eq_false h4
  have h5 : ¬ (281474976710656 : Int) ≤ (o : Int) := by omega
  have d5 : decide ((281474976710656 : Int) ≤ (o : Int)) = false := decide_eq_false h5
  clear ha0 ha7 ho48
  go_enter Tryd.func24, Tryd.ntmps24
  go_wp2
  all_goals go_ret
  all_goals exact ⟨rfl, below_new _ _⟩

set_option maxRecDepth 100000 in
set_option maxHeartbeats 4000000 in
theorem refRight32 (o : Nat) (u r x s : Bool) (a : Int) (ha0 : 0 ≤ a) (ha7 : a ≤ 7) (ho48 : o < 281474976710656) (w : World) :
    Calls Tryd.prog 24 #[.int .i64 2, dv 3 o u r x s a] w fun e w' => e = .returned (.bool false) ∧ Below w.heap.size w w' := by
  have h3 : ¬ a < 0 := by omega
  have d3 : decide (a < 0) = false := decide_eq_false h3
  have h4 : ¬ 7 < a := by omega
  have d4 : decide (7 < a) = false := decide_eq_false h4
  have h5 : ¬ (281474976710656 : Int) ≤ (o : Int) := by omega
  have d5 : decide ((281474976710656 : Int) ≤ (o : Int)) = false := decide_eq_false h5
  clear ha0 ha7 ho48
  go_enter Tryd.func24, Tryd.ntmps24
  go_wp2
  all_goals go_ret
  all_goals exact ⟨rfl, below_new _ _⟩

set_option maxRecDepth 100000 in
set_option maxHeartbeats 4000000 in
theorem refRight21 (o : Nat) (u r x s : Bool) (a : Int) (ha0 : 0 ≤ a) (ha7 : a ≤ 7) (ho48 : o < 281474976710656) (w : World) :
    Calls Tryd.prog 24 #[.int .i64 1, dv 2 o u r x s a] w fun e w' => e = .returned (.bool (leafB 1 o a)) ∧ Below w.heap.size w w' := by
  rw [leaf_al 1 o a (by decide) ha0 ha7 ho48, ← down_al o (lowL 1) (by omega)]
  have cL := fun w1 => refLow_any 1 (by decide) w1
  have cD := fun w1 => cDownL o (lowL 1) (by decide) (by omega) w1
  generalize lowL 1 = L at *
  generalize downV o L = D at *
  have h3 : ¬ a < 0 := by omega
  have d3 : decide (a < 0) = false := decide_eq_false h3
  have h4 : ¬ 7 < a := by omega
  have d4 : decide (7 < a) = false := decide_eq_false h4
  have h5 : ¬ (281474976710656 : Int) ≤ (o : Int) := by omega
  have d5 : decide ((281474976710656 : Int) ≤ (o : Int)) = false := decide_eq_false h5
  clear ha0 ha7 ho48
  go_enter Tryd.func24, Tryd.ntmps24
  go_wp2
  all_goals
    go_region_held3 (fun w' => w'.cell? ⟨w.heap.size, 1, none⟩ = some (.int .u64 o) ∧ Below w.heap.size w w')
      ((go_split_ands; refine ⟨?_, ?_⟩ <;> first | (assumption; done) | exact cell_later hbm (by assumption) | exact below_tr (by assumption) hbm | exact (below_new _ _).drew | (go_keep; done)))
      (first
        | (go_at_call 31; refine (cL _).mono ?_; rintro e w' ⟨rfl, hbm⟩)
        | (go_at_call 30; refine (cD _).mono ?_; rintro e w' ⟨rfl, hbm⟩))
  all_goals go_wp2
  all_goals go_ret
  all_goals exact ⟨rfl, by go_split_ands; assumption⟩

set_option maxRecDepth 100000 in
set_option maxHeartbeats 4000000 in
theorem refRight22 (o : Nat) (u r x s : Bool) (a : Int) (ha0 : 0 ≤ a) (ha7 : a ≤ 7) (ho48 : o < 281474976710656) (w : World) :
    Calls Tryd.prog 24 #[.int .i64 2, dv 2 o u r x s a] w fun e w' => e = .returned (.bool (leafB 2 o a)) ∧ Below w.heap.size w w' := by
  rw [leaf_al 2 o a (by decide) ha0 ha7 ho48, ← down_al o (lowL 2) (by omega)]
  have cL := fun w1 => refLow_any 2 (by decide) w1
  have cD := fun w1 => cDownL o (lowL 2) (by decide) (by omega) w1
  generalize lowL 2 = L at *
  generalize downV o L = D at *
  have h3 : ¬ a < 0 := by omega
  have d3 : decide (a < 0) = false := decide_eq_false h3
  have h4 : ¬ 7 < a := by omega
  have d4 : decide (7 < a) = false := decide_eq_false h4
  have h5 : ¬ (281474976710656 : Int) ≤ (o : Int) := by omega
  have d5 : decide ((281474976710656 : Int) ≤ (o : Int)) = false := decide_eq_false h5
  clear ha0 ha7 ho48
  go_enter Tryd.func24, Tryd.ntmps24
  go_wp2
  all_goals
    go_region_held3 (fun w' => w'.cell? ⟨w.heap.size, 1, none⟩ = some (.int .u64 o) ∧ Below w.heap.size w w')
      ((go_split_ands; refine ⟨?_, ?_⟩ <;> first | (assumption; done) | exact cell_later hbm (by assumption) | exact below_tr (by assumption) hbm | exact (below_new _ _).drew | (go_keep; done)))
      (first
        | (go_at_call 31; refine (cL _).mono ?_; rintro e w' ⟨rfl, hbm⟩)
        | (go_at_call 30; refine (cD _).mono ?_; rintro e w' ⟨rfl, hbm⟩))
  all_goals go_wp2
  all_goals go_ret
  all_goals exact ⟨rfl, by go_split_ands; assumption⟩

set_option maxRecDepth 100000 in
set_option maxHeartbeats 4000000 in
theorem refRight33 (o : Nat) (u r x s : Bool) (a : Int) (ha0 : 0 ≤ a) (ha7 : a ≤ 7) (ho48 : o < 281474976710656) (w : World) :
    Calls Tryd.prog 24 #[.int .i64 3, dv 3 o u r x s a] w fun e w' => e = .returned (.bool (leafB 3 o a)) ∧ Below w.heap.size w w' := by
  rw [leaf_al 3 o a (by decide) ha0 ha7 ho48, ← down_al o (lowL 3) (by omega)]
  have cL := fun w1 => refLow_any 3 (by decide) w1
  have cD := fun w1 => cDownL o (lowL 3) (by decide) (by omega) w1
  generalize lowL 3 = L at *
  generalize downV o L = D at *
  have h3 : ¬ a < 0 := by omega
  have d3 : decide (a < 0) = false := decide_eq_false h3
  have h4 : ¬ 7 < a := by omega
  have d4 : decide (7 < a) = false := decide_eq_false h4
  have h5 : ¬ (281474976710656 : Int) ≤ (o : Int) := by omega
  have d5 : decide ((281474976710656 : Int) ≤ (o : Int)) = false := decide_eq_false h5
  clear ha0 ha7 ho48
  go_enter Tryd.func24, Tryd.ntmps24
  go_wp2
  all_goals
    go_region_held3 (fun w' => w'.cell? ⟨w.heap.size, 1, none⟩ = some (.int .u64 o) ∧ Below w.heap.size w w')
      ((go_split_ands; refine ⟨?_, ?_⟩ <;> first | (assumption; done) | exact cell_later hbm (by assumption) | exact below_tr (by assumption) hbm | exact (below_new _ _).drew | (go_keep; done)))
      (first
        | (go_at_call 31; refine (cL _).mono ?_; rintro e w' ⟨rfl, hbm⟩)
        | (go_at_call 30; refine (cD _).mono ?_; rintro e w' ⟨rfl, hbm⟩))
  all_goals go_wp2
  all_goals go_ret
  all_goals exact ⟨rfl, by go_split_ands; assumption⟩

theorem refRight_any (l k : Int) (o : Nat) (u r x s : Bool) (a : Int) (hl : isLv l = true) (ho : o < 18446744073709551616) (w : World) :
    Calls Tryd.prog 24 #[.int .i64 l, dv k o u r x s a] w fun e w' => e = .returned (.bool (rightP l k o u r x s a)) ∧ Below w.heap.size w w' := by
  by_cases h : 0 ≤ k ∧ k ≤ 3 ∧ 0 ≤ a ∧ a ≤ 7 ∧ o < 281474976710656
  rotate_left
  · have e : rightP l k o u r x s a = false := by
      cases hr : rightP l k o u r x s a
      · rfl
      · exact absurd (rightP_out ho hr) h
    rw [e]
    exact refRight_off l k o u r x s a h w
  obtain ⟨hk0, hk3, ha0, ha7, ho48⟩ := h
  have hlf : ¬ isLv l = false := by rw [hl]; decide
  rcases (show k = 0 ∨ k = 1 ∨ k = 2 ∨ k = 3 by omega) with rfl | rfl | rfl | rfl
  · rw [rightP, if_neg hlf, if_pos rfl]; exact refRight0 l o u r x s a ha0 ha7 ho48 w
  · rw [rightP, if_neg hlf, if_neg (by decide), if_pos rfl]; exact refRight1 l o u r x s a ha0 ha7 ho48 w
  · rw [rightP, if_neg hlf, if_neg (by decide), if_neg (by decide), if_pos rfl]
    rcases low_lv hl with rfl | rfl | rfl | rfl
    · exact refRight20 o u r x s a ha0 ha7 ho48 w
    · exact refRight21 o u r x s a ha0 ha7 ho48 w
    · exact refRight22 o u r x s a ha0 ha7 ho48 w
    · exact refRight23 o u r x s a ha0 ha7 ho48 w
  · rw [rightP, if_neg hlf, if_neg (by decide), if_neg (by decide), if_neg (by decide), if_pos rfl]
    rcases low_lv hl with rfl | rfl | rfl | rfl
    · exact refRight30 o u r x s a ha0 ha7 ho48 w
    · exact refRight31 o u r x s a ha0 ha7 ho48 w
    · exact refRight32 o u r x s a ha0 ha7 ho48 w
    · exact refRight33 o u r x s a ha0 ha7 ho48 w

end Go.Proofs.YtoblkicbfkgjnaaDoor
