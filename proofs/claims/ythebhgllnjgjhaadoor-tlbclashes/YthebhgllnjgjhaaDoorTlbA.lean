/- Entries: what is right, what matches, what meets: the walks of package tlb's functions on entries. -/
import Derived.Test.YthebhgllnjgjhaaDoorTlbT
namespace Go.Proofs.YthebhgllnjgjhaaDoor
open Go.RowKit

def baseB (b x : Nat) (l : Int) : Bool := isLv l && decide (baseV x l = b)
/-- The match. -/
def mB (e : En) (i : Int) (x : Nat) : Bool := decide (e.aid = i) && (lowB x && baseB e.va x e.lv)
def leafE (l k : Int) (o : Nat) (u r x s : Bool) (a : Int) : Bool := (decide (k = 2) || decide (k = 3)) && rightP l k o u r x s a
/-- What may be. -/
def rightE (e : En) : Bool := decide (0 ≤ e.aid ∧ e.aid ≤ 255) && (leafE e.lv e.k e.o e.u e.r e.x e.s e.a && (e.s && mB e e.aid e.va))

set_option maxHeartbeats 1000000 in
theorem isBase_any (b x : Nat) (l : Int) (hx : x < 18446744073709551616) (w : World) :
    Calls Tryd.prog 34 #[.int .u64 b, .int .u64 x, .int .i64 l] w fun e w' => e = .returned (.bool (baseB b x l)) ∧ w = w' := by
  cases hl : isLv l
  · have HE : Hid (baseB b x l = false) := by show baseB b x l = _; unfold baseB; rw [hl]; rfl
    have e : lowL l = 0 := lowL_wrong hl
    go_enter Tryd.func34, Tryd.ntmps34
    go_wp2_with (first
      | (go_at_call 20; refine (dbits_any _ _).mono ?_; rintro e w' ⟨rfl, rfl⟩; rw [e])
      | (go_at_call 46; refine (base_any x l hx _).mono ?_; rintro e w' ⟨rfl, rfl⟩))
    go_ret
    exact ⟨by rw [HE.out]; rfl, rfl⟩
  · have HE : Hid (baseB b x l = ((baseV x l : Int) == (b : Int))) := by
      show baseB b x l = _
      unfold baseB; rw [hl, Bool.true_and, Bool.eq_iff_iff, decide_eq_true_eq, beq_iff_eq]; omega
    obtain ⟨e, h1, h2, -⟩ := lowK_eq hl
    have h3 : (0 : Int) < lowL l := by omega
    clear e h1 h2
    generalize hbv : baseV x l = B at *
    have hB := fun w1 => base_any x l hx w1
    rw [hbv] at hB
    clear hbv
    generalize hlv : lowL l = L at *
    have hL := fun w1 => dbits_any l w1
    rw [hlv] at hL
    clear hlv
    go_enter Tryd.func34, Tryd.ntmps34
    go_wp2_with (first
      | (go_at_call 20; refine (hL _).mono ?_; rintro e w' ⟨rfl, rfl⟩)
      | (go_at_call 46; refine (hB _).mono ?_; rintro e w' ⟨rfl, rfl⟩))
    all_goals go_ret
    all_goals exact ⟨by rw [HE.out]; rfl, rfl⟩

set_option maxHeartbeats 1000000 in
theorem matches_any (e : En) (i : Int) (x : Nat) (hx : x < 18446744073709551616) (w : World) :
    Calls Tryd.prog 15 #[e.v, .int .i64 i, .int .u64 x] w fun r w' => r = .returned (.bool (mB e i x)) ∧ Below w.heap.size w w' := by
  unfold mB
  obtain ⟨a0, a1, a2, a3, a4, a5, a6, a7, a8, a9⟩ := e
  simp only [En.v]
  by_cases h0 : a0 = i
  · rw [decide_eq_true h0, Bool.true_and]
    have d0 : (a0 == i) = true := by rw [beq_iff_eq]; exact h0
    cases hl : lowB x
    · go_enter Tryd.func15, Tryd.ntmps15
      go_wp2_with (first
        | (go_at_call 33; refine (low_any x _).mono ?_; rintro e w' ⟨rfl, rfl⟩; rw [hl]))
      all_goals go_ret
      all_goals exact ⟨rfl, below_new _ _⟩
    · rw [Bool.true_and]
      go_enter Tryd.func15, Tryd.ntmps15
      go_wp2_with (first
        | (go_at_call 33; refine (low_any x _).mono ?_; rintro e w' ⟨rfl, rfl⟩; rw [hl])
        | (go_at_call 34; refine (isBase_any a1 x a2 hx _).mono ?_; rintro e w' ⟨rfl, rfl⟩))
      all_goals go_ret
      all_goals exact ⟨rfl, below_new _ _⟩
  · rw [decide_eq_false h0, Bool.false_and]
    have d0 : (a0 == i) = false := by rw [beq_eq_false_iff_ne]; exact h0
    go_enter Tryd.func15, Tryd.ntmps15
    go_wp2
    go_ret
    exact ⟨rfl, below_new _ _⟩

set_option maxHeartbeats 1000000 in
theorem isLeaf_any (l k : Int) (o : Nat) (u r x s : Bool) (a : Int) (ho : o < 18446744073709551616) (w : World) (hF : Flds w) :
    Calls Tryd.prog 38 #[dv k o u r x s a, .int .i64 l] w fun e w' => e = .returned (.bool (leafE l k o u r x s a)) ∧ Below w.heap.size w w' := by
  have hc := fun w1 h1 => right_d l k o u r x s a ho w1 h1
  have hF1 := fun ob => hF.alloc ob
  by_cases h2 : k = 2
  · have HE : Hid (leafE l k o u r x s a = rightP l k o u r x s a) := by show leafE l k o u r x s a = _; unfold leafE; rw [decide_eq_true h2]; rfl
    generalize rightP l k o u r x s a = R at *
    have d2 : (k == 2) = true := by rw [beq_iff_eq]; exact h2
    clear h2
    go_enter Tryd.func38, Tryd.ntmps38
    go_wp2_with (go_at_call 49; refine (hc _ (hF1 _)).mono ?_; rintro e w' ⟨rfl, hb⟩)
    all_goals go_ret
    all_goals exact ⟨by rw [HE.out]; rfl, below_tr (below_new _ _) hb⟩
  by_cases h3 : k = 3
  · have HE : Hid (leafE l k o u r x s a = rightP l k o u r x s a) := by show leafE l k o u r x s a = _; unfold leafE; rw [decide_eq_true h3, Bool.or_true]; rfl
    generalize rightP l k o u r x s a = R at *
    have d2 : (k == 2) = false := by rw [beq_eq_false_iff_ne]; exact h2
    have d3 : (k == 3) = true := by rw [beq_iff_eq]; exact h3
    clear h2 h3
    go_enter Tryd.func38, Tryd.ntmps38
    go_wp2_with (go_at_call 49; refine (hc _ (hF1 _)).mono ?_; rintro e w' ⟨rfl, hb⟩)
    all_goals go_ret
    all_goals exact ⟨by rw [HE.out]; rfl, below_tr (below_new _ _) hb⟩
  · have HE : Hid (leafE l k o u r x s a = false) := by show leafE l k o u r x s a = _; unfold leafE; rw [decide_eq_false h2, decide_eq_false h3]; rfl
    have d2 : (k == 2) = false := by rw [beq_eq_false_iff_ne]; exact h2
    have d3 : (k == 3) = false := by rw [beq_eq_false_iff_ne]; exact h3
    clear h2 h3
    go_enter Tryd.func38, Tryd.ntmps38
    go_wp2
    all_goals go_ret
    all_goals exact ⟨by rw [HE.out]; rfl, below_new _ _⟩

set_option maxHeartbeats 2000000 in
theorem rightE_any (e : En) (he : e.ok) (w : World) (hF : Flds w) :
    Calls Tryd.prog 19 #[e.v] w fun r w' => r = .returned (.bool (rightE e)) ∧ Below w.heap.size w w' := by
  have hm := fun w1 => matches_any e e.aid e.va he.1 w1
  have hlf := fun w1 h1 => isLeaf_any e.lv e.k e.o e.u e.r e.x e.s e.a he.2 w1 h1
  have HE : Hid (rightE e = (decide (0 ≤ e.aid ∧ e.aid ≤ 255) && (leafE e.lv e.k e.o e.u e.r e.x e.s e.a && (e.s && mB e e.aid e.va)))) := rfl
  have hF1 := fun ob => hF.alloc ob
  generalize mB e e.aid e.va = M at *
  generalize leafE e.lv e.k e.o e.u e.r e.x e.s e.a = L at *
  obtain ⟨a0, a1, a2, a3, a4, a5, a6, a7, a8, a9⟩ := e
  simp only [En.v] at *
  by_cases h0 : 0 ≤ a0
  · have d0 : decide (0 ≤ a0) = true := decide_eq_true h0
    by_cases h1 : a0 ≤ 255
    · have d1 : decide (a0 ≤ 255) = true := decide_eq_true h1
      rw [decide_eq_true (show 0 ≤ a0 ∧ a0 ≤ 255 from ⟨h0, h1⟩), Bool.true_and] at HE
      cases L
      · go_enter Tryd.func19, Tryd.ntmps19
        go_wp2_with (go_at_call 38; refine (hlf _ (hF1 _)).mono ?_; rintro e w' ⟨rfl, hb⟩)
        all_goals go_ret
        all_goals exact ⟨by rw [HE.out]; rfl, below_tr (below_new _ _) hb⟩
      · rw [Bool.true_and] at HE
        go_enter Tryd.func19, Tryd.ntmps19
        go_wp2_with fail
        refine (hlf _ (hF1 _)).mono ?_
        rintro e w1 ⟨rfl, hb⟩
        have hK := block_later hb (heap_alloc_new w (.cells #[.int .i64 a0, .int .u64 a1, .int .i64 a2, .int .i64 a3, .int .u64 a4, .bool a5, .bool a6, .bool a7, .bool a8, .int .i64 a9] 33))
        obtain ⟨q0, q1, q2, q3, q4, q5, q6, q7, q8, q9⟩ := cells10 hK
        have hB := below_tr (below_new _ _) hb
        clear hb hK hlf hF1
        cases a8
        · go_wp2
          all_goals go_ret
          all_goals exact ⟨by rw [HE.out]; rfl, hB⟩
        · go_wp2_with fail
          refine (hm _).mono ?_
          rintro e w2 ⟨rfl, hb2⟩
          go_wp2
          all_goals go_ret
          all_goals exact ⟨by rw [HE.out]; rfl, below_tr hB hb2⟩
    · have d1 : decide (a0 ≤ 255) = false := decide_eq_false h1
      rw [decide_eq_false (show ¬ (0 ≤ a0 ∧ a0 ≤ 255) from fun h => h1 h.2), Bool.false_and] at HE
      go_enter Tryd.func19, Tryd.ntmps19
      go_wp2
      all_goals go_ret
      all_goals exact ⟨by rw [HE.out]; rfl, below_new _ _⟩
  · have d0 : decide (0 ≤ a0) = false := decide_eq_false h0
    rw [decide_eq_false (show ¬ (0 ≤ a0 ∧ a0 ≤ 255) from fun h => h0 h.1), Bool.false_and] at HE
    go_enter Tryd.func19, Tryd.ntmps19
    go_wp2
    all_goals go_ret
    all_goals exact ⟨by rw [HE.out]; rfl, below_new _ _⟩

end Go.Proofs.YthebhgllnjgjhaaDoor
