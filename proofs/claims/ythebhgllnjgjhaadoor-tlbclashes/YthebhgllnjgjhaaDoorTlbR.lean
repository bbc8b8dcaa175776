/- The document's answers on entries: the walks of portreeveref07's Right and Matches, and of the law's listed. -/
import Derived.Test.YthebhgllnjgjhaaDoorTlbA
import Derived.Test.YthebhgllnjgjhaaDoorRefDescA
import Derived.Deep.QuietTactic
import Derived.BigQuiet
import Derived.Deep.RegionWith
import Derived.Deep.RegionHeld3
namespace Go.Proofs.YthebhgllnjgjhaaDoor
open Go.RowKit

theorem below_dN2 {w0 w : World} (h : Below w0.heap.size w0 w) : ∀ n, Below w0.heap.size w0 (w.drewN n)
  | 0 => h
  | n + 1 => (below_dN2 h n).drew

set_option maxHeartbeats 4000000 in
set_option maxRecDepth 100000 in
theorem rmatches_any (e : En) (hl : isLv e.lv = true) (i : Int) (x : Nat) (hx : x < 18446744073709551616) (w : World) :
    Calls Tryd.prog 41 #[e.v, .int .i64 i, .int .u64 x] w fun r w' => r = .returned (.bool (mB e i x)) ∧ Below w.heap.size w w' := by
  have HE : Hid (mB e i x = (decide (e.aid = i) && (decide (x < 281474976710656) && decide (baseV x e.lv = e.va)))) := by
    show mB e i x = _
    unfold mB lowB baseB
    rw [hl, Bool.true_and]
  have hBs := fun w1 => refBase_any x e.lv hl hx w1
  generalize mB e i x = M at *
  obtain ⟨a0, a1, a2, a3, a4, a5, a6, a7, a8, a9⟩ := e
  simp only [En.v] at *
  generalize baseV x a2 = B at *
  clear hl
  by_cases h0 : a0 = i
  · rw [decide_eq_true h0, Bool.true_and] at HE
    have d0 : (a0 == i) = true := by rw [beq_iff_eq]; exact h0
    by_cases h1 : x < 281474976710656
    · rw [decide_eq_true h1, Bool.true_and] at HE
      have h1I : (x : Int) < 281474976710656 := by omega
      have d1 : decide ((x : Int) < 281474976710656) = true := decide_eq_true h1I
      have d1n : decide (x < 281474976710656) = true := decide_eq_true h1
      have HE2 : Hid (M = ((B : Int) == (a1 : Int))) := by
        show M = _
        rw [HE.out, Bool.eq_iff_iff, decide_eq_true_eq, beq_iff_eq]; omega
      clear HE h0 h1 hx h1I
      go_enter Tryd.func41, Tryd.ntmps41
      go_wp2
      first | (go_region_with ((go_at_call 36; refine (hBs _).mono ?_; rintro e w' ⟨rfl, hbm⟩; have c1 : w'.cell? ⟨w.heap.size, 1, none⟩ = some (.int .u64 a1) := cell_later hbm (by go_keep)))) | fail
      all_goals go_wp2
      all_goals go_ret
      all_goals exact ⟨by rw [HE2.out]; rfl, below_tr (below_new _ _).drew hbm⟩
    · rw [decide_eq_false h1, Bool.false_and] at HE
      have h1I : ¬ (x : Int) < 281474976710656 := by omega
      have d1 : decide ((x : Int) < 281474976710656) = false := decide_eq_false h1I
      have d1n : decide (x < 281474976710656) = false := decide_eq_false h1
      clear h0 hx hBs
      go_enter Tryd.func41, Tryd.ntmps41
      go_wp2
      go_quiet (fail)
      go_wp2
      go_ret
      exact ⟨by rw [HE.out]; rfl, below_dN2 (below_new _ _) _⟩
  · rw [decide_eq_false h0, Bool.false_and] at HE
    have d0 : (a0 == i) = false := by rw [beq_eq_false_iff_ne]; exact h0
    clear h0 hx hBs
    go_enter Tryd.func41, Tryd.ntmps41
    go_wp2
    go_quiet (fail)
    go_wp2
    go_ret
    exact ⟨by rw [HE.out]; rfl, below_dN2 (below_new _ _) _⟩

set_option maxHeartbeats 2000000 in
theorem listed_c (e : En) (w : World) :
    Calls Tryd.prog 17 #[e.v] w fun r w' => r = .returned e.v ∧ Below w.heap.size w w' := by
  obtain ⟨a0, a1, a2, a3, a4, a5, a6, a7, a8, a9⟩ := e
  simp only [En.v] at *
  go_enter Tryd.func17, Tryd.ntmps17
  go_wp2
  refine bodyPost_ret (v := .agg #[.int .i64 a0, .int .u64 a1, .int .i64 a2, .int .i64 a3, .int .u64 a4, .bool a5, .bool a6, .bool a7, .bool a8, .int .i64 a9]) ?_ rfl ⟨rfl, below_tr (below_new _ _) (below_new _ _)⟩
  exact results_cell_row rfl _ _ (w.heap.size + 1) 51 _ _ _ rfl (heap_alloc2_new _ _ _) Tryd.underlying51 rfl (by kernel_rfl)

/-- The first test of the document's Right. -/
def outE (e : En) : Bool := decide (e.aid < 0) || (decide (255 < e.aid) || (decide (e.lv < 1) || (decide (3 < e.lv) || decide (281474976710656 ≤ e.va))))
theorem outE_no {e : En} (h : outE e = true) : rightE e = false := by
  cases hr : rightE e
  · rfl
  · exfalso
    unfold rightE at hr
    simp only [Bool.and_eq_true, decide_eq_true_eq] at hr
    obtain ⟨h1, h2, -, h3⟩ := hr
    unfold leafE at h2
    rw [Bool.and_eq_true, Bool.or_eq_true, decide_eq_true_eq, decide_eq_true_eq] at h2
    unfold mB lowB at h3
    simp only [Bool.and_eq_true, decide_eq_true_eq] at h3
    have h4 : 1 ≤ e.lv ∧ e.lv ≤ 3 := by
      have hq := h2.2
      have hlv : ¬ isLv e.lv = false := by rw [rightP_lv hq]; decide
      unfold rightP at hq
      rw [if_neg hlv] at hq
      rcases h2.1 with h | h
      · rw [h, if_neg (by decide), if_neg (by decide), if_pos rfl, Bool.and_eq_true, decide_eq_true_eq] at hq
        have := hq.1
        omega
      · rw [h, if_neg (by decide), if_neg (by decide), if_neg (by decide), if_pos rfl, Bool.and_eq_true, decide_eq_true_eq] at hq
        have := hq.1
        omega
    unfold outE at h
    simp only [Bool.or_eq_true, decide_eq_true_eq] at h
    omega
theorem outE_yes {e : En} (h : outE e = false) : isLv e.lv = true ∧ rightE e = (decide (baseV e.va e.lv = e.va) && (decide (1 < e.k) && (rightP e.lv e.k e.o e.u e.r e.x e.s e.a && e.s))) := by
  unfold outE at h
  simp only [Bool.or_eq_false_iff, decide_eq_false_iff_not] at h
  have hl : isLv e.lv = true := by unfold isLv; rw [decide_eq_true_eq]; omega
  refine ⟨hl, ?_⟩
  have e1 : leafE e.lv e.k e.o e.u e.r e.x e.s e.a = (decide (1 < e.k) && rightP e.lv e.k e.o e.u e.r e.x e.s e.a) := by
    unfold leafE
    cases hr : rightP e.lv e.k e.o e.u e.r e.x e.s e.a
    · rw [Bool.and_false, Bool.and_false]
    · rw [Bool.and_true, Bool.and_true, Bool.eq_iff_iff, Bool.or_eq_true, decide_eq_true_eq, decide_eq_true_eq, decide_eq_true_eq]
      have := rightP_kind hr
      omega
  have e2 : mB e e.aid e.va = decide (baseV e.va e.lv = e.va) := by
    unfold mB lowB baseB
    rw [decide_eq_true (rfl : e.aid = e.aid), decide_eq_true (by omega : e.va < 281474976710656), hl]
    rfl
  unfold rightE
  rw [decide_eq_true (by omega : 0 ≤ e.aid ∧ e.aid ≤ 255), e1, e2, Bool.true_and]
  cases decide (baseV e.va e.lv = e.va) <;> cases decide (1 < e.k) <;> cases rightP e.lv e.k e.o e.u e.r e.x e.s e.a <;> cases e.s <;> rfl

end Go.Proofs.YthebhgllnjgjhaaDoor
