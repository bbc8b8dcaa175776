/- The document's Right of an entry is the program's. -/
import Derived.Test.YthebhgllnjgjhaaDoorTlbS
namespace Go.Proofs.YthebhgllnjgjhaaDoor
open Go.RowKit

set_option maxHeartbeats 8000000 in
set_option maxRecDepth 100000 in
theorem rright_any (e : En) (he : e.ok) (w : World) :
    Calls Tryd.prog 18 #[e.v] w fun r w' => r = .returned (.bool (rightE e)) ∧ Below w.heap.size w w' := by
  cases ho : outE e
  · obtain ⟨hl, hr⟩ := outE_yes ho
    have HE := Hid.mk hr
    have hBs := fun w1 => refBase_any e.va e.lv hl he.1 w1
    have hRt := fun w1 => refRight_any e.lv e.k e.o e.u e.r e.x e.s e.a hl he.2 w1
    unfold outE at ho
    simp only [Bool.or_eq_false_iff, decide_eq_false_iff_not] at ho
    generalize rightE e = R at *
    generalize rightP e.lv e.k e.o e.u e.r e.x e.s e.a = RP at *
    obtain ⟨a0, a1, a2, a3, a4, a5, a6, a7, a8, a9⟩ := e
    simp only [En.v, dv] at *
    obtain ⟨t0, t1, t2, t3, t4⟩ := ho
    have t4I : ¬ (281474976710656 : Int) ≤ (a1 : Int) := by omega
    have d0 : decide (a0 < 0) = false := decide_eq_false t0
    have d1 : decide (255 < a0) = false := decide_eq_false t1
    have d2 : decide (a2 < 1) = false := decide_eq_false t2
    have d3 : decide (3 < a2) = false := decide_eq_false t3
    generalize hB : baseV a1 a2 = B at *
    clear hl hr he t4 hB
    clear d0 d1 d2 d3
    by_cases h0 : B = a1
    · by_cases h1 : 1 < a3
      · rw [decide_eq_true h0, decide_eq_true h1, Bool.true_and, Bool.true_and] at HE
        cases RP
        · rw [HE.out, Bool.false_and]
          exact rright_C a0 a1 a2 a3 a4 a5 a6 a7 a8 a9 B w t0 t1 t2 t3 t4I h0 h1 hBs false rfl hRt
        · rw [HE.out, Bool.true_and]
          exact rright_D a0 a1 a2 a3 a4 a5 a6 a7 a8 a9 B w t0 t1 t2 t3 t4I h0 h1 hBs true rfl hRt
      · rw [decide_eq_false h1, Bool.false_and, Bool.and_false] at HE
        rw [HE.out]
        exact rright_B a0 a1 a2 a3 a4 a5 a6 a7 a8 a9 B w t0 t1 t2 t3 t4I h0 h1 hBs
    · rw [decide_eq_false h0, Bool.false_and] at HE
      rw [HE.out]
      exact rright_A a0 a1 a2 a3 a4 a5 a6 a7 a8 a9 B w t0 t1 t2 t3 t4I h0 hBs
  · rw [outE_no ho]
    unfold outE at ho
    obtain ⟨a0, a1, a2, a3, a4, a5, a6, a7, a8, a9⟩ := e
    simp only [En.v] at *
    by_cases t0 : a0 < 0
    · have d0 : decide (a0 < 0) = true := decide_eq_true t0
      clear ho he
      go_enter Tryd.func18, Tryd.ntmps18
      go_wp2
      go_ret
      exact ⟨rfl, below_new _ _⟩
    by_cases t1 : 255 < a0
    · have d0 : decide (a0 < 0) = false := decide_eq_false t0
      have d1 : decide (255 < a0) = true := decide_eq_true t1
      clear ho he
      go_enter Tryd.func18, Tryd.ntmps18
      go_wp2
      go_ret
      exact ⟨rfl, below_new _ _⟩
    by_cases t2 : a2 < 1
    · have d0 : decide (a0 < 0) = false := decide_eq_false t0
      have d1 : decide (255 < a0) = false := decide_eq_false t1
      have d2 : decide (a2 < 1) = true := decide_eq_true t2
      clear ho he
      go_enter Tryd.func18, Tryd.ntmps18
      go_wp2
      go_ret
      exact ⟨rfl, below_new _ _⟩
    by_cases t3 : 3 < a2
    · have d0 : decide (a0 < 0) = false := decide_eq_false t0
      have d1 : decide (255 < a0) = false := decide_eq_false t1
      have d2 : decide (a2 < 1) = false := decide_eq_false t2
      have d3 : decide (3 < a2) = true := decide_eq_true t3
      clear ho he
      go_enter Tryd.func18, Tryd.ntmps18
      go_wp2
      go_ret
      exact ⟨rfl, below_new _ _⟩
    · have t4 : 281474976710656 ≤ a1 := by
        simp only [Bool.or_eq_true, decide_eq_true_eq] at ho
        omega
      have t4I : (281474976710656 : Int) ≤ (a1 : Int) := by omega
      have d0 : decide (a0 < 0) = false := decide_eq_false t0
      have d1 : decide (255 < a0) = false := decide_eq_false t1
      have d2 : decide (a2 < 1) = false := decide_eq_false t2
      have d3 : decide (3 < a2) = false := decide_eq_false t3
      clear ho he t4
      go_enter Tryd.func18, Tryd.ntmps18
      go_wp2
      go_ret
      exact ⟨rfl, below_new _ _⟩

end Go.Proofs.YthebhgllnjgjhaaDoor
