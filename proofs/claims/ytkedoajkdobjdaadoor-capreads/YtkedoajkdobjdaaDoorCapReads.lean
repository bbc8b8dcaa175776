/- CapReads (P11.1): for any two words the law returns true: they are a capability just if the document says so: then it is right, and has just these. No condition beyond the row's own. -/
import Derived.Test.YtkedoajkdobjdaaDoorCapK
import Derived.Test.YtkedoajkdobjdaaDoorCapFrame
set_option linter.unusedVariables false
namespace Go.Proofs.YtkedoajkdobjdaaDoor.capReads
open Go.ChangeShapes Go.WideShapes Go.ChangeAt Go.RowKit Go.Lib

theorem eqZ (w : World) : (binOp .eql 24 (.agg #[.int .i64 0, .int .u64 0, .int .i64 0, .int .i64 0, .int .i64 0, .int .i64 0, .int .u64 0]) (.agg #[.int .i64 0, .int .u64 0, .int .i64 0, .int .i64 0, .int .i64 0, .int .i64 0, .int .u64 0])).run Tryd.prog w = .ok (.bool true) w := by
  have := eqC 0 0 0 0 0 0 0 0 0 0 0 0 0 0 w
  exact this.trans (by rfl)
set_option maxHeartbeats 2000000 in
theorem eqD (k : Int) (a : Nat) (b r g s : Int) (m : Nat) (k2 : Int) (a2 : Nat) (b2 r2 g2 s2 : Int) (m2 : Nat) (w : World) : (binOp .eql 29 (.agg #[.int .i64 k, .int .u64 (a : Nat), .int .i64 b, .int .i64 r, .int .i64 g, .int .i64 s, .int .u64 (m : Nat)]) (.agg #[.int .i64 k2, .int .u64 (a2 : Nat), .int .i64 b2, .int .i64 r2, .int .i64 g2, .int .i64 s2, .int .u64 (m2 : Nat)])).run Tryd.prog w = .ok (.bool (eqCB k a b r g s m k2 a2 b2 r2 g2 s2 m2)) w := by
  unfold eqCB
  by_cases hk : k = k2
  · subst hk
    by_cases ha : a = a2
    · subst ha
      by_cases hb : b = b2
      · subst hb
        by_cases hr : r = r2
        · subst hr
          by_cases hg : g = g2
          · subst hg
            by_cases hs : s = s2
            · subst hs
              by_cases hm : m = m2
              · subst hm
                first | (go_simp; done) | (go_simp <;> simp_all)
              · go_simp <;> (first | (simp_all; done) | (rw [if_neg (by omega), beq_eq_false_iff_ne.2 (by assumption)]; done) | (rw [if_neg (by omega), beq_eq_false_iff_ne.2 (by assumption)]; rfl))
            · go_simp <;> (first | (simp_all; done) | (rw [if_neg (by omega), beq_eq_false_iff_ne.2 (by assumption)]; done) | (rw [if_neg (by omega), beq_eq_false_iff_ne.2 (by assumption)]; rfl))
          · go_simp <;> (first | (simp_all; done) | (rw [if_neg (by omega), beq_eq_false_iff_ne.2 (by assumption)]; done) | (rw [if_neg (by omega), beq_eq_false_iff_ne.2 (by assumption)]; rfl))
        · go_simp <;> (first | (simp_all; done) | (rw [if_neg (by omega), beq_eq_false_iff_ne.2 (by assumption)]; done) | (rw [if_neg (by omega), beq_eq_false_iff_ne.2 (by assumption)]; rfl))
      · go_simp <;> (first | (simp_all; done) | (rw [if_neg (by omega), beq_eq_false_iff_ne.2 (by assumption)]; done) | (rw [if_neg (by omega), beq_eq_false_iff_ne.2 (by assumption)]; rfl))
    · go_simp <;> (first | (simp_all; done) | (rw [if_neg (by omega), beq_eq_false_iff_ne.2 (by assumption)]; done) | (rw [if_neg (by omega), beq_eq_false_iff_ne.2 (by assumption)]; rfl))
  · go_simp <;> (first | (simp_all; done) | (rw [if_neg (by omega), beq_eq_false_iff_ne.2 (by assumption)]; done) | (rw [if_neg (by omega), beq_eq_false_iff_ne.2 (by assumption)]; rfl))
theorem eqDs (K A B R G S y : Nat) (w : World) : (binOp .eql 29 (.agg #[.int .i64 (K : Nat), .int .u64 (A : Nat), .int .i64 (B : Nat), .int .i64 (R : Nat), .int .i64 (G : Nat), .int .i64 (S : Nat), .int .u64 (y : Nat)]) (.agg #[.int .i64 (K : Nat), .int .u64 (A : Nat), .int .i64 (B : Nat), .int .i64 (R : Nat), .int .i64 (G : Nat), .int .i64 (S : Nat), .int .u64 (y : Nat)])).run Tryd.prog w = .ok (.bool true) w := by
  rw [eqD]; unfold eqCB; simp

set_option maxRecDepth 100000 in
set_option maxHeartbeats 4000000 in
theorem walk (x y : Nat) (w : World) (hx : x < 18446744073709551616) (hy : y < 18446744073709551616) (hP : Prts w) :
    Calls Tryd.prog 4 #[.int .u64 (x : Nat), .int .u64 (y : Nat)] w fun e w' => e = .returned (.bool true) ∧ Below w.heap.size w w' := by
  have hR := rd_bounds x y hy
  have cA := fun w1 h1 => anchorC_any w1 h1
  have cE := fun w1 h1 => read_any x y hx hy w1 h1
  have cF := fun w1 => refRead_any x y hx hy w1
  have cD := fun w1 => dright_any (rdK x) (rdA x) (rdB x) (rdR x) (rdG x) (rdS x) y (by have := hR.qa; omega) hy w1
  have cV := fun w1 => refWord_any hR w1
  rw [← right_same] at cD
  have HZ := eqZ
  cases hc : cB (rdK x) (rdA x) (rdB x) (rdR x) (rdG x) (rdS x) y
  · have e : rdOK x y = false := by unfold rdOK; rw [hc]; rfl
    rw [hc] at cD
    rw [e, if_neg (by decide), if_neg (by decide)] at cE
    clear e hc hR cV
    generalize rdK x = K at *
    generalize rdA x = A at *
    generalize rdB x = B at *
    generalize rdR x = R at *
    generalize rdG x = G at *
    generalize rdS x = S at *
    go_enter Tryd.func4, Tryd.ntmps4
    have hB := Below.refl w.heap.size w
    go_wp2_with fail
    refine (cA _ hP).mono ?_
    rintro e w1 ⟨rfl, hb⟩
    replace hB := below_tr hB hb
    clear hb
    go_wp2_with fail
    refine (cE _ (hP.later hB)).mono ?_
    rintro e w2 ⟨rfl, hb⟩
    replace hB := below_tr hB hb
    clear hb
    go_wp2_with fail
    have gY := heap_alloc_new w2 (.cells #[.int .i64 0, .int .u64 0, .int .i64 0, .int .i64 0, .int .i64 0, .int .i64 0, .int .u64 0] 24)
    replace hB := below_tr hB (below_new _ (.cells #[.int .i64 0, .int .u64 0, .int .i64 0, .int .i64 0, .int .i64 0, .int .i64 0, .int .u64 0] 24))
    generalize w2.heap.size = Y at *
    generalize w2.alloc (.cells #[.int .i64 0, .int .u64 0, .int .i64 0, .int .i64 0, .int .i64 0, .int .i64 0, .int .u64 0] 24) = w2a at *
    obtain ⟨y0, y1, y2, y3, y4, y5, y6⟩ := cells7 gY
    have yp0 := fun o => cell_alloc (o := o) y0
    have yp1 := fun o => cell_alloc (o := o) y1
    have yp2 := fun o => cell_alloc (o := o) y2
    have yp3 := fun o => cell_alloc (o := o) y3
    have yp4 := fun o => cell_alloc (o := o) y4
    have yp5 := fun o => cell_alloc (o := o) y5
    have yp6 := fun o => cell_alloc (o := o) y6
    refine (cF _).mono ?_
    clear y0 yp0 y1 yp1 y2 yp2 y3 yp3 y4 yp4 y5 yp5 y6 yp6
    rintro e w3 ⟨rfl, hb⟩
    replace gY := block_later hb gY
    replace hB := below_tr hB hb
    clear hb
    obtain ⟨y0, y1, y2, y3, y4, y5, y6⟩ := cells7 gY
    have yp0 := fun o => cell_alloc (o := o) y0
    have yp1 := fun o => cell_alloc (o := o) y1
    have yp2 := fun o => cell_alloc (o := o) y2
    have yp3 := fun o => cell_alloc (o := o) y3
    have yp4 := fun o => cell_alloc (o := o) y4
    have yp5 := fun o => cell_alloc (o := o) y5
    have yp6 := fun o => cell_alloc (o := o) y6
    go_wp2_with fail
    clear y0 yp0 y1 yp1 y2 yp2 y3 yp3 y4 yp4 y5 yp5 y6 yp6
    have gX := heap_alloc_new w3 (.cells #[.int .i64 (K : Nat), .int .u64 (A : Nat), .int .i64 (B : Nat), .int .i64 (R : Nat), .int .i64 (G : Nat), .int .i64 (S : Nat), .int .u64 (y : Nat)] 29)
    replace gY := block_later (below_new _ (.cells #[.int .i64 (K : Nat), .int .u64 (A : Nat), .int .i64 (B : Nat), .int .i64 (R : Nat), .int .i64 (G : Nat), .int .i64 (S : Nat), .int .u64 (y : Nat)] 29)) gY
    replace hB := below_tr hB (below_new _ (.cells #[.int .i64 (K : Nat), .int .u64 (A : Nat), .int .i64 (B : Nat), .int .i64 (R : Nat), .int .i64 (G : Nat), .int .i64 (S : Nat), .int .u64 (y : Nat)] 29))
    generalize w3.heap.size = X at *
    generalize w3.alloc (.cells #[.int .i64 (K : Nat), .int .u64 (A : Nat), .int .i64 (B : Nat), .int .i64 (R : Nat), .int .i64 (G : Nat), .int .i64 (S : Nat), .int .u64 (y : Nat)] 29) = w3a at *
    obtain ⟨y0, y1, y2, y3, y4, y5, y6⟩ := cells7 gY
    have yp0 := fun o => cell_alloc (o := o) y0
    have yp1 := fun o => cell_alloc (o := o) y1
    have yp2 := fun o => cell_alloc (o := o) y2
    have yp3 := fun o => cell_alloc (o := o) y3
    have yp4 := fun o => cell_alloc (o := o) y4
    have yp5 := fun o => cell_alloc (o := o) y5
    have yp6 := fun o => cell_alloc (o := o) y6
    obtain ⟨x0, x1, x2, x3, x4, x5, x6⟩ := cells7 gX
    have xp0 := fun o => cell_alloc (o := o) x0
    have xp1 := fun o => cell_alloc (o := o) x1
    have xp2 := fun o => cell_alloc (o := o) x2
    have xp3 := fun o => cell_alloc (o := o) x3
    have xp4 := fun o => cell_alloc (o := o) x4
    have xp5 := fun o => cell_alloc (o := o) x5
    have xp6 := fun o => cell_alloc (o := o) x6
    refine (cD _).mono ?_
    clear y0 yp0 y1 yp1 y2 yp2 y3 yp3 y4 yp4 y5 yp5 y6 yp6 x0 xp0 x1 xp1 x2 xp2 x3 xp3 x4 xp4 x5 xp5 x6 xp6
    rintro e w4 ⟨rfl, hb⟩
    replace gY := block_later hb gY
    replace gX := block_later hb gX
    replace hB := below_tr hB hb
    clear hb
    obtain ⟨y0, y1, y2, y3, y4, y5, y6⟩ := cells7 gY
    have yp0 := fun o => cell_alloc (o := o) y0
    have yp1 := fun o => cell_alloc (o := o) y1
    have yp2 := fun o => cell_alloc (o := o) y2
    have yp3 := fun o => cell_alloc (o := o) y3
    have yp4 := fun o => cell_alloc (o := o) y4
    have yp5 := fun o => cell_alloc (o := o) y5
    have yp6 := fun o => cell_alloc (o := o) y6
    obtain ⟨x0, x1, x2, x3, x4, x5, x6⟩ := cells7 gX
    have xp0 := fun o => cell_alloc (o := o) x0
    have xp1 := fun o => cell_alloc (o := o) x1
    have xp2 := fun o => cell_alloc (o := o) x2
    have xp3 := fun o => cell_alloc (o := o) x3
    have xp4 := fun o => cell_alloc (o := o) x4
    have xp5 := fun o => cell_alloc (o := o) x5
    have xp6 := fun o => cell_alloc (o := o) x6
    go_wp2
    go_ret
    first
      | exact ⟨rfl, hB⟩
      | exact ⟨rfl, hB.alloc hB.size _⟩
  by_cases hw : wordN (rdK x) (rdA x) (rdB x) (rdR x) (rdG x) (rdS x) = x
  · have e : rdOK x y = true := by unfold rdOK; rw [hc, hw]; simp
    have cW := fun w1 h1 => words_ok hR hc w1 h1
    rw [hc] at cD
    rw [e, if_pos rfl, if_pos rfl] at cE
    rw [hw] at cV cW
    have HY := fun w1 => eqDs (rdK x) (rdA x) (rdB x) (rdR x) (rdG x) (rdS x) y w1
    clear e hc hR hw
    generalize rdK x = K at *
    generalize rdA x = A at *
    generalize rdB x = B at *
    generalize rdR x = R at *
    generalize rdG x = G at *
    generalize rdS x = S at *
    go_enter Tryd.func4, Tryd.ntmps4
    have hB := Below.refl w.heap.size w
    go_wp2_with fail
    refine (cA _ hP).mono ?_
    rintro e w1 ⟨rfl, hb⟩
    replace hB := below_tr hB hb
    clear hb
    go_wp2_with fail
    refine (cE _ (hP.later hB)).mono ?_
    rintro e w2 ⟨rfl, hb⟩
    replace hB := below_tr hB hb
    clear hb
    go_wp2_with fail
    have gY := heap_alloc_new w2 (.cells #[.int .i64 (K : Nat), .int .u64 (A : Nat), .int .i64 (B : Nat), .int .i64 (R : Nat), .int .i64 (G : Nat), .int .i64 (S : Nat), .int .u64 (y : Nat)] 24)
    replace hB := below_tr hB (below_new _ (.cells #[.int .i64 (K : Nat), .int .u64 (A : Nat), .int .i64 (B : Nat), .int .i64 (R : Nat), .int .i64 (G : Nat), .int .i64 (S : Nat), .int .u64 (y : Nat)] 24))
    generalize w2.heap.size = Y at *
    generalize w2.alloc (.cells #[.int .i64 (K : Nat), .int .u64 (A : Nat), .int .i64 (B : Nat), .int .i64 (R : Nat), .int .i64 (G : Nat), .int .i64 (S : Nat), .int .u64 (y : Nat)] 24) = w2a at *
    obtain ⟨y0, y1, y2, y3, y4, y5, y6⟩ := cells7 gY
    have yp0 := fun o => cell_alloc (o := o) y0
    have yp1 := fun o => cell_alloc (o := o) y1
    have yp2 := fun o => cell_alloc (o := o) y2
    have yp3 := fun o => cell_alloc (o := o) y3
    have yp4 := fun o => cell_alloc (o := o) y4
    have yp5 := fun o => cell_alloc (o := o) y5
    have yp6 := fun o => cell_alloc (o := o) y6
    refine (cF _).mono ?_
    clear y0 yp0 y1 yp1 y2 yp2 y3 yp3 y4 yp4 y5 yp5 y6 yp6
    rintro e w3 ⟨rfl, hb⟩
    replace gY := block_later hb gY
    replace hB := below_tr hB hb
    clear hb
    obtain ⟨y0, y1, y2, y3, y4, y5, y6⟩ := cells7 gY
    have yp0 := fun o => cell_alloc (o := o) y0
    have yp1 := fun o => cell_alloc (o := o) y1
    have yp2 := fun o => cell_alloc (o := o) y2
    have yp3 := fun o => cell_alloc (o := o) y3
    have yp4 := fun o => cell_alloc (o := o) y4
    have yp5 := fun o => cell_alloc (o := o) y5
    have yp6 := fun o => cell_alloc (o := o) y6
    go_wp2_with fail
    clear y0 yp0 y1 yp1 y2 yp2 y3 yp3 y4 yp4 y5 yp5 y6 yp6
    have gX := heap_alloc_new w3 (.cells #[.int .i64 (K : Nat), .int .u64 (A : Nat), .int .i64 (B : Nat), .int .i64 (R : Nat), .int .i64 (G : Nat), .int .i64 (S : Nat), .int .u64 (y : Nat)] 29)
    replace gY := block_later (below_new _ (.cells #[.int .i64 (K : Nat), .int .u64 (A : Nat), .int .i64 (B : Nat), .int .i64 (R : Nat), .int .i64 (G : Nat), .int .i64 (S : Nat), .int .u64 (y : Nat)] 29)) gY
    replace hB := below_tr hB (below_new _ (.cells #[.int .i64 (K : Nat), .int .u64 (A : Nat), .int .i64 (B : Nat), .int .i64 (R : Nat), .int .i64 (G : Nat), .int .i64 (S : Nat), .int .u64 (y : Nat)] 29))
    generalize w3.heap.size = X at *
    generalize w3.alloc (.cells #[.int .i64 (K : Nat), .int .u64 (A : Nat), .int .i64 (B : Nat), .int .i64 (R : Nat), .int .i64 (G : Nat), .int .i64 (S : Nat), .int .u64 (y : Nat)] 29) = w3a at *
    obtain ⟨y0, y1, y2, y3, y4, y5, y6⟩ := cells7 gY
    have yp0 := fun o => cell_alloc (o := o) y0
    have yp1 := fun o => cell_alloc (o := o) y1
    have yp2 := fun o => cell_alloc (o := o) y2
    have yp3 := fun o => cell_alloc (o := o) y3
    have yp4 := fun o => cell_alloc (o := o) y4
    have yp5 := fun o => cell_alloc (o := o) y5
    have yp6 := fun o => cell_alloc (o := o) y6
    obtain ⟨x0, x1, x2, x3, x4, x5, x6⟩ := cells7 gX
    have xp0 := fun o => cell_alloc (o := o) x0
    have xp1 := fun o => cell_alloc (o := o) x1
    have xp2 := fun o => cell_alloc (o := o) x2
    have xp3 := fun o => cell_alloc (o := o) x3
    have xp4 := fun o => cell_alloc (o := o) x4
    have xp5 := fun o => cell_alloc (o := o) x5
    have xp6 := fun o => cell_alloc (o := o) x6
    refine (cD _).mono ?_
    clear y0 yp0 y1 yp1 y2 yp2 y3 yp3 y4 yp4 y5 yp5 y6 yp6 x0 xp0 x1 xp1 x2 xp2 x3 xp3 x4 xp4 x5 xp5 x6 xp6
    rintro e w4 ⟨rfl, hb⟩
    replace gY := block_later hb gY
    replace gX := block_later hb gX
    replace hB := below_tr hB hb
    clear hb
    obtain ⟨y0, y1, y2, y3, y4, y5, y6⟩ := cells7 gY
    have yp0 := fun o => cell_alloc (o := o) y0
    have yp1 := fun o => cell_alloc (o := o) y1
    have yp2 := fun o => cell_alloc (o := o) y2
    have yp3 := fun o => cell_alloc (o := o) y3
    have yp4 := fun o => cell_alloc (o := o) y4
    have yp5 := fun o => cell_alloc (o := o) y5
    have yp6 := fun o => cell_alloc (o := o) y6
    obtain ⟨x0, x1, x2, x3, x4, x5, x6⟩ := cells7 gX
    have xp0 := fun o => cell_alloc (o := o) x0
    have xp1 := fun o => cell_alloc (o := o) x1
    have xp2 := fun o => cell_alloc (o := o) x2
    have xp3 := fun o => cell_alloc (o := o) x3
    have xp4 := fun o => cell_alloc (o := o) x4
    have xp5 := fun o => cell_alloc (o := o) x5
    have xp6 := fun o => cell_alloc (o := o) x6
    go_wp2_with fail
    refine (cV _).mono ?_
    clear y0 yp0 y1 yp1 y2 yp2 y3 yp3 y4 yp4 y5 yp5 y6 yp6 x0 xp0 x1 xp1 x2 xp2 x3 xp3 x4 xp4 x5 xp5 x6 xp6
    rintro e w5 ⟨rfl, hb⟩
    replace gY := block_later hb gY
    replace gX := block_later hb gX
    replace hB := below_tr hB hb
    clear hb
    obtain ⟨y0, y1, y2, y3, y4, y5, y6⟩ := cells7 gY
    have yp0 := fun o => cell_alloc (o := o) y0
    have yp1 := fun o => cell_alloc (o := o) y1
    have yp2 := fun o => cell_alloc (o := o) y2
    have yp3 := fun o => cell_alloc (o := o) y3
    have yp4 := fun o => cell_alloc (o := o) y4
    have yp5 := fun o => cell_alloc (o := o) y5
    have yp6 := fun o => cell_alloc (o := o) y6
    obtain ⟨x0, x1, x2, x3, x4, x5, x6⟩ := cells7 gX
    have xp0 := fun o => cell_alloc (o := o) x0
    have xp1 := fun o => cell_alloc (o := o) x1
    have xp2 := fun o => cell_alloc (o := o) x2
    have xp3 := fun o => cell_alloc (o := o) x3
    have xp4 := fun o => cell_alloc (o := o) x4
    have xp5 := fun o => cell_alloc (o := o) x5
    have xp6 := fun o => cell_alloc (o := o) x6
    go_wp2_with fail
    refine (cW _ (hP.later hB)).mono ?_
    clear y0 yp0 y1 yp1 y2 yp2 y3 yp3 y4 yp4 y5 yp5 y6 yp6 x0 xp0 x1 xp1 x2 xp2 x3 xp3 x4 xp4 x5 xp5 x6 xp6
    rintro e w6 ⟨rfl, hb⟩
    replace gY := block_later hb gY
    replace gX := block_later hb gX
    replace hB := below_tr hB hb
    clear hb
    obtain ⟨y0, y1, y2, y3, y4, y5, y6⟩ := cells7 gY
    have yp0 := fun o => cell_alloc (o := o) y0
    have yp1 := fun o => cell_alloc (o := o) y1
    have yp2 := fun o => cell_alloc (o := o) y2
    have yp3 := fun o => cell_alloc (o := o) y3
    have yp4 := fun o => cell_alloc (o := o) y4
    have yp5 := fun o => cell_alloc (o := o) y5
    have yp6 := fun o => cell_alloc (o := o) y6
    obtain ⟨x0, x1, x2, x3, x4, x5, x6⟩ := cells7 gX
    have xp0 := fun o => cell_alloc (o := o) x0
    have xp1 := fun o => cell_alloc (o := o) x1
    have xp2 := fun o => cell_alloc (o := o) x2
    have xp3 := fun o => cell_alloc (o := o) x3
    have xp4 := fun o => cell_alloc (o := o) x4
    have xp5 := fun o => cell_alloc (o := o) x5
    have xp6 := fun o => cell_alloc (o := o) x6
    go_wp2
    go_ret
    first
      | exact ⟨rfl, hB⟩
      | exact ⟨rfl, hB.alloc hB.size _⟩
  · have e : rdOK x y = false := by unfold rdOK; rw [hc, Bool.true_and, beq_eq_false_iff_ne]; exact hw
    rw [hc] at cD
    rw [e, if_neg (by decide), if_neg (by decide)] at cE
    have dn : (((wordN (rdK x) (rdA x) (rdB x) (rdR x) (rdG x) (rdS x) : Nat) : Int) != (x : Int)) = true := by rw [bne_iff_ne]; omega
    clear e hc hR
    generalize rdK x = K at *
    generalize rdA x = A at *
    generalize rdB x = B at *
    generalize rdR x = R at *
    generalize rdG x = G at *
    generalize rdS x = S at *
    generalize wordN K A B R G S = N at *
    go_enter Tryd.func4, Tryd.ntmps4
    have hB := Below.refl w.heap.size w
    go_wp2_with fail
    refine (cA _ hP).mono ?_
    rintro e w1 ⟨rfl, hb⟩
    replace hB := below_tr hB hb
    clear hb
    go_wp2_with fail
    refine (cE _ (hP.later hB)).mono ?_
    rintro e w2 ⟨rfl, hb⟩
    replace hB := below_tr hB hb
    clear hb
    go_wp2_with fail
    have gY := heap_alloc_new w2 (.cells #[.int .i64 0, .int .u64 0, .int .i64 0, .int .i64 0, .int .i64 0, .int .i64 0, .int .u64 0] 24)
    replace hB := below_tr hB (below_new _ (.cells #[.int .i64 0, .int .u64 0, .int .i64 0, .int .i64 0, .int .i64 0, .int .i64 0, .int .u64 0] 24))
    generalize w2.heap.size = Y at *
    generalize w2.alloc (.cells #[.int .i64 0, .int .u64 0, .int .i64 0, .int .i64 0, .int .i64 0, .int .i64 0, .int .u64 0] 24) = w2a at *
    obtain ⟨y0, y1, y2, y3, y4, y5, y6⟩ := cells7 gY
    have yp0 := fun o => cell_alloc (o := o) y0
    have yp1 := fun o => cell_alloc (o := o) y1
    have yp2 := fun o => cell_alloc (o := o) y2
    have yp3 := fun o => cell_alloc (o := o) y3
    have yp4 := fun o => cell_alloc (o := o) y4
    have yp5 := fun o => cell_alloc (o := o) y5
    have yp6 := fun o => cell_alloc (o := o) y6
    refine (cF _).mono ?_
    clear y0 yp0 y1 yp1 y2 yp2 y3 yp3 y4 yp4 y5 yp5 y6 yp6
    rintro e w3 ⟨rfl, hb⟩
    replace gY := block_later hb gY
    replace hB := below_tr hB hb
    clear hb
    obtain ⟨y0, y1, y2, y3, y4, y5, y6⟩ := cells7 gY
    have yp0 := fun o => cell_alloc (o := o) y0
    have yp1 := fun o => cell_alloc (o := o) y1
    have yp2 := fun o => cell_alloc (o := o) y2
    have yp3 := fun o => cell_alloc (o := o) y3
    have yp4 := fun o => cell_alloc (o := o) y4
    have yp5 := fun o => cell_alloc (o := o) y5
    have yp6 := fun o => cell_alloc (o := o) y6
    go_wp2_with fail
    clear y0 yp0 y1 yp1 y2 yp2 y3 yp3 y4 yp4 y5 yp5 y6 yp6
    have gX := heap_alloc_new w3 (.cells #[.int .i64 (K : Nat), .int .u64 (A : Nat), .int .i64 (B : Nat), .int .i64 (R : Nat), .int .i64 (G : Nat), .int .i64 (S : Nat), .int .u64 (y : Nat)] 29)
    replace gY := block_later (below_new _ (.cells #[.int .i64 (K : Nat), .int .u64 (A : Nat), .int .i64 (B : Nat), .int .i64 (R : Nat), .int .i64 (G : Nat), .int .i64 (S : Nat), .int .u64 (y : Nat)] 29)) gY
    replace hB := below_tr hB (below_new _ (.cells #[.int .i64 (K : Nat), .int .u64 (A : Nat), .int .i64 (B : Nat), .int .i64 (R : Nat), .int .i64 (G : Nat), .int .i64 (S : Nat), .int .u64 (y : Nat)] 29))
    generalize w3.heap.size = X at *
    generalize w3.alloc (.cells #[.int .i64 (K : Nat), .int .u64 (A : Nat), .int .i64 (B : Nat), .int .i64 (R : Nat), .int .i64 (G : Nat), .int .i64 (S : Nat), .int .u64 (y : Nat)] 29) = w3a at *
    obtain ⟨y0, y1, y2, y3, y4, y5, y6⟩ := cells7 gY
    have yp0 := fun o => cell_alloc (o := o) y0
    have yp1 := fun o => cell_alloc (o := o) y1
    have yp2 := fun o => cell_alloc (o := o) y2
    have yp3 := fun o => cell_alloc (o := o) y3
    have yp4 := fun o => cell_alloc (o := o) y4
    have yp5 := fun o => cell_alloc (o := o) y5
    have yp6 := fun o => cell_alloc (o := o) y6
    obtain ⟨x0, x1, x2, x3, x4, x5, x6⟩ := cells7 gX
    have xp0 := fun o => cell_alloc (o := o) x0
    have xp1 := fun o => cell_alloc (o := o) x1
    have xp2 := fun o => cell_alloc (o := o) x2
    have xp3 := fun o => cell_alloc (o := o) x3
    have xp4 := fun o => cell_alloc (o := o) x4
    have xp5 := fun o => cell_alloc (o := o) x5
    have xp6 := fun o => cell_alloc (o := o) x6
    refine (cD _).mono ?_
    clear y0 yp0 y1 yp1 y2 yp2 y3 yp3 y4 yp4 y5 yp5 y6 yp6 x0 xp0 x1 xp1 x2 xp2 x3 xp3 x4 xp4 x5 xp5 x6 xp6
    rintro e w4 ⟨rfl, hb⟩
    replace gY := block_later hb gY
    replace gX := block_later hb gX
    replace hB := below_tr hB hb
    clear hb
    obtain ⟨y0, y1, y2, y3, y4, y5, y6⟩ := cells7 gY
    have yp0 := fun o => cell_alloc (o := o) y0
    have yp1 := fun o => cell_alloc (o := o) y1
    have yp2 := fun o => cell_alloc (o := o) y2
    have yp3 := fun o => cell_alloc (o := o) y3
    have yp4 := fun o => cell_alloc (o := o) y4
    have yp5 := fun o => cell_alloc (o := o) y5
    have yp6 := fun o => cell_alloc (o := o) y6
    obtain ⟨x0, x1, x2, x3, x4, x5, x6⟩ := cells7 gX
    have xp0 := fun o => cell_alloc (o := o) x0
    have xp1 := fun o => cell_alloc (o := o) x1
    have xp2 := fun o => cell_alloc (o := o) x2
    have xp3 := fun o => cell_alloc (o := o) x3
    have xp4 := fun o => cell_alloc (o := o) x4
    have xp5 := fun o => cell_alloc (o := o) x5
    have xp6 := fun o => cell_alloc (o := o) x6
    go_wp2_with fail
    refine (cV _).mono ?_
    clear y0 yp0 y1 yp1 y2 yp2 y3 yp3 y4 yp4 y5 yp5 y6 yp6 x0 xp0 x1 xp1 x2 xp2 x3 xp3 x4 xp4 x5 xp5 x6 xp6
    rintro e w5 ⟨rfl, hb⟩
    replace gY := block_later hb gY
    replace gX := block_later hb gX
    replace hB := below_tr hB hb
    clear hb
    obtain ⟨y0, y1, y2, y3, y4, y5, y6⟩ := cells7 gY
    have yp0 := fun o => cell_alloc (o := o) y0
    have yp1 := fun o => cell_alloc (o := o) y1
    have yp2 := fun o => cell_alloc (o := o) y2
    have yp3 := fun o => cell_alloc (o := o) y3
    have yp4 := fun o => cell_alloc (o := o) y4
    have yp5 := fun o => cell_alloc (o := o) y5
    have yp6 := fun o => cell_alloc (o := o) y6
    obtain ⟨x0, x1, x2, x3, x4, x5, x6⟩ := cells7 gX
    have xp0 := fun o => cell_alloc (o := o) x0
    have xp1 := fun o => cell_alloc (o := o) x1
    have xp2 := fun o => cell_alloc (o := o) x2
    have xp3 := fun o => cell_alloc (o := o) x3
    have xp4 := fun o => cell_alloc (o := o) x4
    have xp5 := fun o => cell_alloc (o := o) x5
    have xp6 := fun o => cell_alloc (o := o) x6
    go_wp2
    go_ret
    first
      | exact ⟨rfl, hB⟩
      | exact ⟨rfl, hB.alloc hB.size _⟩

theorem met {W : World} (h : laidMet Tryd.prog Rows.capReadsRow.laid W) : Prts W := by
  have h0 := part_of_reads (g := 0) (by kernel_rfl) (by kernel_rfl) (Lib.laidMet.reads h (n := "portreeve/cap.kindPart") (d := Rows.laid_portreeve_cap_kindPart) (by simp [Rows.capReadsRow]))
  have h1 := part_of_reads (g := 1) (by kernel_rfl) (by kernel_rfl) (Lib.laidMet.reads h (n := "portreeve/cap.bitsPart") (d := Rows.laid_portreeve_cap_bitsPart) (by simp [Rows.capReadsRow]))
  have h2 := part_of_reads (g := 2) (by kernel_rfl) (by kernel_rfl) (Lib.laidMet.reads h (n := "portreeve/cap.rightsPart") (d := Rows.laid_portreeve_cap_rightsPart) (by simp [Rows.capReadsRow]))
  have h3 := part_of_reads (g := 3) (by kernel_rfl) (by kernel_rfl) (Lib.laidMet.reads h (n := "portreeve/cap.guardPart") (d := Rows.laid_portreeve_cap_guardPart) (by simp [Rows.capReadsRow]))
  have h4 := part_of_reads (g := 4) (by kernel_rfl) (by kernel_rfl) (Lib.laidMet.reads h (n := "portreeve/cap.asidPart") (d := Rows.laid_portreeve_cap_asidPart) (by simp [Rows.capReadsRow]))
  have h5 := part_of_reads (g := 5) (by kernel_rfl) (by kernel_rfl) (Lib.laidMet.reads h (n := "portreeve/cap.atPart") (d := Rows.laid_portreeve_cap_atPart) (by simp [Rows.capReadsRow]))
  exact ⟨h0.1, h0.2.1, h0.2.2, h1.1, h1.2.1, h1.2.2, h2.1, h2.2.1, h2.2.2, h3.1, h3.2.1, h3.2.2, h4.1, h4.2.1, h4.2.2, h5.1, h5.2.1, h5.2.2⟩

theorem own : ownKnob Tryd.prog.godebug = none := by kernel_rfl
theorem laidOut : laidOutB Tryd.prog = true := by kernel_rfl

set_option linter.unusedVariables false in
set_option maxRecDepth 100000 in
theorem contract (H : Type) (enc : TypeId × Value → H) (W : World) (base : Nat) (args : Array Value) (ds gs : List (DataW H)) (before : List MemPlace)
    (hval0 : ∀ (j : Nat) t v, Tryd.f4.params[j]? = some t → args[j]? = some v → Value.okWide Tryd.prog W .any base t v)
    (hW : DataW.Whole enc Tryd.prog Tryd.f4.params.toList Rows.capReadsSpec.vars false W args.toList ds gs before) (hL0 : laidMetH Tryd.prog Rows.capReadsRow.laid W) :
    Calls Tryd.prog 4 args W fun e W' => ∃ v, e = .returned v ∧ Rows.capReadsSpec.post enc Tryd.prog Tryd.f4 false true false false W args v W' := by
  have hL := hL0
  rw [MakeChecks.laidMetH_plain _ _ _ (by kernel_rfl)] at hL
  have hval := hval0
  have hW' := hW
  obtain ⟨p, q, hA0, hV, rfl, hfz, hnd⟩ := hW
  have hA : DataW.TrodAll enc Tryd.prog W 0 (fun _ => true) true Tryd.f4.params.toList args.toList ds p := hA0
  rw [Tryd.params4] at hA hval
  obtain ⟨v0, vs0, d0, ds0, p0, q0, hargs, rfl, rfl, h0, r0⟩ := trodAll_cons hA
  obtain ⟨v1, vs1, d1, ds1, p1, q1, rfl, rfl, rfl, h1, r1⟩ := trodAll_cons r0
  obtain ⟨rfl, rfl, rfl⟩ := trodAll_nil r1
  obtain rfl : args = #[v0, v1] := by cases args; simp_all
  obtain ⟨rfl, rfl⟩ := trodVars_none hV
  have k0 := h0
  have lt0 : ∀ x ∈ p0, x.block < W.heap.size := by obtain ⟨m, hm⟩ := k0; exact DataW.trod_lt m _ _ _ hm
  have k1 := h1
  have lt1 : ∀ x ∈ p1, x.block < W.heap.size := by obtain ⟨m, hm⟩ := k1; exact DataW.trod_lt m _ _ _ hm
  obtain ⟨a0, rfl, _, _, w0⟩ := open_int Tryd.underlying22 (hval 0 22 v0 rfl rfl) h0
  obtain ⟨x0, rfl⟩ := Int.eq_ofNat_of_zero_le (bounds_u64 w0).1
  have b0 : x0 < 18446744073709551616 := by have := (bounds_u64 w0).2; omega
  obtain ⟨a1, rfl, _, _, w1⟩ := open_int Tryd.underlying22 (hval 1 22 v1 rfl rfl) h1
  obtain ⟨x1, rfl⟩ := Int.eq_ofNat_of_zero_le (bounds_u64 w1).1
  have b1 : x1 < 18446744073709551616 := by have := (bounds_u64 w1).2; omega
  clear hA0 hval0
  refine (walk x0 x1 W b0 b1 (met hL)).mono fun e W' ⟨he, bel⟩ => ?_
  subst he
  exact ⟨_, rfl, _, _, _, [], _, [], hW', trodAll_mk1 (shut_bool Tryd.underlying4 _), (trodAll_cons_mk (Below.trod laidOut (by kernel_rfl) (of_decide_eq_true (by kernel_rfl)) k0 bel lt0) (trodAll_cons_mk (Below.trod laidOut (by kernel_rfl) (of_decide_eq_true (by kernel_rfl)) k1 bel lt1) trodAll_mk0)), rfl, bel.frame _, fun h => by cases h⟩

theorem laid_met (os : Os) : laidMet Tryd.prog Rows.capReadsRow.laid ((World.laidAll Tryd.prog os Rows.capReadsRow.laid).forCall (fun _ _ => 0) ⟨#[], #[.int .u64 0, .int .u64 0], []⟩).memory :=
  laidMet_laidAll _ (by kernel_rfl) (by kernel_rfl)
theorem reads (os : Os) {H : Type} (enc : TypeId × Value → H) : ∃ places, DataW.whole enc Tryd.prog ((World.laidAll Tryd.prog os Rows.capReadsRow.laid).forCall (fun _ _ => 0) ⟨#[], #[.int .u64 0, .int .u64 0], []⟩).memory Tryd.f4.params.toList Rows.capReadsSpec.vars false (#[.int .u64 0, .int .u64 0] : Array Value).toList 8 = some ([.lit (.int .u64 0), .lit (.int .u64 0)], [], places) :=
  ⟨[], by kernel_rfl⟩

set_option maxRecDepth 100000 in
theorem lifted (os : Os) (started : os.Started) (H : Type) (enc : TypeId × Value → H) (F : Stop.Interp) :
    ReturnsInHanded {} Tryd.checked os 4 .any ((OpenSpec.ofChange Rows.capReadsSpec).preRow enc Tryd.prog Tryd.f4 Rows.capReadsRow.domain false Rows.capReadsRow.laid) (((OpenSpec.ofChange Rows.capReadsSpec).at F).post enc Tryd.prog Tryd.f4 false true false false) := by
  obtain ⟨places, hx⟩ := reads os enc
  refine returnsInHanded_of_row (C := Tryd.checked) (s := (OpenSpec.ofChange Rows.capReadsSpec)) own started (by kernel_rfl) Tryd.func4
    (witness_row_at (enc := enc) (C := Tryd.checked) false (World.laidAll Tryd.prog os Rows.capReadsRow.laid) #[.int .u64 0, .int .u64 0] (World.laidAll_os _ _ _) (by kernel_rfl) (by kernel_rfl) (by kernel_rfl)
      (OpenSpec.preRow_of_cond 8 hx (by kernel_rfl) (fun k hk => by cases hk) (by kernel_rfl) (laid_met os))) ?_
  intro W base args ds gs before hval hW _ _ _ hL _ _
  exact contract H enc W base args ds gs before hval hW hL

theorem said : Rows.CapReadsSaid :=
  OpenClaim.holds_of_cond 4 Tryd.f4 rfl rfl rfl rfl rfl rfl rfl ⟨rfl, rfl, rfl, rfl, rfl⟩ rfl rfl rfl rfl rfl (by kernel_rfl) Tryd.func4 (by kernel_rfl)
    (of_decide_eq_true (by kernel_rfl)) (by unfold Func.isWrapper; first | (rw [if_pos (by decide +kernel)]; kernel_rfl) | (rw [if_neg (by decide +kernel)]; exact ⟨rfl, rfl⟩))
    (fun os started H enc _ F => by rw [OpenClaim.pre_eq_preRow]; exact lifted os started H enc F)

theorem plain (f : FuncId) (fn : Func) (hf : Tryd.pinned.checked.prog.funcNamed "portreeve/portreevelaw11.CapReads" = some f) (hfn : Tryd.pinned.checked.prog.funcs[f]? = some fn) :
    true = Tryd.pinned.checked.prog.looks [] ∧ ∀ (j : Nat) t, fn.params[j]? = some t → Tryd.pinned.checked.prog.wantsStandIn t = false := by
  obtain rfl : f = 4 := Option.some.inj ((show Tryd.prog.funcNamed "portreeve/portreevelaw11.CapReads" = some 4 by kernel_rfl).symm.trans hf) |>.symm
  obtain rfl : fn = Tryd.f4 := (Option.some.inj (Tryd.func4.symm.trans hfn)).symm
  refine ⟨by kernel_rfl, fun j t ht => ?_⟩
  rw [Tryd.params4] at ht
  have hm : t ∈ [22, 22] := by simpa using Array.mem_of_getElem? ht
  have hall : ([22, 22].all fun u => !Tryd.prog.wantsStandIn u) = true := by kernel_rfl
  exact (show Tryd.prog.wantsStandIn t = false by simpa using List.all_eq_true.1 hall t hm)

theorem card : Rows.CapReadsCardSaid :=
  Claim7.holds_tied_plain_at .later [] _ _ _ _ said (fun _ h => by cases h) (by kernel_rfl) (fun _ h => by cases h) capReads_row_tie rfl ⟨rfl, rfl⟩ (by kernel_rfl) rfl plain (by kernel_rfl)

end Go.Proofs.YtkedoajkdobjdaaDoor.capReads
