/- CapWords (P11.1): for every capability the law returns true: it has two words just if the document says that it is right, and is read from them. No condition beyond the row's own. -/
import Derived.Test.YtkedoajkdobjdaaDoorCapK
import Derived.Test.YtkedoajkdobjdaaDoorCapFrame
set_option linter.unusedVariables false
namespace Go.Proofs.YtkedoajkdobjdaaDoor.capWords
open Go.ChangeShapes Go.WideShapes Go.ChangeAt Go.RowKit Go.Lib

set_option maxRecDepth 100000 in
set_option maxHeartbeats 4000000 in
theorem walk (k : Int) (a : Nat) (b r g s : Int) (m : Nat) (w : World) (ha : a < 18446744073709551616) (hm : m < 18446744073709551616) (hP : Prts w) :
    Calls Tryd.prog 3 #[.agg #[.int .i64 k, .int .u64 (a : Nat), .int .i64 b, .int .i64 r, .int .i64 g, .int .i64 s, .int .u64 (m : Nat)]] w fun e w' => e = .returned (.bool true) ∧ Below w.heap.size w w' := by
  have hS := right_same k a b r g s m
  have cA := fun w1 h1 => anchorC_any w1 h1
  have cR := fun w1 => cright_any k a b r g s m ha hm w1
  have cD := fun w1 => dright_any k a b r g s m ha hm w1
  cases hc : cB k a b r g s m
  · rw [hc] at cR hS
    rw [← hS] at cD
    clear hS
    have cW := fun w1 => words_bad k a b r g s m ha hm hc w1
    go_enter Tryd.func3, Tryd.ntmps3
    go_wp2_with fail
    have gC := heap_alloc_new w (.cells #[.int .i64 k, .int .u64 (a : Nat), .int .i64 b, .int .i64 r, .int .i64 g, .int .i64 s, .int .u64 (m : Nat)] 24)
    have hB := below_new w (.cells #[.int .i64 k, .int .u64 (a : Nat), .int .i64 b, .int .i64 r, .int .i64 g, .int .i64 s, .int .u64 (m : Nat)] 24)
    generalize w.alloc (.cells #[.int .i64 k, .int .u64 (a : Nat), .int .i64 b, .int .i64 r, .int .i64 g, .int .i64 s, .int .u64 (m : Nat)] 24) = W0 at *
    obtain ⟨c0, c1, c2, c3, c4, c5, c6⟩ := cells7 gC
    have cp0 := fun o => cell_alloc (o := o) c0
    have cp1 := fun o => cell_alloc (o := o) c1
    have cp2 := fun o => cell_alloc (o := o) c2
    have cp3 := fun o => cell_alloc (o := o) c3
    have cp4 := fun o => cell_alloc (o := o) c4
    have cp5 := fun o => cell_alloc (o := o) c5
    have cp6 := fun o => cell_alloc (o := o) c6
    refine (cA _ (hP.later hB)).mono ?_
    clear c0 cp0 c1 cp1 c2 cp2 c3 cp3 c4 cp4 c5 cp5 c6 cp6
    rintro e w1 ⟨rfl, hb⟩
    replace gC := block_later hb gC
    replace hB := below_tr hB hb
    clear hb
    obtain ⟨c0, c1, c2, c3, c4, c5, c6⟩ := cells7 gC
    have cp0 := fun o => cell_alloc (o := o) c0
    have cp1 := fun o => cell_alloc (o := o) c1
    have cp2 := fun o => cell_alloc (o := o) c2
    have cp3 := fun o => cell_alloc (o := o) c3
    have cp4 := fun o => cell_alloc (o := o) c4
    have cp5 := fun o => cell_alloc (o := o) c5
    have cp6 := fun o => cell_alloc (o := o) c6
    go_wp2_with fail
    refine (cW _).mono ?_
    clear c0 cp0 c1 cp1 c2 cp2 c3 cp3 c4 cp4 c5 cp5 c6 cp6
    rintro e w2 ⟨rfl, hb⟩
    replace gC := block_later hb gC
    replace hB := below_tr hB hb
    clear hb
    obtain ⟨c0, c1, c2, c3, c4, c5, c6⟩ := cells7 gC
    have cp0 := fun o => cell_alloc (o := o) c0
    have cp1 := fun o => cell_alloc (o := o) c1
    have cp2 := fun o => cell_alloc (o := o) c2
    have cp3 := fun o => cell_alloc (o := o) c3
    have cp4 := fun o => cell_alloc (o := o) c4
    have cp5 := fun o => cell_alloc (o := o) c5
    have cp6 := fun o => cell_alloc (o := o) c6
    go_wp2_with fail
    clear c0 cp0 c1 cp1 c2 cp2 c3 cp3 c4 cp4 c5 cp5 c6 cp6
    have gX := heap_alloc_new w2 (.cells #[.int .i64 k, .int .u64 (a : Nat), .int .i64 b, .int .i64 r, .int .i64 g, .int .i64 s, .int .u64 (m : Nat)] 29)
    replace gC := block_later (below_new _ (.cells #[.int .i64 k, .int .u64 (a : Nat), .int .i64 b, .int .i64 r, .int .i64 g, .int .i64 s, .int .u64 (m : Nat)] 29)) gC
    replace hB := below_tr hB (below_new _ (.cells #[.int .i64 k, .int .u64 (a : Nat), .int .i64 b, .int .i64 r, .int .i64 g, .int .i64 s, .int .u64 (m : Nat)] 29))
    generalize w2.heap.size = X at *
    generalize w2.alloc (.cells #[.int .i64 k, .int .u64 (a : Nat), .int .i64 b, .int .i64 r, .int .i64 g, .int .i64 s, .int .u64 (m : Nat)] 29) = w2a at *
    obtain ⟨c0, c1, c2, c3, c4, c5, c6⟩ := cells7 gC
    have cp0 := fun o => cell_alloc (o := o) c0
    have cp1 := fun o => cell_alloc (o := o) c1
    have cp2 := fun o => cell_alloc (o := o) c2
    have cp3 := fun o => cell_alloc (o := o) c3
    have cp4 := fun o => cell_alloc (o := o) c4
    have cp5 := fun o => cell_alloc (o := o) c5
    have cp6 := fun o => cell_alloc (o := o) c6
    obtain ⟨x0, x1, x2, x3, x4, x5, x6⟩ := cells7 gX
    have xp0 := fun o => cell_alloc (o := o) x0
    have xp1 := fun o => cell_alloc (o := o) x1
    have xp2 := fun o => cell_alloc (o := o) x2
    have xp3 := fun o => cell_alloc (o := o) x3
    have xp4 := fun o => cell_alloc (o := o) x4
    have xp5 := fun o => cell_alloc (o := o) x5
    have xp6 := fun o => cell_alloc (o := o) x6
    refine (cD _).mono ?_
    clear c0 cp0 c1 cp1 c2 cp2 c3 cp3 c4 cp4 c5 cp5 c6 cp6 x0 xp0 x1 xp1 x2 xp2 x3 xp3 x4 xp4 x5 xp5 x6 xp6
    rintro e w3 ⟨rfl, hb⟩
    replace gC := block_later hb gC
    replace gX := block_later hb gX
    replace hB := below_tr hB hb
    clear hb
    obtain ⟨c0, c1, c2, c3, c4, c5, c6⟩ := cells7 gC
    have cp0 := fun o => cell_alloc (o := o) c0
    have cp1 := fun o => cell_alloc (o := o) c1
    have cp2 := fun o => cell_alloc (o := o) c2
    have cp3 := fun o => cell_alloc (o := o) c3
    have cp4 := fun o => cell_alloc (o := o) c4
    have cp5 := fun o => cell_alloc (o := o) c5
    have cp6 := fun o => cell_alloc (o := o) c6
    obtain ⟨x0, x1, x2, x3, x4, x5, x6⟩ := cells7 gX
    have xp0 := fun o => cell_alloc (o := o) x0
    have xp1 := fun o => cell_alloc (o := o) x1
    have xp2 := fun o => cell_alloc (o := o) x2
    have xp3 := fun o => cell_alloc (o := o) x3
    have xp4 := fun o => cell_alloc (o := o) x4
    have xp5 := fun o => cell_alloc (o := o) x5
    have xp6 := fun o => cell_alloc (o := o) x6
    go_wp2_with fail
    refine (cR _).mono ?_
    clear c0 cp0 c1 cp1 c2 cp2 c3 cp3 c4 cp4 c5 cp5 c6 cp6 x0 xp0 x1 xp1 x2 xp2 x3 xp3 x4 xp4 x5 xp5 x6 xp6
    rintro e w4 ⟨rfl, hb⟩
    replace gC := block_later hb gC
    replace gX := block_later hb gX
    replace hB := below_tr hB hb
    clear hb
    obtain ⟨c0, c1, c2, c3, c4, c5, c6⟩ := cells7 gC
    have cp0 := fun o => cell_alloc (o := o) c0
    have cp1 := fun o => cell_alloc (o := o) c1
    have cp2 := fun o => cell_alloc (o := o) c2
    have cp3 := fun o => cell_alloc (o := o) c3
    have cp4 := fun o => cell_alloc (o := o) c4
    have cp5 := fun o => cell_alloc (o := o) c5
    have cp6 := fun o => cell_alloc (o := o) c6
    obtain ⟨x0, x1, x2, x3, x4, x5, x6⟩ := cells7 gX
    have xp0 := fun o => cell_alloc (o := o) x0
    have xp1 := fun o => cell_alloc (o := o) x1
    have xp2 := fun o => cell_alloc (o := o) x2
    have xp3 := fun o => cell_alloc (o := o) x3
    have xp4 := fun o => cell_alloc (o := o) x4
    have xp5 := fun o => cell_alloc (o := o) x5
    have xp6 := fun o => cell_alloc (o := o) x6
    go_wp2
    go_ret
    first
      | exact ⟨rfl, hB⟩
      | exact ⟨rfl, hB.alloc hB.size _⟩
  · obtain ⟨K, B, R, G, S, rfl, rfl, rfl, rfl, rfl, hR⟩ := right_nats hm hc
    rw [hc] at cR hS
    rw [← hS] at cD
    have cW := fun w1 h1 => words_ok hR hc w1 h1
    have cE := fun w1 h1 => read_word hR hc w1 h1
    have cF := fun w1 => refWord_any hR w1
    have HQ : ∀ w1, (binOp .eql 24 (.agg #[.int .i64 (K : Nat), .int .u64 (a : Nat), .int .i64 (B : Nat), .int .i64 (R : Nat), .int .i64 (G : Nat), .int .i64 (S : Nat), .int .u64 (m : Nat)]) (.agg #[.int .i64 (K : Nat), .int .u64 (a : Nat), .int .i64 (B : Nat), .int .i64 (R : Nat), .int .i64 (G : Nat), .int .i64 (S : Nat), .int .u64 (m : Nat)])).run Tryd.prog w1 = .ok (.bool true) w1 := fun w1 => by
      rw [eqC]; unfold eqCB; simp
    generalize wordN K a B R G S = N at *
    clear hR hc hS
    go_enter Tryd.func3, Tryd.ntmps3
    go_wp2_with fail
    have gC := heap_alloc_new w (.cells #[.int .i64 (K : Nat), .int .u64 (a : Nat), .int .i64 (B : Nat), .int .i64 (R : Nat), .int .i64 (G : Nat), .int .i64 (S : Nat), .int .u64 (m : Nat)] 24)
    have hB := below_new w (.cells #[.int .i64 (K : Nat), .int .u64 (a : Nat), .int .i64 (B : Nat), .int .i64 (R : Nat), .int .i64 (G : Nat), .int .i64 (S : Nat), .int .u64 (m : Nat)] 24)
    generalize w.alloc (.cells #[.int .i64 (K : Nat), .int .u64 (a : Nat), .int .i64 (B : Nat), .int .i64 (R : Nat), .int .i64 (G : Nat), .int .i64 (S : Nat), .int .u64 (m : Nat)] 24) = W0 at *
    obtain ⟨c0, c1, c2, c3, c4, c5, c6⟩ := cells7 gC
    have cp0 := fun o => cell_alloc (o := o) c0
    have cp1 := fun o => cell_alloc (o := o) c1
    have cp2 := fun o => cell_alloc (o := o) c2
    have cp3 := fun o => cell_alloc (o := o) c3
    have cp4 := fun o => cell_alloc (o := o) c4
    have cp5 := fun o => cell_alloc (o := o) c5
    have cp6 := fun o => cell_alloc (o := o) c6
    refine (cA _ (hP.later hB)).mono ?_
    clear c0 cp0 c1 cp1 c2 cp2 c3 cp3 c4 cp4 c5 cp5 c6 cp6
    rintro e w1 ⟨rfl, hb⟩
    replace gC := block_later hb gC
    replace hB := below_tr hB hb
    clear hb
    obtain ⟨c0, c1, c2, c3, c4, c5, c6⟩ := cells7 gC
    have cp0 := fun o => cell_alloc (o := o) c0
    have cp1 := fun o => cell_alloc (o := o) c1
    have cp2 := fun o => cell_alloc (o := o) c2
    have cp3 := fun o => cell_alloc (o := o) c3
    have cp4 := fun o => cell_alloc (o := o) c4
    have cp5 := fun o => cell_alloc (o := o) c5
    have cp6 := fun o => cell_alloc (o := o) c6
    go_wp2_with fail
    refine (cW _ (hP.later hB)).mono ?_
    clear c0 cp0 c1 cp1 c2 cp2 c3 cp3 c4 cp4 c5 cp5 c6 cp6
    rintro e w2 ⟨rfl, hb⟩
    replace gC := block_later hb gC
    replace hB := below_tr hB hb
    clear hb
    obtain ⟨c0, c1, c2, c3, c4, c5, c6⟩ := cells7 gC
    have cp0 := fun o => cell_alloc (o := o) c0
    have cp1 := fun o => cell_alloc (o := o) c1
    have cp2 := fun o => cell_alloc (o := o) c2
    have cp3 := fun o => cell_alloc (o := o) c3
    have cp4 := fun o => cell_alloc (o := o) c4
    have cp5 := fun o => cell_alloc (o := o) c5
    have cp6 := fun o => cell_alloc (o := o) c6
    go_wp2_with fail
    clear c0 cp0 c1 cp1 c2 cp2 c3 cp3 c4 cp4 c5 cp5 c6 cp6
    have gX := heap_alloc_new w2 (.cells #[.int .i64 (K : Nat), .int .u64 (a : Nat), .int .i64 (B : Nat), .int .i64 (R : Nat), .int .i64 (G : Nat), .int .i64 (S : Nat), .int .u64 (m : Nat)] 29)
    replace gC := block_later (below_new _ (.cells #[.int .i64 (K : Nat), .int .u64 (a : Nat), .int .i64 (B : Nat), .int .i64 (R : Nat), .int .i64 (G : Nat), .int .i64 (S : Nat), .int .u64 (m : Nat)] 29)) gC
    replace hB := below_tr hB (below_new _ (.cells #[.int .i64 (K : Nat), .int .u64 (a : Nat), .int .i64 (B : Nat), .int .i64 (R : Nat), .int .i64 (G : Nat), .int .i64 (S : Nat), .int .u64 (m : Nat)] 29))
    generalize w2.heap.size = X at *
    generalize w2.alloc (.cells #[.int .i64 (K : Nat), .int .u64 (a : Nat), .int .i64 (B : Nat), .int .i64 (R : Nat), .int .i64 (G : Nat), .int .i64 (S : Nat), .int .u64 (m : Nat)] 29) = w2a at *
    obtain ⟨c0, c1, c2, c3, c4, c5, c6⟩ := cells7 gC
    have cp0 := fun o => cell_alloc (o := o) c0
    have cp1 := fun o => cell_alloc (o := o) c1
    have cp2 := fun o => cell_alloc (o := o) c2
    have cp3 := fun o => cell_alloc (o := o) c3
    have cp4 := fun o => cell_alloc (o := o) c4
    have cp5 := fun o => cell_alloc (o := o) c5
    have cp6 := fun o => cell_alloc (o := o) c6
    obtain ⟨x0, x1, x2, x3, x4, x5, x6⟩ := cells7 gX
    have xp0 := fun o => cell_alloc (o := o) x0
    have xp1 := fun o => cell_alloc (o := o) x1
    have xp2 := fun o => cell_alloc (o := o) x2
    have xp3 := fun o => cell_alloc (o := o) x3
    have xp4 := fun o => cell_alloc (o := o) x4
    have xp5 := fun o => cell_alloc (o := o) x5
    have xp6 := fun o => cell_alloc (o := o) x6
    refine (cD _).mono ?_
    clear c0 cp0 c1 cp1 c2 cp2 c3 cp3 c4 cp4 c5 cp5 c6 cp6 x0 xp0 x1 xp1 x2 xp2 x3 xp3 x4 xp4 x5 xp5 x6 xp6
    rintro e w3 ⟨rfl, hb⟩
    replace gC := block_later hb gC
    replace gX := block_later hb gX
    replace hB := below_tr hB hb
    clear hb
    obtain ⟨c0, c1, c2, c3, c4, c5, c6⟩ := cells7 gC
    have cp0 := fun o => cell_alloc (o := o) c0
    have cp1 := fun o => cell_alloc (o := o) c1
    have cp2 := fun o => cell_alloc (o := o) c2
    have cp3 := fun o => cell_alloc (o := o) c3
    have cp4 := fun o => cell_alloc (o := o) c4
    have cp5 := fun o => cell_alloc (o := o) c5
    have cp6 := fun o => cell_alloc (o := o) c6
    obtain ⟨x0, x1, x2, x3, x4, x5, x6⟩ := cells7 gX
    have xp0 := fun o => cell_alloc (o := o) x0
    have xp1 := fun o => cell_alloc (o := o) x1
    have xp2 := fun o => cell_alloc (o := o) x2
    have xp3 := fun o => cell_alloc (o := o) x3
    have xp4 := fun o => cell_alloc (o := o) x4
    have xp5 := fun o => cell_alloc (o := o) x5
    have xp6 := fun o => cell_alloc (o := o) x6
    go_wp2_with fail
    refine (cE _ (hP.later hB)).mono ?_
    clear c0 cp0 c1 cp1 c2 cp2 c3 cp3 c4 cp4 c5 cp5 c6 cp6 x0 xp0 x1 xp1 x2 xp2 x3 xp3 x4 xp4 x5 xp5 x6 xp6
    rintro e w4 ⟨rfl, hb⟩
    replace gC := block_later hb gC
    replace gX := block_later hb gX
    replace hB := below_tr hB hb
    clear hb
    obtain ⟨c0, c1, c2, c3, c4, c5, c6⟩ := cells7 gC
    have cp0 := fun o => cell_alloc (o := o) c0
    have cp1 := fun o => cell_alloc (o := o) c1
    have cp2 := fun o => cell_alloc (o := o) c2
    have cp3 := fun o => cell_alloc (o := o) c3
    have cp4 := fun o => cell_alloc (o := o) c4
    have cp5 := fun o => cell_alloc (o := o) c5
    have cp6 := fun o => cell_alloc (o := o) c6
    obtain ⟨x0, x1, x2, x3, x4, x5, x6⟩ := cells7 gX
    have xp0 := fun o => cell_alloc (o := o) x0
    have xp1 := fun o => cell_alloc (o := o) x1
    have xp2 := fun o => cell_alloc (o := o) x2
    have xp3 := fun o => cell_alloc (o := o) x3
    have xp4 := fun o => cell_alloc (o := o) x4
    have xp5 := fun o => cell_alloc (o := o) x5
    have xp6 := fun o => cell_alloc (o := o) x6
    go_wp2_with fail
    clear c0 cp0 c1 cp1 c2 cp2 c3 cp3 c4 cp4 c5 cp5 c6 cp6 x0 xp0 x1 xp1 x2 xp2 x3 xp3 x4 xp4 x5 xp5 x6 xp6
    have gY := heap_alloc_new w4 (.cells #[.int .i64 (K : Nat), .int .u64 (a : Nat), .int .i64 (B : Nat), .int .i64 (R : Nat), .int .i64 (G : Nat), .int .i64 (S : Nat), .int .u64 (m : Nat)] 24)
    replace gC := block_later (below_new _ (.cells #[.int .i64 (K : Nat), .int .u64 (a : Nat), .int .i64 (B : Nat), .int .i64 (R : Nat), .int .i64 (G : Nat), .int .i64 (S : Nat), .int .u64 (m : Nat)] 24)) gC
    replace gX := block_later (below_new _ (.cells #[.int .i64 (K : Nat), .int .u64 (a : Nat), .int .i64 (B : Nat), .int .i64 (R : Nat), .int .i64 (G : Nat), .int .i64 (S : Nat), .int .u64 (m : Nat)] 24)) gX
    replace hB := below_tr hB (below_new _ (.cells #[.int .i64 (K : Nat), .int .u64 (a : Nat), .int .i64 (B : Nat), .int .i64 (R : Nat), .int .i64 (G : Nat), .int .i64 (S : Nat), .int .u64 (m : Nat)] 24))
    generalize w4.heap.size = Y at *
    generalize w4.alloc (.cells #[.int .i64 (K : Nat), .int .u64 (a : Nat), .int .i64 (B : Nat), .int .i64 (R : Nat), .int .i64 (G : Nat), .int .i64 (S : Nat), .int .u64 (m : Nat)] 24) = w4a at *
    obtain ⟨c0, c1, c2, c3, c4, c5, c6⟩ := cells7 gC
    have cp0 := fun o => cell_alloc (o := o) c0
    have cp1 := fun o => cell_alloc (o := o) c1
    have cp2 := fun o => cell_alloc (o := o) c2
    have cp3 := fun o => cell_alloc (o := o) c3
    have cp4 := fun o => cell_alloc (o := o) c4
    have cp5 := fun o => cell_alloc (o := o) c5
    have cp6 := fun o => cell_alloc (o := o) c6
    obtain ⟨x0, x1, x2, x3, x4, x5, x6⟩ := cells7 gX
    have xp0 := fun o => cell_alloc (o := o) x0
    have xp1 := fun o => cell_alloc (o := o) x1
    have xp2 := fun o => cell_alloc (o := o) x2
    have xp3 := fun o => cell_alloc (o := o) x3
    have xp4 := fun o => cell_alloc (o := o) x4
    have xp5 := fun o => cell_alloc (o := o) x5
    have xp6 := fun o => cell_alloc (o := o) x6
    obtain ⟨y0, y1, y2, y3, y4, y5, y6⟩ := cells7 gY
    have yp0 := fun o => cell_alloc (o := o) y0
    have yp1 := fun o => cell_alloc (o := o) y1
    have yp2 := fun o => cell_alloc (o := o) y2
    have yp3 := fun o => cell_alloc (o := o) y3
    have yp4 := fun o => cell_alloc (o := o) y4
    have yp5 := fun o => cell_alloc (o := o) y5
    have yp6 := fun o => cell_alloc (o := o) y6
    refine (cR _).mono ?_
    clear c0 cp0 c1 cp1 c2 cp2 c3 cp3 c4 cp4 c5 cp5 c6 cp6 x0 xp0 x1 xp1 x2 xp2 x3 xp3 x4 xp4 x5 xp5 x6 xp6 y0 yp0 y1 yp1 y2 yp2 y3 yp3 y4 yp4 y5 yp5 y6 yp6
    rintro e w5 ⟨rfl, hb⟩
    replace gC := block_later hb gC
    replace gX := block_later hb gX
    replace gY := block_later hb gY
    replace hB := below_tr hB hb
    clear hb
    obtain ⟨c0, c1, c2, c3, c4, c5, c6⟩ := cells7 gC
    have cp0 := fun o => cell_alloc (o := o) c0
    have cp1 := fun o => cell_alloc (o := o) c1
    have cp2 := fun o => cell_alloc (o := o) c2
    have cp3 := fun o => cell_alloc (o := o) c3
    have cp4 := fun o => cell_alloc (o := o) c4
    have cp5 := fun o => cell_alloc (o := o) c5
    have cp6 := fun o => cell_alloc (o := o) c6
    obtain ⟨x0, x1, x2, x3, x4, x5, x6⟩ := cells7 gX
    have xp0 := fun o => cell_alloc (o := o) x0
    have xp1 := fun o => cell_alloc (o := o) x1
    have xp2 := fun o => cell_alloc (o := o) x2
    have xp3 := fun o => cell_alloc (o := o) x3
    have xp4 := fun o => cell_alloc (o := o) x4
    have xp5 := fun o => cell_alloc (o := o) x5
    have xp6 := fun o => cell_alloc (o := o) x6
    obtain ⟨y0, y1, y2, y3, y4, y5, y6⟩ := cells7 gY
    have yp0 := fun o => cell_alloc (o := o) y0
    have yp1 := fun o => cell_alloc (o := o) y1
    have yp2 := fun o => cell_alloc (o := o) y2
    have yp3 := fun o => cell_alloc (o := o) y3
    have yp4 := fun o => cell_alloc (o := o) y4
    have yp5 := fun o => cell_alloc (o := o) y5
    have yp6 := fun o => cell_alloc (o := o) y6
    go_wp2_with fail
    refine (cF _).mono ?_
    clear c0 cp0 c1 cp1 c2 cp2 c3 cp3 c4 cp4 c5 cp5 c6 cp6 x0 xp0 x1 xp1 x2 xp2 x3 xp3 x4 xp4 x5 xp5 x6 xp6 y0 yp0 y1 yp1 y2 yp2 y3 yp3 y4 yp4 y5 yp5 y6 yp6
    rintro e w6 ⟨rfl, hb⟩
    replace gC := block_later hb gC
    replace gX := block_later hb gX
    replace gY := block_later hb gY
    replace hB := below_tr hB hb
    clear hb
    obtain ⟨c0, c1, c2, c3, c4, c5, c6⟩ := cells7 gC
    have cp0 := fun o => cell_alloc (o := o) c0
    have cp1 := fun o => cell_alloc (o := o) c1
    have cp2 := fun o => cell_alloc (o := o) c2
    have cp3 := fun o => cell_alloc (o := o) c3
    have cp4 := fun o => cell_alloc (o := o) c4
    have cp5 := fun o => cell_alloc (o := o) c5
    have cp6 := fun o => cell_alloc (o := o) c6
    obtain ⟨x0, x1, x2, x3, x4, x5, x6⟩ := cells7 gX
    have xp0 := fun o => cell_alloc (o := o) x0
    have xp1 := fun o => cell_alloc (o := o) x1
    have xp2 := fun o => cell_alloc (o := o) x2
    have xp3 := fun o => cell_alloc (o := o) x3
    have xp4 := fun o => cell_alloc (o := o) x4
    have xp5 := fun o => cell_alloc (o := o) x5
    have xp6 := fun o => cell_alloc (o := o) x6
    obtain ⟨y0, y1, y2, y3, y4, y5, y6⟩ := cells7 gY
    have yp0 := fun o => cell_alloc (o := o) y0
    have yp1 := fun o => cell_alloc (o := o) y1
    have yp2 := fun o => cell_alloc (o := o) y2
    have yp3 := fun o => cell_alloc (o := o) y3
    have yp4 := fun o => cell_alloc (o := o) y4
    have yp5 := fun o => cell_alloc (o := o) y5
    have yp6 := fun o => cell_alloc (o := o) y6
    go_wp2
    go_ret
    first
      | exact ⟨rfl, hB⟩
      | exact ⟨rfl, hB.alloc hB.size _⟩

theorem met {W : World} (h : laidMet Tryd.prog Rows.capWordsRow.laid W) : Prts W := by
  have h0 := part_of_reads (g := 0) (by kernel_rfl) (by kernel_rfl) (Lib.laidMet.reads h (n := "portreeve/cap.kindPart") (d := Rows.laid_portreeve_cap_kindPart) (by simp [Rows.capWordsRow]))
  have h1 := part_of_reads (g := 1) (by kernel_rfl) (by kernel_rfl) (Lib.laidMet.reads h (n := "portreeve/cap.bitsPart") (d := Rows.laid_portreeve_cap_bitsPart) (by simp [Rows.capWordsRow]))
  have h2 := part_of_reads (g := 2) (by kernel_rfl) (by kernel_rfl) (Lib.laidMet.reads h (n := "portreeve/cap.rightsPart") (d := Rows.laid_portreeve_cap_rightsPart) (by simp [Rows.capWordsRow]))
  have h3 := part_of_reads (g := 3) (by kernel_rfl) (by kernel_rfl) (Lib.laidMet.reads h (n := "portreeve/cap.guardPart") (d := Rows.laid_portreeve_cap_guardPart) (by simp [Rows.capWordsRow]))
  have h4 := part_of_reads (g := 4) (by kernel_rfl) (by kernel_rfl) (Lib.laidMet.reads h (n := "portreeve/cap.asidPart") (d := Rows.laid_portreeve_cap_asidPart) (by simp [Rows.capWordsRow]))
  have h5 := part_of_reads (g := 5) (by kernel_rfl) (by kernel_rfl) (Lib.laidMet.reads h (n := "portreeve/cap.atPart") (d := Rows.laid_portreeve_cap_atPart) (by simp [Rows.capWordsRow]))
  exact ⟨h0.1, h0.2.1, h0.2.2, h1.1, h1.2.1, h1.2.2, h2.1, h2.2.1, h2.2.2, h3.1, h3.2.1, h3.2.2, h4.1, h4.2.1, h4.2.2, h5.1, h5.2.1, h5.2.2⟩

theorem own : ownKnob Tryd.prog.godebug = none := by kernel_rfl
theorem laidOut : laidOutB Tryd.prog = true := by kernel_rfl

set_option linter.unusedVariables false in
set_option maxRecDepth 100000 in
theorem contract (H : Type) (enc : TypeId × Value → H) (W : World) (base : Nat) (args : Array Value) (ds gs : List (DataW H)) (before : List MemPlace)
    (hval0 : ∀ (j : Nat) t v, Tryd.f3.params[j]? = some t → args[j]? = some v → Value.okWide Tryd.prog W .any base t v)
    (hW : DataW.Whole enc Tryd.prog Tryd.f3.params.toList Rows.capWordsSpec.vars false W args.toList ds gs before) (hL0 : laidMetH Tryd.prog Rows.capWordsRow.laid W) :
    Calls Tryd.prog 3 args W fun e W' => ∃ v, e = .returned v ∧ Rows.capWordsSpec.post enc Tryd.prog Tryd.f3 false true false false W args v W' := by
  have hL := hL0
  rw [MakeChecks.laidMetH_plain _ _ _ (by kernel_rfl)] at hL
  have hval := hval0
  have hW' := hW
  obtain ⟨p, q, hA0, hV, rfl, hfz, hnd⟩ := hW
  have hA : DataW.TrodAll enc Tryd.prog W 0 (fun _ => true) true Tryd.f3.params.toList args.toList ds p := hA0
  rw [Tryd.params3] at hA hval
  obtain ⟨v0, vs0, d0, ds0, p0, q0, hargs, rfl, rfl, h0, r0⟩ := trodAll_cons hA
  obtain ⟨rfl, rfl, rfl⟩ := trodAll_nil r0
  obtain rfl : args = #[v0] := by cases args; simp_all
  obtain ⟨rfl, rfl⟩ := trodVars_none hV
  have k0 := h0
  have lt0 : ∀ x ∈ p0, x.block < W.heap.size := by obtain ⟨m, hm⟩ := k0; exact DataW.trod_lt m _ _ _ hm
  obtain ⟨ck0, ca0, cb0, cr0, cg0, cs0', cm0, rfl, b0, bm0⟩ := open_cap (hval 0 24 v0 rfl rfl) h0
  clear hA0 hval0
  refine (walk ck0 ca0 cb0 cr0 cg0 cs0' cm0 W b0 bm0 (met hL)).mono fun e W' ⟨he, bel⟩ => ?_
  subst he
  exact ⟨_, rfl, _, _, _, [], _, [], hW', trodAll_mk1 (shut_bool Tryd.underlying4 _), (trodAll_cons_mk (Below.trod laidOut (by kernel_rfl) (of_decide_eq_true (by kernel_rfl)) k0 bel lt0) trodAll_mk0), rfl, bel.frame _, fun h => by cases h⟩

theorem laid_met (os : Os) : laidMet Tryd.prog Rows.capWordsRow.laid ((World.laidAll Tryd.prog os Rows.capWordsRow.laid).forCall (fun _ _ => 0) ⟨#[], #[.agg #[.int .i64 0, .int .u64 0, .int .i64 0, .int .i64 0, .int .i64 0, .int .i64 0, .int .u64 0]], []⟩).memory :=
  laidMet_laidAll _ (by kernel_rfl) (by kernel_rfl)
theorem reads (os : Os) {H : Type} (enc : TypeId × Value → H) : ∃ places, DataW.whole enc Tryd.prog ((World.laidAll Tryd.prog os Rows.capWordsRow.laid).forCall (fun _ _ => 0) ⟨#[], #[.agg #[.int .i64 0, .int .u64 0, .int .i64 0, .int .i64 0, .int .i64 0, .int .i64 0, .int .u64 0]], []⟩).memory Tryd.f3.params.toList Rows.capWordsSpec.vars false (#[.agg #[.int .i64 0, .int .u64 0, .int .i64 0, .int .i64 0, .int .i64 0, .int .i64 0, .int .u64 0]] : Array Value).toList 8 = some ([.agg [.lit (.int .i64 0), .lit (.int .u64 0), .lit (.int .i64 0), .lit (.int .i64 0), .lit (.int .i64 0), .lit (.int .i64 0), .lit (.int .u64 0)]], [], places) :=
  ⟨[], by kernel_rfl⟩

set_option maxRecDepth 100000 in
theorem lifted (os : Os) (started : os.Started) (H : Type) (enc : TypeId × Value → H) (F : Stop.Interp) :
    ReturnsInHanded {} Tryd.checked os 3 .any ((OpenSpec.ofChange Rows.capWordsSpec).preRow enc Tryd.prog Tryd.f3 Rows.capWordsRow.domain false Rows.capWordsRow.laid) (((OpenSpec.ofChange Rows.capWordsSpec).at F).post enc Tryd.prog Tryd.f3 false true false false) := by
  obtain ⟨places, hx⟩ := reads os enc
  refine returnsInHanded_of_row (C := Tryd.checked) (s := (OpenSpec.ofChange Rows.capWordsSpec)) own started (by kernel_rfl) Tryd.func3
    (witness_row_at (enc := enc) (C := Tryd.checked) false (World.laidAll Tryd.prog os Rows.capWordsRow.laid) #[.agg #[.int .i64 0, .int .u64 0, .int .i64 0, .int .i64 0, .int .i64 0, .int .i64 0, .int .u64 0]] (World.laidAll_os _ _ _) (by kernel_rfl) (by kernel_rfl) (by kernel_rfl)
      (OpenSpec.preRow_of_cond 8 hx (by kernel_rfl) (fun k hk => by cases hk) (by kernel_rfl) (laid_met os))) ?_
  intro W base args ds gs before hval hW _ _ _ hL _ _
  exact contract H enc W base args ds gs before hval hW hL

theorem said : Rows.CapWordsSaid :=
  OpenClaim.holds_of_cond 3 Tryd.f3 rfl rfl rfl rfl rfl rfl rfl ⟨rfl, rfl, rfl, rfl, rfl⟩ rfl rfl rfl rfl rfl (by kernel_rfl) Tryd.func3 (by kernel_rfl)
    (of_decide_eq_true (by kernel_rfl)) (by unfold Func.isWrapper; first | (rw [if_pos (by decide +kernel)]; kernel_rfl) | (rw [if_neg (by decide +kernel)]; exact ⟨rfl, rfl⟩))
    (fun os started H enc _ F => by rw [OpenClaim.pre_eq_preRow]; exact lifted os started H enc F)

theorem plain (f : FuncId) (fn : Func) (hf : Tryd.pinned.checked.prog.funcNamed "portreeve/portreevelaw11.CapWords" = some f) (hfn : Tryd.pinned.checked.prog.funcs[f]? = some fn) :
    true = Tryd.pinned.checked.prog.looks [] ∧ ∀ (j : Nat) t, fn.params[j]? = some t → Tryd.pinned.checked.prog.wantsStandIn t = false := by
  obtain rfl : f = 3 := Option.some.inj ((show Tryd.prog.funcNamed "portreeve/portreevelaw11.CapWords" = some 3 by kernel_rfl).symm.trans hf) |>.symm
  obtain rfl : fn = Tryd.f3 := (Option.some.inj (Tryd.func3.symm.trans hfn)).symm
  refine ⟨by kernel_rfl, fun j t ht => ?_⟩
  rw [Tryd.params3] at ht
  have hm : t ∈ [24] := by simpa using Array.mem_of_getElem? ht
  have hall : ([24].all fun u => !Tryd.prog.wantsStandIn u) = true := by kernel_rfl
  exact (show Tryd.prog.wantsStandIn t = false by simpa using List.all_eq_true.1 hall t hm)

theorem card : Rows.CapWordsCardSaid :=
  Claim7.holds_tied_plain_at .later [] _ _ _ _ said (fun _ h => by cases h) (by kernel_rfl) (fun _ h => by cases h) capWords_row_tie rfl ⟨rfl, rfl⟩ (by kernel_rfl) rfl plain (by kernel_rfl)

end Go.Proofs.YtkedoajkdobjdaaDoor.capWords
