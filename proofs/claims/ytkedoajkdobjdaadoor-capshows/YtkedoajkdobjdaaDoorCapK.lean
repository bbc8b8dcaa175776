/- Capabilities: the law's anchor, and what words and capabilities say of one another. -/
import Derived.Test.YtkedoajkdobjdaaDoorCapJ
set_option linter.unusedVariables false
namespace Go.Proofs.YtkedoajkdobjdaaDoor
open Go.RowKit

theorem rd_word {k a b r g s m : Nat} (h : Rt k a b r g s m) : rdK (wordN k a b r g s) = k ∧ rdA (wordN k a b r g s) = a ∧ rdB (wordN k a b r g s) = b ∧ rdR (wordN k a b r g s) = r ∧ rdG (wordN k a b r g s) = g ∧ rdS (wordN k a b r g s) = s := by
  obtain ⟨q1, q2, q3, q4, q5, q6, q7, q8⟩ := h
  unfold rdK rdA rdB rdR rdG rdS wordN
  refine ⟨?_, ?_, ?_, ?_, ?_, ?_⟩ <;> omega
theorem word_lt {k a b r g s m : Nat} (h : Rt k a b r g s m) : wordN k a b r g s < 18446744073709551616 := by
  obtain ⟨q1, q2, q3, q4, q5, q6, q7, q8⟩ := h
  unfold wordN; omega
theorem read_word {k a b r g s m : Nat} (h : Rt k a b r g s m) (hc : cB k a b r g s m = true) (w : World) (hP : Prts w) :
    Calls Tryd.prog 14 #[.int .u64 ((wordN k a b r g s : Nat) : Int), .int .u64 (m : Nat)] w fun e w' => e = .returned (.tuple #[.agg #[.int .i64 (k : Nat), .int .u64 (a : Nat), .int .i64 (b : Nat), .int .i64 (r : Nat), .int .i64 (g : Nat), .int .i64 (s : Nat), .int .u64 (m : Nat)], .int .i64 0]) ∧ Below w.heap.size w w' := by
  obtain ⟨e1, e2, e3, e4, e5, e6⟩ := rd_word h
  have := read_any (wordN k a b r g s) m (word_lt h) h.qm w hP
  have hk : rdOK (wordN k a b r g s) m = true := by unfold rdOK; rw [e1, e2, e3, e4, e5, e6, hc]; simp
  rw [hk, if_pos rfl, if_pos rfl, e1, e2, e3, e4, e5, e6] at this
  exact this
theorem eqTh (w : World) : (binOp .eql 24 (.agg #[.int .i64 8, .int .u64 4096, .int .i64 7, .int .i64 0, .int .i64 0, .int .i64 0, .int .u64 0]) (.agg #[.int .i64 8, .int .u64 4096, .int .i64 7, .int .i64 0, .int .i64 0, .int .i64 0, .int .u64 0])).run Tryd.prog w = .ok (.bool true) w := by
  have := eqC 8 4096 7 0 0 0 0 8 4096 7 0 0 0 0 w
  exact this.trans (by rfl)
set_option maxHeartbeats 4000000 in
theorem anchorC_any (w : World) (hP : Prts w) :
    Calls Tryd.prog 10 #[] w fun e w' => e = .returned (.bool true) ∧ Below w.heap.size w w' := by
  have hR : Rt 8 4096 7 0 0 0 0 := ⟨by decide, by decide, by decide, by decide, by decide, by decide, by decide, by decide⟩
  have hc : cB 8 4096 7 0 0 0 0 = true := by decide +kernel
  have cW : ∀ w1, Prts w1 → Calls Tryd.prog 11 #[.agg #[.int .i64 8, .int .u64 4096, .int .i64 7, .int .i64 0, .int .i64 0, .int .i64 0, .int .u64 0]] w1 fun e w' => e = .returned (.tuple #[.int .u64 4398046511224, .int .u64 0, .int .i64 0]) ∧ Below w1.heap.size w1 w' := fun w1 h1 => words_ok hR hc w1 h1
  have cR : ∀ w1, Prts w1 → Calls Tryd.prog 14 #[.int .u64 4398046511224, .int .u64 0] w1 fun e w' => e = .returned (.tuple #[.agg #[.int .i64 8, .int .u64 4096, .int .i64 7, .int .i64 0, .int .i64 0, .int .i64 0, .int .u64 0], .int .i64 0]) ∧ Below w1.heap.size w1 w' := fun w1 h1 => read_word hR hc w1 h1
  have HQ := eqTh
  clear hR hc
  go_enter Tryd.func10, Tryd.ntmps10
  go_wp2_with fail
  have gC := heap_alloc_new w (.cells #[.int .i64 8, .int .u64 4096, .int .i64 7, .int .i64 0, .int .i64 0, .int .i64 0, .int .u64 0] 24)
  have hB := below_new w (.cells #[.int .i64 8, .int .u64 4096, .int .i64 7, .int .i64 0, .int .i64 0, .int .i64 0, .int .u64 0] 24)
  generalize w.alloc (.cells #[.int .i64 8, .int .u64 4096, .int .i64 7, .int .i64 0, .int .i64 0, .int .i64 0, .int .u64 0] 24) = W0 at *
  obtain ⟨c0, c1, c2, c3, c4, c5, c6⟩ := cells7 gC
  have cp0 := fun o => cell_alloc (o := o) c0
  have cp1 := fun o => cell_alloc (o := o) c1
  have cp2 := fun o => cell_alloc (o := o) c2
  have cp3 := fun o => cell_alloc (o := o) c3
  have cp4 := fun o => cell_alloc (o := o) c4
  have cp5 := fun o => cell_alloc (o := o) c5
  have cp6 := fun o => cell_alloc (o := o) c6
  refine (cW _ (hP.later hB)).mono ?_
  clear c0 cp0 c1 cp1 c2 cp2 c3 cp3 c4 cp4 c5 cp5 c6 cp6
  rintro e w1 ⟨rfl, hb⟩
  replace gC := block_later hb gC
  replace hB := below_tr hB hb
  clear hb
  obtain ⟨c0, c1, c2, c3, c4, c5, c6⟩ := cells7 gC
  have cp0 := fun o => cell_alloc (o := o) c0
  have cp1 := fun o => cell_alloc (o := o) c1
  have cp2 := fun o => cell_alloc (o := o) c2
  have cp3 := fun o => cell_alloc (o := o) c3
  have cp4 := fun o => cell_alloc (o := o) c4
  have cp5 := fun o => cell_alloc (o := o) c5
  have cp6 := fun o => cell_alloc (o := o) c6
  go_wp2_with fail
  refine (cR _ (hP.later hB)).mono ?_
  clear c0 cp0 c1 cp1 c2 cp2 c3 cp3 c4 cp4 c5 cp5 c6 cp6
  rintro e w2 ⟨rfl, hb⟩
  replace gC := block_later hb gC
  replace hB := below_tr hB hb
  clear hb
  obtain ⟨c0, c1, c2, c3, c4, c5, c6⟩ := cells7 gC
  have cp0 := fun o => cell_alloc (o := o) c0
  have cp1 := fun o => cell_alloc (o := o) c1
  have cp2 := fun o => cell_alloc (o := o) c2
  have cp3 := fun o => cell_alloc (o := o) c3
  have cp4 := fun o => cell_alloc (o := o) c4
  have cp5 := fun o => cell_alloc (o := o) c5
  have cp6 := fun o => cell_alloc (o := o) c6
  go_wp2
  go_ret
  first
    | exact ⟨rfl, hB⟩
    | exact ⟨rfl, hB.alloc hB.size _⟩
end Go.Proofs.YtkedoajkdobjdaaDoor
