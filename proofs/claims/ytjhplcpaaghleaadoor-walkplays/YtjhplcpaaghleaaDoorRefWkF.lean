/- The document's walk, second part: From. -/
import Derived.Test.YtjhplcpaaghleaaDoorRefWk
namespace Go.Proofs.YtjhplcpaaghleaaDoor
open Go.RowKit Go.Maps

/-- A store that leaves the frame as it is written. -/
theorem wpList_store_segTo {P : Program} {ops : Array Oper} {rest : List Oper} {op : Oper} {a : Act} {w : World} {Q : Exit → Act → World → Prop} (hgd : op.guard = none) (ty : TypeId) (x y : Operand) (ho : op.op = .store ty x y) (hd : op.dst = none)
    (g o : Nat) (v : Value) (cells : Array Value) (hx : a.eval x = .pointer (some ⟨g, o, none⟩)) (hy : a.eval y = v) (hc : v.cells = cells)
    (t : TypeId) (cur : Array Value) (hg : w.heap[g]? = some (.cells cur t (0, 0))) (hfit : o + cells.size ≤ cur.size) (hi : (P.info? ty).map (·.size) = some cells.size) (h1 : cells.all (·.oneCell') = true)
    (new : Array Value) (hnew : segA cur o cells.toList = new)
    (h : ∀ wq, wq.heap[g]? = some (.cells new t (0, 0)) → Turn (fun i => i = g) w wq → wpList P ops Q rest a wq) : wpList P ops Q (op :: rest) a w :=
  wpList_store_seg hgd ty x y ho g o v cells hx hy hc t cur hg hfit hi h1 new hnew (fun wq h2 h3 => by rw [hd]; exact h wq h2 h3)

/-- The document's result. -/
def resL (r : Int × Int × Nat) (v : Value) : List Value := l11 (leafL r) (faultL r) v

/-- Between two levels of the document's walk. -/
structure GRel (w wr : World) (S : Nat) (vm : Value) (f : Nat → Nat) (va : Nat) (r0 : WL × Int × Int × Nat) (k tb : Nat) (L : WL) (sv : Value) : Prop where
  k3 : k ≤ 3
  tm : tb % 4096 = 0
  tl : tb < 18446744073709551616
  ll : L.length + k ≤ 3
  h4 : wr.heap[w.heap.size]? = some (.cells #[.int .u64 (S : Nat), vm] 28 (0, 0))
  h8 : wr.heap[w.heap.size + 1]? = some (.cells (zero11 0 0 (.slice none 0 0)) 44 (0, 0))
  h9 : wr.heap[w.heap.size + 1 + 1]? = some (.cells (zero11 1 0 sv) 44 (0, 0))
  own : Own6 wr (w.heap.size + 3) sv L
  bel : Below w.heap.size w wr
  e1 : L ++ (wk S f va (k + 1) tb).1 = r0.1
  e2 : (wk S f va (k + 1) tb).2 = r0.2

theorem heap_alloc3_0 (w : World) (a b c : Obj) : (((w.alloc a).alloc b).alloc c).heap[w.heap.size]? = some a := block_later (below_new _ _) (heap_alloc2_old _ _ _)
theorem heap_alloc3_1 (w : World) (a b c : Obj) : (((w.alloc a).alloc b).alloc c).heap[w.heap.size + 1]? = some b := block_later (below_new _ _) (heap_alloc2_new _ _ _)
theorem heap_alloc3_2 (w : World) (a b c : Obj) : (((w.alloc a).alloc b).alloc c).heap[w.heap.size + 1 + 1]? = some c := by
  have h := heap_alloc_new ((w.alloc a).alloc b) c
  have e : ((w.alloc a).alloc b).heap.size = w.heap.size + 1 + 1 := by simp
  rw [e] at h; exact h
theorem below3 (w : World) (a b c : Obj) : Below w.heap.size w (((w.alloc a).alloc b).alloc c) := below_tr (below2 _ _ _) (below_new _ _)

set_option maxHeartbeats 2000000 in
theorem rfrom_bad (S : Nat) (vm : Value) (l : Int) (tb va : Nat) (h : ¬ (isLv l = true ∧ tb % 4096 = 0 ∧ va < 281474976710656)) (w : World) :
    Calls Tryd.prog 11 #[.agg #[.int .u64 (S : Nat), vm], .int .i64 l, .int .u64 tb, .int .u64 va] w fun e w' => e = .returned (.agg (zero11 1 0 (.slice none 0 0))) ∧ Below w.heap.size w w' := by
  by_cases h1 : l < 0
  · have d1 : decide (l < 0) = true := decide_eq_true h1
    clear h
    go_enter Tryd.func11, Tryd.ntmps11
    go_wp2
    refine bodyPost_ret (v := .agg (zero11 1 0 (.slice none 0 0))) ?_ rfl ⟨rfl, below3 _ _ _ _⟩
    exact results_cell_row rfl _ _ (w.heap.size + 1) 44 _ _ _ rfl (heap_alloc3_1 _ _ _ _) Tryd.underlying44 rfl info_L
  · by_cases h2 : 3 < l
    · have d1 : decide (l < 0) = false := decide_eq_false h1
      have d2 : decide (3 < l) = true := decide_eq_true h2
      clear h
      go_enter Tryd.func11, Tryd.ntmps11
      go_wp2
      refine bodyPost_ret (v := .agg (zero11 1 0 (.slice none 0 0))) ?_ rfl ⟨rfl, below3 _ _ _ _⟩
      exact results_cell_row rfl _ _ (w.heap.size + 1) 44 _ _ _ rfl (heap_alloc3_1 _ _ _ _) Tryd.underlying44 rfl info_L
    · by_cases h3 : tb % 4096 = 0
      · have h4 : ¬ va < 281474976710656 := fun c => h ⟨decide_eq_true (by omega), h3, c⟩
        have d1 : decide (l < 0) = false := decide_eq_false h1
        have d2 : decide (3 < l) = false := decide_eq_false h2
        have h3' : (tb : Int) % 4096 = 0 := by omega
        have h4' : (281474976710656 : Int) ≤ va := by omega
        clear h h3 h4
        go_enter Tryd.func11, Tryd.ntmps11
        go_wp2
        refine bodyPost_ret (v := .agg (zero11 1 0 (.slice none 0 0))) ?_ rfl ⟨rfl, below3 _ _ _ _⟩
        exact results_cell_row rfl _ _ (w.heap.size + 1) 44 _ _ _ rfl (heap_alloc3_1 _ _ _ _) Tryd.underlying44 rfl info_L
      · have d1 : decide (l < 0) = false := decide_eq_false h1
        have d2 : decide (3 < l) = false := decide_eq_false h2
        have h3' : ¬ (tb : Int) % 4096 = 0 := by omega
        clear h h3
        go_enter Tryd.func11, Tryd.ntmps11
        go_wp2
        refine bodyPost_ret (v := .agg (zero11 1 0 (.slice none 0 0))) ?_ rfl ⟨rfl, below3 _ _ _ _⟩
        exact results_cell_row rfl _ _ (w.heap.size + 1) 44 _ _ _ rfl (heap_alloc3_1 _ _ _ _) Tryd.underlying44 rfl info_L
end Go.Proofs.YtjhplcpaaghleaaDoor
