/- The line that lex.Tokens keeps, in memory: its five fields, the tokens' row, the iterator of the range; grow, part, closeWord. -/
import Derived.Test.YtbpahdgkedfmdaaDoorLexWalksB
import Derived.OneCell
import Derived.Deep.RegionHeld3
import Derived.Deep.AppendLies
import Derived.Deep.DrawnRows
namespace Go.Proofs.YtbpahdgkedfmdaaDoor
open Go.RowKit Go.Lib

/-- A token's cells. -/
def tokCells (t : Tok) : List Value := [.int .i64 t.kind, .string ⟨t.text.toArray⟩, .int .u64 t.word, .int .i64 t.at_]
def toksCells (l : List Tok) : List Value := l.flatMap tokCells
theorem toksCells_snoc (l : List Tok) (t : Tok) : toksCells (l ++ [t]) = toksCells l ++ tokCells t := by simp [toksCells]

theorem cell_past {w : World} {a : Addr} {x : Value} (hc : w.cell? a = some x) (o : Obj) : (w.alloc o).cell? a = some x := by
  rw [← hc]
  exact World.cell?_of_block (Below.heap_alloc w o a.block (World.block_lt_of_cell? w a hc))
/-- Behind a new block, a draw and an append: a cell of another block is as it was. -/
theorem far_cell {w w1 : World} {o : Obj} {row : Option Nat} {a : Addr} {x : Value} (hg : (w.alloc o).drew.grownBy w1 row) (hlt : a.block < w.heap.size) (hne : row ≠ some a.block) (hc : w.cell? a = some x) : w1.cell? a = some x := by
  have h1 : (w.alloc o).drew.heap.size = w.heap.size + 1 := by show (w.heap.push o).size = _; simp
  rw [hg.cell_far a (by rw [h1]; omega) (Ne.symm hne), ← hc]
  exact World.cell?_of_block (Below.heap_alloc w o a.block hlt)
theorem far_frozen {w w1 : World} {o : Obj} {row : Option Nat} {a : Addr} (hg : (w.alloc o).drew.grownBy w1 row) (hlt : a.block < w.heap.size) (hne : row ≠ some a.block) (hc : w.frozen? a = false) : w1.frozen? a = false := by
  have h1 : (w.alloc o).drew.heap.size = w.heap.size + 1 := by show (w.heap.push o).size = _; simp
  rw [hg.frozen_far a (by rw [h1]; omega) (Ne.symm hne), ← hc]
  exact World.frozen?_of_block (Below.heap_alloc w o a.block hlt)

structure Line (B N : Nat) (w0 : World) (s : ByteArray) (pos : Nat) (v : Value) (toks : List Tok) (at_ : Nat) (op : Bool) (pl fr : Nat) (w : World) : Prop where
  below : Below B w0 w
  hB : B ≤ N
  line : w.heap[N]? = some (.cells #[v, .int .i64 at_, .bool op, .int .i64 pl, .int .i64 fr] 50 (0, 0))
  iter : w.heap[N + 1]? = some (.stringIter s pos)
  owns : w.ownsRow (N + 2) 32 4 v toks.length (toksCells toks)

variable {B N : Nat} {w0 w : World} {s : ByteArray} {pos : Nat} {v : Value} {toks : List Tok} {at_ : Nat} {op : Bool} {pl fr : Nat}

theorem Line.cell (h : Line B N w0 s pos v toks at_ op pl fr w) (i : Nat) : w.cell? ⟨N, i, none⟩ = #[v, .int .i64 at_, .bool op, .int .i64 pl, .int .i64 fr][i]? := by
  rw [cell_of_row _ _ _ _ _ _ h.line]
theorem Line.frozen (h : Line B N w0 s pos v toks at_ op pl fr w) (i : Nat) : w.frozen? ⟨N, i, none⟩ = false := frozen_of_row _ _ _ _ _ h.line
theorem Line.lt (h : Line B N w0 s pos v toks at_ op pl fr w) : N + 1 < w.heap.size := lt_of_block h.iter

theorem Line.setRow {i : Nat} {u : Value} {v' : Value} {a' : Nat} {o' : Bool} {p' f' : Nat} (h : Line B N w0 s pos v toks at_ op pl fr w)
    (hv : v' = v) (hc : #[v, .int .i64 at_, .bool op, .int .i64 pl, .int .i64 fr].setIfInBounds i u = #[v', .int .i64 a', .bool o', .int .i64 p', .int .i64 f']) :
    Line B N w0 s pos v' toks a' o' p' f' (w.setCell ⟨N, i, none⟩ u) := by
  subst hv
  refine ⟨h.below.setCell h.hB _, h.hB, ?_, ?_, ownsRow_setCell_below h.owns (by show N < N + 2; omega) _⟩
  · rw [heap_setCell_same _ _ _ _ _ _ h.line, hc]
  · rw [heap_setCell_other _ _ _ _ (by show N + 1 ≠ N; omega)]; exact h.iter
theorem Line.set1 (h : Line B N w0 s pos v toks at_ op pl fr w) (a : Nat) : Line B N w0 s pos v toks a op pl fr (w.setCell ⟨N, 1, none⟩ (.int .i64 a)) := h.setRow rfl rfl
theorem Line.set2 (h : Line B N w0 s pos v toks at_ op pl fr w) (o : Bool) : Line B N w0 s pos v toks at_ o pl fr (w.setCell ⟨N, 2, none⟩ (.bool o)) := h.setRow rfl rfl
theorem Line.set3 (h : Line B N w0 s pos v toks at_ op pl fr w) (a : Nat) : Line B N w0 s pos v toks at_ op a fr (w.setCell ⟨N, 3, none⟩ (.int .i64 a)) := h.setRow rfl rfl
theorem Line.set4 (h : Line B N w0 s pos v toks at_ op pl fr w) (a : Nat) : Line B N w0 s pos v toks at_ op pl a (w.setCell ⟨N, 4, none⟩ (.int .i64 a)) := h.setRow rfl rfl

theorem Line.later {w' : World} (h : Line B N w0 s pos v toks at_ op pl fr w) (hb : Below w.heap.size w w') : Line B N w0 s pos v toks at_ op pl fr w' := by
  have hlt := h.lt
  have hN := h.hB
  refine ⟨h.below.trans (hb.mono (by omega)), h.hB, ?_, ?_, h.owns.1, ?_⟩
  · rw [hb.block N (by omega)]; exact h.line
  · rw [hb.block (N + 1) hlt]; exact h.iter
  · rcases h.owns.2 with h2 | ⟨g, cap, cur, hv, hg, hh, r⟩
    · exact .inl h2
    · exact .inr ⟨g, cap, cur, hv, hg, by rw [hb.block g (lt_of_block hh)]; exact hh, r⟩
theorem Line.iterAt (h : Line B N w0 s pos v toks at_ op pl fr w) (pos' : Nat) : Line B N w0 s pos' v toks at_ op pl fr (w.iterAt (N + 1) s pos') := by
  refine ⟨below_iterAt h.below (by have := h.hB; omega) _ _, h.hB, ?_, iterAt_heap _ _ _ _ _ h.iter, h.owns.1, ?_⟩
  · rw [iterAt_other _ _ _ _ _ (by omega)]; exact h.line
  · rcases h.owns.2 with h2 | ⟨g, cap, cur, hv, hg, hh, r⟩
    · exact .inl h2
    · exact .inr ⟨g, cap, cur, hv, hg, by rw [iterAt_other _ _ _ _ _ (by omega)]; exact hh, r⟩
/-- One token more: behind the append and the store of the new slice. -/
theorem Line.push {w1 : World} {v' : Value} {t : Tok} (h : Line B N w0 s pos v toks at_ op pl fr w) (hg : w.grownBy w1 v.ownBlock) (ho : w1.ownsRow (N + 2) 32 4 v' (toks.length + 1) (toksCells toks ++ tokCells t)) :
    Line B N w0 s pos v' (toks ++ [t]) at_ op pl fr (w1.setCell ⟨N, 0, none⟩ v') := by
  have hlt := h.lt
  have hN := h.hB
  have hrow : ∀ k, v.ownBlock = some k → N + 2 ≤ k := fun k hk => (h.owns.lt k hk).1
  have hb : ∀ k, k < N + 2 → w1.heap[k]? = w.heap[k]? := fun k hk => hg.block k (by omega) (fun e => by have := hrow k e.symm; omega)
  refine ⟨(h.below.grown hg (by omega) (fun k hk => by have := hrow k hk; omega)).setCell h.hB _, h.hB, ?_, ?_, ?_⟩
  · rw [heap_setCell_same _ _ _ _ _ _ (by rw [hb N (by omega)]; exact h.line)]; rfl
  · rw [heap_setCell_other _ _ _ _ (by show N + 1 ≠ N; omega), hb (N + 1) (by omega)]; exact h.iter
  · rw [toksCells_snoc, List.length_append]
    exact ownsRow_setCell_below ho (by show N < N + 2; omega) _

theorem grow_open (p : Nat) (w : World) (hat : at_ < 1000000) (h : Line B N w0 s pos v toks at_ true pl fr w) :
    Calls Tryd.prog 19 #[.pointer (some ⟨N, 0, none⟩), .int .i64 p] w fun e w' => e = .returned (.tuple #[]) ∧ Line B N w0 s pos v toks (at_ + 1) true pl fr w' := by
  have c1 := h.cell 1
  have c2 := h.cell 2
  have f1 := h.frozen 1
  simp at c1 c2
  have H : Hid (Line B N w0 s pos v toks at_ true pl fr w) := h
  clear h
  go_enter Tryd.func19, Tryd.ntmps19
  go_wp2
  go_end0
  exact ⟨rfl, H.out.set1 (at_ + 1)⟩
theorem grow_shut (p : Nat) (w : World) (hat : at_ < 1000000) (h : Line B N w0 s pos v toks at_ false pl fr w) :
    Calls Tryd.prog 19 #[.pointer (some ⟨N, 0, none⟩), .int .i64 p] w fun e w' => e = .returned (.tuple #[]) ∧ Line B N w0 s pos v toks (at_ + 1) true p at_ w' := by
  have c1 := h.cell 1
  have c2 := h.cell 2
  have c3 := h.cell 3
  have c4 := h.cell 4
  have f1 := h.frozen 1
  have f2 := h.frozen 2
  have f3 := h.frozen 3
  have f4 := h.frozen 4
  simp at c1 c2 c3 c4
  have H : Hid (Line B N w0 s pos v toks at_ false pl fr w) := h
  clear h
  go_enter Tryd.func19, Tryd.ntmps19
  go_wp2
  go_end0
  exact ⟨rfl, (((H.out.set2 true).set3 p).set4 at_).set1 (at_ + 1)⟩
end Go.Proofs.YtbpahdgkedfmdaaDoor
