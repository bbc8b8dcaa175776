/- A descriptor in memory: its seven cells. -/
import Derived.Test.YtoolmhkonhcfpaaDoorRefDescE
namespace Go.Proofs.YtoolmhkonhcfpaaDoor
open Go.RowKit

structure D7 (w : World) (b : Nat) (k : Int) (o : Nat) (u r x s : Bool) (a : Int) : Prop where
  c0 : w.cell? ⟨b, 0, none⟩ = some (.int .i64 k)
  c1 : w.cell? ⟨b, 1, none⟩ = some (.int .u64 (o : Int))
  c2 : w.cell? ⟨b, 2, none⟩ = some (.bool u)
  c3 : w.cell? ⟨b, 3, none⟩ = some (.bool r)
  c4 : w.cell? ⟨b, 4, none⟩ = some (.bool x)
  c5 : w.cell? ⟨b, 5, none⟩ = some (.bool s)
  c6 : w.cell? ⟨b, 6, none⟩ = some (.int .i64 a)
theorem D7.later {w w' : World} {b : Nat} {k : Int} {o : Nat} {u r x s : Bool} {a : Int} (h : D7 w b k o u r x s a) (hb : Below w.heap.size w w') : D7 w' b k o u r x s a :=
  ⟨cell_later hb h.c0, cell_later hb h.c1, cell_later hb h.c2, cell_later hb h.c3, cell_later hb h.c4, cell_later hb h.c5, cell_later hb h.c6⟩
theorem D7.alloc {w : World} {b : Nat} {k : Int} {o : Nat} {u r x s : Bool} {a : Int} (h : D7 w b k o u r x s a) (ob : Obj) : D7 (w.alloc ob) b k o u r x s a := h.later (below_new w ob)
theorem D7.new (w : World) (t : TypeId) (k : Int) (o : Nat) (u r x s : Bool) (a : Int) : D7 (w.alloc (.cells #[.int .i64 k, .int .u64 (o : Int), .bool u, .bool r, .bool x, .bool s, .int .i64 a] t)) w.heap.size k o u r x s a := by
  have h := heap_alloc_new w (.cells #[.int .i64 k, .int .u64 (o : Int), .bool u, .bool r, .bool x, .bool s, .int .i64 a] t)
  obtain ⟨⟨m0, m1, m2, m3, m4, m5, m6⟩, _⟩ := cells7 h
  exact ⟨m0, m1, m2, m3, m4, m5, m6⟩
end Go.Proofs.YtoolmhkonhcfpaaDoor
