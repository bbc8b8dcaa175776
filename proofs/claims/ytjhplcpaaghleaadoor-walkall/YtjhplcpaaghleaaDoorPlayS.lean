/- A memory and the document's beside it, both new since w. -/
import Derived.Test.YtjhplcpaaghleaaDoorRefWriteW
namespace Go.Proofs.YtjhplcpaaghleaaDoor
open Go.RowKit Go.Maps

/-- The memory at a and the document's (in the block xb: its list is v, of the words L), both new since w, with nothing in common. -/
structure PlayX (w wr : World) (xb a S n : Nat) (f : Nat → Nat) (v : Value) (L : WL) (X B : Nat → Prop) : Prop where
  mem : MemAt wr X a S n f
  lst : Psl wr B v L
  xlo : ∀ i, X i → w.heap.size ≤ i ∧ i ≠ xb
  blo : ∀ i, B i → w.heap.size ≤ i ∧ i < wr.heap.size ∧ ¬ X i ∧ i ≠ xb
  row : wr.heap[xb]? = some (.cells #[.int .u64 (S : Nat), v] 28)
  xb0 : w.heap.size ≤ xb
  bel : Below w.heap.size w wr
def PlayS (w wr : World) (xb a S n : Nat) (f : Nat → Nat) (v : Value) (L : WL) : Prop := ∃ X B, PlayX w wr xb a S n f v L X B

theorem turn_set2 (w : World) (xb : Nat) (u0 u1 : Value) : Turn (fun i => i = xb) w ((w.setCell ⟨xb, 0, none⟩ u0).setCell ⟨xb, 1, none⟩ u1) := by
  have hB : Below 0 w ((w.setCell ⟨xb, 0, none⟩ u0).setCell ⟨xb, 1, none⟩ u1) := ((Below.refl 0 w).setCell (Nat.zero_le _) _).setCell (Nat.zero_le _) _
  refine ⟨hB.os, hB.tape, hB.output, hB.size, fun i _ hne => ?_⟩
  rw [heap_setCell_other _ _ _ _ hne, heap_setCell_other _ _ _ _ hne]

section
variable {w wr w' : World} {xb a S n : Nat} {f : Nat → Nat} {v : Value} {L : WL}
theorem PlayS.bel (h : PlayS w wr xb a S n f v L) : Below w.heap.size w wr := by obtain ⟨X, B, h⟩ := h; exact h.bel
theorem PlayS.row (h : PlayS w wr xb a S n f v L) : wr.heap[xb]? = some (.cells #[.int .u64 (S : Nat), v] 28) := by obtain ⟨X, B, h⟩ := h; exact h.row
theorem PlayS.xb0 (h : PlayS w wr xb a S n f v L) : w.heap.size ≤ xb := by obtain ⟨X, B, h⟩ := h; exact h.xb0
theorem PlayS.later (h : PlayS w wr xb a S n f v L) (hb : Below wr.heap.size wr w') : PlayS w w' xb a S n f v L := by
  obtain ⟨X, B, h⟩ := h
  have hx : xb < wr.heap.size := (Array.getElem?_eq_some_iff.1 h.row).1
  exact ⟨X, B, h.mem.below hb, h.lst.below hb, h.xlo, fun i hi => ⟨(h.blo i hi).1, Nat.lt_of_lt_of_le (h.blo i hi).2.1 hb.size, (h.blo i hi).2.2⟩, (hb.block xb hx).trans h.row, h.xb0, below_tr h.bel hb⟩

/-- .. behind a new list for the document's. -/
theorem PlayS.put {X B : Nat → Prop} {w1 : World} {v' : Value} {L' : WL} (h : PlayX w wr xb a S n f v L X B) (hb : Below wr.heap.size wr w1) (hp1 : Psl w1 (fun g => B g ∨ wr.heap.size ≤ g) v' L') (w2 : World) (hr : w2.heap[xb]? = some (.cells #[.int .u64 (S : Nat), v'] 28)) (ht : Turn (fun i => i = xb) w1 w2) :
    PlayS w w2 xb a S n f v' L' := by
  have hp2 : Psl w1 (fun g => (B g ∨ wr.heap.size ≤ g) ∧ g < w1.heap.size) v' L' := by
    rcases hp1 with h | ⟨g, cap, q1, q2, q3, q4⟩
    · exact Or.inl h
    · exact Or.inr ⟨g, cap, q1, ⟨q2, q3⟩, q3, q4⟩
  have hx : xb < wr.heap.size := (Array.getElem?_eq_some_iff.1 h.row).1
  have hB : ∀ i, ((B i ∨ wr.heap.size ≤ i) ∧ i < w1.heap.size) → w.heap.size ≤ i ∧ i < w1.heap.size ∧ ¬ X i ∧ i ≠ xb := fun i hi => by
    rcases hi.1 with q | q
    · exact ⟨(h.blo i q).1, hi.2, (h.blo i q).2.2⟩
    · exact ⟨Nat.le_trans h.bel.size q, hi.2, fun c => by have := h.mem.lt i c; omega, by omega⟩
  exact ⟨X, _, (h.mem.below hb).turn ht (fun i hi c => (h.xlo i hi).2 c), hp2.turn ht (fun i hi => (hB i hi).2.2.2), h.xlo, fun i hi => ⟨(hB i hi).1, Nat.lt_of_lt_of_le (hB i hi).2.1 ht.size, (hB i hi).2.2⟩, hr, h.xb0, (below_tr h.bel hb).trans (ht.below (fun i (hi : i = xb) => by subst hi; exact h.xb0) (below_tr h.bel hb).size)⟩

theorem PlayS.rwrite (h : PlayS w wr xb a S n f v L) (hlen : L.length < 1000000) (x d : Nat) :
    Calls Tryd.prog 23 #[.agg #[.int .u64 (S : Nat), v], .int .u64 (x : Nat), .int .u64 (d : Nat)] wr fun e w1 => ∃ v', e = .returned (.tuple #[.agg #[.int .u64 (S : Nat), v'], .int .i64 (errA S x)]) ∧ v'.oneCell' = true ∧ Below wr.heap.size wr w1 ∧
      ∀ w2, w2.heap[xb]? = some (.cells #[.int .u64 (S : Nat), v'] 28) → Turn (fun i => i = xb) w1 w2 → PlayS w w2 xb a S n f v' (if errA S x = 0 then outW x d L else L) := by
  obtain ⟨X, B, h⟩ := h
  refine (rwrite_c h.lst hlen x d).mono fun e w1 hh => ?_
  obtain ⟨v', q1, q2, q3⟩ := hh
  exact ⟨v', q1, by obtain ⟨p, c, rfl, _⟩ := q2.form; rfl, q3, fun w2 hr ht => PlayS.put h q3 q2 w2 hr ht⟩

theorem PlayS.write (h : PlayS w wr xb a S n f v L) (hn : n < 100000000) (x d : Nat) (hx : x < 18446744073709551616) (hd : d < 18446744073709551616) :
    Calls Tryd.prog 22 #[.pointer (some ⟨a, 0, none⟩), .int .u64 x, .int .u64 d] wr fun e w' => e = .returned (.int .i64 (errA S x)) ∧ PlayS w w' xb a S (n + 1) (wrF f S x d) v L ∧ ∃ X, Turn X wr w' ∧ ∀ i, X i → w.heap.size ≤ i ∧ i ≠ xb := by
  obtain ⟨X, B, h⟩ := h
  refine (write_c h.mem hn x d hx hd).mono fun e w' hh => ⟨hh.1, ?_, X, hh.2.2, h.xlo⟩
  have ht := hh.2.2
  have hxl : xb < wr.heap.size := (Array.getElem?_eq_some_iff.1 h.row).1
  have hxX : ¬ X xb := fun c => (h.xlo xb c).2 rfl
  refine ⟨Gr X wr w', B, hh.2.1, h.lst.turn ht (fun i hi => (h.blo i hi).2.2.1), fun i hi => ?_, fun i hi => ⟨(h.blo i hi).1, Nat.lt_of_lt_of_le (h.blo i hi).2.1 ht.size, fun c => ?_, (h.blo i hi).2.2.2⟩, (ht.block xb hxl hxX).trans h.row, h.xb0, h.bel.trans (ht.below (fun i hi => (h.xlo i hi).1) h.bel.size)⟩
  · rcases hi with hi | hi
    · exact h.xlo i hi
    · exact ⟨Nat.le_trans h.bel.size hi.1, by have := hi.1; omega⟩
  · rcases c with c | c
    · exact (h.blo i hi).2.2.1 c
    · have := (h.blo i hi).2.1; have := c.1; omega
theorem PlayS.write_box (h : PlayS w wr xb a S n f v L) (hn : n < 100000000) (x d : Nat) (hx : x < 18446744073709551616) (hd : d < 18446744073709551616) (o : Obj) :
    Calls Tryd.prog 22 #[.pointer (some ⟨a, 0, none⟩), .int .u64 x, .int .u64 d] (wr.alloc o) fun e w' => e = .returned (.int .i64 (errA S x)) ∧ PlayS w w' xb a S (n + 1) (wrF f S x d) v L ∧ w'.heap[wr.heap.size]? = some o := by
  obtain ⟨X, B, h⟩ := h
  have hal : Below wr.heap.size wr (wr.alloc o) := (Below.refl _ _).alloc (Nat.le_refl _) _
  have hxl : xb < wr.heap.size := (Array.getElem?_eq_some_iff.1 h.row).1
  have hsz : (wr.alloc o).heap.size = wr.heap.size + 1 := by simp
  have h' : PlayX w (wr.alloc o) xb a S n f v L X B := ⟨h.mem.below hal, h.lst.below hal, h.xlo, fun i hi => ⟨(h.blo i hi).1, Nat.lt_of_lt_of_le (h.blo i hi).2.1 hal.size, (h.blo i hi).2.2⟩, (hal.block xb hxl).trans h.row, h.xb0, below_tr h.bel hal⟩
  have hnew : (wr.alloc o).heap[wr.heap.size]? = some o := heap_alloc_new _ _
  have hlt := h.mem.lt
  clear h hal
  refine (write_c h'.mem hn x d hx hd).mono fun e w' hh => ⟨hh.1, ?_, (hh.2.2.block _ (by omega) (fun c => by have := hlt _ c; omega)).trans hnew⟩
  have ht := hh.2.2
  have hxl : xb < (wr.alloc o).heap.size := (Array.getElem?_eq_some_iff.1 h'.row).1
  have hxX : ¬ X xb := fun c => (h'.xlo xb c).2 rfl
  refine ⟨Gr X (wr.alloc o) w', B, hh.2.1, h'.lst.turn ht (fun i hi => (h'.blo i hi).2.2.1), fun i hi => ?_, fun i hi => ⟨(h'.blo i hi).1, Nat.lt_of_lt_of_le (h'.blo i hi).2.1 ht.size, fun c => ?_, (h'.blo i hi).2.2.2⟩, (ht.block xb hxl hxX).trans h'.row, h'.xb0, h'.bel.trans (ht.below (fun i hi => (h'.xlo i hi).1) h'.bel.size)⟩
  · rcases hi with hi | hi
    · exact h'.xlo i hi
    · exact ⟨Nat.le_trans h'.bel.size hi.1, by have := hi.1; omega⟩
  · rcases c with c | c
    · exact (h'.blo i hi).2.2.1 c
    · have := (h'.blo i hi).2.1; have := c.1; omega
end

theorem err_zero {S x : Nat} (he : errA S x ≠ 0) : x % 8 ≠ 0 ∨ S ≤ x := by
  unfold errA at he
  by_cases q : x % 8 = 0
  · rw [if_neg (by omega)] at he
    by_cases q2 : S ≤ x
    · exact Or.inr q2
    · rw [if_neg q2] at he; exact absurd rfl he
  · exact Or.inl q
theorem MemAt.outs {w : World} {X : Nat → Prop} {a S n : Nat} {f : Nat → Nat} (h : MemAt w X a S n f) {x : Nat} (he : errA S x ≠ 0) : f x = 0 := by
  obtain ⟨mb, pg, h⟩ := h
  exact h.out x (err_zero he)
end Go.Proofs.YtjhplcpaaghleaaDoor
