/- A memory and the document's beside it. -/
import Derived.Test.YtiedlkhbbnjkbaaPlaySame
import Derived.Test.YtiedlkhbbnjkbaaPhysCopy
namespace Go.Proofs.Ytiedlkhbbnjkbaa
open Go.RowKit Go.Maps

/-- The memory at a and the document's (in the block xb: its list is v, of the words L), both new since w, with nothing in common. -/
def Play (w wr : World) (xb a S n : Nat) (f : Nat → Nat) (v : Value) (L : WL) : Prop :=
  (∃ X B, MemAt wr X a S n f ∧ Psl wr B v L ∧ (∀ i, X i → w.heap.size ≤ i ∧ i ≠ xb) ∧ ∀ i, B i → i < wr.heap.size ∧ ¬ X i ∧ i ≠ xb) ∧ wr.heap[xb]? = some (.cells #[.int .u64 (S : Nat), v] 32) ∧ w.heap.size ≤ xb ∧ Below w.heap.size w wr

theorem turn_set2 (w : World) (xb : Nat) (u0 u1 : Value) : Turn (fun i => i = xb) w ((w.setCell ⟨xb, 0, none⟩ u0).setCell ⟨xb, 1, none⟩ u1) := by
  have hB : Below 0 w ((w.setCell ⟨xb, 0, none⟩ u0).setCell ⟨xb, 1, none⟩ u1) := ((Below.refl 0 w).setCell (Nat.zero_le _) _).setCell (Nat.zero_le _) _
  refine ⟨hB.os, hB.tape, hB.output, hB.size, fun i _ hne => ?_⟩
  rw [heap_setCell_other _ _ _ _ hne, heap_setCell_other _ _ _ _ hne]

section
variable {w wr w' : World} {xb a S n : Nat} {f : Nat → Nat} {v : Value} {L : WL}

theorem Play.bel (h : Play w wr xb a S n f v L) : Below w.heap.size w wr := h.2.2.2
theorem Play.row (h : Play w wr xb a S n f v L) : wr.heap[xb]? = some (.cells #[.int .u64 (S : Nat), v] 32) := h.2.1
theorem Play.xlt (h : Play w wr xb a S n f v L) : xb < wr.heap.size := (Array.getElem?_eq_some_iff.1 h.2.1).1
theorem Play.xlo (h : Play w wr xb a S n f v L) : w.heap.size ≤ xb := h.2.2.1
theorem Play.form (h : Play w wr xb a S n f v L) : ∃ p cap, v = .slice p L.length cap := by
  obtain ⟨⟨X, B, _, h2, _⟩, _⟩ := h
  obtain ⟨p, cap, h, _⟩ := h2.form
  exact ⟨p, cap, h⟩
theorem Play.outs (h : Play w wr xb a S n f v L) : (∀ x, (x % 8 ≠ 0 ∨ S ≤ x) → f x = 0) ∧ S ≤ 4294967296 := by
  obtain ⟨⟨X, B, ⟨mb, pg, h1⟩, _⟩, _⟩ := h
  exact ⟨h1.out, h1.s0.2.1⟩
theorem Play.later (h : Play w wr xb a S n f v L) (hb : Below wr.heap.size wr w') : Play w w' xb a S n f v L := by
  have hx := h.xlt
  obtain ⟨⟨X, B, h1, h2, h3, h4⟩, h5, h6, h7⟩ := h
  exact ⟨⟨X, B, h1.below hb, h2.below hb, h3, fun i hi => ⟨Nat.lt_of_lt_of_le (h4 i hi).1 hb.size, (h4 i hi).2⟩⟩, (hb.block xb hx).trans h5, h6, below_tr h7 hb⟩
theorem Play.mono (h : Play w wr xb a S n f v L) {m : Nat} (hn : n ≤ m) : Play w wr xb a S m f v L := by
  obtain ⟨⟨X, B, ⟨mb, pg, hm⟩, h2⟩, h3⟩ := h
  exact ⟨⟨X, B, ⟨mb, pg, { hm with pgs := hm.pgs.mono hn }⟩, h2⟩, h3⟩

/-- .. behind a new list for the document's. -/
theorem play_put {X B : Nat → Prop} {w1 : World} {v' : Value} {L' : WL} (h1 : MemAt wr X a S n f) (h3 : ∀ i, X i → w.heap.size ≤ i ∧ i ≠ xb) (h4 : ∀ i, B i → i < wr.heap.size ∧ ¬ X i ∧ i ≠ xb) (h5 : wr.heap[xb]? = some (.cells #[.int .u64 (S : Nat), v] 32)) (h6 : w.heap.size ≤ xb) (h7 : Below w.heap.size w wr)
    (hb : Below wr.heap.size wr w1) (hp1 : Psl w1 (fun g => B g ∨ wr.heap.size ≤ g) v' L') :
    Play w ((w1.setCell ⟨xb, 0, none⟩ (.int .u64 (S : Nat))).setCell ⟨xb, 1, none⟩ v') xb a S n f v' L' := by
  have hx : xb < wr.heap.size := (Array.getElem?_eq_some_iff.1 h5).1
  have ht := turn_set2 w1 xb (.int .u64 (S : Nat)) v'
  have hr1 : w1.heap[xb]? = some (.cells #[.int .u64 (S : Nat), v] 32) := (hb.block xb hx).trans h5
  have e0 := heap_setCell_same w1 xb 0 _ _ (.int .u64 (S : Nat)) hr1
  have e1 := heap_setCell_same _ xb 1 _ _ v' e0
  have hp2 : Psl w1 (fun g => (B g ∨ wr.heap.size ≤ g) ∧ g < w1.heap.size) v' L' := by
    rcases hp1 with h | ⟨g, cap, q1, q2, q3, q4⟩
    · exact Or.inl h
    · exact Or.inr ⟨g, cap, q1, ⟨q2, q3⟩, q3, q4⟩
  have hB : ∀ i, ((B i ∨ wr.heap.size ≤ i) ∧ i < w1.heap.size) → i < w1.heap.size ∧ ¬ X i ∧ i ≠ xb := fun i hi => by
    rcases hi.1 with q | q
    · exact ⟨hi.2, (h4 i q).2⟩
    · exact ⟨hi.2, fun c => by have := h1.lt i c; omega, by omega⟩
  refine ⟨⟨X, _, (h1.below hb).turn ht (fun i hi c => (h3 i hi).2 c), hp2.turn ht (fun i hi => (hB i hi).2.2), h3, fun i hi => ⟨Nat.lt_of_lt_of_le (hB i hi).1 ht.size, (hB i hi).2⟩⟩, e1, h6, (below_tr h7 hb).trans (ht.below (fun i hi => by omega) (below_tr h7 hb).size)⟩

theorem Play.rwrite (h : Play w wr xb a S n f v L) (hlen : L.length < 1000000) (x d : Nat) :
    Calls Try.prog 11 #[.agg #[.int .u64 (S : Nat), v], .int .u64 (x : Nat), .int .u64 (d : Nat)] wr fun e w1 => ∃ v', e = .returned (.tuple #[.agg #[.int .u64 (S : Nat), v'], .int .i64 (errA S x)]) ∧ Below wr.heap.size wr w1 ∧ Play w ((w1.setCell ⟨xb, 0, none⟩ (.int .u64 (S : Nat))).setCell ⟨xb, 1, none⟩ v') xb a S n f v' (if errA S x = 0 then outW x d L else L) := by
  obtain ⟨⟨X, B, h1, h2, h3, h4⟩, h5, h6, h7⟩ := h
  refine (rwrite_c h2 hlen x d).mono fun e w1 hh => ?_
  obtain ⟨v', q1, q2, q3⟩ := hh
  exact ⟨v', q1, q3, play_put h1 h3 h4 h5 h6 h7 q3 q2⟩
theorem Play.rclear (h : Play w wr xb a S n f v L) (hlen : L.length < 1000000) (x d : Nat) (hx : x < 18446744073709551616) (hd : d < 18446744073709551616) :
    Calls Try.prog 15 #[.agg #[.int .u64 (S : Nat), v], .int .u64 (x : Nat), .int .u64 (d : Nat)] wr fun e w1 => ∃ v', e = .returned (.tuple #[.agg #[.int .u64 (S : Nat), v'], .int .i64 (errC S x d)]) ∧ Below wr.heap.size wr w1 ∧ Play w ((w1.setCell ⟨xb, 0, none⟩ (.int .u64 (S : Nat))).setCell ⟨xb, 1, none⟩ v') xb a S n f v' (if errC S x d = 0 then SC x d L L.length else L) := by
  have hS := h.outs.2
  obtain ⟨⟨X, B, h1, h2, h3, h4⟩, h5, h6, h7⟩ := h
  refine (rclear_c h2 hlen hS x d hx hd).mono fun e w1 hh => ?_
  obtain ⟨v', q1, q2, q3⟩ := hh
  exact ⟨v', q1, q3, play_put h1 h3 h4 h5 h6 h7 q3 q2⟩
/-- .. behind a turn of the memory. -/
theorem play_turn {X B : Nat → Prop} {m : Nat} {g : Nat → Nat} (h1 : MemAt w' (Gr X wr w') a S m g) (h2 : Psl wr B v L) (h3 : ∀ i, X i → w.heap.size ≤ i ∧ i ≠ xb) (h4 : ∀ i, B i → i < wr.heap.size ∧ ¬ X i ∧ i ≠ xb) (h5 : wr.heap[xb]? = some (.cells #[.int .u64 (S : Nat), v] 32)) (h6 : w.heap.size ≤ xb) (h7 : Below w.heap.size w wr) (ht : Turn X wr w') :
    Play w w' xb a S m g v L := by
  have hx : xb < wr.heap.size := (Array.getElem?_eq_some_iff.1 h5).1
  have hxX : ¬ X xb := fun c => (h3 xb c).2 rfl
  refine ⟨⟨Gr X wr w', B, h1, h2.turn ht (fun i hi => (h4 i hi).2.1), fun i hi => ?_, fun i hi => ⟨Nat.lt_of_lt_of_le (h4 i hi).1 ht.size, fun c => ?_, (h4 i hi).2.2⟩⟩, (ht.block xb hx hxX).trans h5, h6, h7.trans (ht.below (fun i hi => (h3 i hi).1) h7.size)⟩
  · rcases hi with hi | hi
    · exact h3 i hi
    · exact ⟨Nat.le_trans h7.size hi.1, by have := hi.1; omega⟩
  · rcases c with c | c
    · exact (h4 i hi).2.1 c
    · have := (h4 i hi).1; have := c.1; omega
theorem Play.write (h : Play w wr xb a S n f v L) (hn : n < 100000000) (x d : Nat) (hx : x < 18446744073709551616) (hd : d < 18446744073709551616) :
    Calls Try.prog 12 #[.pointer (some ⟨a, 0, none⟩), .int .u64 x, .int .u64 d] wr fun e w' => e = .returned (.int .i64 (errA S x)) ∧ Play w w' xb a S (n + 1) (wrF f S x d) v L := by
  obtain ⟨⟨X, B, h1, h2, h3, h4⟩, h5, h6, h7⟩ := h
  exact (write_c h1 hn x d hx hd).mono fun e w' hh => ⟨hh.1, play_turn hh.2.1 h2 h3 h4 h5 h6 h7 hh.2.2⟩
theorem Play.clear (h : Play w wr xb a S n f v L) (hn : n < 100000000) (x d : Nat) (hx : x < 18446744073709551616) (hd : d < 18446744073709551616) :
    Calls Try.prog 16 #[.pointer (some ⟨a, 0, none⟩), .int .u64 x, .int .u64 d] wr fun e w' => e = .returned (.int .i64 (errC S x d)) ∧ Play w w' xb a S n (clrF f S x d) v L := by
  obtain ⟨⟨X, B, h1, h2, h3, h4⟩, h5, h6, h7⟩ := h
  refine (clear_c h1 hn x d hx hd).mono fun e w' hh => ⟨hh.1, play_turn ?_ h2 h3 h4 h5 h6 h7 hh.2.2⟩
  obtain ⟨mb, pg, hm⟩ := hh.2.1
  refine ⟨mb, pg, hm.wide (fun i hi => Or.inl hi) (fun i hi => ?_)⟩
  rcases hi with hi | hi
  · exact hm.xlt i hi
  · exact hi.2
theorem Play.read (h : Play w wr xb a S n f v L) (x : Nat) (hx : x < 18446744073709551616) :
    Calls Try.prog 13 #[.pointer (some ⟨a, 0, none⟩), .int .u64 x] wr fun e w' => e = .returned (.tuple #[.int .u64 (f x : Nat), .int .i64 (errA S x)]) ∧ Below wr.heap.size wr w' := by
  obtain ⟨⟨X, B, h1, h2, h3, h4⟩, h5, h6, h7⟩ := h
  exact read_c h1 x hx
theorem Play.rread (h : Play w wr xb a S n f v L) (hR : Ref L f) (hlen : L.length < 1000000) (x : Nat) :
    Calls Try.prog 14 #[.agg #[.int .u64 (S : Nat), v], .int .u64 (x : Nat)] wr fun e w' => e = .returned (.tuple #[.int .u64 (f x : Nat), .int .i64 (errA S x)]) ∧ Below wr.heap.size wr w' := by
  have ho := h.outs.1
  obtain ⟨⟨X, B, h1, h2, h3, h4⟩, h5, h6, h7⟩ := h
  refine rread_c h2 hR (by omega) x (fun he => ho x ?_)
  unfold errA at he
  by_cases q : x % 8 = 0
  · rw [if_neg (by omega)] at he
    by_cases q2 : S ≤ x
    · exact Or.inr q2
    · rw [if_neg q2] at he; exact absurd rfl he
  · exact Or.inl q
theorem Play.same (h : Play w wr xb a S n f v L) (hR : Ref L f) (hn : n ≤ 100000000) (hlen : L.length < 1000000) :
    Calls Try.prog 18 #[.pointer (some ⟨a, 0, none⟩), .agg #[.int .u64 (S : Nat), v]] wr fun e w' => e = .returned (.bool true) ∧ Play w w' xb a S n f v L := by
  have h0 := h
  obtain ⟨⟨X, B, h1, h2, h3, h4⟩, h5, h6, h7⟩ := h
  exact (same_l h1 hn h2 hR hlen).mono fun e w' hh => ⟨hh.1, h0.later hh.2⟩
theorem Play.copy (h : Play w wr xb a S n f v L) (hn : n < 100000000) :
    Calls Try.prog 17 #[.pointer (some ⟨a, 0, none⟩)] wr fun e w1 => ∃ c, e = .returned (.pointer (some ⟨c, 0, none⟩)) ∧ Calls Try.prog 12 #[.pointer (some ⟨a, 0, none⟩), .int .u64 0, .int .u64 99] w1 fun e w2 => (∃ z, e = .returned (.int .i64 z)) ∧ Play w w2 xb c S n f v L := by
  obtain ⟨⟨X, B, h1, h2, h3, h4⟩, h5, h6, h7⟩ := h
  have hx : xb < wr.heap.size := (Array.getElem?_eq_some_iff.1 h5).1
  refine (copy_c h1 hn).mono fun e w1 hh => ?_
  obtain ⟨c, q1, q2, q3⟩ := hh
  refine ⟨c, q1, (write_c (h1.below q3) hn 0 99 (by decide) (by decide)).mono fun e w2 hk => ⟨⟨_, hk.1⟩, ?_⟩⟩
  have ht := hk.2.2
  have hxX : ¬ X xb := fun c => (h3 xb c).2 rfl
  have hb1 := below_tr h7 q3
  refine ⟨⟨_, B, q2.turn ht (fun i hi hX => by have := h1.lt i hX; have := hi.1; omega), (h2.below q3).turn ht (fun i hi => (h4 i hi).2.1), fun i hi => ⟨Nat.le_trans h7.size hi.1, by have := hi.1; omega⟩, fun i hi => ⟨Nat.lt_of_lt_of_le (Nat.lt_of_lt_of_le (h4 i hi).1 q3.size) ht.size, fun c => by have := (h4 i hi).1; have := c.1; omega, (h4 i hi).2.2⟩⟩, ?_, h6, hb1.trans (ht.below (fun i hi => (h3 i hi).1) hb1.size)⟩
  exact (ht.block xb (Nat.lt_of_lt_of_le hx q3.size) hxX).trans ((q3.block xb hx).trans h5)
end

/-- What a write does to the document's list. -/
theorem ref_write {L : WL} {f : Nat → Nat} (h : Ref L f) (S x d : Nat) : Ref (if errA S x = 0 then outW x d L else L) (wrF f S x d) := by
  unfold wrF
  by_cases he : errA S x = 0
  · rw [if_pos he, if_pos he]; exact h.write x d
  · rw [if_neg he, if_neg he]; exact h
theorem ref_clear {L : WL} {f : Nat → Nat} (h : Ref L f) (S x d : Nat) : Ref (if errC S x d = 0 then SC x d L L.length else L) (clrF f S x d) := by
  unfold clrF
  by_cases he : errC S x d = 0
  · rw [if_pos he, if_pos he]; exact h.clear x d
  · rw [if_neg he, if_neg he]; exact h
theorem len_write (L : WL) (S x d : Nat) : (if errA S x = 0 then outW x d L else L).length ≤ L.length + 1 := by
  by_cases he : errA S x = 0
  · rw [if_pos he]; exact outW_len x d L
  · rw [if_neg he]; omega
theorem len_clear (L : WL) (S x d : Nat) : (if errC S x d = 0 then SC x d L L.length else L).length ≤ L.length := by
  by_cases he : errC S x d = 0
  · rw [if_pos he]; exact SC_len x d L _
  · rw [if_neg he]; exact Nat.le_refl _
theorem play_new {w w1 w2 : World} {a S : Nat} (hB : Below w.heap.size w w1) (hm : MemAt w2 (fun i => w1.heap.size ≤ i ∧ i < w2.heap.size) a S 0 (fun _ => 0)) (hb : Below w1.heap.size w1 w2) :
    Play w (w2.alloc (.cells #[.int .u64 (S : Nat), .slice none 0 0] 32)) w2.heap.size a S 0 (fun _ => 0) (.slice none 0 0) [] := by
  have hB2 := below_tr hB hb
  refine ⟨⟨_, fun _ => False, hm.below ((Below.refl _ _).alloc (Nat.le_refl _) _), Or.inl ⟨rfl, rfl⟩, fun i hi => ⟨Nat.le_trans hB.size hi.1, by have := hi.2; omega⟩, fun i hi => hi.elim⟩, heap_alloc_new _ _, hB2.size, hB2.alloc hB2.size _⟩
end Go.Proofs.Ytiedlkhbbnjkbaa
