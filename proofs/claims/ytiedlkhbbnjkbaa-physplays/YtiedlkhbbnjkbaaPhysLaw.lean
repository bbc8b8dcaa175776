/- What the statements of layer 3 have in common: the anchor, the operations that came in. -/
import Derived.Test.YtiedlkhbbnjkbaaPhysWords
namespace Go.Proofs.Ytiedlkhbbnjkbaa
open Go.RowKit Go.Maps

theorem below_tr {A B C : World} (h : Below A.heap.size A B) (k : Below B.heap.size B C) : Below A.heap.size A C := h.trans (k.mono h.size)

theorem anchor_words : wordsN (wrF (fun _ => 0) 65536 8 5) 65536 = 1 := by
  have e : wrF (fun _ => 0) 65536 8 5 = updF (fun _ => 0) 8 5 := by unfold wrF; rw [if_pos (by decide)]
  unfold wordsN
  rw [e]
  have := cnt_win (fun i => updF (fun _ => 0) 8 5 (8 * i) != 0) 1 1 8190 (fun i hi => by
    unfold updF at hi
    by_cases c : 8 * i = 8
    · omega
    · rw [if_neg c] at hi; cases hi)
  exact this

set_option maxRecDepth 100000 in
set_option maxHeartbeats 2000000 in
theorem anchor_c (w : World) : Calls Try.prog 8 #[] w fun e w' => e = .returned (.bool true) ∧ Below w.heap.size w w' := by
  go_enter Try.func8, Try.ntmps8
  go_wp2_with fail
  refine (new_ok 65536 (by decide) w).mono ?_
  rintro e w1 ⟨a, rfl, hm, hb1⟩
  have HB1 := Hid.mk hb1
  have hwr := write_c hm (by omega) 8 5 (by omega) (by omega)
  have hlo : Hid (∀ i, w.heap.size ≤ i ∧ i < w1.heap.size → w.heap.size ≤ i) := fun i hi => hi.1
  have he1 : errA 65536 8 = 0 := by decide
  rw [he1] at hwr
  clear hb1 hm
  go_wp2_with fail
  refine hwr.mono ?_
  rintro e w2 ⟨rfl, hm2, ht2⟩
  have HB2 : Hid (Below w.heap.size w w2) := HB1.out.trans (ht2.below hlo.out (HB1.out.size))
  have HF : Hid (wrF (fun _ => 0) 65536 8 5 8 = 5) := by
    show wrF (fun _ => 0) 65536 8 5 8 = 5
    unfold wrF updF; rw [if_pos (by decide), if_pos rfl]
  have hW := anchor_words
  generalize wrF (fun _ => 0) 65536 8 5 = f at *
  have hr8 := read_c hm2 8 (by omega)
  rw [HF.out, he1] at hr8
  have HM2 := Hid.mk hm2
  clear hwr ht2 hm2 he1 hlo
  go_wp2_with fail
  refine hr8.mono ?_
  rintro e w3 ⟨rfl, hb3⟩
  have hm3 := HM2.out.below hb3
  have HB3 : Hid (Below w.heap.size w w3) := HB2.out.trans (hb3.mono HB2.out.size)
  have hr12 := read_c hm3 12 (by omega)
  have he2 : errA 65536 12 = 13 := by decide
  rw [he2] at hr12
  have HM3 := Hid.mk hm3
  clear hr8 hb3 hm3 he2
  go_wp2_with fail
  refine hr12.mono ?_
  rintro e w4 ⟨rfl, hb4⟩
  have hm4 := HM3.out.below hb4
  have HB4 : Hid (Below w.heap.size w w4) := HB3.out.trans (hb4.mono HB3.out.size)
  have hr6 := read_c hm4 65536 (by omega)
  have he3 : errA 65536 65536 = 12 := by decide
  rw [he3] at hr6
  have HM4 := Hid.mk hm4
  clear hr12 hb4 hm4 he3
  go_wp2_with fail
  refine hr6.mono ?_
  rintro e w5 ⟨rfl, hb5⟩
  have hm5 := HM4.out.below hb5
  have HB5 : Hid (Below w.heap.size w w5) := HB4.out.trans (hb5.mono HB4.out.size)
  have hw := words_c hm5
  rw [hW] at hw
  clear hr6 hb5 hm5 hW
  go_wp2_with fail
  refine hw.mono ?_
  rintro e w6 ⟨rfl, hb6⟩
  have HB6 : Hid (Below w.heap.size w w6) := HB5.out.trans (hb6.mono HB5.out.size)
  clear hw hb6
  go_wp2
  go_ret
  exact ⟨rfl, HB6.out⟩

/-- The slice of operations that came in: n of them, kinds, addresses, words. -/
structure OpsAt (w : World) (ad : Option Addr) (n : Nat) (K : Nat → Int) (A V : Nat → Nat) : Prop where
  cells : ∀ i, i < n → ∃ g o, ad = some ⟨g, o, none⟩ ∧ g < w.heap.size ∧ w.cell? ⟨g, o + i * 3, none⟩ = some (.int .i64 (K i)) ∧ w.cell? ⟨g, o + i * 3 + 1, none⟩ = some (.int .u64 (A i : Nat)) ∧ w.cell? ⟨g, o + i * 3 + 2, none⟩ = some (.int .u64 (V i : Nat))
  al : ∀ i, A i < 18446744073709551616
  vl : ∀ i, V i < 18446744073709551616

/-- The words behind the first k writes. -/
def fW (S : Nat) (A V : Nat → Nat) : Nat → Nat → Nat
  | 0 => fun _ => 0
  | k + 1 => wrF (fW S A V k) S (A k) (V k)

theorem fW_zero (S : Nat) (A V : Nat → Nat) : fW S A V 0 = fun _ => 0 := rfl
theorem fW_succ (S : Nat) (A V : Nat → Nat) (k : Nat) : fW S A V (k + 1) = wrF (fW S A V k) S (A k) (V k) := rfl

/-- Only what was written isn't 0. -/
theorem fW_supp (S : Nat) (A V : Nat → Nat) : ∀ n y, fW S A V n y ≠ 0 → ∃ j, j < n ∧ A j = y ∧ errA S (A j) = 0
  | 0, y, h => absurd rfl h
  | n + 1, y, h => by
    rw [fW_succ] at h
    unfold wrF at h
    by_cases he : errA S (A n) = 0
    · rw [if_pos he] at h
      unfold updF at h
      by_cases e : y = A n
      · exact ⟨n, by omega, e.symm, he⟩
      · rw [if_neg e] at h
        obtain ⟨j, h1, h2⟩ := fW_supp S A V n y h
        exact ⟨j, by omega, h2⟩
    · rw [if_neg he] at h
      obtain ⟨j, h1, h2⟩ := fW_supp S A V n y h
      exact ⟨j, by omega, h2⟩

/-- A memory that is new since w, in the world wr. -/
def Fresh (w : World) (wr : World) (a S n : Nat) (f : Nat → Nat) : Prop := (∃ X, MemAt wr X a S n f ∧ ∀ i, X i → w.heap.size ≤ i) ∧ Below w.heap.size w wr

theorem Fresh.of_new {w wr w' : World} {a S n : Nat} {f : Nat → Nat} (hb : Below w.heap.size w wr) (h : MemAt w' (fun i => wr.heap.size ≤ i ∧ i < w'.heap.size) a S n f) (hb2 : Below wr.heap.size wr w') : Fresh w w' a S n f :=
  ⟨⟨_, h, fun _ hi => Nat.le_trans hb.size hi.1⟩, below_tr hb hb2⟩

theorem Fresh.later {w wr w' : World} {a S n : Nat} {f : Nat → Nat} (h : Fresh w wr a S n f) (hb : Below wr.heap.size wr w') : Fresh w w' a S n f := by
  obtain ⟨⟨X, hm, hX⟩, hB⟩ := h
  exact ⟨⟨X, hm.below hb, hX⟩, below_tr hB hb⟩

theorem Fresh.mono {w wr : World} {a S n m : Nat} {f : Nat → Nat} (h : Fresh w wr a S n f) (hn : n ≤ m) : Fresh w wr a S m f := by
  obtain ⟨⟨X, ⟨mb, pg, hm⟩, hX⟩, hB⟩ := h
  exact ⟨⟨X, ⟨mb, pg, { hm with pgs := hm.pgs.mono hn }⟩, hX⟩, hB⟩

theorem Fresh.read {w wr : World} {a S n : Nat} {f : Nat → Nat} (h : Fresh w wr a S n f) (x : Nat) (hx : x < 18446744073709551616) :
    Calls Try.prog 13 #[.pointer (some ⟨a, 0, none⟩), .int .u64 x] wr fun e w' => e = .returned (.tuple #[.int .u64 (f x : Nat), .int .i64 (errA S x)]) ∧ Fresh w w' a S n f ∧ Below wr.heap.size wr w' := by
  have h0 := h
  obtain ⟨⟨X, hm, hX⟩, hB⟩ := h
  exact (read_c hm x hx).mono fun e w' hh => ⟨hh.1, h0.later hh.2, hh.2⟩

theorem Fresh.write {w wr : World} {a S n : Nat} {f : Nat → Nat} (h : Fresh w wr a S n f) (hn : n < 100000000) (x v : Nat) (hx : x < 18446744073709551616) (hv : v < 18446744073709551616) :
    Calls Try.prog 12 #[.pointer (some ⟨a, 0, none⟩), .int .u64 x, .int .u64 v] wr fun e w' => e = .returned (.int .i64 (errA S x)) ∧ Fresh w w' a S (n + 1) (wrF f S x v) := by
  obtain ⟨⟨X, hm, hX⟩, hB⟩ := h
  refine (write_c hm hn x v hx hv).mono fun e w' hh => ⟨hh.1, ⟨Gr X wr w', hh.2.1, fun i hi => ?_⟩, hB.trans (hh.2.2.below hX hB.size)⟩
  rcases hi with hi | hi
  · exact hX i hi
  · exact Nat.le_trans hB.size hi.1

theorem Fresh.bel {w wr : World} {a S n : Nat} {f : Nat → Nat} (h : Fresh w wr a S n f) : Below w.heap.size w wr := h.2

/-- The operations' cells in a later world. -/
theorem OpsAt.later {w w' : World} {ad : Option Addr} {n : Nat} {K : Nat → Int} {A V : Nat → Nat} (h : OpsAt w ad n K A V) (hb : Below w.heap.size w w') : OpsAt w' ad n K A V := by
  refine ⟨fun i hi => ?_, h.al, h.vl⟩
  obtain ⟨g, o, e, hg, q1, q2, q3⟩ := h.cells i hi
  exact ⟨g, o, e, Nat.lt_of_lt_of_le hg hb.size, (hb.cell (p := ⟨g, _, none⟩) hg).trans q1, (hb.cell (p := ⟨g, _, none⟩) hg).trans q2, (hb.cell (p := ⟨g, _, none⟩) hg).trans q3⟩
end Go.Proofs.Ytiedlkhbbnjkbaa
