/- Words written one after the other into a new memory. -/
import Derived.Test.YtcmndefjmhcbhaaDoorPhysPut
import Derived.Test.YtcmndefjmhcbhaaDoorFieldWalks
namespace Go.Proofs.YtcmndefjmhcbhaaDoor
open Go.RowKit Go.Maps

/-- The slice of words that came in: n of them, addresses, words. -/
structure StepsAt (w : World) (ad : Option Addr) (n : Nat) (A V : Nat → Nat) : Prop where
  cells : ∀ i, i < n → ∃ g o, ad = some ⟨g, o, none⟩ ∧ g < w.heap.size ∧ w.cell? ⟨g, o + i * 2, none⟩ = some (.int .u64 (A i : Nat)) ∧ w.cell? ⟨g, o + i * 2 + 1, none⟩ = some (.int .u64 (V i : Nat))
  al : ∀ i, A i < 18446744073709551616
  vl : ∀ i, V i < 18446744073709551616

/-- The words behind the first k writes. -/
def fW (S : Nat) (A V : Nat → Nat) : Nat → Nat → Nat
  | 0 => fun _ => 0
  | k + 1 => wrF (fW S A V k) S (A k) (V k)

theorem fW_zero (S : Nat) (A V : Nat → Nat) : fW S A V 0 = fun _ => 0 := rfl
theorem fW_succ (S : Nat) (A V : Nat → Nat) (k : Nat) : fW S A V (k + 1) = wrF (fW S A V k) S (A k) (V k) := rfl

/-- Only what was written isn't 0. -/
theorem fW_supp (S : Nat) (A V : Nat → Nat) : ∀ n y, fW S A V n y ≠ 0 → ∃ j, j < n ∧ A j = y ∧ errA S (A j) = 0
  | 0, y, h => absurd rfl h
  | n + 1, y, h => by
    rw [fW_succ] at h
    unfold wrF at h
    by_cases he : errA S (A n) = 0
    · rw [if_pos he] at h
      unfold updF at h
      by_cases e : y = A n
      · exact ⟨n, by omega, e.symm, he⟩
      · rw [if_neg e] at h
        obtain ⟨j, h1, h2⟩ := fW_supp S A V n y h
        exact ⟨j, by omega, h2⟩
    · rw [if_neg he] at h
      obtain ⟨j, h1, h2⟩ := fW_supp S A V n y h
      exact ⟨j, by omega, h2⟩

/-- A memory that is new since w, in the world wr. -/
def Fresh (w : World) (wr : World) (a S n : Nat) (f : Nat → Nat) : Prop := (∃ X, MemAt wr X a S n f ∧ ∀ i, X i → w.heap.size ≤ i) ∧ Below w.heap.size w wr

theorem Fresh.of_new {w wr w' : World} {a S n : Nat} {f : Nat → Nat} (hb : Below w.heap.size w wr) (h : MemAt w' (fun i => wr.heap.size ≤ i ∧ i < w'.heap.size) a S n f) (hb2 : Below wr.heap.size wr w') : Fresh w w' a S n f :=
  ⟨⟨_, h, fun _ hi => Nat.le_trans hb.size hi.1⟩, below_tr hb hb2⟩

theorem Fresh.later {w wr w' : World} {a S n : Nat} {f : Nat → Nat} (h : Fresh w wr a S n f) (hb : Below wr.heap.size wr w') : Fresh w w' a S n f := by
  obtain ⟨⟨X, hm, hX⟩, hB⟩ := h
  exact ⟨⟨X, hm.below hb, hX⟩, below_tr hB hb⟩

theorem Fresh.mono {w wr : World} {a S n m : Nat} {f : Nat → Nat} (h : Fresh w wr a S n f) (hn : n ≤ m) : Fresh w wr a S m f := by
  obtain ⟨⟨X, ⟨mb, pg, hm⟩, hX⟩, hB⟩ := h
  exact ⟨⟨X, ⟨mb, pg, { hm with pgs := hm.pgs.mono hn }⟩, hX⟩, hB⟩

theorem Fresh.read {w wr : World} {a S n : Nat} {f : Nat → Nat} (h : Fresh w wr a S n f) (x : Nat) (hx : x < 18446744073709551616) :
    Calls Tryd.prog 18 #[.pointer (some ⟨a, 0, none⟩), .int .u64 x] wr fun e w' => e = .returned (.tuple #[.int .u64 (f x : Nat), .int .i64 (errA S x)]) ∧ Fresh w w' a S n f ∧ Below wr.heap.size wr w' := by
  have h0 := h
  obtain ⟨⟨X, hm, hX⟩, hB⟩ := h
  exact (read_c hm x hx).mono fun e w' hh => ⟨hh.1, h0.later hh.2, hh.2⟩

theorem Fresh.write {w wr : World} {a S n : Nat} {f : Nat → Nat} (h : Fresh w wr a S n f) (hn : n < 100000000) (x v : Nat) (hx : x < 18446744073709551616) (hv : v < 18446744073709551616) :
    Calls Tryd.prog 17 #[.pointer (some ⟨a, 0, none⟩), .int .u64 x, .int .u64 v] wr fun e w' => e = .returned (.int .i64 (errA S x)) ∧ Fresh w w' a S (n + 1) (wrF f S x v) := by
  obtain ⟨⟨X, hm, hX⟩, hB⟩ := h
  refine (write_c hm hn x v hx hv).mono fun e w' hh => ⟨hh.1, ⟨Gr X wr w', hh.2.1, fun i hi => ?_⟩, hB.trans (hh.2.2.below hX hB.size)⟩
  rcases hi with hi | hi
  · exact hX i hi
  · exact Nat.le_trans hB.size hi.1

theorem Fresh.bel {w wr : World} {a S n : Nat} {f : Nat → Nat} (h : Fresh w wr a S n f) : Below w.heap.size w wr := h.2

theorem StepsAt.later {w w' : World} {ad : Option Addr} {n : Nat} {A V : Nat → Nat} (h : StepsAt w ad n A V) (hb : Below w.heap.size w w') : StepsAt w' ad n A V := by
  refine ⟨fun i hi => ?_, h.al, h.vl⟩
  obtain ⟨g, o, e, hg, q1, q2⟩ := h.cells i hi
  exact ⟨g, o, e, Nat.lt_of_lt_of_le hg hb.size, (hb.cell (p := ⟨g, _, none⟩) hg).trans q1, (hb.cell (p := ⟨g, _, none⟩) hg).trans q2⟩
end Go.Proofs.YtcmndefjmhcbhaaDoor
