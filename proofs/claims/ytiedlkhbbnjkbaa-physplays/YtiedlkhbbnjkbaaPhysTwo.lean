/- Two memories beside each other. -/
import Derived.Test.YtiedlkhbbnjkbaaPhysLaw
import Derived.Test.YtiedlkhbbnjkbaaPhysCopy
import Derived.Test.YtiedlkhbbnjkbaaPhysSame0
namespace Go.Proofs.Ytiedlkhbbnjkbaa
open Go.RowKit Go.Maps

/-- Two memories that are new since w and have nothing in common. -/
def Two (w wr : World) (a S n : Nat) (f : Nat → Nat) (b T m : Nat) (g : Nat → Nat) : Prop :=
  (∃ X Y, MemAt wr X a S n f ∧ MemAt wr Y b T m g ∧ (∀ i, X i → ¬ Y i) ∧ (∀ i, X i → w.heap.size ≤ i) ∧ (∀ i, Y i → w.heap.size ≤ i)) ∧ Below w.heap.size w wr

section
variable {w wr w' : World} {a S n b T m : Nat} {f g : Nat → Nat}

theorem Two.bel (h : Two w wr a S n f b T m g) : Below w.heap.size w wr := h.2
theorem Two.swap (h : Two w wr a S n f b T m g) : Two w wr b T m g a S n f := by
  obtain ⟨⟨X, Y, h1, h2, h3, h4, h5⟩, hB⟩ := h
  exact ⟨⟨Y, X, h2, h1, fun i hy hx => h3 i hx hy, h5, h4⟩, hB⟩
theorem Two.later (h : Two w wr a S n f b T m g) (hb : Below wr.heap.size wr w') : Two w w' a S n f b T m g := by
  obtain ⟨⟨X, Y, h1, h2, h3, h4, h5⟩, hB⟩ := h
  exact ⟨⟨X, Y, h1.below hb, h2.below hb, h3, h4, h5⟩, below_tr hB hb⟩
theorem Two.one (h : Two w wr a S n f b T m g) : Fresh w wr a S n f := by
  obtain ⟨⟨X, Y, h1, h2, h3, h4, h5⟩, hB⟩ := h
  exact ⟨⟨X, h1, h4⟩, hB⟩
theorem Two.of_new (h : Fresh w wr a S n f) (h2 : MemAt w' (fun i => wr.heap.size ≤ i ∧ i < w'.heap.size) b T m g) (hb : Below wr.heap.size wr w') : Two w w' a S n f b T m g := by
  obtain ⟨⟨X, h1, h4⟩, hB⟩ := h
  refine ⟨⟨X, _, h1.below hb, h2, fun i hx hy => ?_, h4, fun i hi => Nat.le_trans hB.size hi.1⟩, below_tr hB hb⟩
  have := h1.lt i hx
  have := hy.1
  omega

theorem Two.read (h : Two w wr a S n f b T m g) (x : Nat) (hx : x < 18446744073709551616) :
    Calls Try.prog 13 #[.pointer (some ⟨a, 0, none⟩), .int .u64 x] wr fun e w' => e = .returned (.tuple #[.int .u64 (f x : Nat), .int .i64 (errA S x)]) ∧ Two w w' a S n f b T m g ∧ Below wr.heap.size wr w' := by
  have h0 := h
  obtain ⟨⟨X, Y, h1, h2, h3, h4, h5⟩, hB⟩ := h
  exact (read_c h1 x hx).mono fun e w' hh => ⟨hh.1, h0.later hh.2, hh.2⟩

theorem Two.write (h : Two w wr a S n f b T m g) (hn : n < 100000000) (x v : Nat) (hx : x < 18446744073709551616) (hv : v < 18446744073709551616) :
    Calls Try.prog 12 #[.pointer (some ⟨a, 0, none⟩), .int .u64 x, .int .u64 v] wr fun e w' => e = .returned (.int .i64 (errA S x)) ∧ Two w w' a S (n + 1) (wrF f S x v) b T m g := by
  obtain ⟨⟨X, Y, h1, h2, h3, h4, h5⟩, hB⟩ := h
  refine (write_c h1 hn x v hx hv).mono fun e w' hh => ⟨hh.1, ⟨Gr X wr w', Y, hh.2.1, h2.turn hh.2.2 (fun i hy hx => h3 i hx hy), fun i hi hy => ?_, fun i hi => ?_, h5⟩, hB.trans (hh.2.2.below h4 hB.size)⟩
  · rcases hi with hi | hi
    · exact h3 i hi hy
    · have := h2.lt i hy; omega
  · rcases hi with hi | hi
    · exact h4 i hi
    · exact Nat.le_trans hB.size hi.1

theorem Two.same (h : Two w wr a S n f b T m g) :
    Calls Try.prog 19 #[.pointer (some ⟨a, 0, none⟩), .pointer (some ⟨b, 0, none⟩)] wr fun e w' => (∃ q : Bool, e = .returned (.bool q) ∧ (q = true ↔ S = T ∧ f = g)) ∧ Below wr.heap.size wr w' := by
  obtain ⟨⟨X, Y, h1, h2, _⟩, _⟩ := h
  exact same_c h1 h2
end

theorem wrF_same {f : Nat → Nat} {S x v : Nat} : f = wrF f S x v ↔ (errA S x ≠ 0 ∨ f x = v) := by
  unfold wrF
  by_cases he : errA S x = 0
  · rw [if_pos he]
    constructor
    · intro h
      right
      have := congrFun h x
      unfold updF at this
      rwa [if_pos rfl] at this
    · rintro (h | h)
      · exact absurd he h
      · funext y
        unfold updF
        by_cases e : y = x
        · rw [if_pos e, e, h]
        · rw [if_neg e]
  · rw [if_neg he]
    exact ⟨fun _ => Or.inl he, fun _ => rfl⟩
end Go.Proofs.Ytiedlkhbbnjkbaa
