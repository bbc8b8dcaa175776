/- Slices of pairs of words, to read (what RefPairsW has of them, for seats without the document's memory). -/
import Derived.Test.YtdpcbdbdacjcbaaDoorPlayW
import Derived.Test.YtdpcbdbdacjcbaaDoorMemW
import Derived.Deep.AppendLies
import Derived.OwnWalk
import Derived.RangeFuncBox
import Derived.Laws.ResultCell
namespace Go.Proofs.YtdpcbdbdacjcbaaDoor
open Go.RowKit Go.Maps

def pcs : WL → List Value
  | [] => []
  | p :: L => .int .u64 (p.1 : Nat) :: .int .u64 (p.2 : Nat) :: pcs L
theorem pcs_append : ∀ (L M : WL), pcs (L ++ M) = pcs L ++ pcs M
  | [], M => rfl
  | p :: L, M => by simp [pcs, pcs_append L M]
theorem pcs_get : ∀ (L : WL) {i : Nat}, i < L.length → (pcs L)[i * 2]? = some (.int .u64 (L[i]!.1 : Nat)) ∧ (pcs L)[i * 2 + 1]? = some (.int .u64 (L[i]!.2 : Nat))
  | [], i, h => by cases h
  | p :: L, 0, _ => by simp [pcs]
  | p :: L, i + 1, h => by
    have hi : i < L.length := by simpa using h
    have := pcs_get L hi
    have e : (i + 1) * 2 = i * 2 + 1 + 1 := by omega
    rw [e]
    simpa [pcs] using this

/-- v is a slice of the words L, in a block of B. -/
def Psl (w : World) (B : Nat → Prop) (v : Value) (L : WL) : Prop :=
  (v = .slice none 0 0 ∧ L = []) ∨ ∃ g cap, v = .slice (some ⟨g, 0, none⟩) L.length cap ∧ B g ∧ g < w.heap.size ∧ ∀ j, j < L.length → w.cell? ⟨g, j * 2, none⟩ = some (.int .u64 (L[j]!.1 : Nat)) ∧ w.cell? ⟨g, j * 2 + 1, none⟩ = some (.int .u64 (L[j]!.2 : Nat))

section
variable {w w' : World} {base : Nat} {v : Value} {L : WL} {B B' X : Nat → Prop}
theorem Psl.mono (h : Psl w B v L) (hB : ∀ g, B g → B' g) : Psl w B' v L := by
  rcases h with h | ⟨g, cap, h1, h2, h3⟩
  · exact Or.inl h
  · exact Or.inr ⟨g, cap, h1, hB g h2, h3⟩
theorem Psl.below (h : Psl w B v L) (hb : Below w.heap.size w w') : Psl w' B v L := by
  rcases h with h | ⟨g, cap, h1, h2, h3, h4⟩
  · exact Or.inl h
  · exact Or.inr ⟨g, cap, h1, h2, Nat.lt_of_lt_of_le h3 hb.size, fun j hj => ⟨(hb.cell (p := ⟨g, _, none⟩) h3).trans (h4 j hj).1, (hb.cell (p := ⟨g, _, none⟩) h3).trans (h4 j hj).2⟩⟩
theorem Psl.turn (h : Psl w B v L) (hb : Turn X w w') (hX : ∀ i, B i → ¬ X i) : Psl w' B v L := by
  rcases h with h | ⟨g, cap, h1, h2, h3, h4⟩
  · exact Or.inl h
  · have hq := hb.block g h3 (hX g h2)
    exact Or.inr ⟨g, cap, h1, h2, Nat.lt_of_lt_of_le h3 hb.size, fun j hj => ⟨(World.cell?_of_block (a := ⟨g, _, none⟩) hq).trans (h4 j hj).1, (World.cell?_of_block (a := ⟨g, _, none⟩) hq).trans (h4 j hj).2⟩⟩
theorem Psl.set (h : Psl w B v L) {b j : Nat} (hB : ∀ g, B g → g ≠ b) (u : Value) : Psl (w.setCell ⟨b, j, none⟩ u) B v L := by
  rcases h with h | ⟨g, cap, h1, h2, h3, h4⟩
  · exact Or.inl h
  · have hq : (w.setCell ⟨b, j, none⟩ u).heap[g]? = w.heap[g]? := heap_setCell_other _ _ _ _ (hB g h2)
    have hl : g < (w.setCell ⟨b, j, none⟩ u).heap.size := by
      obtain ⟨o, ho⟩ : ∃ o, w.heap[g]? = some o := ⟨w.heap[g], Array.getElem?_eq_getElem h3⟩
      rw [ho] at hq
      exact (Array.getElem?_eq_some_iff.1 hq).1
    exact Or.inr ⟨g, cap, h1, h2, hl, fun j hj => ⟨(World.cell?_of_block (a := ⟨g, _, none⟩) hq).trans (h4 j hj).1, (World.cell?_of_block (a := ⟨g, _, none⟩) hq).trans (h4 j hj).2⟩⟩
theorem Psl.form (h : Psl w B v L) : ∃ p cap, v = .slice p L.length cap ∧ ∀ j, j < L.length → ∃ g, p = some ⟨g, 0, none⟩ ∧ g < w.heap.size ∧ w.cell? ⟨g, j * 2, none⟩ = some (.int .u64 (L[j]!.1 : Nat)) ∧ w.cell? ⟨g, j * 2 + 1, none⟩ = some (.int .u64 (L[j]!.2 : Nat)) := by
  rcases h with ⟨rfl, rfl⟩ | ⟨g, cap, rfl, h2, h3, h4⟩
  · exact ⟨none, 0, rfl, fun j hj => by cases hj⟩
  · exact ⟨_, cap, rfl, fun j hj => ⟨g, rfl, h3, h4 j hj⟩⟩
end

theorem boxed {w w1 : World} {cs : Array Value} {ty : TypeId} (hb : Below (w.alloc (.cells cs ty)).heap.size (w.alloc (.cells cs ty)) w1) (j : Nat) : w1.cell? ⟨w.heap.size, j, none⟩ = cs[j]? := by
  rw [hb.cell (p := ⟨w.heap.size, j, none⟩) (by simp)]
  have h : (w.alloc (.cells cs ty)).heap[w.heap.size]? = some (.cells cs ty) := by show (w.heap.push _)[w.heap.size]? = _; simp
  simp only [World.cell?, h]
  simp

theorem cell_in {w : World} {b : Nat} {cs : Array Value} {t : TypeId} (h : w.heap[b]? = some (.cells cs t)) (j : Nat) : w.cell? ⟨b, j, none⟩ = cs[j]? := by
  simp only [World.cell?, h]
  simp

theorem row2_facts {w : World} {K : Nat} {a b : Value} {T : TypeId} (h : w.heap[K]? = some (.cells #[a, b] T)) : w.cell? ⟨K, 0, none⟩ = some a ∧ w.cell? ⟨K, 1, none⟩ = some b ∧ w.frozen? ⟨K, 0, none⟩ = false ∧ w.frozen? ⟨K, 1, none⟩ = false :=
  ⟨cell_in h 0, cell_in h 1, frozen_of_row _ _ _ _ _ h, frozen_of_row _ _ _ _ _ h⟩

def rightS (S : Nat) : Prop := 65536 ≤ S ∧ S ≤ 4294967296 ∧ S % 4096 = 0

end Go.Proofs.YtdpcbdbdacjcbaaDoor
