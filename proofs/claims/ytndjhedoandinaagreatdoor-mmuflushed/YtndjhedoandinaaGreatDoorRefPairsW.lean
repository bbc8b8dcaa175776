/- Slices of the document's words: to read, to append to. -/
import Derived.Test.YtndjhedoandinaaGreatDoorPlayW
import Derived.Test.YtndjhedoandinaaGreatDoorMemW
import Derived.Deep.AppendLies
import Derived.OwnWalk
import Derived.RangeFuncBox
import Derived.Laws.ResultCell
namespace Go.Proofs.YtndjhedoandinaaGreatDoor
open Go.RowKit Go.Maps

def pcs : WL → List Value
  | [] => []
  | p :: L => .int .u64 (p.1 : Nat) :: .int .u64 (p.2 : Nat) :: pcs L
theorem pcs_append : ∀ (L M : WL), pcs (L ++ M) = pcs L ++ pcs M
  | [], M => rfl
  | p :: L, M => by simp [pcs, pcs_append L M]
theorem pcs_get : ∀ (L : WL) {i : Nat}, i < L.length → (pcs L)[i * 2]? = some (.int .u64 (L[i]!.1 : Nat)) ∧ (pcs L)[i * 2 + 1]? = some (.int .u64 (L[i]!.2 : Nat))
  | [], i, h => by cases h
  | p :: L, 0, _ => by simp [pcs]
  | p :: L, i + 1, h => by
    have hi : i < L.length := by simpa using h
    have := pcs_get L hi
    have e : (i + 1) * 2 = i * 2 + 1 + 1 := by omega
    rw [e]
    simpa [pcs] using this

/-- v is a slice of the call's own that holds the words L. -/
def OwnP (w : World) (base : Nat) (v : Value) (L : WL) : Prop := w.ownsRow base 114 2 v L.length (pcs L)
/-- v is a slice of the words L, in a block of B. -/
def Psl (w : World) (B : Nat → Prop) (v : Value) (L : WL) : Prop :=
  (v = .slice none 0 0 ∧ L = []) ∨ ∃ g cap, v = .slice (some ⟨g, 0, none⟩) L.length cap ∧ B g ∧ g < w.heap.size ∧ ∀ j, j < L.length → w.cell? ⟨g, j * 2, none⟩ = some (.int .u64 (L[j]!.1 : Nat)) ∧ w.cell? ⟨g, j * 2 + 1, none⟩ = some (.int .u64 (L[j]!.2 : Nat))

section
variable {w w' : World} {base : Nat} {v : Value} {L : WL} {B B' X : Nat → Prop}
theorem OwnP.lt (h : OwnP w base v L) : ∀ g, v.ownBlock = some g → base ≤ g ∧ g < w.heap.size := World.ownsRow.lt h
theorem OwnP.nil (w : World) (base : Nat) : OwnP w base (.slice none 0 0) [] := World.ownsRow_nil _ _ _ _
theorem OwnP.alloc (h : OwnP w base v L) (o : Obj) : OwnP (w.alloc o) base v L := World.ownsRow.alloc h o
theorem OwnP.psl (h : OwnP w base v L) : Psl w (fun g => base ≤ g) v L := by
  rcases h.2 with ⟨rfl, hz⟩ | ⟨g, cap, cur, rfl, hbase, hb, r1, r2, r3, r4⟩
  · exact Or.inl ⟨rfl, List.eq_nil_of_length_eq_zero hz⟩
  · refine Or.inr ⟨g, cap, rfl, hbase, (Array.getElem?_eq_some_iff.1 hb).1, fun j hj => ?_⟩
    have hg : ∀ i, i < L.length * 2 → w.cell? ⟨g, i, none⟩ = (pcs L)[i]? := fun i hi => by
      have h5 : (cur.toList.take (L.length * 2))[i]? = (pcs L)[i]? := by rw [r4]
      rw [List.getElem?_take_of_lt (by omega)] at h5
      simp only [World.cell?, hb]
      simp only [Option.isSome_none, Bool.false_eq_true, if_false]
      rw [← Array.getElem?_toList, h5]
    exact ⟨(hg _ (by omega)).trans (pcs_get L hj).1, (hg _ (by omega)).trans (pcs_get L hj).2⟩
theorem Psl.mono (h : Psl w B v L) (hB : ∀ g, B g → B' g) : Psl w B' v L := by
  rcases h with h | ⟨g, cap, h1, h2, h3⟩
  · exact Or.inl h
  · exact Or.inr ⟨g, cap, h1, hB g h2, h3⟩
theorem Psl.below (h : Psl w B v L) (hb : Below w.heap.size w w') : Psl w' B v L := by
  rcases h with h | ⟨g, cap, h1, h2, h3, h4⟩
  · exact Or.inl h
  · exact Or.inr ⟨g, cap, h1, h2, Nat.lt_of_lt_of_le h3 hb.size, fun j hj => ⟨(hb.cell (p := ⟨g, _, none⟩) h3).trans (h4 j hj).1, (hb.cell (p := ⟨g, _, none⟩) h3).trans (h4 j hj).2⟩⟩
theorem Psl.turn (h : Psl w B v L) (hb : Turn X w w') (hX : ∀ i, B i → ¬ X i) : Psl w' B v L := by
  rcases h with h | ⟨g, cap, h1, h2, h3, h4⟩
  · exact Or.inl h
  · have hq := hb.block g h3 (hX g h2)
    exact Or.inr ⟨g, cap, h1, h2, Nat.lt_of_lt_of_le h3 hb.size, fun j hj => ⟨(World.cell?_of_block (a := ⟨g, _, none⟩) hq).trans (h4 j hj).1, (World.cell?_of_block (a := ⟨g, _, none⟩) hq).trans (h4 j hj).2⟩⟩
theorem Psl.set (h : Psl w B v L) {b j : Nat} (hB : ∀ g, B g → g ≠ b) (u : Value) : Psl (w.setCell ⟨b, j, none⟩ u) B v L := by
  rcases h with h | ⟨g, cap, h1, h2, h3, h4⟩
  · exact Or.inl h
  · have hq : (w.setCell ⟨b, j, none⟩ u).heap[g]? = w.heap[g]? := heap_setCell_other _ _ _ _ (hB g h2)
    have hl : g < (w.setCell ⟨b, j, none⟩ u).heap.size := by
      obtain ⟨o, ho⟩ : ∃ o, w.heap[g]? = some o := ⟨w.heap[g], Array.getElem?_eq_getElem h3⟩
      rw [ho] at hq
      exact (Array.getElem?_eq_some_iff.1 hq).1
    exact Or.inr ⟨g, cap, h1, h2, hl, fun j hj => ⟨(World.cell?_of_block (a := ⟨g, _, none⟩) hq).trans (h4 j hj).1, (World.cell?_of_block (a := ⟨g, _, none⟩) hq).trans (h4 j hj).2⟩⟩
theorem Psl.form (h : Psl w B v L) : ∃ p cap, v = .slice p L.length cap ∧ ∀ j, j < L.length → ∃ g, p = some ⟨g, 0, none⟩ ∧ g < w.heap.size ∧ w.cell? ⟨g, j * 2, none⟩ = some (.int .u64 (L[j]!.1 : Nat)) ∧ w.cell? ⟨g, j * 2 + 1, none⟩ = some (.int .u64 (L[j]!.2 : Nat)) := by
  rcases h with ⟨rfl, rfl⟩ | ⟨g, cap, rfl, h2, h3, h4⟩
  · exact ⟨none, 0, rfl, fun j hj => by cases hj⟩
  · exact ⟨_, cap, rfl, fun j hj => ⟨g, rfl, h3, h4 j hj⟩⟩
end

theorem info_p : (Tryz.prog.info? 114).map (fun i => (i.zero, i.size, i.bytes)) = some (some (.agg #[.int .u64 0, .int .u64 0]), 2, 16) := by kernel_rfl

theorem wpList_appP (w : World) {ops : Array Oper} {rest : List Oper} {o : Oper} {a : Act} {Q : Exit → Act → World → Prop} (hg : o.guard = none) (s x : Operand) (hop : o.op = .call { callee := .builtin .append, args := #[s, x], argTypes := #[27, 27] })
    (base : Nat) (v : Value) (L : WL) (hs : a.eval s = v) (hown : OwnP w base v L) (y z bb : Nat) (hx : a.eval x = .slice (some ⟨bb, 0, none⟩) 1 1) (hc : w.heap[bb]? = some (.cells #[.int .u64 (y : Nat), .int .u64 (z : Nat)] 114)) (hlen : L.length < 100000000) (hbase : base ≤ w.heap.size)
    (h : ∀ g cap w', OwnP w' base (.slice (some ⟨g, 0, none⟩) (L.length + 1) cap) (L ++ [(y, z)]) → w.grownBy w' v.ownBlock → wpList Tryz.prog ops Q rest (a.put o.dst (.slice (some ⟨g, 0, none⟩) (L.length + 1) cap)) w') :
    wpList Tryz.prog ops Q (o :: rest) a w := by
  obtain ⟨i0, hi, hz0, hz1, hz2⟩ := info_parts info_p
  refine wpList_append_lies w hg s x 27 hop base 114 i0 _ 2 16 Tryz.underlying27 hi hz0 hz1 hz2 rfl (by decide) v L.length (pcs L) hs hown ⟨bb, 0, none⟩ 1 1 [.int .u64 (y : Nat), .int .u64 (z : Nat)] hx rfl (World.news_of_block (cs := #[.int .u64 (y : Nat), .int .u64 (z : Nat)]) (t := 114) (fr := (0, 0)) hc) (by simp [Value.oneCell']) (by decide) (by unfold maxLen; omega) (by omega) hbase _ rfl ?_
  intro g cap w' hown' hgrow _ _
  refine h g cap w' ?_ hgrow
  show w'.ownsRow _ _ _ _ (L ++ [(y, z)]).length (pcs (L ++ [(y, z)]))
  rw [pcs_append, List.length_append]
  exact hown'

theorem boxed {w w1 : World} {cs : Array Value} {ty : TypeId} (hb : Below (w.alloc (.cells cs ty)).heap.size (w.alloc (.cells cs ty)) w1) (j : Nat) : w1.cell? ⟨w.heap.size, j, none⟩ = cs[j]? := by
  rw [hb.cell (p := ⟨w.heap.size, j, none⟩) (by simp)]
  have h : (w.alloc (.cells cs ty)).heap[w.heap.size]? = some (.cells cs ty) := by show (w.heap.push _)[w.heap.size]? = _; simp
  simp only [World.cell?, h]
  simp

theorem cell_in {w : World} {b : Nat} {cs : Array Value} {t : TypeId} (h : w.heap[b]? = some (.cells cs t)) (j : Nat) : w.cell? ⟨b, j, none⟩ = cs[j]? := by
  simp only [World.cell?, h]
  simp

theorem row2_facts {w : World} {K : Nat} {a b : Value} {T : TypeId} (h : w.heap[K]? = some (.cells #[a, b] T)) : w.cell? ⟨K, 0, none⟩ = some a ∧ w.cell? ⟨K, 1, none⟩ = some b ∧ w.frozen? ⟨K, 0, none⟩ = false ∧ w.frozen? ⟨K, 1, none⟩ = false :=
  ⟨cell_in h 0, cell_in h 1, frozen_of_row _ _ _ _ _ h, frozen_of_row _ _ _ _ _ h⟩

set_option maxRecDepth 100000 in
theorem may_c (S x : Nat) (v : Value) (w : World) :
    Calls Tryz.prog 75 #[.agg #[.int .u64 (S : Nat), v], .int .u64 (x : Nat)] w fun e w' => e = .returned (.int .i64 (errA S x)) ∧ Below w.heap.size w w' := by
  unfold errA
  by_cases h1 : x % 8 = 0
  · have z1 : (x : Int) % 8 = 0 := by omega
    rw [if_neg (by omega)]
    by_cases h2 : S ≤ x
    · rw [if_pos h2]
      go_enter Tryz.func75, Tryz.ntmps75
      go_wp2
      go_ret
      exact ⟨rfl, (Below.refl _ _).alloc (Nat.le_refl _) _⟩
    · rw [if_neg h2]
      go_enter Tryz.func75, Tryz.ntmps75
      go_wp2
      go_ret
      exact ⟨rfl, (Below.refl _ _).alloc (Nat.le_refl _) _⟩
  · have z1 : ¬ ((x : Int) % 8 = 0) := by omega
    rw [if_pos (by omega)]
    go_enter Tryz.func75, Tryz.ntmps75
    go_wp2
    go_ret
    exact ⟨rfl, (Below.refl _ _).alloc (Nat.le_refl _) _⟩

def rightS (S : Nat) : Prop := 65536 ≤ S ∧ S ≤ 4294967296 ∧ S % 4096 = 0

end Go.Proofs.YtndjhedoandinaaGreatDoor
