/- P12 -/
import Derived.Deep.AppendLies
import Derived.OwnWalk
import Derived.RangeFuncBox
import Derived.Laws.ResultCell
import Derived.Test.YtfdbdeckohaneaaGreatDoorP11
set_option maxHeartbeats 16000000
set_option maxRecDepth 100000
namespace Go.Proofs.YtfdbdeckohaneaaGreatDoor
abbrev WL := List (Nat × Nat)
def Ref (L : WL) (f : Nat → Nat) : Prop := L.Pairwise (fun p q => p.1 < q.1) ∧ ∀ x v, (x, v) ∈ L ↔ v = f x ∧ v ≠ 0
theorem Ref.nil : Ref [] (fun _ => 0) := ⟨List.Pairwise.nil, fun x v => by simp⟩
theorem Ref.mem {L : WL} {f : Nat → Nat} (h : Ref L f) {i : Nat} (hi : i < L.length) : L[i]!.2 = f L[i]!.1 ∧ L[i]!.2 ≠ 0 := by
 refine (h.2 _ _).1 ?_
 rw [getElem!_pos L i hi]
 exact List.getElem_mem hi
theorem Ref.zero {L : WL} {f : Nat → Nat} (h : Ref L f) {x : Nat} (hx : ∀ j, j < L.length → L[j]!.1 ≠ x) : f x = 0 := by
 apply Classical.byContradiction
 intro c
 obtain ⟨j, hj, he⟩ := List.getElem_of_mem ((h.2 x (f x)).2 ⟨rfl, c⟩)
 refine hx j hj ?_
 rw [getElem!_pos L j hj, he]
def stW (x w : Nat) (s : WL × Bool) (p : Nat × Nat) : WL × Bool :=
 ((if s.2 = false ∧ x ≤ p.1 ∧ w ≠ 0 then s.1 ++ [(x, w)] else s.1) ++ (if p.1 ≠ x then [p] else []), s.2 || decide (x ≤ p.1))
def SW (x w : Nat) (L : WL) (i : Nat) : WL × Bool := (L.take i).foldl (stW x w) ([], false)
def finW (x w : Nat) (s : WL × Bool) : WL := if s.2 = false ∧ w ≠ 0 then s.1 ++ [(x, w)] else s.1
def outW (x w : Nat) (L : WL) : WL := finW x w (SW x w L L.length)
theorem SW_zero (x w : Nat) (L : WL) : SW x w L 0 = ([], false) := by simp [SW]
theorem fold_succ {α : Type} (st : α → Nat × Nat → α) (a : α) (L : WL) {i : Nat} (hi : i < L.length) : (L.take (i + 1)).foldl st a = st ((L.take i).foldl st a) L[i]! := by
 rw [List.take_succ_eq_append_getElem hi, List.foldl_append, getElem!_pos L i hi]
 rfl
theorem SW_succ (x w : Nat) (L : WL) {i : Nat} (hi : i < L.length) : SW x w L (i + 1) = stW x w (SW x w L i) L[i]! := fold_succ _ _ _ hi
def insL (x w : Nat) : WL → WL
 | [] => if w ≠ 0 then [(x, w)] else []
 | p :: L => if x ≤ p.1 then (if w ≠ 0 then [(x, w)] else []) ++ (p :: L).filter (fun q => q.1 ≠ x) else p :: insL x w L
theorem fold_done (x w : Nat) : ∀ (L out : WL), L.foldl (stW x w) (out, true) = (out ++ L.filter (fun q => q.1 ≠ x), true)
 | [], out => by simp
 | p :: L, out => by
  rw [List.foldl_cons]
  have : stW x w (out, true) p = (out ++ (if p.1 ≠ x then [p] else []), true) := by simp [stW]
  rw [this, fold_done x w L]
  by_cases e : p.1 = x <;> simp [e]
theorem fold_ins (x w : Nat) : ∀ (L out : WL), finW x w (L.foldl (stW x w) (out, false)) = out ++ insL x w L
 | [], out => by
  by_cases e : w = 0 <;> simp [finW, insL, e]
 | p :: L, out => by
  rw [List.foldl_cons]
  by_cases hx : x ≤ p.1
  ·have : stW x w (out, false) p = (out ++ ((if w ≠ 0 then [(x, w)] else []) ++ (if p.1 ≠ x then [p] else [])), true) := by
    by_cases e : w = 0 <;> simp [stW, hx, e]
   rw [this, fold_done]
   unfold insL
   rw [if_pos hx]
   by_cases e : p.1 = x <;> simp [finW, e]
  ·have : stW x w (out, false) p = (out ++ [p], false) := by
    have h1 : p.1 ≠ x := by omega
    simp [stW, hx, h1]
   rw [this, fold_ins x w L, show insL x w (p :: L) = p :: insL x w L from if_neg hx, List.append_assoc]
   rfl
theorem outW_ins (x w : Nat) (L : WL) : outW x w L = insL x w L := by
 unfold outW SW
 rw [List.take_length, fold_ins]
 rfl
theorem mem_ins {x w a v : Nat} : ∀ {L : WL}, (a, v) ∈ insL x w L ↔ (a = x ∧ v = w ∧ w ≠ 0) ∨ (a ≠ x ∧ (a, v) ∈ L)
 | [] => by
  by_cases e : w = 0
  ·simp [insL, e]
  ·simp [insL, e]
 | p :: L => by
  unfold insL
  by_cases hx : x ≤ p.1
  ·rw [if_pos hx, List.mem_append, List.mem_filter]
   have h1 : ((a, v) ∈ (if w ≠ 0 then [(x, w)] else [])) ↔ (a = x ∧ v = w ∧ w ≠ 0) := by
    by_cases e : w = 0 <;> simp [e]
   rw [h1]
   simp [and_comm]
  ·rw [if_neg hx, List.mem_cons, mem_ins, List.mem_cons]
   constructor
   ·rintro (h | h | h)
    ·right
     refine ⟨?_, Or.inl h⟩
     intro c
     apply hx
     rw [← h]
     exact Nat.le_of_eq c.symm
    ·exact Or.inl h
    ·exact Or.inr ⟨h.1, Or.inr h.2⟩
   ·rintro (h | ⟨h1, h2 | h2⟩)
    ·exact Or.inr (Or.inl h)
    ·exact Or.inl h2
    ·exact Or.inr (Or.inr ⟨h1, h2⟩)
theorem ins_asc {x w : Nat} : ∀ {L : WL}, L.Pairwise (fun p q => p.1 < q.1) → (insL x w L).Pairwise (fun p q => p.1 < q.1)
 | [], _ => by
  by_cases e : w = 0 <;> simp [insL, e]
 | p :: L, h => by
  have h0 := h
  obtain ⟨h1, h2⟩ := List.pairwise_cons.1 h
  unfold insL
  by_cases hx : x ≤ p.1
  ·rw [if_pos hx]
   have hf : ((p :: L).filter (fun q => q.1 ≠ x)).Pairwise (fun p q => p.1 < q.1) := h0.filter _
   by_cases e : w = 0
   ·simpa [e] using hf
   ·rw [if_pos e]
    refine List.pairwise_cons.2 ⟨fun q hq => ?_, hf⟩
    have hq2 := List.mem_filter.1 hq
    have hne : q.1 ≠ x := by simpa using hq2.2
    show x < q.1
    rcases List.mem_cons.1 hq2.1 with rfl | hqL
    ·omega
    ·have := h1 q hqL; omega
  ·rw [if_neg hx]
   refine List.pairwise_cons.2 ⟨fun q hq => ?_, ins_asc h2⟩
   obtain ⟨a, v⟩ := q
   rcases mem_ins.1 hq with h3 | h3
   ·show p.1 < a; omega
   ·exact h1 _ h3.2
theorem Ref.write {L : WL} {f : Nat → Nat} (h : Ref L f) (x w : Nat) : Ref (outW x w L) (updF f x w) := by
 rw [outW_ins]
 refine ⟨ins_asc h.1, fun a v => ?_⟩
 rw [mem_ins, h.2]
 unfold updF
 by_cases e : a = x
 ·rw [if_pos e]
  constructor
  ·rintro (h | h)
   ·exact ⟨h.2.1, by rw [h.2.1]; exact h.2.2⟩
   ·exact absurd e h.1
  ·rintro ⟨h1, h2⟩
   exact Or.inl ⟨e, h1, by rw [← h1]; exact h2⟩
 ·rw [if_neg e]
  constructor
  ·rintro (h | h)
   ·exact absurd h.1 e
   ·exact h.2
  ·intro h
   exact Or.inr ⟨e, h⟩
theorem fold_len (x w : Nat) : ∀ (L : WL) (s : WL × Bool), (L.foldl (stW x w) s).1.length ≤ s.1.length + 2 * L.length
 | [], s => by simp
 | p :: L, s => by
  rw [List.foldl_cons]
  have := fold_len x w L (stW x w s p)
  have h2 : (stW x w s p).1.length ≤ s.1.length + 2 := by
   unfold stW
   simp only [List.length_append]
   split <;> split <;> simp <;> omega
  simp
  omega
theorem SW_len (x w : Nat) (L : WL) (i : Nat) : (SW x w L i).1.length ≤ 2 * L.length := by
 have := fold_len x w (L.take i) ([], false)
 have h2 : (L.take i).length ≤ L.length := by simp; omega
 unfold SW
 simp at this
 omega
theorem ins_len (x w : Nat) : ∀ L : WL, (insL x w L).length ≤ L.length + 1
 | [] => by by_cases e : w = 0 <;> simp [insL, e]
 | p :: L => by
  unfold insL
  by_cases hx : x ≤ p.1
  ·rw [if_pos hx]
   have := List.length_filter_le (fun q : Nat × Nat => decide (q.1 ≠ x)) (p :: L)
   by_cases e : w = 0
   ·simp [e] at this ⊢; omega
   ·simp [e] at this ⊢; omega
  ·rw [if_neg hx]
   have := ins_len x w L
   simp; omega
theorem outW_len (x w : Nat) (L : WL) : (outW x w L).length ≤ L.length + 1 := by rw [outW_ins]; exact ins_len x w L
open Go.RowKit Go.Maps
def pcs : WL → List Value
 | [] => []
 | p :: L => .int .u64 (p.1 : Nat) :: .int .u64 (p.2 : Nat) :: pcs L
theorem pcs_append : ∀ (L M : WL), pcs (L ++ M) = pcs L ++ pcs M
 | [], M => rfl
 | p :: L, M => by simp [pcs, pcs_append L M]
theorem pcs_get : ∀ (L : WL) {i : Nat}, i < L.length → (pcs L)[i * 2]? = some (.int .u64 (L[i]!.1 : Nat)) ∧ (pcs L)[i * 2 + 1]? = some (.int .u64 (L[i]!.2 : Nat))
 | [], i, h => by cases h
 | p :: L, 0, _ => by simp [pcs]
 | p :: L, i + 1, h => by
  have hi : i < L.length := by simpa using h
  have := pcs_get L hi
  have e : (i + 1) * 2 = i * 2 + 1 + 1 := by omega
  rw [e]
  simpa [pcs] using this
def OwnP (w : World) (base : Nat) (v : Value) (L : WL) : Prop := w.ownsRow base 98 2 v L.length (pcs L)
def Psl (w : World) (B : Nat → Prop) (v : Value) (L : WL) : Prop :=
 (v = .slice none 0 0 ∧ L = []) ∨ ∃ g cap, v = .slice (some ⟨g, 0, none⟩) L.length cap ∧ B g ∧ g < w.heap.size ∧ ∀ j, j < L.length → w.cell? ⟨g, j * 2, none⟩ = some (.int .u64 (L[j]!.1 : Nat)) ∧ w.cell? ⟨g, j * 2 + 1, none⟩ = some (.int .u64 (L[j]!.2 : Nat))
section
variable {w w' : World} {base : Nat} {v : Value} {L : WL} {B B' X : Nat → Prop}
theorem OwnP.lt (h : OwnP w base v L) : ∀ g, v.ownBlock = some g → base ≤ g ∧ g < w.heap.size := World.ownsRow.lt h
theorem OwnP.nil (w : World) (base : Nat) : OwnP w base (.slice none 0 0) [] := World.ownsRow_nil _ _ _ _
theorem OwnP.alloc (h : OwnP w base v L) (o : Obj) : OwnP (w.alloc o) base v L := World.ownsRow.alloc h o
theorem OwnP.psl (h : OwnP w base v L) : Psl w (fun g => base ≤ g) v L := by
 rcases h.2 with ⟨rfl, hz⟩ | ⟨g, cap, cur, rfl, hbase, hb, r1, r2, r3, r4⟩
 ·exact Or.inl ⟨rfl, List.eq_nil_of_length_eq_zero hz⟩
 ·refine Or.inr ⟨g, cap, rfl, hbase, (Array.getElem?_eq_some_iff.1 hb).1, fun j hj => ?_⟩
  have hg : ∀ i, i < L.length * 2 → w.cell? ⟨g, i, none⟩ = (pcs L)[i]? := fun i hi => by
   have h5 : (cur.toList.take (L.length * 2))[i]? = (pcs L)[i]? := by rw [r4]
   rw [List.getElem?_take_of_lt (by omega)] at h5
   simp only [World.cell?, hb]
   simp only [Option.isSome_none, Bool.false_eq_true, if_false]
   rw [← Array.getElem?_toList, h5]
  exact ⟨(hg _ (by omega)).trans (pcs_get L hj).1, (hg _ (by omega)).trans (pcs_get L hj).2⟩
theorem Psl.mono (h : Psl w B v L) (hB : ∀ g, B g → B' g) : Psl w B' v L := by
 rcases h with h | ⟨g, cap, h1, h2, h3⟩
 ·exact Or.inl h
 ·exact Or.inr ⟨g, cap, h1, hB g h2, h3⟩
theorem Psl.below (h : Psl w B v L) (hb : Below w.heap.size w w') : Psl w' B v L := by
 rcases h with h | ⟨g, cap, h1, h2, h3, h4⟩
 ·exact Or.inl h
 ·exact Or.inr ⟨g, cap, h1, h2, Nat.lt_of_lt_of_le h3 hb.size, fun j hj => ⟨(hb.cell (p := ⟨g, _, none⟩) h3).trans (h4 j hj).1, (hb.cell (p := ⟨g, _, none⟩) h3).trans (h4 j hj).2⟩⟩
theorem Psl.turn (h : Psl w B v L) (hb : Turn X w w') (hX : ∀ i, B i → ¬ X i) : Psl w' B v L := by
 rcases h with h | ⟨g, cap, h1, h2, h3, h4⟩
 ·exact Or.inl h
 ·have hq := hb.block g h3 (hX g h2)
  exact Or.inr ⟨g, cap, h1, h2, Nat.lt_of_lt_of_le h3 hb.size, fun j hj => ⟨(World.cell?_of_block (a := ⟨g, _, none⟩) hq).trans (h4 j hj).1, (World.cell?_of_block (a := ⟨g, _, none⟩) hq).trans (h4 j hj).2⟩⟩
theorem Psl.set (h : Psl w B v L) {b j : Nat} (hB : ∀ g, B g → g ≠ b) (u : Value) : Psl (w.setCell ⟨b, j, none⟩ u) B v L := by
 rcases h with h | ⟨g, cap, h1, h2, h3, h4⟩
 ·exact Or.inl h
 ·have hq : (w.setCell ⟨b, j, none⟩ u).heap[g]? = w.heap[g]? := heap_setCell_other _ _ _ _ (hB g h2)
  have hl : g < (w.setCell ⟨b, j, none⟩ u).heap.size := by
   obtain ⟨o, ho⟩ : ∃ o, w.heap[g]? = some o := ⟨w.heap[g], Array.getElem?_eq_getElem h3⟩
   rw [ho] at hq
   exact (Array.getElem?_eq_some_iff.1 hq).1
  exact Or.inr ⟨g, cap, h1, h2, hl, fun j hj => ⟨(World.cell?_of_block (a := ⟨g, _, none⟩) hq).trans (h4 j hj).1, (World.cell?_of_block (a := ⟨g, _, none⟩) hq).trans (h4 j hj).2⟩⟩
theorem Psl.form (h : Psl w B v L) : ∃ p cap, v = .slice p L.length cap ∧ ∀ j, j < L.length → ∃ g, p = some ⟨g, 0, none⟩ ∧ g < w.heap.size ∧ w.cell? ⟨g, j * 2, none⟩ = some (.int .u64 (L[j]!.1 : Nat)) ∧ w.cell? ⟨g, j * 2 + 1, none⟩ = some (.int .u64 (L[j]!.2 : Nat)) := by
 rcases h with ⟨rfl, rfl⟩ | ⟨g, cap, rfl, h2, h3, h4⟩
 ·exact ⟨none, 0, rfl, fun j hj => by cases hj⟩
 ·exact ⟨_, cap, rfl, fun j hj => ⟨g, rfl, h3, h4 j hj⟩⟩
end
theorem info_p : (Tryz.prog.info? 98).map (fun i => (i.zero, i.size, i.bytes)) = some (some (.agg #[.int .u64 0, .int .u64 0]), 2, 16) := by kernel_rfl
theorem qcp (w : World) {ops : Array Oper} {rest : List Oper} {o : Oper} {a : Act} {Q : Exit → Act → World → Prop} (hg : o.guard = none) (s x : Operand) (hop : o.op = .call { callee := .builtin .append, args := #[s, x], argTypes := #[27, 27] })
  (base : Nat) (v : Value) (L : WL) (hs : a.eval s = v) (hown : OwnP w base v L) (y z bb : Nat) (hx : a.eval x = .slice (some ⟨bb, 0, none⟩) 1 1) (hc : w.heap[bb]? = some (.cells #[.int .u64 y, .int .u64 z] 98)) (hlen : L.length < 100000000) (hbase : base ≤ w.heap.size)
  (h : ∀ g cap w', OwnP w' base (.slice (some ⟨g, 0, none⟩) (L.length + 1) cap) (L ++ [(y, z)]) → w.grownBy w' v.ownBlock → wpList Tryz.prog ops Q rest (a.put o.dst (.slice (some ⟨g, 0, none⟩) (L.length + 1) cap)) w') :
  wpList Tryz.prog ops Q (o :: rest) a w := by
 obtain ⟨i0, hi, hz0, hz1, hz2⟩ := info_parts info_p
 refine wpList_append_lies w hg s x 27 hop base 98 i0 _ 2 16 Tryz.underlying27 hi hz0 hz1 hz2 rfl (by decide) v L.length (pcs L) hs hown ⟨bb, 0, none⟩ 1 1 [.int .u64 y, .int .u64 z] hx rfl (World.news_of_block (cs := #[.int .u64 y, .int .u64 z]) (t := 98) (fr := (0, 0)) hc) (by simp [Value.oneCell']) (by decide) (by unfold maxLen; omega) (by omega) hbase _ rfl ?_
 intro g cap w' hown' hgrow _ _
 refine h g cap w' ?_ hgrow
 show w'.ownsRow _ _ _ _ (L ++ [(y, z)]).length (pcs (L ++ [(y, z)]))
 rw [pcs_append, List.length_append]
 exact hown'
theorem boxed {w w1 : World} {cs : Array Value} {ty : TypeId} (hb : Below (w.alloc (.cells cs ty)).heap.size (w.alloc (.cells cs ty)) w1) (j : Nat) : w1.cell? ⟨w.heap.size, j, none⟩ = cs[j]? := by
 rw [hb.cell (p := ⟨w.heap.size, j, none⟩) (by simp)]
 have h : (w.alloc (.cells cs ty)).heap[w.heap.size]? = some (.cells cs ty) := by show (w.heap.push _)[w.heap.size]? = _; simp
 simp only [World.cell?, h]
 simp
theorem cell_in {w : World} {b : Nat} {cs : Array Value} {t : TypeId} (h : w.heap[b]? = some (.cells cs t)) (j : Nat) : w.cell? ⟨b, j, none⟩ = cs[j]? := by
 simp only [World.cell?, h]
 simp
theorem qbi {w : World} {K : Nat} {a b : Value} {T : TypeId} (h : w.heap[K]? = some (.cells #[a, b] T)) : w.cell? ⟨K, 0, none⟩ = some a ∧ w.cell? ⟨K, 1, none⟩ = some b ∧ w.frozen? ⟨K, 0, none⟩ = false ∧ w.frozen? ⟨K, 1, none⟩ = false :=
 ⟨cell_in h 0, cell_in h 1, frozen_of_row _ _ _ _ _ h, frozen_of_row _ _ _ _ _ h⟩
theorem may_c (S x : Nat) (v : Value) (w : World) :
  Calls Tryz.prog 52 #[.agg #[.int .u64 S, v], .int .u64 x] w fun e w' => e = .returned (.int .i64 (errA S x)) ∧ Below w.heap.size w w' := by
 unfold errA
 by_cases h1 : x % 8 = 0
 ·have z1 : (x : Int) % 8 = 0 := by omega
  rw [if_neg (by omega)]
  by_cases h2 : S ≤ x
  ·rw [if_pos h2]
   go_enter Tryz.func52, Tryz.ntmps52
   go_wp2
   go_ret
   exact ⟨rfl, (Below.refl _ _).alloc (Nat.le_refl _) _⟩
  ·rw [if_neg h2]
   go_enter Tryz.func52, Tryz.ntmps52
   go_wp2
   go_ret
   exact ⟨rfl, (Below.refl _ _).alloc (Nat.le_refl _) _⟩
 ·have z1 : ¬ ((x : Int) % 8 = 0) := by omega
  rw [if_pos (by omega)]
  go_enter Tryz.func52, Tryz.ntmps52
  go_wp2
  go_ret
  exact ⟨rfl, (Below.refl _ _).alloc (Nat.le_refl _) _⟩
theorem rread_c {w : World} {B : Nat → Prop} {S : Nat} {v : Value} {L : WL} {f : Nat → Nat} (hP : Psl w B v L) (hR : Ref L f) (hlen : L.length < 100000000) (x : Nat) (hout : errA S x ≠ 0 → f x = 0) :
  Calls Tryz.prog 59 #[.agg #[.int .u64 S, v], .int .u64 x] w fun e w' => e = .returned (.tuple #[.int .u64 (f x : Nat), .int .i64 (errA S x)]) ∧ Below w.heap.size w w' := by
 obtain ⟨p, cap, rfl, hc⟩ := hP.form
 have HR := Hid.mk hR
 have hm := fun w => may_c S x (.slice p L.length cap) w
 generalize errA S x = E at *
 generalize hN : L.length = N at *
 have HN := Hid.mk hN
 have HC := Hid.mk hc
 have HOUT := Hid.mk hout
 clear hc hP hR hN hout
 go_enter Tryz.func59, Tryz.ntmps59
 go_wp2_with fail
 refine (hm _).mono ?_
 rintro e w1 ⟨rfl, hb⟩
 have c1 : w1.cell? ⟨w.heap.size, 1, none⟩ = some (.slice p N cap) := boxed hb 1
 have HB := Hid.mk hb
 clear hm hb
 by_cases hE : E = 0
 ·subst hE
  go_wp2
  go_loop [7] (fun s => ∃ i : Nat, i ≤ N ∧ s = .int .i64 i ∧ ∀ j, j < i → L[j]!.1 ≠ x) (fun s => N - (intOf s).toNat)
  case atStart => exact ⟨0, by omega, rfl, fun j hj => by omega⟩
  case round =>
   obtain ⟨i, hi, rfl, hno⟩ := hrel
   have HNO := Hid.mk hno
   clear hno
   by_cases hlt : i < N
   ·obtain ⟨g, rfl, hg, q1, q2⟩ := HC.out i hlt
    have d1 := (HB.out.cell (p := ⟨g, i * 2, none⟩) (by simp; omega)).trans ((Below.refl _ w).alloc (Nat.le_refl _) (.cells #[.int .u64 S, .slice (some ⟨g, 0, none⟩) N cap] 29) |>.cell (p := ⟨g, i * 2, none⟩) hg |>.trans q1)
    have d2 := (HB.out.cell (p := ⟨g, i * 2 + 1, none⟩) (by simp; omega)).trans ((Below.refl _ w).alloc (Nat.le_refl _) (.cells #[.int .u64 S, .slice (some ⟨g, 0, none⟩) N cap] 29) |>.cell (p := ⟨g, i * 2 + 1, none⟩) hg |>.trans q2)
    have hmem := HR.out.mem (i := i) (by rw [HN.out]; exact hlt)
    generalize hp : L[i]! = pr at *
    have HP := Hid.mk hp
    clear hp q1 q2
    obtain ⟨y, z⟩ := pr
    simp only at d1 d2 hmem
    by_cases he : y = x
    ·subst he
     obtain ⟨rfl, _⟩ := hmem
     go_wp2
     go_ret2
     exact ⟨rfl, qab ((Below.refl _ _).alloc (Nat.le_refl _) _) HB.out⟩
    ·have he2 : ¬ ((y : Int) = x) := by omega
     go_wp2
     refine ⟨⟨i + 1, by omega, by go_num, fun j hj => ?_⟩, by simp [intOf]; omega⟩
     by_cases q : j = i
     ·subst q; rw [HP.out]; exact he
     ·exact HNO.out j (by omega)
   ·obtain rfl : i = N := by omega
    have hz : f x = 0 := HR.out.zero (fun j hj => HNO.out j (by rw [← HN.out]; exact hj))
    have HZ := Hid.mk hz
    clear hz
    go_wp2
    go_ret2
    exact ⟨by rw [HZ.out]; rfl, qab ((Below.refl _ _).alloc (Nat.le_refl _) _) HB.out⟩
 ·have HZ := Hid.mk (HOUT.out hE)
  go_wp2
  go_ret2
  exact ⟨by rw [HZ.out]; rfl, qab ((Below.refl _ _).alloc (Nat.le_refl _) _) HB.out⟩
end Go.Proofs.YtfdbdeckohaneaaGreatDoor
