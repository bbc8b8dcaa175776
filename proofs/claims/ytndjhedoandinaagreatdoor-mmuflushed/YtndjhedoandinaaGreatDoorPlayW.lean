/- The document's memory: a list of words by rising addresses. -/
import Derived.Test.YtndjhedoandinaaGreatDoorPhysPut
namespace Go.Proofs.YtndjhedoandinaaGreatDoor

abbrev WL := List (Nat × Nat)
/-- L holds just f's words that are not 0, by rising addresses. -/
def Ref (L : WL) (f : Nat → Nat) : Prop := L.Pairwise (fun p q => p.1 < q.1) ∧ ∀ x v, (x, v) ∈ L ↔ v = f x ∧ v ≠ 0

theorem Ref.nil : Ref [] (fun _ => 0) := ⟨List.Pairwise.nil, fun x v => by simp⟩

theorem Ref.mem {L : WL} {f : Nat → Nat} (h : Ref L f) {i : Nat} (hi : i < L.length) : L[i]!.2 = f L[i]!.1 ∧ L[i]!.2 ≠ 0 := by
  refine (h.2 _ _).1 ?_
  rw [getElem!_pos L i hi]
  exact List.getElem_mem hi

/-! reading -/
theorem Ref.zero {L : WL} {f : Nat → Nat} (h : Ref L f) {x : Nat} (hx : ∀ j, j < L.length → L[j]!.1 ≠ x) : f x = 0 := by
  apply Classical.byContradiction
  intro c
  obtain ⟨j, hj, he⟩ := List.getElem_of_mem ((h.2 x (f x)).2 ⟨rfl, c⟩)
  refine hx j hj ?_
  rw [getElem!_pos L j hj, he]

/-! writing -/
def stW (x w : Nat) (s : WL × Bool) (p : Nat × Nat) : WL × Bool :=
  ((if s.2 = false ∧ x ≤ p.1 ∧ w ≠ 0 then s.1 ++ [(x, w)] else s.1) ++ (if p.1 ≠ x then [p] else []), s.2 || decide (x ≤ p.1))
def SW (x w : Nat) (L : WL) (i : Nat) : WL × Bool := (L.take i).foldl (stW x w) ([], false)
def finW (x w : Nat) (s : WL × Bool) : WL := if s.2 = false ∧ w ≠ 0 then s.1 ++ [(x, w)] else s.1
def outW (x w : Nat) (L : WL) : WL := finW x w (SW x w L L.length)

theorem SW_zero (x w : Nat) (L : WL) : SW x w L 0 = ([], false) := by simp [SW]
theorem fold_succ {α : Type} (st : α → Nat × Nat → α) (a : α) (L : WL) {i : Nat} (hi : i < L.length) : (L.take (i + 1)).foldl st a = st ((L.take i).foldl st a) L[i]! := by
  rw [List.take_succ_eq_append_getElem hi, List.foldl_append, getElem!_pos L i hi]
  rfl
theorem SW_succ (x w : Nat) (L : WL) {i : Nat} (hi : i < L.length) : SW x w L (i + 1) = stW x w (SW x w L i) L[i]! := fold_succ _ _ _ hi

def insL (x w : Nat) : WL → WL
  | [] => if w ≠ 0 then [(x, w)] else []
  | p :: L => if x ≤ p.1 then (if w ≠ 0 then [(x, w)] else []) ++ (p :: L).filter (fun q => q.1 ≠ x) else p :: insL x w L

theorem fold_done (x w : Nat) : ∀ (L out : WL), L.foldl (stW x w) (out, true) = (out ++ L.filter (fun q => q.1 ≠ x), true)
  | [], out => by simp
  | p :: L, out => by
    rw [List.foldl_cons]
    have : stW x w (out, true) p = (out ++ (if p.1 ≠ x then [p] else []), true) := by simp [stW]
    rw [this, fold_done x w L]
    by_cases e : p.1 = x <;> simp [e]
theorem fold_ins (x w : Nat) : ∀ (L out : WL), finW x w (L.foldl (stW x w) (out, false)) = out ++ insL x w L
  | [], out => by
    by_cases e : w = 0 <;> simp [finW, insL, e]
  | p :: L, out => by
    rw [List.foldl_cons]
    by_cases hx : x ≤ p.1
    · have : stW x w (out, false) p = (out ++ ((if w ≠ 0 then [(x, w)] else []) ++ (if p.1 ≠ x then [p] else [])), true) := by
        by_cases e : w = 0 <;> simp [stW, hx, e]
      rw [this, fold_done]
      unfold insL
      rw [if_pos hx]
      by_cases e : p.1 = x <;> simp [finW, e]
    · have : stW x w (out, false) p = (out ++ [p], false) := by
        have h1 : p.1 ≠ x := by omega
        simp [stW, hx, h1]
      rw [this, fold_ins x w L, show insL x w (p :: L) = p :: insL x w L from if_neg hx, List.append_assoc]
      rfl
theorem outW_ins (x w : Nat) (L : WL) : outW x w L = insL x w L := by
  unfold outW SW
  rw [List.take_length, fold_ins]
  rfl

theorem mem_ins {x w a v : Nat} : ∀ {L : WL}, (a, v) ∈ insL x w L ↔ (a = x ∧ v = w ∧ w ≠ 0) ∨ (a ≠ x ∧ (a, v) ∈ L)
  | [] => by
    by_cases e : w = 0
    · simp [insL, e]
    · simp [insL, e]
  | p :: L => by
    unfold insL
    by_cases hx : x ≤ p.1
    · rw [if_pos hx, List.mem_append, List.mem_filter]
      have h1 : ((a, v) ∈ (if w ≠ 0 then [(x, w)] else [])) ↔ (a = x ∧ v = w ∧ w ≠ 0) := by
        by_cases e : w = 0 <;> simp [e]
      rw [h1]
      simp [and_comm]
    · rw [if_neg hx, List.mem_cons, mem_ins, List.mem_cons]
      constructor
      · rintro (h | h | h)
        · right
          refine ⟨?_, Or.inl h⟩
          intro c
          apply hx
          rw [← h]
          exact Nat.le_of_eq c.symm
        · exact Or.inl h
        · exact Or.inr ⟨h.1, Or.inr h.2⟩
      · rintro (h | ⟨h1, h2 | h2⟩)
        · exact Or.inr (Or.inl h)
        · exact Or.inl h2
        · exact Or.inr (Or.inr ⟨h1, h2⟩)

theorem ins_asc {x w : Nat} : ∀ {L : WL}, L.Pairwise (fun p q => p.1 < q.1) → (insL x w L).Pairwise (fun p q => p.1 < q.1)
  | [], _ => by
    by_cases e : w = 0 <;> simp [insL, e]
  | p :: L, h => by
    have h0 := h
    obtain ⟨h1, h2⟩ := List.pairwise_cons.1 h
    unfold insL
    by_cases hx : x ≤ p.1
    · rw [if_pos hx]
      have hf : ((p :: L).filter (fun q => q.1 ≠ x)).Pairwise (fun p q => p.1 < q.1) := h0.filter _
      by_cases e : w = 0
      · simpa [e] using hf
      · rw [if_pos e]
        refine List.pairwise_cons.2 ⟨fun q hq => ?_, hf⟩
        have hq2 := List.mem_filter.1 hq
        have hne : q.1 ≠ x := by simpa using hq2.2
        show x < q.1
        rcases List.mem_cons.1 hq2.1 with rfl | hqL
        · omega
        · have := h1 q hqL; omega
    · rw [if_neg hx]
      refine List.pairwise_cons.2 ⟨fun q hq => ?_, ins_asc h2⟩
      obtain ⟨a, v⟩ := q
      rcases mem_ins.1 hq with h3 | h3
      · show p.1 < a; omega
      · exact h1 _ h3.2

theorem Ref.write {L : WL} {f : Nat → Nat} (h : Ref L f) (x w : Nat) : Ref (outW x w L) (updF f x w) := by
  rw [outW_ins]
  refine ⟨ins_asc h.1, fun a v => ?_⟩
  rw [mem_ins, h.2]
  unfold updF
  by_cases e : a = x
  · rw [if_pos e]
    constructor
    · rintro (h | h)
      · exact ⟨h.2.1, by rw [h.2.1]; exact h.2.2⟩
      · exact absurd e h.1
    · rintro ⟨h1, h2⟩
      exact Or.inl ⟨e, h1, by rw [← h1]; exact h2⟩
  · rw [if_neg e]
    constructor
    · rintro (h | h)
      · exact absurd h.1 e
      · exact h.2
    · intro h
      exact Or.inr ⟨e, h⟩

theorem fold_len (x w : Nat) : ∀ (L : WL) (s : WL × Bool), (L.foldl (stW x w) s).1.length ≤ s.1.length + 2 * L.length
  | [], s => by simp
  | p :: L, s => by
    rw [List.foldl_cons]
    have := fold_len x w L (stW x w s p)
    have h2 : (stW x w s p).1.length ≤ s.1.length + 2 := by
      unfold stW
      simp only [List.length_append]
      split <;> split <;> simp <;> omega
    simp
    omega
theorem SW_len (x w : Nat) (L : WL) (i : Nat) : (SW x w L i).1.length ≤ 2 * L.length := by
  have := fold_len x w (L.take i) ([], false)
  have h2 : (L.take i).length ≤ L.length := by simp; omega
  unfold SW
  simp at this
  omega
theorem ins_len (x w : Nat) : ∀ L : WL, (insL x w L).length ≤ L.length + 1
  | [] => by by_cases e : w = 0 <;> simp [insL, e]
  | p :: L => by
    unfold insL
    by_cases hx : x ≤ p.1
    · rw [if_pos hx]
      have := List.length_filter_le (fun q : Nat × Nat => decide (q.1 ≠ x)) (p :: L)
      by_cases e : w = 0
      · simp [e] at this ⊢; omega
      · simp [e] at this ⊢; omega
    · rw [if_neg hx]
      have := ins_len x w L
      simp; omega
theorem outW_len (x w : Nat) (L : WL) : (outW x w L).length ≤ L.length + 1 := by rw [outW_ins]; exact ins_len x w L

end Go.Proofs.YtndjhedoandinaaGreatDoor
