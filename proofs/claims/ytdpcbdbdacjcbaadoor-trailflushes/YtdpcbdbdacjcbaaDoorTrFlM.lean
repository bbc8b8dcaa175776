/- Plain facts on buffers that were filled, and on what a flush keeps. -/
import Derived.Test.YtdpcbdbdacjcbaaDoorTrL
import Derived.Test.YtdpcbdbdacjcbaaDoorTrK
namespace Go.Proofs.YtdpcbdbdacjcbaaDoor.TR
open Go.RowKit

/-- A buffer of 64 behind the first i fills. -/
def fillsI (l : List En) (i : Nat) : List En := (l.take i).foldl (fun a e => fillL a 64 e) []
theorem fills_zero (l : List En) : fillsI l 0 = [] := rfl
theorem fills_succ {l : List En} {i : Nat} (hi : i < l.length) : fillsI l (i + 1) = fillL (fillsI l i) 64 (gE l i) := by
  unfold fillsI
  rw [take_succ_g l i hi, List.foldl_append]
  rfl
theorem fills_len (l : List En) : ∀ i, i ≤ l.length → (fillsI l i).length ≤ i
  | 0, _ => by rw [fills_zero]; exact Nat.le_refl 0
  | i + 1, h => by
    rw [fills_succ (by omega)]
    have := fillL_len (fillsI l i) 64 (gE l i)
    have := fills_len l i (by omega)
    omega

/-- How many of the first i are kept. -/
def kpI (p : En → Bool) (l : List En) (i : Nat) : Nat := (keepP p (l.take i)).length
theorem kp_zero (p : En → Bool) (l : List En) : kpI p l 0 = 0 := rfl
theorem kp_all (p : En → Bool) (l : List En) : kpI p l l.length = (keepP p l).length := by unfold kpI; rw [List.take_length]
theorem kp_yes {p : En → Bool} {l : List En} {i : Nat} (hi : i < l.length) (h : p (gE l i) = true) : kpI p l (i + 1) = kpI p l i := by
  unfold kpI keepP
  rw [take_succ_g l i hi, List.filter_append, filt0 h, List.append_nil]
theorem kp_no {p : En → Bool} {l : List En} {i : Nat} (hi : i < l.length) (h : p (gE l i) = false) : kpI p l (i + 1) = kpI p l i + 1 := by
  unfold kpI keepP
  rw [take_succ_g l i hi, List.filter_append, filt1 h]
  simp
/-- The kept one at its place. -/
theorem kp_get {p : En → Bool} {l : List En} {i : Nat} (hi : i < l.length) (h : p (gE l i) = false) : kpI p l i < (keepP p l).length ∧ (gE (keepP p l) (kpI p l i)) = (gE l i) := by
  have e : keepP p l = keepP p (l.take i) ++ (gE l i) :: keepP p (l.drop (i + 1)) := by
    have e1 : l = l.take i ++ (gE l i) :: l.drop (i + 1) := by
      rw [gE_pos l i hi, List.getElem_cons_drop, List.take_append_drop]
    have e2 : ((gE l i) :: l.drop (i + 1)).filter (fun e => !p e) = (gE l i) :: (l.drop (i + 1)).filter (fun e => !p e) := by
      rw [List.filter_cons, h]; rfl
    unfold keepP
    rw [← e2, ← List.filter_append, ← e1]
  unfold kpI
  constructor
  · rw [e]; simp
  · rw [e, gE_pos _ _ (by simp)]
    simp
theorem bst_none {p : En → Bool} {l : List En} (h : ∀ e ∈ l, p e = false) : ∀ i, i ≤ l.length → bstI p l i = e0
  | 0, _ => rfl
  | i + 1, hi => by rw [bst_no (h _ (gE_mem l i (by omega)))]; exact bst_none h i (by omega)
theorem bst_kept (p : En → Bool) (l : List En) : bstE p (keepP p l) = e0 :=
  bst_none (fun e he => by
    have := (List.mem_filter.1 he).2
    simpa using this) _ (Nat.le_refl _)

end Go.Proofs.YtdpcbdbdacjcbaaDoor.TR
