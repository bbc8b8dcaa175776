/- A walk goes on as the walk from any table that it comes through. -/
import Derived.Test.YtdpcbdbdacjcbaaDoorStretchM
namespace Go.Proofs.YtdpcbdbdacjcbaaDoor

theorem rdO_mod' (x : Nat) : rdO x % 4096 = 0 := by
  unfold rdO
  split
  · rfl
  · show outV x % 4096 = 0
    have h := mask_mod (l := 12) (n := 36) (by decide) x
    unfold outV
    have h2 : x &&& maskV 12 36 = x / 2 ^ 12 % 2 ^ 36 * 2 ^ 12 := h
    rw [h2]
    exact Nat.mul_mod_left _ _
theorem rdK_three {x : Nat} {l : Int} (hl : l = 3) : rdK l x ≠ 1 := by
  subst hl
  unfold rdK
  split
  · decide
  · rw [if_neg (by simp)]
    split <;> decide

/-- The words that a walk reads are memory's. -/
theorem wk_words {S : Nat} {f : Nat → Nat} {va : Nat} : ∀ {k tb : Nat} {q : Nat × Nat}, q ∈ (wk S f va k tb).1 → q.2 = f q.1
  | 0, tb, q, h => by unfold wk at h; cases h
  | k + 1, tb, q, h => by
    by_cases he : errA S (tb + 8 * idxN va (3 - k)) = 0
    · by_cases hm : mf S (3 - k) (f (tb + 8 * idxN va (3 - k))) = 0
      · by_cases hq : rdK (3 - k) (f (tb + 8 * idxN va (3 - k))) = 1
        · rw [wk_table rfl rfl he hm hq] at h
          rcases List.mem_cons.1 h with rfl | h
          · rfl
          · exact wk_words h
        · rw [wk_leaf rfl rfl he hm hq] at h
          obtain rfl := List.mem_singleton.1 h
          rfl
      · rw [wk_fault rfl rfl he hm] at h
        obtain rfl := List.mem_singleton.1 h
        rfl
    · rw [wk_err rfl rfl he] at h
      cases h

theorem wk_tail {S : Nat} {f : Nat → Nat} {va : Nat} : ∀ {k tb i : Nat}, k ≤ 4 → i < (wk S f va k tb).1.length → goodD (4 - k + i) (wk S f va k tb).1[i]!.2 = true → rdK (4 - k + i) (wk S f va k tb).1[i]!.2 = 1 →
    i + 1 < k ∧ (wk S f va (k - 1 - i) (rdO (wk S f va k tb).1[i]!.2)).2 = (wk S f va k tb).2
  | 0, tb, i, _, h, _, _ => by unfold wk at h; cases h
  | k + 1, tb, i, hk, h, hg, hr => by
    by_cases he : errA S (tb + 8 * idxN va (3 - k)) = 0
    · by_cases hm : mf S (3 - k) (f (tb + 8 * idxN va (3 - k))) = 0
      · by_cases hq : rdK (3 - k) (f (tb + 8 * idxN va (3 - k))) = 1
        · rw [wk_table rfl rfl he hm hq] at h hg hr ⊢
          cases i with
          | zero =>
            refine ⟨?_, ?_⟩
            · apply Classical.byContradiction
              intro c
              exact rdK_three (by omega) hq
            · rfl
          | succ i =>
            have h' : i < (wk S f va k (rdO (f (tb + 8 * idxN va (3 - k))))).1.length := by simpa using h
            have el : (4 : Int) - ((k + 1 : Nat) : Int) + ((i + 1 : Nat) : Int) = 4 - (k : Int) + (i : Int) := by omega
            rw [el] at hg hr
            have ei : ∀ (q : Nat × Nat) (L : List (Nat × Nat)), (q :: L)[i + 1]! = L[i]! := fun q L => by simp
            simp only [ei] at hg hr ⊢
            obtain ⟨h1, h2⟩ := wk_tail (k := k) (by omega) h' hg hr
            refine ⟨by omega, ?_⟩
            rw [show k + 1 - 1 - (i + 1) = k - 1 - i by omega]
            exact h2
        · rw [wk_leaf rfl rfl he hm hq] at h hg hr
          have hi : i = 0 := by simpa using h
          subst hi
          exfalso
          apply hq
          have el : (4 : Int) - ((k + 1 : Nat) : Int) + ((0 : Nat) : Int) = 3 - (k : Int) := by omega
          rw [el] at hr
          exact hr
      · rw [wk_fault rfl rfl he hm] at h hg hr
        have hi : i = 0 := by simpa using h
        subst hi
        exfalso
        apply hm
        have el : (4 : Int) - ((k + 1 : Nat) : Int) + ((0 : Nat) : Int) = 3 - (k : Int) := by omega
        rw [el] at hr hg
        have hr' : rdK (3 - (k : Int)) (f (tb + 8 * idxN va (3 - k))) = 1 := hr
        have hg' : goodD (3 - (k : Int)) (f (tb + 8 * idxN va (3 - k))) = true := hg
        unfold mf
        rw [if_neg (by rw [hg']; decide), if_neg (by rw [hr']; decide), if_neg (fun c => c.1 hr')]
    · rw [wk_err rfl rfl he] at h
      cases h
/-- .. said of walks from a root. -/
theorem roots_tail {S : Nat} {f : Nat → Nat} {va root i : Nat} (h : i < (wk0 S f 0 root va).1.length) (hg : goodD i (wk0 S f 0 root va).1[i]!.2 = true) (hr : rdK i (wk0 S f 0 root va).1[i]!.2 = 1) :
    (wk0 S f (i + 1) (rdO (wk0 S f 0 root va).1[i]!.2) va).2 = (wk0 S f 0 root va).2 := by
  by_cases hc : isLv 0 = true ∧ root % 4096 = 0 ∧ va < 281474976710656
  · have e : wk0 S f 0 root va = wk S f va 4 root := if_pos hc
    rw [e] at h hg hr ⊢
    obtain ⟨h1, h2⟩ := wk_tail (k := 4) (tb := root) (i := i) (by decide) h (by rw [show (4 : Int) - ((4 : Nat) : Int) + (i : Int) = i by omega]; exact hg) (by rw [show (4 : Int) - ((4 : Nat) : Int) + (i : Int) = i by omega]; exact hr)
    have hm := rdO_mod' (wk S f va 4 root).1[i]!.2
    have e2 : wk0 S f (i + 1) (rdO (wk S f va 4 root).1[i]!.2) va = wk S f va (4 - ((i : Int) + 1)).toNat (rdO (wk S f va 4 root).1[i]!.2) := if_pos ⟨decide_eq_true (by omega), hm, hc.2.2⟩
    rw [e2, show (4 - ((i : Int) + 1)).toNat = 4 - 1 - i by omega]
    exact h2
  · have e : wk0 S f 0 root va = ([], 1, 0, 0) := if_neg hc
    rw [e] at h
    cases h
theorem wk0_words {S : Nat} {f : Nat → Nat} {va root i : Nat} (h : i < (wk0 S f 0 root va).1.length) : (wk0 S f 0 root va).1[i]!.2 = f (wk0 S f 0 root va).1[i]!.1 := by
  by_cases hc : isLv 0 = true ∧ root % 4096 = 0 ∧ va < 281474976710656
  · have e : wk0 S f 0 root va = wk S f va 4 root := if_pos hc
    rw [e] at h ⊢
    refine wk_words (S := S) (va := va) (k := 4) (tb := root) ?_
    rw [getElem!_pos _ i h]
    exact List.getElem_mem h
  · have e : wk0 S f 0 root va = ([], 1, 0, 0) := if_neg hc
    rw [e] at h
    cases h
end Go.Proofs.YtdpcbdbdacjcbaaDoor
