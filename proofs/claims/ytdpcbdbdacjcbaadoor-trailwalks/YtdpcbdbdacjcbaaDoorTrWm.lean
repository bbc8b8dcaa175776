/- What marks that walks left lead to: plain facts. -/
import Derived.Test.YtdpcbdbdacjcbaaDoorTrW
import Derived.Test.YtdpcbdbdacjcbaaDoorTrJ
import Derived.Test.YtdpcbdbdacjcbaaDoorRootsM
namespace Go.Proofs.YtdpcbdbdacjcbaaDoor.TR
open Go.RowKit Go.Maps

theorem wk_word {S : Nat} {f : Nat → Nat} {va x : Nat} : ∀ {k tb i : Nat}, k ≤ 4 → (∀ l' : Int, 0 ≤ l' → l' ≤ 4 - k + i → idxN va l' = idxN x l') → i < (wk S f x k tb).1.length →
    i < (wk S f va k tb).1.length ∧ (wk S f va k tb).1[i]! = (wk S f x k tb).1[i]!
  | 0, tb, i, _, _, h => by unfold wk at h; cases h
  | k + 1, tb, i, hk, hi, h => by
    have e := hi (3 - k) (by omega) (by omega)
    by_cases he : errA S (tb + 8 * idxN x (3 - k)) = 0
    · by_cases hm : mf S (3 - k) (f (tb + 8 * idxN x (3 - k))) = 0
      · by_cases hq : rdK (3 - k) (f (tb + 8 * idxN x (3 - k))) = 1
        · rw [wk_table rfl rfl he hm hq] at h ⊢
          rw [wk_table rfl (by rw [e]) he hm hq]
          cases i with
          | zero => exact ⟨Nat.succ_pos _, rfl⟩
          | succ i =>
            have h' : i < (wk S f x k (rdO (f (tb + 8 * idxN x (3 - k))))).1.length := by simpa using h
            obtain ⟨q1, q2⟩ := wk_word (va := va) (k := k) (by omega) (fun l' h0 h1 => hi l' h0 (by omega)) h'
            refine ⟨by simpa using q1, ?_⟩
            show (_ :: (wk S f va k (rdO (f (tb + 8 * idxN x (3 - k))))).1)[i + 1]! = (_ :: (wk S f x k (rdO (f (tb + 8 * idxN x (3 - k))))).1)[i + 1]!
            simpa using q2
        · rw [wk_leaf rfl rfl he hm hq] at h ⊢
          rw [wk_leaf rfl (by rw [e]) he hm hq]
          exact ⟨h, rfl⟩
      · rw [wk_fault rfl rfl he hm] at h ⊢
        rw [wk_fault rfl (by rw [e]) he hm]
        exact ⟨h, rfl⟩
    · rw [wk_err rfl rfl he] at h
      cases h

/-- A mark leads a walk to where the walk from the root comes. -/
def GoodM (S : Nat) (f : Nat → Nat) (root : Nat) (e : En) : Prop := ∀ va, va < 281474976710656 → baseV va (e.lv - 1) = e.va → (wk0 S f e.lv e.tb va).2 = (wk0 S f 0 root va).2

theorem base_div {va x : Nat} {l : Int} (hl : isLv l = true) (hv : va < 281474976710656) (hx : x < 281474976710656) (h : baseV va l = baseV x l) : va / 2 ^ lowK l = x / 2 ^ lowK l := by
  unfold baseV baseN at h
  rw [if_pos hl, if_pos hl, Nat.mod_eq_of_lt hv, Nat.mod_eq_of_lt hx] at h
  exact Nat.eq_of_mul_eq_mul_right (Nat.two_pow_pos _) h

theorem good_wd {S : Nat} {f : Nat → Nat} {root x i : Nat} (i0 : Int) (h : i < (wk0 S f 0 root x).1.length) (ht : isT (0 + i) (wk0 S f 0 root x).1[i]!.2 = true) : GoodM S f root (wdE i0 x 0 (fun j => (wk0 S f 0 root x).1[j]!.2) i) := by
  intro va hv hb
  have hlv := isT_lv ht
  have hc : isLv 0 = true ∧ root % 4096 = 0 ∧ x < 281474976710656 := by
    apply Classical.byContradiction
    intro c
    have e : wk0 S f 0 root x = ([], 1, 0, 0) := if_neg c
    rw [e] at h; cases h
  have ex : wk0 S f 0 root x = wk S f x 4 root := if_pos hc
  have ev : wk0 S f 0 root va = wk S f va 4 root := if_pos ⟨hc.1, hc.2.1, hv⟩
  have hl : isLv (0 + (i : Int)) = true := by unfold isLv; rw [decide_eq_true_eq]; omega
  have hb' : baseV va (0 + (i : Int)) = baseV x (0 + (i : Int)) := by
    have e1 : (wdE i0 x 0 (fun j => (wk0 S f 0 root x).1[j]!.2) i).lv - 1 = 0 + (i : Int) := by show 0 + (i : Int) + 1 - 1 = _; omega
    rw [e1] at hb
    exact hb
  have hd := base_div hl hv hc.2.2 hb'
  have hw := wk_word (S := S) (f := f) (va := va) (x := x) (k := 4) (tb := root) (i := i) (by decide) (fun l' h0 h1 => (idx_of_div hl h0 (by omega) hd).symm) (by rw [← ex]; exact h)
  rw [← ex, ← ev] at hw
  have ht2 := ht
  unfold isT at ht2
  rw [Bool.and_eq_true, Bool.and_eq_true, decide_eq_true_eq, show (0 : Int) + (i : Int) = (i : Int) by omega] at ht2
  have hr := roots_tail (S := S) (f := f) (va := va) (root := root) (i := i) hw.1 (by rw [hw.2]; exact ht2.2.1) (by rw [hw.2]; exact ht2.2.2)
  rw [hw.2] at hr
  show (wk0 S f (0 + (i : Int) + 1) (rdO (wk0 S f 0 root x).1[i]!.2) va).2 = _
  rw [show (0 : Int) + (i : Int) + 1 = (i : Int) + 1 by omega]
  exact hr

def GoodL (S : Nat) (f : Nat → Nat) (root : Nat) (l : List En) : Prop := ∀ e ∈ l, GoodM S f root e
theorem mem_fill {l : List En} {m : Int} {e y : En} (h : y ∈ fillL l m e) : y ∈ l ∨ y = e := by
  unfold fillL at h
  split at h
  · split at h
    · exact Or.inl h
    · split at h
      · have := List.mem_of_mem_eraseIdx h
        rcases List.mem_append.1 this with h1 | h1
        · exact Or.inl h1
        · exact Or.inr (List.mem_singleton.1 h1)
      · rcases List.mem_append.1 h with h1 | h1
        · exact Or.inl h1
        · exact Or.inr (List.mem_singleton.1 h1)
  · exact Or.inl h
theorem good_wdL {S : Nat} {f : Nat → Nat} {root x : Nat} {most i0 : Int} {l : List En} (hl : GoodL S f root l) : ∀ k, k ≤ (wk0 S f 0 root x).1.length → (∀ j : Nat, j < k → isT (0 + j) (wk0 S f 0 root x).1[j]!.2 = true) → GoodL S f root (wdL most i0 x 0 (fun j => (wk0 S f 0 root x).1[j]!.2) l k)
  | 0, _, _ => hl
  | k + 1, hk, ht => by
    have ih := good_wdL (most := most) (i0 := i0) hl k (by omega) (fun j hj => ht j (by omega))
    intro e he
    unfold wdL at he
    split at he
    · rcases mem_fill he with h1 | h1
      · exact ih e h1
      · rw [h1]; exact good_wd i0 (by omega) (ht k (by omega))
    · exact ih e he
theorem bst_in (p : En → Bool) (l : List En) : ∀ i, i ≤ l.length → bstI p l i = e0 ∨ (bstI p l i ∈ l ∧ p (bstI p l i) = true)
  | 0, _ => Or.inl rfl
  | i + 1, hi => by
    have ih := bst_in p l i (by omega)
    unfold bstI
    split
    · rename_i h
      rw [Bool.and_eq_true] at h
      exact Or.inr ⟨gE_mem l i (by omega), h.1⟩
    · exact ih
theorem bst_good {S : Nat} {f : Nat → Nat} {root va : Nat} {i0 : Int} {l : List En} (hl : GoodL S f root l) (h : 1 ≤ (bstE (fun e => mB e i0 va) l).lv) : (wk0 S f (bstE (fun e => mB e i0 va) l).lv (bstE (fun e => mB e i0 va) l).tb va).2 = (wk0 S f 0 root va).2 := by
  rcases bst_in (fun e => mB e i0 va) l l.length (Nat.le_refl _) with h1 | ⟨h1, h2⟩
  · have : bstE (fun e => mB e i0 va) l = e0 := h1
    rw [this] at h
    exact absurd h (by decide)
  · have hm : mB (bstE (fun e => mB e i0 va) l) i0 va = true := h2
    unfold mB at hm
    rw [Bool.and_eq_true, Bool.and_eq_true] at hm
    have hlow := hm.2.1
    have hb := hm.2.2
    unfold lowB at hlow
    unfold baseB at hb
    rw [Bool.and_eq_true, decide_eq_true_eq] at hb
    exact hl _ h1 va (of_decide_eq_true hlow) hb.2
theorem bst_zero {va : Nat} {i0 : Int} {l : List En} (hl : ∀ e ∈ l, 1 ≤ e.lv) (h : ¬ 1 ≤ (bstE (fun e => mB e i0 va) l).lv) : bstE (fun e => mB e i0 va) l = e0 := by
  rcases bst_in (fun e => mB e i0 va) l l.length (Nat.le_refl _) with h1 | ⟨h1, h2⟩
  · exact h1
  · exact absurd (hl _ h1) h

/-- A walk's steps, as a slice. -/
theorem wk_lt {S : Nat} {f : Nat → Nat} {va : Nat} (hf : ∀ x, f x < 18446744073709551616) (hS : S ≤ 4294967296) : ∀ {k tb : Nat} {q : Nat × Nat}, q ∈ (wk S f va k tb).1 → q.1 < 18446744073709551616 ∧ q.2 < 18446744073709551616
  | 0, tb, q, h => by unfold wk at h; cases h
  | k + 1, tb, q, h => by
    by_cases he : errA S (tb + 8 * idxN va (3 - k)) = 0
    · have hlt : tb + 8 * idxN va (3 - k) < S := by
        unfold errA at he
        split at he
        · cases he
        · split at he
          · cases he
          · omega
      by_cases hm : mf S (3 - k) (f (tb + 8 * idxN va (3 - k))) = 0
      · by_cases hq : rdK (3 - k) (f (tb + 8 * idxN va (3 - k))) = 1
        · rw [wk_table rfl rfl he hm hq] at h
          rcases List.mem_cons.1 h with rfl | h1
          · exact ⟨by show tb + 8 * idxN va (3 - k) < _; omega, hf _⟩
          · exact wk_lt hf hS h1
        · rw [wk_leaf rfl rfl he hm hq] at h
          obtain rfl := List.mem_singleton.1 h
          exact ⟨by show tb + 8 * idxN va (3 - k) < _; omega, hf _⟩
      · rw [wk_fault rfl rfl he hm] at h
        obtain rfl := List.mem_singleton.1 h
        exact ⟨by show tb + 8 * idxN va (3 - k) < _; omega, hf _⟩
    · rw [wk_err rfl rfl he] at h
      cases h
theorem wk0_lt {S : Nat} {f : Nat → Nat} {va tb : Nat} {l : Int} (hf : ∀ x, f x < 18446744073709551616) (hS : S ≤ 4294967296) (i : Nat) : (wk0 S f l tb va).1[i]!.1 < 18446744073709551616 ∧ (wk0 S f l tb va).1[i]!.2 < 18446744073709551616 := by
  by_cases hi : i < (wk0 S f l tb va).1.length
  · have hm : (wk0 S f l tb va).1[i]! ∈ (wk0 S f l tb va).1 := by rw [getElem!_pos _ i hi]; exact List.getElem_mem hi
    generalize (wk0 S f l tb va).1[i]! = q at *
    unfold wk0 at hm
    split at hm
    · exact wk_lt hf hS hm
    · cases hm
  · rw [getElem!_neg _ i hi]
    exact ⟨by decide, by decide⟩

end Go.Proofs.YtdpcbdbdacjcbaaDoor.TR
