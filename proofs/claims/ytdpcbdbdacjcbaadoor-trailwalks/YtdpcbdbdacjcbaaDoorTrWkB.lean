/- TrailWalks (P8.2): for every list of words, root, walks and address the law returns true: whatever mark leads a walk of a memory's tables, left there by a walk of it, the walk that goes on from there comes to the same leaf, or fault, as the one from the root. No condition beyond the row's own. -/
import Derived.Test.YtdpcbdbdacjcbaaDoorWalkT
import Derived.Test.YtdpcbdbdacjcbaaDoorTrW
import Derived.Test.YtdpcbdbdacjcbaaDoorTrJ
import Derived.Test.YtdpcbdbdacjcbaaDoorWalkF
import Derived.Test.YtdpcbdbdacjcbaaDoorTrL
import Derived.Test.YtdpcbdbdacjcbaaDoorTrFrame
import Derived.Test.YtdpcbdbdacjcbaaDoorStepOpen

/- Addresses of one stretch: walks of them are the same. -/
namespace Go.Proofs.YtdpcbdbdacjcbaaDoor

theorem wk_level {S : Nat} {f : Nat → Nat} {va : Nat} {l : Int} {x : Nat} : ∀ {k tb : Nat}, k ≤ 4 → (wk S f va k tb).2 = (0, l, x) → (4 : Int) - k ≤ l ∧ l ≤ 3 ∧ mf S l x = 0 ∧ rdK l x ≠ 1
  | 0, tb, _, h => by unfold wk at h; exact absurd (congrArg Prod.fst h) (show ¬ (1 : Int) = 0 by decide)
  | k + 1, tb, hk, h => by
    by_cases he : errA S (tb + 8 * idxN va (3 - k)) = 0
    · by_cases hm : mf S (3 - k) (f (tb + 8 * idxN va (3 - k))) = 0
      · by_cases hr : rdK (3 - k) (f (tb + 8 * idxN va (3 - k))) = 1
        · rw [wk_table rfl rfl he hm hr] at h
          obtain ⟨h1, h2⟩ := wk_level (k := k) (by omega) h
          exact ⟨by omega, h2⟩
        · rw [wk_leaf rfl rfl he hm hr] at h
          have e1 := congrArg (fun q => q.2.1) h
          have e2 := congrArg (fun q => q.2.2) h
          simp only at e1 e2
          subst e1
          rw [e2] at hm hr
          exact ⟨by omega, by omega, hm, hr⟩
      · rw [wk_fault rfl rfl he hm] at h
        exact absurd (congrArg Prod.fst h) hm
    · rw [wk_err rfl rfl he] at h
      exact absurd (congrArg Prod.fst h) (show ¬ (4 : Int) = 0 by decide)

theorem wk_same {S : Nat} {f : Nat → Nat} {va vb : Nat} {l : Int} {x : Nat} (hi : ∀ l', 0 ≤ l' → l' ≤ l → idxN va l' = idxN vb l') : ∀ {k tb : Nat}, k ≤ 4 → (wk S f va k tb).2 = (0, l, x) → wk S f vb k tb = wk S f va k tb
  | 0, tb, _, h => by unfold wk; rfl
  | k + 1, tb, hk, h => by
    have hl := (wk_level hk h).1
    have e := hi (3 - k) (by omega) (by omega)
    by_cases he : errA S (tb + 8 * idxN va (3 - k)) = 0
    · by_cases hm : mf S (3 - k) (f (tb + 8 * idxN va (3 - k))) = 0
      · by_cases hr : rdK (3 - k) (f (tb + 8 * idxN va (3 - k))) = 1
        · have hq := h
          rw [wk_table rfl rfl he hm hr] at hq
          have ih := wk_same hi (k := k) (by omega) hq
          rw [wk_table rfl rfl he hm hr, wk_table rfl (by rw [e]) he hm hr, ih]
        · rw [wk_leaf rfl rfl he hm hr, wk_leaf rfl (by rw [e]) he hm hr]
      · rw [wk_fault rfl rfl he hm, wk_fault rfl (by rw [e]) he hm]
    · rw [wk_err rfl rfl he, wk_err rfl (by rw [e]) he]

/-- What a leaf's walk says of the leaf. -/
theorem wk0_leaf {S : Nat} {f : Nat → Nat} {tb va : Nat} {l l0 : Int} {x : Nat} (h : (wk0 S f l0 tb va).2 = (0, l, x)) : isLv l0 = true ∧ tb % 4096 = 0 ∧ va < 281474976710656 ∧ l0 ≤ l ∧ isLv l = true ∧ mf S l x = 0 ∧ rdK l x ≠ 1 := by
  unfold wk0 at h
  split at h
  · rename_i hc
    have h4 := isLv_of hc.1
    have := wk_level (by omega) h
    exact ⟨hc.1, hc.2.1, hc.2.2, by omega, decide_eq_true (by omega), this.2.2⟩
  · exact absurd (congrArg Prod.fst h) (show ¬ (1 : Int) = 0 by decide)

theorem mf_holds {S : Nat} {l : Int} {x : Nat} (hm : mf S l x = 0) (hk : rdK l x ≠ 1) : rdO x + 2 ^ lowK l ≤ S := by
  unfold mf at hm
  split at hm
  · cases hm
  · split at hm
    · cases hm
    · split at hm
      · cases hm
      · rename_i _ _ c
        apply Classical.byContradiction
        intro h
        exact c ⟨hk, by omega⟩

/-- An address of the stretch of va. -/
def inV (va off : Nat) (l : Int) : Nat := baseV va l ||| offV off l

theorem inV_eq {va off : Nat} {l : Int} (hl : isLv l = true) (hv : va < 281474976710656) : inV va off l = va / 2 ^ lowK l * 2 ^ lowK l + off % 2 ^ lowK l := by
  unfold inV baseV offV baseN
  rw [if_pos hl, if_pos hl, Nat.mod_eq_of_lt hv, Nat.mul_comm, Nat.two_pow_add_eq_or_of_lt (Nat.mod_lt _ (Nat.two_pow_pos _))]

theorem inV_div {va off : Nat} {l : Int} (hl : isLv l = true) (hv : va < 281474976710656) : inV va off l / 2 ^ lowK l = va / 2 ^ lowK l := by
  rw [inV_eq hl hv, Nat.mul_comm, Nat.mul_add_div (Nat.two_pow_pos _), Nat.div_eq_of_lt (Nat.mod_lt _ (Nat.two_pow_pos _)), Nat.add_zero]
theorem inV_off {va off : Nat} {l : Int} (hl : isLv l = true) (hv : va < 281474976710656) : offV (inV va off l) l = offV off l := by
  unfold offV
  rw [if_pos hl, if_pos hl, inV_eq hl hv, Nat.mul_comm, Nat.mul_add_mod, Nat.mod_mod]
theorem lowK_val {l : Int} (hl : isLv l = true) : (lowK l : Int) = 39 - 9 * l := (lowK_eq hl).2.2.2
theorem div_mono {va vb n m : Nat} (h : vb / 2 ^ n = va / 2 ^ n) (hnm : n ≤ m) : vb / 2 ^ m = va / 2 ^ m := by
  obtain ⟨d, rfl⟩ := Nat.exists_eq_add_of_le hnm
  rw [Nat.pow_add, ← Nat.div_div_eq_div_mul, ← Nat.div_div_eq_div_mul, h]
theorem inV_low {va off : Nat} {l : Int} (hl : isLv l = true) (hv : va < 281474976710656) : inV va off l < 281474976710656 := by
  have h1 := inV_div (off := off) hl hv
  have h2 := lowK_eq hl
  have h3 : inV va off l / 2 ^ 48 = va / 2 ^ 48 := div_mono h1 (by omega)
  have h4 : va / 2 ^ 48 = 0 := Nat.div_eq_of_lt hv
  rw [h4] at h3
  have := Nat.lt_of_div_eq_zero (Nat.two_pow_pos 48) h3
  exact this
theorem idx_of_div {va vb : Nat} {l l' : Int} (hl : isLv l = true) (h0 : 0 ≤ l') (hle : l' ≤ l) (h : vb / 2 ^ lowK l = va / 2 ^ lowK l) : idxN va l' = idxN vb l' := by
  have h1 := lowK_val hl
  have h2 := isLv_of hl
  have h3 := lowK_val (l := l') (decide_eq_true (by omega))
  unfold idxN
  rw [div_mono h (show lowK l ≤ lowK l' by omega)]
theorem stretch_same {S : Nat} {f : Nat → Nat} {tb va vb : Nat} {l : Int} {x : Nat} (h : (wk0 S f 0 tb va).2 = (0, l, x)) (hd : vb / 2 ^ lowK l = va / 2 ^ lowK l) (hv : vb < 281474976710656) : wk0 S f 0 tb vb = wk0 S f 0 tb va := by
  obtain ⟨h0, ht, hva, _, hl, _⟩ := wk0_leaf h
  unfold wk0 at h ⊢
  rw [if_pos ⟨h0, ht, hva⟩] at h
  rw [if_pos ⟨h0, ht, hv⟩, if_pos ⟨h0, ht, hva⟩]
  exact wk_same (fun l' h1 h2 => idx_of_div hl h1 h2 hd) (by decide) h
end Go.Proofs.YtdpcbdbdacjcbaaDoor

/- A walk goes on as the walk from any table that it comes through. -/
namespace Go.Proofs.YtdpcbdbdacjcbaaDoor

theorem rdO_mod' (x : Nat) : rdO x % 4096 = 0 := by
  unfold rdO
  split
  · rfl
  · show outV x % 4096 = 0
    have h := mask_mod (l := 12) (n := 36) (by decide) x
    unfold outV
    have h2 : x &&& maskV 12 36 = x / 2 ^ 12 % 2 ^ 36 * 2 ^ 12 := h
    rw [h2]
    exact Nat.mul_mod_left _ _
theorem rdK_three {x : Nat} {l : Int} (hl : l = 3) : rdK l x ≠ 1 := by
  subst hl
  unfold rdK
  split
  · decide
  · rw [if_neg (by simp)]
    split <;> decide

/-- The words that a walk reads are memory's. -/
theorem wk_words {S : Nat} {f : Nat → Nat} {va : Nat} : ∀ {k tb : Nat} {q : Nat × Nat}, q ∈ (wk S f va k tb).1 → q.2 = f q.1
  | 0, tb, q, h => by unfold wk at h; cases h
  | k + 1, tb, q, h => by
    by_cases he : errA S (tb + 8 * idxN va (3 - k)) = 0
    · by_cases hm : mf S (3 - k) (f (tb + 8 * idxN va (3 - k))) = 0
      · by_cases hq : rdK (3 - k) (f (tb + 8 * idxN va (3 - k))) = 1
        · rw [wk_table rfl rfl he hm hq] at h
          rcases List.mem_cons.1 h with rfl | h
          · rfl
          · exact wk_words h
        · rw [wk_leaf rfl rfl he hm hq] at h
          obtain rfl := List.mem_singleton.1 h
          rfl
      · rw [wk_fault rfl rfl he hm] at h
        obtain rfl := List.mem_singleton.1 h
        rfl
    · rw [wk_err rfl rfl he] at h
      cases h

theorem wk_tail {S : Nat} {f : Nat → Nat} {va : Nat} : ∀ {k tb i : Nat}, k ≤ 4 → i < (wk S f va k tb).1.length → goodD (4 - k + i) (wk S f va k tb).1[i]!.2 = true → rdK (4 - k + i) (wk S f va k tb).1[i]!.2 = 1 →
    i + 1 < k ∧ (wk S f va (k - 1 - i) (rdO (wk S f va k tb).1[i]!.2)).2 = (wk S f va k tb).2
  | 0, tb, i, _, h, _, _ => by unfold wk at h; cases h
  | k + 1, tb, i, hk, h, hg, hr => by
    by_cases he : errA S (tb + 8 * idxN va (3 - k)) = 0
    · by_cases hm : mf S (3 - k) (f (tb + 8 * idxN va (3 - k))) = 0
      · by_cases hq : rdK (3 - k) (f (tb + 8 * idxN va (3 - k))) = 1
        · rw [wk_table rfl rfl he hm hq] at h hg hr ⊢
          cases i with
          | zero =>
            refine ⟨?_, ?_⟩
            · apply Classical.byContradiction
              intro c
              exact rdK_three (by omega) hq
            · rfl
          | succ i =>
            have h' : i < (wk S f va k (rdO (f (tb + 8 * idxN va (3 - k))))).1.length := by simpa using h
            have el : (4 : Int) - ((k + 1 : Nat) : Int) + ((i + 1 : Nat) : Int) = 4 - (k : Int) + (i : Int) := by omega
            rw [el] at hg hr
            have ei : ∀ (q : Nat × Nat) (L : List (Nat × Nat)), (q :: L)[i + 1]! = L[i]! := fun q L => by simp
            simp only [ei] at hg hr ⊢
            obtain ⟨h1, h2⟩ := wk_tail (k := k) (by omega) h' hg hr
            refine ⟨by omega, ?_⟩
            rw [show k + 1 - 1 - (i + 1) = k - 1 - i by omega]
            exact h2
        · rw [wk_leaf rfl rfl he hm hq] at h hg hr
          have hi : i = 0 := by simpa using h
          subst hi
          exfalso
          apply hq
          have el : (4 : Int) - ((k + 1 : Nat) : Int) + ((0 : Nat) : Int) = 3 - (k : Int) := by omega
          rw [el] at hr
          exact hr
      · rw [wk_fault rfl rfl he hm] at h hg hr
        have hi : i = 0 := by simpa using h
        subst hi
        exfalso
        apply hm
        have el : (4 : Int) - ((k + 1 : Nat) : Int) + ((0 : Nat) : Int) = 3 - (k : Int) := by omega
        rw [el] at hr hg
        have hr' : rdK (3 - (k : Int)) (f (tb + 8 * idxN va (3 - k))) = 1 := hr
        have hg' : goodD (3 - (k : Int)) (f (tb + 8 * idxN va (3 - k))) = true := hg
        unfold mf
        rw [if_neg (by rw [hg']; decide), if_neg (by rw [hr']; decide), if_neg (fun c => c.1 hr')]
    · rw [wk_err rfl rfl he] at h
      cases h
/-- .. said of walks from a root. -/
theorem roots_tail {S : Nat} {f : Nat → Nat} {va root i : Nat} (h : i < (wk0 S f 0 root va).1.length) (hg : goodD i (wk0 S f 0 root va).1[i]!.2 = true) (hr : rdK i (wk0 S f 0 root va).1[i]!.2 = 1) :
    (wk0 S f (i + 1) (rdO (wk0 S f 0 root va).1[i]!.2) va).2 = (wk0 S f 0 root va).2 := by
  by_cases hc : isLv 0 = true ∧ root % 4096 = 0 ∧ va < 281474976710656
  · have e : wk0 S f 0 root va = wk S f va 4 root := if_pos hc
    rw [e] at h hg hr ⊢
    obtain ⟨h1, h2⟩ := wk_tail (k := 4) (tb := root) (i := i) (by decide) h (by rw [show (4 : Int) - ((4 : Nat) : Int) + (i : Int) = i by omega]; exact hg) (by rw [show (4 : Int) - ((4 : Nat) : Int) + (i : Int) = i by omega]; exact hr)
    have hm := rdO_mod' (wk S f va 4 root).1[i]!.2
    have e2 : wk0 S f (i + 1) (rdO (wk S f va 4 root).1[i]!.2) va = wk S f va (4 - ((i : Int) + 1)).toNat (rdO (wk S f va 4 root).1[i]!.2) := if_pos ⟨decide_eq_true (by omega), hm, hc.2.2⟩
    rw [e2, show (4 - ((i : Int) + 1)).toNat = 4 - 1 - i by omega]
    exact h2
  · have e : wk0 S f 0 root va = ([], 1, 0, 0) := if_neg hc
    rw [e] at h
    cases h
theorem wk0_words {S : Nat} {f : Nat → Nat} {va root i : Nat} (h : i < (wk0 S f 0 root va).1.length) : (wk0 S f 0 root va).1[i]!.2 = f (wk0 S f 0 root va).1[i]!.1 := by
  by_cases hc : isLv 0 = true ∧ root % 4096 = 0 ∧ va < 281474976710656
  · have e : wk0 S f 0 root va = wk S f va 4 root := if_pos hc
    rw [e] at h ⊢
    refine wk_words (S := S) (va := va) (k := 4) (tb := root) ?_
    rw [getElem!_pos _ i h]
    exact List.getElem_mem h
  · have e : wk0 S f 0 root va = ([], 1, 0, 0) := if_neg hc
    rw [e] at h
    cases h
end Go.Proofs.YtdpcbdbdacjcbaaDoor

/- What marks that walks left lead to: plain facts. -/
namespace Go.Proofs.YtdpcbdbdacjcbaaDoor.TR
open Go.RowKit Go.Maps

theorem wk_word {S : Nat} {f : Nat → Nat} {va x : Nat} : ∀ {k tb i : Nat}, k ≤ 4 → (∀ l' : Int, 0 ≤ l' → l' ≤ 4 - k + i → idxN va l' = idxN x l') → i < (wk S f x k tb).1.length →
    i < (wk S f va k tb).1.length ∧ (wk S f va k tb).1[i]! = (wk S f x k tb).1[i]!
  | 0, tb, i, _, _, h => by unfold wk at h; cases h
  | k + 1, tb, i, hk, hi, h => by
    have e := hi (3 - k) (by omega) (by omega)
    by_cases he : errA S (tb + 8 * idxN x (3 - k)) = 0
    · by_cases hm : mf S (3 - k) (f (tb + 8 * idxN x (3 - k))) = 0
      · by_cases hq : rdK (3 - k) (f (tb + 8 * idxN x (3 - k))) = 1
        · rw [wk_table rfl rfl he hm hq] at h ⊢
          rw [wk_table rfl (by rw [e]) he hm hq]
          cases i with
          | zero => exact ⟨Nat.succ_pos _, rfl⟩
          | succ i =>
            have h' : i < (wk S f x k (rdO (f (tb + 8 * idxN x (3 - k))))).1.length := by simpa using h
            obtain ⟨q1, q2⟩ := wk_word (va := va) (k := k) (by omega) (fun l' h0 h1 => hi l' h0 (by omega)) h'
            refine ⟨by simpa using q1, ?_⟩
            show (_ :: (wk S f va k (rdO (f (tb + 8 * idxN x (3 - k))))).1)[i + 1]! = (_ :: (wk S f x k (rdO (f (tb + 8 * idxN x (3 - k))))).1)[i + 1]!
            simpa using q2
        · rw [wk_leaf rfl rfl he hm hq] at h ⊢
          rw [wk_leaf rfl (by rw [e]) he hm hq]
          exact ⟨h, rfl⟩
      · rw [wk_fault rfl rfl he hm] at h ⊢
        rw [wk_fault rfl (by rw [e]) he hm]
        exact ⟨h, rfl⟩
    · rw [wk_err rfl rfl he] at h
      cases h

/-- A mark leads a walk to where the walk from the root comes. -/
def GoodM (S : Nat) (f : Nat → Nat) (root : Nat) (e : En) : Prop := ∀ va, va < 281474976710656 → baseV va (e.lv - 1) = e.va → (wk0 S f e.lv e.tb va).2 = (wk0 S f 0 root va).2

theorem base_div {va x : Nat} {l : Int} (hl : isLv l = true) (hv : va < 281474976710656) (hx : x < 281474976710656) (h : baseV va l = baseV x l) : va / 2 ^ lowK l = x / 2 ^ lowK l := by
  unfold baseV baseN at h
  rw [if_pos hl, if_pos hl, Nat.mod_eq_of_lt hv, Nat.mod_eq_of_lt hx] at h
  exact Nat.eq_of_mul_eq_mul_right (Nat.two_pow_pos _) h

theorem good_wd {S : Nat} {f : Nat → Nat} {root x i : Nat} (i0 : Int) (h : i < (wk0 S f 0 root x).1.length) (ht : isT (0 + i) (wk0 S f 0 root x).1[i]!.2 = true) : GoodM S f root (wdE i0 x 0 (fun j => (wk0 S f 0 root x).1[j]!.2) i) := by
  intro va hv hb
  have hlv := isT_lv ht
  have hc : isLv 0 = true ∧ root % 4096 = 0 ∧ x < 281474976710656 := by
    apply Classical.byContradiction
    intro c
    have e : wk0 S f 0 root x = ([], 1, 0, 0) := if_neg c
    rw [e] at h; cases h
  have ex : wk0 S f 0 root x = wk S f x 4 root := if_pos hc
  have ev : wk0 S f 0 root va = wk S f va 4 root := if_pos ⟨hc.1, hc.2.1, hv⟩
  have hl : isLv (0 + (i : Int)) = true := by unfold isLv; rw [decide_eq_true_eq]; omega
  have hb' : baseV va (0 + (i : Int)) = baseV x (0 + (i : Int)) := by
    have e1 : (wdE i0 x 0 (fun j => (wk0 S f 0 root x).1[j]!.2) i).lv - 1 = 0 + (i : Int) := by show 0 + (i : Int) + 1 - 1 = _; omega
    rw [e1] at hb
    exact hb
  have hd := base_div hl hv hc.2.2 hb'
  have hw := wk_word (S := S) (f := f) (va := va) (x := x) (k := 4) (tb := root) (i := i) (by decide) (fun l' h0 h1 => (idx_of_div hl h0 (by omega) hd).symm) (by rw [← ex]; exact h)
  rw [← ex, ← ev] at hw
  have ht2 := ht
  unfold isT at ht2
  rw [Bool.and_eq_true, Bool.and_eq_true, decide_eq_true_eq, show (0 : Int) + (i : Int) = (i : Int) by omega] at ht2
  have hr := roots_tail (S := S) (f := f) (va := va) (root := root) (i := i) hw.1 (by rw [hw.2]; exact ht2.2.1) (by rw [hw.2]; exact ht2.2.2)
  rw [hw.2] at hr
  show (wk0 S f (0 + (i : Int) + 1) (rdO (wk0 S f 0 root x).1[i]!.2) va).2 = _
  rw [show (0 : Int) + (i : Int) + 1 = (i : Int) + 1 by omega]
  exact hr

def GoodL (S : Nat) (f : Nat → Nat) (root : Nat) (l : List En) : Prop := ∀ e ∈ l, GoodM S f root e
theorem mem_fill {l : List En} {m : Int} {e y : En} (h : y ∈ fillL l m e) : y ∈ l ∨ y = e := by
  unfold fillL at h
  split at h
  · split at h
    · exact Or.inl h
    · split at h
      · have := List.mem_of_mem_eraseIdx h
        rcases List.mem_append.1 this with h1 | h1
        · exact Or.inl h1
        · exact Or.inr (List.mem_singleton.1 h1)
      · rcases List.mem_append.1 h with h1 | h1
        · exact Or.inl h1
        · exact Or.inr (List.mem_singleton.1 h1)
  · exact Or.inl h
theorem good_wdL {S : Nat} {f : Nat → Nat} {root x : Nat} {most i0 : Int} {l : List En} (hl : GoodL S f root l) : ∀ k, k ≤ (wk0 S f 0 root x).1.length → (∀ j : Nat, j < k → isT (0 + j) (wk0 S f 0 root x).1[j]!.2 = true) → GoodL S f root (wdL most i0 x 0 (fun j => (wk0 S f 0 root x).1[j]!.2) l k)
  | 0, _, _ => hl
  | k + 1, hk, ht => by
    have ih := good_wdL (most := most) (i0 := i0) hl k (by omega) (fun j hj => ht j (by omega))
    intro e he
    unfold wdL at he
    split at he
    · rcases mem_fill he with h1 | h1
      · exact ih e h1
      · rw [h1]; exact good_wd i0 (by omega) (ht k (by omega))
    · exact ih e he
theorem bst_in (p : En → Bool) (l : List En) : ∀ i, i ≤ l.length → bstI p l i = e0 ∨ (bstI p l i ∈ l ∧ p (bstI p l i) = true)
  | 0, _ => Or.inl rfl
  | i + 1, hi => by
    have ih := bst_in p l i (by omega)
    unfold bstI
    split
    · rename_i h
      rw [Bool.and_eq_true] at h
      exact Or.inr ⟨gE_mem l i (by omega), h.1⟩
    · exact ih
theorem bst_good {S : Nat} {f : Nat → Nat} {root va : Nat} {i0 : Int} {l : List En} (hl : GoodL S f root l) (h : 1 ≤ (bstE (fun e => mB e i0 va) l).lv) : (wk0 S f (bstE (fun e => mB e i0 va) l).lv (bstE (fun e => mB e i0 va) l).tb va).2 = (wk0 S f 0 root va).2 := by
  rcases bst_in (fun e => mB e i0 va) l l.length (Nat.le_refl _) with h1 | ⟨h1, h2⟩
  · have : bstE (fun e => mB e i0 va) l = e0 := h1
    rw [this] at h
    exact absurd h (by decide)
  · have hm : mB (bstE (fun e => mB e i0 va) l) i0 va = true := h2
    unfold mB at hm
    rw [Bool.and_eq_true, Bool.and_eq_true] at hm
    have hlow := hm.2.1
    have hb := hm.2.2
    unfold lowB at hlow
    unfold baseB at hb
    rw [Bool.and_eq_true, decide_eq_true_eq] at hb
    exact hl _ h1 va (of_decide_eq_true hlow) hb.2
theorem bst_zero {va : Nat} {i0 : Int} {l : List En} (hl : ∀ e ∈ l, 1 ≤ e.lv) (h : ¬ 1 ≤ (bstE (fun e => mB e i0 va) l).lv) : bstE (fun e => mB e i0 va) l = e0 := by
  rcases bst_in (fun e => mB e i0 va) l l.length (Nat.le_refl _) with h1 | ⟨h1, h2⟩
  · exact h1
  · exact absurd (hl _ h1) h

/-- A walk's steps, as a slice. -/
theorem wk_lt {S : Nat} {f : Nat → Nat} {va : Nat} (hf : ∀ x, f x < 18446744073709551616) (hS : S ≤ 4294967296) : ∀ {k tb : Nat} {q : Nat × Nat}, q ∈ (wk S f va k tb).1 → q.1 < 18446744073709551616 ∧ q.2 < 18446744073709551616
  | 0, tb, q, h => by unfold wk at h; cases h
  | k + 1, tb, q, h => by
    by_cases he : errA S (tb + 8 * idxN va (3 - k)) = 0
    · have hlt : tb + 8 * idxN va (3 - k) < S := by
        unfold errA at he
        split at he
        · cases he
        · split at he
          · cases he
          · omega
      by_cases hm : mf S (3 - k) (f (tb + 8 * idxN va (3 - k))) = 0
      · by_cases hq : rdK (3 - k) (f (tb + 8 * idxN va (3 - k))) = 1
        · rw [wk_table rfl rfl he hm hq] at h
          rcases List.mem_cons.1 h with rfl | h1
          · exact ⟨by show tb + 8 * idxN va (3 - k) < _; omega, hf _⟩
          · exact wk_lt hf hS h1
        · rw [wk_leaf rfl rfl he hm hq] at h
          obtain rfl := List.mem_singleton.1 h
          exact ⟨by show tb + 8 * idxN va (3 - k) < _; omega, hf _⟩
      · rw [wk_fault rfl rfl he hm] at h
        obtain rfl := List.mem_singleton.1 h
        exact ⟨by show tb + 8 * idxN va (3 - k) < _; omega, hf _⟩
    · rw [wk_err rfl rfl he] at h
      cases h
theorem wk0_lt {S : Nat} {f : Nat → Nat} {va tb : Nat} {l : Int} (hf : ∀ x, f x < 18446744073709551616) (hS : S ≤ 4294967296) (i : Nat) : (wk0 S f l tb va).1[i]!.1 < 18446744073709551616 ∧ (wk0 S f l tb va).1[i]!.2 < 18446744073709551616 := by
  by_cases hi : i < (wk0 S f l tb va).1.length
  · have hm : (wk0 S f l tb va).1[i]! ∈ (wk0 S f l tb va).1 := by rw [getElem!_pos _ i hi]; exact List.getElem_mem hi
    generalize (wk0 S f l tb va).1[i]! = q at *
    unfold wk0 at hm
    split at hm
    · exact wk_lt hf hS hm
    · cases hm
  · rw [getElem!_neg _ i hi]
    exact ⟨by decide, by decide⟩

end Go.Proofs.YtdpcbdbdacjcbaaDoor.TR

/- The law's laid: words written into a new memory. -/
namespace Go.Proofs.YtdpcbdbdacjcbaaDoor.TR
open Go.RowKit Go.Maps

set_option maxHeartbeats 1000000 in
set_option maxRecDepth 100000 in
theorem laid_bad (n cap : Nat) (ad : Option Addr) (h : 60 < n) (w : World) :
    Calls Tryd.prog 10 #[.slice ad n cap] w fun e w' => e = .returned (.tuple #[.pointer none, .bool false]) ∧ Below w.heap.size w w' := by
  have hn2 : (60 : Int) < n := by omega
  clear h
  go_enter Tryd.func10, Tryd.ntmps10
  go_wp2_with fail
  refine (Go.Proofs.YtdpcbdbdacjcbaaDoor.new_ok 1048576 (by decide) _).mono ?_
  rintro e w1 ⟨a, rfl, -, hb⟩
  go_wp2
  go_ret2
  exact ⟨rfl, hb⟩

/-- A memory that was made behind w0. -/
def LMem (w0 w : World) (a S n : Nat) (f : Nat → Nat) : Prop := ∃ X, MemAt w X a S n f ∧ (∀ i, X i → w0.heap.size ≤ i) ∧ Below w0.heap.size w0 w
theorem LMem.later {w0 w w' : World} {a S n : Nat} {f : Nat → Nat} (h : LMem w0 w a S n f) (hb : Below w.heap.size w w') : LMem w0 w' a S n f := by
  obtain ⟨X, h1, h2, h3⟩ := h
  exact ⟨X, h1.below hb, h2, below_tr h3 hb⟩
theorem LMem.bel {w0 w : World} {a S n : Nat} {f : Nat → Nat} (h : LMem w0 w a S n f) : Below w0.heap.size w0 w := by
  obtain ⟨X, h1, h2, h3⟩ := h
  exact h3
theorem LMem.write {w0 w : World} {a S n : Nat} {f : Nat → Nat} (h : LMem w0 w a S n f) (hn : n < 100000000) (x v : Nat) (hx : x < 18446744073709551616) (hv : v < 18446744073709551616) :
    Calls Tryd.prog 30 #[.pointer (some ⟨a, 0, none⟩), .int .u64 x, .int .u64 v] w fun e w' => e = .returned (.int .i64 (errA S x)) ∧ LMem w0 w' a S (n + 1) (wrF f S x v) := by
  obtain ⟨X, h1, h2, h3⟩ := h
  refine (write_c h1 hn x v hx hv).mono ?_
  rintro e w' ⟨rfl, hm, ht⟩
  refine ⟨rfl, Gr X w w', hm, fun i hi => ?_, h3.trans (ht.below h2 h3.size)⟩
  rcases hi with hi | hi
  · exact h2 i hi
  · exact Nat.le_trans h3.size hi.1

set_option maxHeartbeats 1000000 in
set_option maxRecDepth 100000 in
theorem laid_ok (n cap : Nat) (ad : Option Addr) (A V : Nat → Nat) (hn : n ≤ 60) (w : World) (hst : StepsAt w ad n A V) :
    Calls Tryd.prog 10 #[.slice ad n cap] w fun e w' => ∃ a, e = .returned (.tuple #[.pointer (some ⟨a, 0, none⟩), .bool true]) ∧ LMem w w' a 1048576 n (fW 1048576 A V n) := by
  have hn2 : ¬ (60 : Int) < n := by omega
  have hnI : (n : Int) ≤ 60 := by omega
  have HST := Hid.mk hst
  have HFW : Hid (∀ i, fW 1048576 A V (i + 1) = wrF (fW 1048576 A V i) 1048576 (A i) (V i)) := fun i => rfl
  have HF0 : Hid (fW 1048576 A V 0 = fun _ => 0) := rfl
  clear hst
  generalize fW 1048576 A V = FW at *
  go_enter Tryd.func10, Tryd.ntmps10
  go_wp2_with fail
  refine (Go.Proofs.YtdpcbdbdacjcbaaDoor.new_ok 1048576 (by decide) _).mono ?_
  rintro e w1 ⟨a, rfl, hM, hb⟩
  have HM : Hid (LMem w w1 a 1048576 0 (FW 0)) := ⟨fun i => w.heap.size ≤ i ∧ i < w1.heap.size, by rw [HF0.out]; exact hM, fun i hi => hi.1, hb⟩
  clear hM hb HF0
  go_wp2
  go_loopw [7, 25] (fun _ s25 wr => ∃ i : Nat, i ≤ n ∧ s25 = .int .i64 (i : Nat) ∧ LMem w wr a 1048576 i (FW i)) (fun _ s25 _ => n - (intOf s25).toNat)
  case atStart => exact ⟨0, by omega, rfl, HM.out⟩
  case round =>
    obtain ⟨i, hi, rfl, hL⟩ := hrel
    have HL := Hid.mk hL
    clear HM
    by_cases hlt : i < n
    · have hlt2 : (i : Int) < n := by omega
      have HLT := Hid.mk hlt
      have hib : (i : Int) < 1000 := by omega
      obtain ⟨g, o, rfl, hg, q1, q2⟩ := HST.out.cells i hlt
      have d1 := cell_later hL.bel q1
      have d2 := cell_later hL.bel q2
      have HW := Hid.mk (fun W (hW : LMem w W a 1048576 i (FW i)) => hW.write (by omega) (A i) (V i) (HST.out.al i) (HST.out.vl i))
      have HFWi := Hid.mk (HFW.out i)
      clear q1 q2 hL hg hlt hi
      go_wp2_with fail
      refine (HW.out _ (HL.out.later (below_new _ _))).mono ?_
      rintro e w2 ⟨rfl, hL2⟩
      have HL2 := Hid.mk hL2
      clear hL2 HW d1 d2
      go_wp2
      go_roundw
      case rel => exact ⟨i + 1, by have := HLT.out; omega, by go_num, by rw [HFWi.out]; exact HL2.out⟩
      case measure => have := HLT.out; simp [intOf]; omega
    · have hlt2 : ¬ (i : Int) < n := by omega
      obtain rfl : i = n := by omega
      clear hlt hi hL
      go_wp2
      go_ret2
      exact ⟨a, rfl, HL.out⟩

end Go.Proofs.YtdpcbdbdacjcbaaDoor.TR

namespace Go.Proofs.YtdpcbdbdacjcbaaDoor.TR.trailWalks
open Go.ChangeShapes Go.WideShapes Go.ChangeAt Go.RowKit Go.Lib Go.Maps

/-- A slice of words, to read. -/
def WordsAt (w : World) (ad : Option Addr) (n : Nat) (U : Nat → Nat) : Prop :=
  ∀ i, i < n → U i < 18446744073709551616 ∧ ∃ g o, ad = some ⟨g, o, none⟩ ∧ g < w.heap.size ∧ w.cell? ⟨g, o + i, none⟩ = some (.int .u64 (U i : Nat))
set_option maxRecDepth 100000 in
theorem open_words {H : Type} {enc : TypeId × Value → H} {W : World} {base : Nat} {v : Value} {d : DataW H} {p : List MemPlace} (hok : Value.okWide Tryd.prog W .any base 41 v)
    (h : DataW.Trod enc Tryd.prog W 0 (fun _ => true) true 41 v d p) : ∃ ad n cap U, v = .slice ad n cap ∧ n ≤ maxLen ∧ WordsAt W ad n U := by
  obtain ⟨ad, n, cap, rfl, hn, hel⟩ := open_elems (c := 1) Tryd.underlying41 (by kernel_rfl) (by decide) hok h
  have each : ∀ i, ∃ u : Nat, i < n → u < 18446744073709551616 ∧ ∃ g o, ad = some ⟨g, o, none⟩ ∧ g < W.heap.size ∧ W.cell? ⟨g, o + i, none⟩ = some (.int .u64 (u : Nat)) := fun i => by
    by_cases hi : i < n
    · obtain ⟨g, o, cs, fuel, x, e1, hg, hc, ht⟩ := hel i hi
      obtain ⟨z, e2, _, wz⟩ := DataW.trod_int Tryd.underlying29 ht
      subst e2
      obtain ⟨z, rfl⟩ := Int.eq_ofNat_of_zero_le (bounds_u64 wz).1
      have := hc 0 _ rfl
      rw [Nat.mul_one, Nat.add_zero] at this
      exact ⟨z, fun _ => ⟨by have := (bounds_u64 wz).2; omega, g, o, e1, hg, this⟩⟩
    · exact ⟨0, fun h => absurd h hi⟩
  exact ⟨ad, n, cap, fun i => (each i).choose, rfl, hn, fun i hi => (each i).choose_spec hi⟩

/-- Walked of a walk's own steps. -/
theorem walked_l {w0 wr w1 : World} {t : Nat} {most : Int} {l : List En} (h : LBuf w0 wr t most l) (hb : Below wr.heap.size wr w1) (hl : l.length ≤ 900) (i0 : Int) (x : Nat) (hx : x < 18446744073709551616) (p : Option Addr) (cap : Nat) (L : List (Nat × Nat))
    (hp : Psl w1 (fun g => wr.heap.size ≤ g) (.slice p L.length cap) L) (hL : L.length ≤ 50) (hlt : ∀ i : Nat, L[i]!.1 < 18446744073709551616 ∧ L[i]!.2 < 18446744073709551616) (hF : Flds w0) :
    Calls Tryd.prog 11 #[.pointer (some ⟨t, 0, none⟩), .int .i64 i0, .int .u64 x, .int .i64 0, .slice p L.length cap] w1 fun r w' => ∃ k : Nat, k ≤ L.length ∧ (∀ j : Nat, j < k → isT (0 + j) L[j]!.2 = true) ∧ r = .returned (.int .i64 (k : Nat)) ∧ LBuf w0 w' t most (wdL most i0 x 0 (fun j => L[j]!.2) l k) := by
  obtain ⟨X, h1, h2, h3⟩ := h
  have hst : StepsAt w1 p L.length (fun j => L[j]!.1) (fun j => L[j]!.2) := by
    refine ⟨fun i hi => ?_, fun i => (hlt i).1, fun i => (hlt i).2⟩
    obtain ⟨p', cap', e, hc⟩ := hp.form
    cases e
    obtain ⟨g, rfl, hg, q1, q2⟩ := hc i hi
    exact ⟨g, 0, rfl, hg, by rw [Nat.zero_add]; exact q1, by rw [Nat.zero_add]; exact q2⟩
  have hd : notIn X p := fun a ha hX => by
    rcases hp with ⟨e, -⟩ | ⟨g, c, e, hg, -⟩
    · simp only [Value.slice.injEq] at e
      rw [e.1] at ha; cases ha
    · simp only [Value.slice.injEq] at e
      rw [e.1] at ha; cases ha
      exact absurd (show g < wr.heap.size from buf_lt h1 _ hX) (Nat.not_lt.2 hg)
  have hbel := below_tr h3 hb
  refine (walked_c (h1.later hb) hl i0 x hx 0 (by decide) (by decide) p L.length cap _ _ hL hst hd (fun W ht => hF.later (hbel.trans (ht.below h2 hbel.size)))).mono ?_
  rintro r w' ⟨k, hk, q1, -, rfl, hB, ht⟩
  refine ⟨k, hk, q1, rfl, Xp X w1 w', hB, fun i hi => ?_, hbel.trans (ht.below h2 hbel.size)⟩
  rcases hi with hi | hi
  · exact h2 i hi
  · exact Nat.le_trans hbel.size hi.1

set_option maxHeartbeats 1000000 in
theorem walk_long (ad : Option Addr) (n cap root : Nat) (ad2 : Option Addr) (n2 cap2 va : Nat) (w : World) (hn : 60 < n) (hF : Flds w) :
    Calls Tryd.prog 4 #[.slice ad n cap, .int .u64 root, .slice ad2 n2 cap2, .int .u64 va] w fun e w' => e = .returned (.bool true) ∧ Below w.heap.size w w' := by
  have hL := fun w1 => laid_bad n cap ad hn w1
  clear hn
  go_enter Tryd.func4, Tryd.ntmps4
  go_wp2_with fail
  refine (tanchor_any _ hF).mono ?_
  rintro e w1 ⟨rfl, hb1⟩
  go_wp2_with fail
  refine (hL _).mono ?_
  rintro e w2 ⟨rfl, hb2⟩
  go_wp2
  go_ret
  exact ⟨rfl, below_tr hb1 hb2⟩

set_option maxHeartbeats 1000000 in
theorem walk_many (ad : Option Addr) (n cap : Nat) (A V : Nat → Nat) (root : Nat) (ad2 : Option Addr) (n2 cap2 va : Nat) (w : World) (hn : n ≤ 60) (hst : StepsAt w ad n A V) (hn2 : 20 < n2) (hF : Flds w) :
    Calls Tryd.prog 4 #[.slice ad n cap, .int .u64 root, .slice ad2 n2 cap2, .int .u64 va] w fun e w' => e = .returned (.bool true) ∧ Below w.heap.size w w' := by
  have HL := Hid.mk (fun w1 h1 => laid_ok n cap ad A V hn w1 h1)
  have HST := Hid.mk hst
  have hnI : (20 : Int) < n2 := by omega
  clear hn hst hn2
  go_enter Tryd.func4, Tryd.ntmps4
  go_wp2_with fail
  refine (tanchor_any _ hF).mono ?_
  rintro e w1 ⟨rfl, hb1⟩
  go_wp2_with fail
  refine (HL.out _ (HST.out.later hb1)).mono ?_
  rintro e w2 ⟨a, rfl, hM⟩
  go_wp2
  go_ret
  exact ⟨rfl, below_tr hb1 hM.bel⟩

set_option maxHeartbeats 2000000 in
set_option maxRecDepth 100000 in
theorem walk_short (ad : Option Addr) (n cap : Nat) (A V : Nat → Nat) (root : Nat) (ad2 : Option Addr) (n2 cap2 : Nat) (U : Nat → Nat) (va : Nat) (w : World) (hn : n ≤ 60) (hst : StepsAt w ad n A V) (hr : root < 18446744073709551616) (hn2 : n2 ≤ 20) (hU : WordsAt w ad2 n2 U) (hva : va < 18446744073709551616) (hF : Flds w) :
    Calls Tryd.prog 4 #[.slice ad n cap, .int .u64 root, .slice ad2 n2 cap2, .int .u64 va] w fun e w' => e = .returned (.bool true) ∧ Below w.heap.size w w' := by
  have HF := Hid.mk hF
  have HL := Hid.mk (fun w1 h1 => laid_ok n cap ad A V hn w1 h1)
  have HST := Hid.mk hst
  have HU := Hid.mk hU
  have HR := Hid.mk hr
  have HVA := Hid.mk hva
  have hnI : ¬ (20 : Int) < n2 := by omega
  have hnJ : (n2 : Int) ≤ 20 := by omega
  clear hn hst hU hva hr
  go_enter Tryd.func4, Tryd.ntmps4
  go_wp2_with fail
  refine (tanchor_any _ hF).mono ?_
  rintro e w1 ⟨rfl, hb1⟩
  clear hF
  go_wp2_with fail
  refine (HL.out _ (HST.out.later hb1)).mono ?_
  rintro e w2 ⟨a, rfl, hM⟩
  have HB2 := Hid.mk (below_tr hb1 hM.bel)
  obtain ⟨X, hM1, -⟩ := hM
  have HM := Hid.mk hM1
  clear hb1 hM1 HL HST
  generalize fW 1048576 A V n = f at *
  have hfl : ∀ x, f x < 18446744073709551616 := by obtain ⟨_, _, h⟩ := HM.out; exact h.fl
  have HFL := Hid.mk hfl
  clear hfl
  go_wp2_with fail
  refine (new_l 64 (by omega) (by omega) _).mono ?_
  rintro e w3 ⟨t, rfl, hL3⟩
  have HL3 := Hid.mk hL3
  clear hL3
  go_wp2
  go_loopw [14, 47] (fun _ s47 wr => ∃ (i : Nat) (l : List En), i ≤ n2 ∧ s47 = .int .i64 (i : Nat) ∧ LBuf w2 wr t 64 l ∧ GoodL 1048576 f root l ∧ l.length ≤ 4 * i) (fun _ s47 _ => n2 - (RowKit.intOf s47).toNat)
  case atStart => exact ⟨0, [], by omega, rfl, HL3.out, (fun e he => by cases he), Nat.le_refl _⟩
  case round =>
    obtain ⟨i, l, hi, rfl, hL, hG, hlen⟩ := hrel
    have HL := Hid.mk hL
    have HG := Hid.mk hG
    have HLEN := Hid.mk hlen
    clear HL3 hL hG hlen
    by_cases hlt : i < n2
    · have hlt2 : (i : Int) < n2 := by omega
      have HLT := Hid.mk hlt
      have hib : (i : Int) < 1000 := by omega
      obtain ⟨hx, g, o, rfl, hg, q1⟩ := HU.out i hlt
      have hbel := below_tr HB2.out HL.out.bel
      have d1 := cell_later hbel q1
      have HX := Hid.mk hx
      have HTR := Hid.mk (trace_any 0 root (U i) HR.out (HM.out.below HL.out.bel) (HF.out.later hbel).d)
      have HLW := Hid.mk (wk0_len 1048576 f 0 root (U i))
      have HLTW := Hid.mk (fun j => wk0_lt (S := 1048576) (va := U i) (tb := root) (l := 0) HFL.out (by decide) j)
      have HGW := Hid.mk (fun k h1 h2 => good_wdL (x := U i) (most := 64) (i0 := 7) HG.out k h1 h2)
      clear q1 hg hx hbel hlt hi
      generalize (wk0 1048576 f 0 root (U i)).1 = L at *
      go_wp2_with fail
      refine HTR.out.mono ?_
      rintro e w4 ⟨vt, rfl, hp, hb4⟩
      obtain ⟨p, c, rfl, -⟩ := hp.form
      have HWK := Hid.mk (walked_l HL.out hb4 (by have := HLEN.out; omega) 7 (U i) HX.out p c L hp (by have := HLW.out; omega) HLTW.out (HF.out.later HB2.out))
      clear hp hb4 HTR d1
      go_wp2_with fail
      refine HWK.out.mono ?_
      rintro e w5 ⟨k, hk, hT, rfl, hL5⟩
      have HL5 := Hid.mk hL5
      have HG5 := Hid.mk (HGW.out k hk hT)
      have HK : Hid (k ≤ 4) := by have := HLW.out; show k ≤ 4; omega
      have HWL := Hid.mk (wdL_len 64 7 (U i) 0 (fun j => L[j]!.2) l k)
      clear hL5 hk hT HWK HGW
      generalize wdL 64 7 (U i) 0 (fun j => L[j]!.2) l k = l5 at *
      go_wp2
      go_roundw
      case rel => exact ⟨i + 1, l5, by have := HLT.out; omega, by go_num, HL5.out, HG5.out, by have := HWL.out; have := HLEN.out; have := HK.out; omega⟩
      case measure => have := HLT.out; simp [RowKit.intOf]; omega
    · have hlt2 : ¬ (i : Int) < n2 := by omega
      obtain rfl : i = n2 := by omega
      clear hlt hi HU
      have hbel := below_tr HB2.out HL.out.bel
      have HBEL := Hid.mk hbel
      have HCW := Hid.mk (walk_any root va HR.out (HM.out.below HL.out.bel) (HF.out.later hbel).d)
      have HBS := Hid.mk (fun W (hW : LBuf w2 W t 64 l) => best_l hW (by have := HLEN.out; omega) 7 va HVA.out)
      have hOK : ∀ e ∈ l, e.okR := by obtain ⟨X', ⟨v, hv⟩, -⟩ := HL.out; exact hv.ok
      have HZ := Hid.mk (fun (h : (bstE (fun e => mB e 7 va) l).lv < 1) => bst_zero (va := va) (i0 := 7) (l := l) (fun e he => (right_lv (hOK e he).2).1) (by omega))
      have hTB : (bstE (fun e => mB e 7 va) l).tb < 18446744073709551616 := by
        rcases bst_in (fun e => mB e 7 va) l l.length (Nat.le_refl _) with h1 | ⟨h1, -⟩
        · have : bstE (fun e => mB e 7 va) l = e0 := h1
          rw [this]; decide
        · exact (hOK _ h1).1.2
      have HCF := Hid.mk (fun W (hW : LBuf w2 W t 64 l) (h1 : 1 ≤ (bstE (fun e => mB e 7 va) l).lv) => by
        have := from_any (bstE (fun e => mB e 7 va) l).lv (bstE (fun e => mB e 7 va) l).tb va hTB (HM.out.below hW.bel) (HF.out.later (below_tr HB2.out hW.bel)).d
        rw [bst_good HG.out h1] at this
        exact this)
      clear hbel hOK hTB
      generalize bstE (fun e => mB e 7 va) l = BE at *
      generalize (wk0 1048576 f 0 root va).2 = r at *
      obtain ⟨ll, K, O, bU, bR, bX, bS, at1, hlf⟩ := leaf_form r
      obtain ⟨fk, fl, hft⟩ := fault_form r
      rw [hlf, hft] at HCW HCF
      clear hlf hft
      go_wp2_with fail
      refine HCW.out.mono ?_
      rintro e w4 ⟨rfl, hb4⟩
      have hbb := below_tr hb4 (below2 w4 (.cells #[.int .i64 ll, .int .i64 K, .int .u64 (O : Nat), .bool bU, .bool bR, .bool bX, .bool bS, .int .i64 at1] 50) (.cells #[.int .i64 fk, .int .i64 fl] 52))
      have HL4 := Hid.mk (HL.out.later hbb)
      have K10 := Hid.mk (heap_alloc2_old w4 (.cells #[.int .i64 ll, .int .i64 K, .int .u64 (O : Nat), .bool bU, .bool bR, .bool bX, .bool bS, .int .i64 at1] 50) (.cells #[.int .i64 fk, .int .i64 fl] 52))
      have K11 := Hid.mk (heap_alloc2_new w4 (.cells #[.int .i64 ll, .int .i64 K, .int .u64 (O : Nat), .bool bU, .bool bR, .bool bX, .bool bS, .int .i64 at1] 50) (.cells #[.int .i64 fk, .int .i64 fl] 52))
      clear hb4 hbb HL HCW
      go_upto_region 15 with fail
      generalize (w4.alloc (.cells #[.int .i64 ll, .int .i64 K, .int .u64 (O : Nat), .bool bU, .bool bR, .bool bX, .bool bS, .int .i64 at1] 50)).alloc (.cells #[.int .i64 fk, .int .i64 fl] 52) = w5 at *
      generalize w4.heap.size = B4 at *
      by_cases hled : 1 ≤ BE.lv
      · have hdec : decide (1 ≤ BE.lv) = true := decide_eq_true hled
        rw [hdec] at HBS
        have HC2 := Hid.mk (fun W hW => HCF.out W hW hled)
        clear hdec hled HCF HZ
        obtain ⟨z0, z1, z2, z3⟩ := BE
        simp only [En.v] at *
        go_wp2_with fail
        refine (HBS.out _ HL4.out).mono ?_
        rintro e w6 ⟨rfl, hb6⟩
        have hbb := below_tr hb6 (below_new w6 (.cells #[.int .i64 z0, .int .u64 z1, .int .i64 z2, .int .u64 z3] 31))
        have HL6 := Hid.mk (HL4.out.later hbb)
        have J10 := Hid.mk (block_later hbb K10.out)
        have J11 := Hid.mk (block_later hbb K11.out)
        clear hb6 hbb HL4 K10 K11 HBS
        go_wp2_with fail
        refine (HC2.out _ HL6.out).mono ?_
        rintro e w7 ⟨rfl, hb7⟩
        have hbb := below_tr hb7 (below2 w7 (.cells #[.int .i64 ll, .int .i64 K, .int .u64 (O : Nat), .bool bU, .bool bR, .bool bX, .bool bS, .int .i64 at1] 50) (.cells #[.int .i64 fk, .int .i64 fl] 52))
        have HL7 := Hid.mk (HL6.out.later hbb)
        have I10 := Hid.mk (block_later hbb J10.out)
        have I11 := Hid.mk (block_later hbb J11.out)
        have I12 := Hid.mk (heap_alloc2_old w7 (.cells #[.int .i64 ll, .int .i64 K, .int .u64 (O : Nat), .bool bU, .bool bR, .bool bX, .bool bS, .int .i64 at1] 50) (.cells #[.int .i64 fk, .int .i64 fl] 52))
        have I13 := Hid.mk (heap_alloc2_new w7 (.cells #[.int .i64 ll, .int .i64 K, .int .u64 (O : Nat), .bool bU, .bool bR, .bool bX, .bool bS, .int .i64 at1] 50) (.cells #[.int .i64 fk, .int .i64 fl] 52))
        clear hb7 hbb HL6 J10 J11 HC2
        go_upto_region 19 with fail
        generalize (w7.alloc (.cells #[.int .i64 ll, .int .i64 K, .int .u64 (O : Nat), .bool bU, .bool bR, .bool bX, .bool bS, .int .i64 at1] 50)).alloc (.cells #[.int .i64 fk, .int .i64 fl] 52) = w8 at *
        obtain ⟨⟨a0, a1, a2, a3, a4, a5, a6, a7⟩, af⟩ := cells8 I10.out
        obtain ⟨b0, b1, bf0, bf1⟩ := row2_facts I11.out
        obtain ⟨⟨c0, c1, c2, c3, c4, c5, c6, c7⟩, cf⟩ := cells8 I12.out
        obtain ⟨d0, d1, df0, df1⟩ := row2_facts I13.out
        clear af bf0 bf1 cf df0 df1 I10 I11 I12 I13
        go_wp2
        go_ret
        exact ⟨rfl, below_tr HB2.out HL7.out.bel⟩
      · have hdec : decide (1 ≤ BE.lv) = false := decide_eq_false hled
        rw [hdec] at HBS
        have hz := HZ.out (by omega)
        rw [hz] at HBS
        have heq := fun W => eqT e0 e0 W
        rw [eqB_true rfl] at heq
        clear hdec hled hz HCF HZ
        simp only [e0, En.v] at *
        by_cases hn0 : i = 0
        · subst hn0
          go_wp2_with fail
          refine (HBS.out _ HL4.out).mono ?_
          rintro e w6 ⟨rfl, hb6⟩
          have hbb := below_tr hb6 (below_new w6 (.cells #[.int .i64 0, .int .u64 0, .int .i64 0, .int .u64 0] 31))
          have HL6 := Hid.mk (HL4.out.later hbb)
          clear hb6 hbb HL4 K10 K11 HBS
          go_wp2
          go_ret
          exact ⟨rfl, below_tr HB2.out HL6.out.bel⟩
        · have hnz : ((i : Int) == 0) = false := by rw [beq_eq_false_iff_ne]; omega
          clear hn0
          go_wp2_with fail
          refine (HBS.out _ HL4.out).mono ?_
          rintro e w6 ⟨rfl, hb6⟩
          have hbb := below_tr hb6 (below_new w6 (.cells #[.int .i64 0, .int .u64 0, .int .i64 0, .int .u64 0] 31))
          have HL6 := Hid.mk (HL4.out.later hbb)
          clear hb6 hbb HL4 K10 K11 HBS
          go_wp2
          go_ret
          exact ⟨rfl, below_tr HB2.out HL6.out.bel⟩

theorem walk (ad : Option Addr) (n cap : Nat) (A V : Nat → Nat) (root : Nat) (ad2 : Option Addr) (n2 cap2 : Nat) (U : Nat → Nat) (va : Nat) (w : World) (_ : n ≤ maxLen) (hst : StepsAt w ad n A V) (hr : root < 18446744073709551616) (_ : n2 ≤ maxLen) (hU : WordsAt w ad2 n2 U) (hva : va < 18446744073709551616) (hF : Flds w) :
    Calls Tryd.prog 4 #[.slice ad n cap, .int .u64 root, .slice ad2 n2 cap2, .int .u64 va] w fun e w' => e = .returned (.bool true) ∧ Below w.heap.size w w' := by
  by_cases h : n ≤ 60
  · by_cases h2 : n2 ≤ 20
    · exact walk_short ad n cap A V root ad2 n2 cap2 U va w h hst hr h2 hU hva hF
    · exact walk_many ad n cap A V root ad2 n2 cap2 va w h hst (by omega) hF
  · exact walk_long ad n cap root ad2 n2 cap2 va w (by omega) hF

theorem met {W : World} (h : laidMet Tryd.prog Rows.trailWalksRow.laid W) : Flds W := by
  have h1 := pair_of_reads (g := 1) (by kernel_rfl) (by kernel_rfl) (Lib.laidMet.reads h (n := "portreeve/desc.outField") (d := Rows.laid_portreeve_desc_outField) (by simp [Rows.trailWalksRow]))
  have h2 := pair_of_reads (g := 2) (by kernel_rfl) (by kernel_rfl) (Lib.laidMet.reads h (n := "portreeve/desc.attrField") (d := Rows.laid_portreeve_desc_attrField) (by simp [Rows.trailWalksRow]))
  have h3 := pair_of_reads (g := 0) (by kernel_rfl) (by kernel_rfl) (Lib.laidMet.reads h (n := "portreeve/trail.tableField") (d := Rows.laid_portreeve_trail_tableField) (by simp [Rows.trailWalksRow]))
  exact ⟨⟨h1.1, h1.2, h2.1, h2.2⟩, h3.1, h3.2⟩

theorem own : ownKnob Tryd.prog.godebug = none := by kernel_rfl
theorem laidOut : laidOutB Tryd.prog = true := by kernel_rfl

set_option linter.unusedVariables false in
set_option maxRecDepth 100000 in
theorem contract (H : Type) (enc : TypeId × Value → H) (W : World) (base : Nat) (args : Array Value) (ds gs : List (DataW H)) (before : List MemPlace)
    (hval0 : ∀ (j : Nat) t v, Tryd.f4.params[j]? = some t → args[j]? = some v → Value.okWide Tryd.prog W .any base t v)
    (hW : DataW.Whole enc Tryd.prog Tryd.f4.params.toList Rows.trailWalksSpec.vars false W args.toList ds gs before) (hL0 : laidMetH Tryd.prog Rows.trailWalksRow.laid W) :
    Calls Tryd.prog 4 args W fun e W' => ∃ v, e = .returned v ∧ Rows.trailWalksSpec.post enc Tryd.prog Tryd.f4 false true false false W args v W' := by
  have hL := hL0
  rw [MakeChecks.laidMetH_plain _ _ _ (by kernel_rfl)] at hL
  have hval := hval0
  have hW' := hW
  obtain ⟨p, q, hA0, hV, rfl, hfz, hnd⟩ := hW
  have hA : DataW.TrodAll enc Tryd.prog W 0 (fun _ => true) true Tryd.f4.params.toList args.toList ds p := hA0
  rw [Tryd.params4] at hA hval
  obtain ⟨v0, vs0, d0, ds0, p0, q0, hargs, rfl, rfl, h0, r0⟩ := trodAll_cons hA
  obtain ⟨v1, vs1, d1, ds1, p1, q1, rfl, rfl, rfl, h1, r1⟩ := trodAll_cons r0
  obtain ⟨v2, vs2, d2, ds2, p2, q2, rfl, rfl, rfl, h2, r2⟩ := trodAll_cons r1
  obtain ⟨v3, vs3, d3, ds3, p3, q3, rfl, rfl, rfl, h3, r3⟩ := trodAll_cons r2
  obtain ⟨rfl, rfl, rfl⟩ := trodAll_nil r3
  obtain rfl : args = #[v0, v1, v2, v3] := by cases args; simp_all
  obtain ⟨rfl, rfl⟩ := trodVars_none hV
  have k0 := h0
  have lt0 : ∀ x ∈ p0, x.block < W.heap.size := by obtain ⟨m, hm⟩ := k0; exact DataW.trod_lt m _ _ _ hm
  have k1 := h1
  have lt1 : ∀ x ∈ p1, x.block < W.heap.size := by obtain ⟨m, hm⟩ := k1; exact DataW.trod_lt m _ _ _ hm
  have k2 := h2
  have lt2 : ∀ x ∈ p2, x.block < W.heap.size := by obtain ⟨m, hm⟩ := k2; exact DataW.trod_lt m _ _ _ hm
  have k3 := h3
  have lt3 : ∀ x ∈ p3, x.block < W.heap.size := by obtain ⟨m, hm⟩ := k3; exact DataW.trod_lt m _ _ _ hm
  obtain ⟨ad0, n0, cap0, A0, V0, rfl, mx0, ho0⟩ := open_steps (hval 0 32 v0 rfl rfl) h0
  obtain ⟨a1, rfl, _, _, w1⟩ := open_int Tryd.underlying29 (hval 1 29 v1 rfl rfl) h1
  obtain ⟨x1, rfl⟩ := Int.eq_ofNat_of_zero_le (bounds_u64 w1).1
  have b1 : x1 < 18446744073709551616 := by have := (bounds_u64 w1).2; omega
  obtain ⟨ad2, n2, cap2, U2, rfl, mx2, ho2⟩ := open_words (hval 2 41 v2 rfl rfl) h2
  obtain ⟨a3, rfl, _, _, w3⟩ := open_int Tryd.underlying29 (hval 3 29 v3 rfl rfl) h3
  obtain ⟨x3, rfl⟩ := Int.eq_ofNat_of_zero_le (bounds_u64 w3).1
  have b3 : x3 < 18446744073709551616 := by have := (bounds_u64 w3).2; omega
  clear hA0 hval0
  refine (walk ad0 n0 cap0 A0 V0 x1 ad2 n2 cap2 U2 x3 W mx0 ho0 b1 mx2 ho2 b3 (met hL)).mono fun e W' ⟨he, bel⟩ => ?_
  subst he
  exact ⟨_, rfl, _, _, _, [], _, [], hW', trodAll_mk1 (shut_bool Tryd.underlying4 _), (trodAll_cons_mk (Below.trod laidOut (by kernel_rfl) (of_decide_eq_true (by kernel_rfl)) k0 bel lt0) (trodAll_cons_mk (Below.trod laidOut (by kernel_rfl) (of_decide_eq_true (by kernel_rfl)) k1 bel lt1) (trodAll_cons_mk (Below.trod laidOut (by kernel_rfl) (of_decide_eq_true (by kernel_rfl)) k2 bel lt2) (trodAll_cons_mk (Below.trod laidOut (by kernel_rfl) (of_decide_eq_true (by kernel_rfl)) k3 bel lt3) trodAll_mk0)))), rfl, bel.frame _, fun h => by cases h⟩

theorem laid_met (os : Os) : laidMet Tryd.prog Rows.trailWalksRow.laid ((World.laidAll Tryd.prog os Rows.trailWalksRow.laid).forCall (fun _ _ => 0) ⟨#[], #[.slice none 0 0, .int .u64 0, .slice none 0 0, .int .u64 0], []⟩).memory :=
  laidMet_laidAll _ (by kernel_rfl) (by kernel_rfl)
theorem reads (os : Os) {H : Type} (enc : TypeId × Value → H) : ∃ places, DataW.whole enc Tryd.prog ((World.laidAll Tryd.prog os Rows.trailWalksRow.laid).forCall (fun _ _ => 0) ⟨#[], #[.slice none 0 0, .int .u64 0, .slice none 0 0, .int .u64 0], []⟩).memory Tryd.f4.params.toList Rows.trailWalksSpec.vars false (#[.slice none 0 0, .int .u64 0, .slice none 0 0, .int .u64 0] : Array Value).toList 8 = some ([.nil, .lit (.int .u64 0), .nil, .lit (.int .u64 0)], [], places) :=
  ⟨[], by kernel_rfl⟩

set_option maxRecDepth 100000 in
theorem lifted (os : Os) (started : os.Started) (H : Type) (enc : TypeId × Value → H) (F : Stop.Interp) :
    ReturnsInHanded {} Tryd.checked os 4 .any ((OpenSpec.ofChange Rows.trailWalksSpec).preRow enc Tryd.prog Tryd.f4 Rows.trailWalksRow.domain false Rows.trailWalksRow.laid) (((OpenSpec.ofChange Rows.trailWalksSpec).at F).post enc Tryd.prog Tryd.f4 false true false false) := by
  obtain ⟨places, hx⟩ := reads os enc
  refine returnsInHanded_of_row (C := Tryd.checked) (s := (OpenSpec.ofChange Rows.trailWalksSpec)) own started (by kernel_rfl) Tryd.func4
    (witness_row_at (enc := enc) (C := Tryd.checked) false (World.laidAll Tryd.prog os Rows.trailWalksRow.laid) #[.slice none 0 0, .int .u64 0, .slice none 0 0, .int .u64 0] (World.laidAll_os _ _ _) (by kernel_rfl) (by kernel_rfl) (by kernel_rfl)
      (OpenSpec.preRow_of_cond 8 hx (by kernel_rfl) (fun k hk => by cases hk) (by kernel_rfl) (laid_met os))) ?_
  intro W base args ds gs before hval hW _ _ _ hL _ _
  exact contract H enc W base args ds gs before hval hW hL

theorem said : Rows.TrailWalksSaid :=
  OpenClaim.holds_of_cond 4 Tryd.f4 rfl rfl rfl rfl rfl rfl rfl ⟨rfl, rfl, rfl, rfl, rfl⟩ rfl rfl rfl rfl rfl (by kernel_rfl) Tryd.func4 (by kernel_rfl)
    (of_decide_eq_true (by kernel_rfl)) (by unfold Func.isWrapper; first | (rw [if_pos (by decide +kernel)]; kernel_rfl) | (rw [if_neg (by decide +kernel)]; exact ⟨rfl, rfl⟩))
    (fun os started H enc _ F => by rw [OpenClaim.pre_eq_preRow]; exact lifted os started H enc F)

theorem plain (f : FuncId) (fn : Func) (hf : Tryd.pinned.checked.prog.funcNamed "portreeve/portreevelaw08.TrailWalks" = some f) (hfn : Tryd.pinned.checked.prog.funcs[f]? = some fn) :
    false = Tryd.pinned.checked.prog.looks [] ∧ ∀ (j : Nat) t, fn.params[j]? = some t → Tryd.pinned.checked.prog.wantsStandIn t = false := by
  obtain rfl : f = 4 := Option.some.inj ((show Tryd.prog.funcNamed "portreeve/portreevelaw08.TrailWalks" = some 4 by kernel_rfl).symm.trans hf) |>.symm
  obtain rfl : fn = Tryd.f4 := (Option.some.inj (Tryd.func4.symm.trans hfn)).symm
  refine ⟨by kernel_rfl, fun j t ht => ?_⟩
  rw [Tryd.params4] at ht
  have hm : t ∈ [32, 29, 41, 29] := by simpa using Array.mem_of_getElem? ht
  have hall : ([32, 29, 41, 29].all fun u => !Tryd.prog.wantsStandIn u) = true := by kernel_rfl
  exact (show Tryd.prog.wantsStandIn t = false by simpa using List.all_eq_true.1 hall t hm)

theorem card : Rows.TrailWalksCardSaid :=
  Claim7.holds_tied_plain_at .later [] _ _ _ _ said (fun _ h => by cases h) (by kernel_rfl) (fun _ h => by cases h) trailWalks_row_tie rfl ⟨rfl, rfl⟩ (by kernel_rfl) rfl plain (by kernel_rfl)

end Go.Proofs.YtdpcbdbdacjcbaaDoor.TR.trailWalks
