/- Addresses of one stretch: walks of them are the same. -/
import Derived.Test.YtdpcbdbdacjcbaaDoorWalkT
namespace Go.Proofs.YtdpcbdbdacjcbaaDoor

theorem wk_level {S : Nat} {f : Nat → Nat} {va : Nat} {l : Int} {x : Nat} : ∀ {k tb : Nat}, k ≤ 4 → (wk S f va k tb).2 = (0, l, x) → (4 : Int) - k ≤ l ∧ l ≤ 3 ∧ mf S l x = 0 ∧ rdK l x ≠ 1
  | 0, tb, _, h => by unfold wk at h; exact absurd (congrArg Prod.fst h) (show ¬ (1 : Int) = 0 by decide)
  | k + 1, tb, hk, h => by
    by_cases he : errA S (tb + 8 * idxN va (3 - k)) = 0
    · by_cases hm : mf S (3 - k) (f (tb + 8 * idxN va (3 - k))) = 0
      · by_cases hr : rdK (3 - k) (f (tb + 8 * idxN va (3 - k))) = 1
        · rw [wk_table rfl rfl he hm hr] at h
          obtain ⟨h1, h2⟩ := wk_level (k := k) (by omega) h
          exact ⟨by omega, h2⟩
        · rw [wk_leaf rfl rfl he hm hr] at h
          have e1 := congrArg (fun q => q.2.1) h
          have e2 := congrArg (fun q => q.2.2) h
          simp only at e1 e2
          subst e1
          rw [e2] at hm hr
          exact ⟨by omega, by omega, hm, hr⟩
      · rw [wk_fault rfl rfl he hm] at h
        exact absurd (congrArg Prod.fst h) hm
    · rw [wk_err rfl rfl he] at h
      exact absurd (congrArg Prod.fst h) (show ¬ (4 : Int) = 0 by decide)

theorem wk_same {S : Nat} {f : Nat → Nat} {va vb : Nat} {l : Int} {x : Nat} (hi : ∀ l', 0 ≤ l' → l' ≤ l → idxN va l' = idxN vb l') : ∀ {k tb : Nat}, k ≤ 4 → (wk S f va k tb).2 = (0, l, x) → wk S f vb k tb = wk S f va k tb
  | 0, tb, _, h => by unfold wk; rfl
  | k + 1, tb, hk, h => by
    have hl := (wk_level hk h).1
    have e := hi (3 - k) (by omega) (by omega)
    by_cases he : errA S (tb + 8 * idxN va (3 - k)) = 0
    · by_cases hm : mf S (3 - k) (f (tb + 8 * idxN va (3 - k))) = 0
      · by_cases hr : rdK (3 - k) (f (tb + 8 * idxN va (3 - k))) = 1
        · have hq := h
          rw [wk_table rfl rfl he hm hr] at hq
          have ih := wk_same hi (k := k) (by omega) hq
          rw [wk_table rfl rfl he hm hr, wk_table rfl (by rw [e]) he hm hr, ih]
        · rw [wk_leaf rfl rfl he hm hr, wk_leaf rfl (by rw [e]) he hm hr]
      · rw [wk_fault rfl rfl he hm, wk_fault rfl (by rw [e]) he hm]
    · rw [wk_err rfl rfl he, wk_err rfl (by rw [e]) he]

/-- What a leaf's walk says of the leaf. -/
theorem wk0_leaf {S : Nat} {f : Nat → Nat} {tb va : Nat} {l l0 : Int} {x : Nat} (h : (wk0 S f l0 tb va).2 = (0, l, x)) : isLv l0 = true ∧ tb % 4096 = 0 ∧ va < 281474976710656 ∧ l0 ≤ l ∧ isLv l = true ∧ mf S l x = 0 ∧ rdK l x ≠ 1 := by
  unfold wk0 at h
  split at h
  · rename_i hc
    have h4 := isLv_of hc.1
    have := wk_level (by omega) h
    exact ⟨hc.1, hc.2.1, hc.2.2, by omega, decide_eq_true (by omega), this.2.2⟩
  · exact absurd (congrArg Prod.fst h) (show ¬ (1 : Int) = 0 by decide)

theorem mf_holds {S : Nat} {l : Int} {x : Nat} (hm : mf S l x = 0) (hk : rdK l x ≠ 1) : rdO x + 2 ^ lowK l ≤ S := by
  unfold mf at hm
  split at hm
  · cases hm
  · split at hm
    · cases hm
    · split at hm
      · cases hm
      · rename_i _ _ c
        apply Classical.byContradiction
        intro h
        exact c ⟨hk, by omega⟩

/-- An address of the stretch of va. -/
def inV (va off : Nat) (l : Int) : Nat := baseV va l ||| offV off l

theorem inV_eq {va off : Nat} {l : Int} (hl : isLv l = true) (hv : va < 281474976710656) : inV va off l = va / 2 ^ lowK l * 2 ^ lowK l + off % 2 ^ lowK l := by
  unfold inV baseV offV baseN
  rw [if_pos hl, if_pos hl, Nat.mod_eq_of_lt hv, Nat.mul_comm, Nat.two_pow_add_eq_or_of_lt (Nat.mod_lt _ (Nat.two_pow_pos _))]

theorem inV_div {va off : Nat} {l : Int} (hl : isLv l = true) (hv : va < 281474976710656) : inV va off l / 2 ^ lowK l = va / 2 ^ lowK l := by
  rw [inV_eq hl hv, Nat.mul_comm, Nat.mul_add_div (Nat.two_pow_pos _), Nat.div_eq_of_lt (Nat.mod_lt _ (Nat.two_pow_pos _)), Nat.add_zero]
theorem inV_off {va off : Nat} {l : Int} (hl : isLv l = true) (hv : va < 281474976710656) : offV (inV va off l) l = offV off l := by
  unfold offV
  rw [if_pos hl, if_pos hl, inV_eq hl hv, Nat.mul_comm, Nat.mul_add_mod, Nat.mod_mod]
theorem lowK_val {l : Int} (hl : isLv l = true) : (lowK l : Int) = 39 - 9 * l := (lowK_eq hl).2.2.2
theorem div_mono {va vb n m : Nat} (h : vb / 2 ^ n = va / 2 ^ n) (hnm : n ≤ m) : vb / 2 ^ m = va / 2 ^ m := by
  obtain ⟨d, rfl⟩ := Nat.exists_eq_add_of_le hnm
  rw [Nat.pow_add, ← Nat.div_div_eq_div_mul, ← Nat.div_div_eq_div_mul, h]
theorem inV_low {va off : Nat} {l : Int} (hl : isLv l = true) (hv : va < 281474976710656) : inV va off l < 281474976710656 := by
  have h1 := inV_div (off := off) hl hv
  have h2 := lowK_eq hl
  have h3 : inV va off l / 2 ^ 48 = va / 2 ^ 48 := div_mono h1 (by omega)
  have h4 : va / 2 ^ 48 = 0 := Nat.div_eq_of_lt hv
  rw [h4] at h3
  have := Nat.lt_of_div_eq_zero (Nat.two_pow_pos 48) h3
  exact this
theorem idx_of_div {va vb : Nat} {l l' : Int} (hl : isLv l = true) (h0 : 0 ≤ l') (hle : l' ≤ l) (h : vb / 2 ^ lowK l = va / 2 ^ lowK l) : idxN va l' = idxN vb l' := by
  have h1 := lowK_val hl
  have h2 := isLv_of hl
  have h3 := lowK_val (l := l') (decide_eq_true (by omega))
  unfold idxN
  rw [div_mono h (show lowK l ≤ lowK l' by omega)]
theorem stretch_same {S : Nat} {f : Nat → Nat} {tb va vb : Nat} {l : Int} {x : Nat} (h : (wk0 S f 0 tb va).2 = (0, l, x)) (hd : vb / 2 ^ lowK l = va / 2 ^ lowK l) (hv : vb < 281474976710656) : wk0 S f 0 tb vb = wk0 S f 0 tb va := by
  obtain ⟨h0, ht, hva, _, hl, _⟩ := wk0_leaf h
  unfold wk0 at h ⊢
  rw [if_pos ⟨h0, ht, hva⟩] at h
  rw [if_pos ⟨h0, ht, hv⟩, if_pos ⟨h0, ht, hva⟩]
  exact wk_same (fun l' h1 h2 => idx_of_div hl h1 h2 hd) (by decide) h
end Go.Proofs.YtdpcbdbdacjcbaaDoor
