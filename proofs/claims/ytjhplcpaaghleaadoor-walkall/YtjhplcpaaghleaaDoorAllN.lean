/- The search for all leaves: table by table. -/
import Derived.Test.YtjhplcpaaghleaaDoorAllM
namespace Go.Proofs.YtjhplcpaaghleaaDoor

theorem tbl_step {S : Nat} {f : Nat → Nat} {most : Int} (hS : S % 4096 = 0) (k tb va : Nat) (st : SSt) (l : Int) (hl : l = 3 - (k : Int)) (htm : tb % 4096 = 0) (hva : va % (512 * 2 ^ lowK l) = 0) (he : errA S tb = 0) (sub : Nat → Nat → SSt → Bool × SSt)
    (hsub : ∀ (x va' : Nat) (st' : SSt), rdK l x = 1 → va' % 2 ^ lowK l = 0 → (sub (rdO x) va' st').1 = true → ∃ M, (sub (rdO x) va' st').2.2 = st'.2 ++ M ∧ GoodW va' (va' + 2 ^ lowK l) (fun u => (wk S f u k (rdO x)).2) M)
    (h1 : (rowS (fun i st => wordS S most l sub (f (tb + 8 * i)) (va + i * 2 ^ lowK l) st) 512 0 st).1 = true) :
    ∃ M, (rowS (fun i st => wordS S most l sub (f (tb + 8 * i)) (va + i * 2 ^ lowK l) st) 512 0 st).2.2 = st.2 ++ M ∧ GoodW va (va + 512 * 2 ^ lowK l) (fun u => (wk S f u (k + 1) tb).2) M := by
  have key := row_good (va := va) (B := 2 ^ lowK l) (res := fun u => (wk S f u (k + 1) tb).2) (g := fun i st => wordS S most l sub (f (tb + 8 * i)) (va + i * 2 ^ lowK l) st) ?_ 512 0 st rfl h1
  · rw [Nat.zero_mul, Nat.add_zero] at key
    exact key
  · intro i s hi hw
    have hv : (va + i * 2 ^ lowK l) % 2 ^ lowK l = 0 := by
      obtain ⟨c, rfl⟩ := Nat.dvd_of_mod_eq_zero hva
      rw [show 512 * 2 ^ lowK l * c + i * 2 ^ lowK l = (512 * c + i) * 2 ^ lowK l by rw [Nat.add_mul, Nat.mul_assoc, Nat.mul_comm (2 ^ lowK l) c, ← Nat.mul_assoc]]
      exact Nat.mul_mod_left _ _
    have hend : va + (i + 1) * 2 ^ lowK l = va + i * 2 ^ lowK l + 2 ^ lowK l := by rw [Nat.succ_mul]; omega
    have hidx : ∀ u, va + i * 2 ^ lowK l ≤ u → u < va + (i + 1) * 2 ^ lowK l → tb + 8 * i = tb + 8 * idxN u l := fun u g1 g2 => by rw [idx_at hva hi g1 g2]
    have hei : errA S (tb + 8 * i) = 0 := (err_row hS htm hi).2 he
    generalize hx : f (tb + 8 * i) = x at hw ⊢
    try simp only at hw ⊢
    unfold wordS at hw ⊢
    by_cases hm1 : mf S l x = 1
    · rw [if_pos hm1]
      refine ⟨[], by rw [List.append_nil], GoodW.none (fun u g1 g2 => ?_)⟩
      try simp only
      rw [wk_fault hl (hidx u g1 g2) hei (by rw [hx, hm1]; decide), hx, hm1]
      show (1 : Int) ≠ 0
      decide
    · rw [if_neg hm1] at hw ⊢
      by_cases ht : mf S l x = 0 ∧ rdK l x = 1
      · rw [if_pos ht] at hw ⊢
        have hlk : (lookS S l x (va + i * 2 ^ lowK l) s).2 = s.2 := by unfold lookS; rw [if_neg (fun c => c.2 ht.2)]
        by_cases hb : inB most (lookS S l x (va + i * 2 ^ lowK l) s) = true
        · rw [if_pos hb] at hw ⊢
          obtain ⟨M, e1, g1⟩ := hsub x _ _ ht.2 hv hw
          refine ⟨M, by rw [e1, hlk], ?_⟩
          rw [hend]
          refine g1.congr (fun u q1 q2 => ?_)
          try simp only
          rw [wk_table hl (hidx u q1 (by rw [hend]; exact q2)) hei (by rw [hx]; exact ht.1) (by rw [hx]; exact ht.2), hx]
        · rw [if_neg hb] at hw
          cases hw
      · rw [if_neg ht] at hw ⊢
        by_cases hm0 : mf S l x = 0
        · have hk : rdK l x ≠ 1 := fun c => ht ⟨hm0, c⟩
          refine ⟨[(va + i * 2 ^ lowK l, l, x)], by show (lookS S l x (va + i * 2 ^ lowK l) s).2 = _; unfold lookS; rw [if_pos ⟨hm0, hk⟩], ?_⟩
          rw [hend]
          refine (GoodW.one hv).congr (fun u q1 q2 => ?_)
          try simp only
          rw [wk_leaf hl (hidx u q1 (by rw [hend]; exact q2)) hei (by rw [hx]; exact hm0) (by rw [hx]; exact hk), hx]
        · refine ⟨[], by show (lookS S l x (va + i * 2 ^ lowK l) s).2 = _; unfold lookS; rw [if_neg (fun c => hm0 c.1), List.append_nil], GoodW.none (fun u g1 g2 => ?_)⟩
          try simp only
          rw [wk_fault hl (hidx u g1 g2) hei (by rw [hx]; exact hm0), hx]
          exact hm0

theorem tbl_good {S : Nat} {f : Nat → Nat} {most : Int} (hS : S % 4096 = 0) : ∀ (k tb va : Nat) (st : SSt), k ≤ 3 → tb % 4096 = 0 → va % (512 * 2 ^ lowK (3 - (k : Int))) = 0 → (tblS S f most k tb va st).1 = true →
    ∃ M, (tblS S f most k tb va st).2.2 = st.2 ++ M ∧ GoodW va (va + 512 * 2 ^ lowK (3 - (k : Int))) (fun u => (wk S f u (k + 1) tb).2) M := by
  have herr : ∀ (k tb va hi : Nat), tb % 4096 = 0 → errA S tb ≠ 0 → GoodW va hi (fun u => (wk S f u (k + 1) tb).2) [] := fun k tb va hi htm he => GoodW.none (fun u _ _ => by
    try simp only
    rw [wk_err rfl rfl (fun c => he ((err_row hS htm (idxN_lt u (3 - (k : Int)))).1 c))]
    show (4 : Int) ≠ 0
    decide)
  intro k
  induction k with
  | zero =>
    intro tb va st hk htm hva h1
    rw [tblS_eq] at h1 ⊢
    by_cases he : errA S tb = 0
    · rw [if_neg (fun c => c he)] at h1 ⊢
      exact tbl_step hS 0 tb va st _ rfl htm hva he _ (fun x _ _ c _ _ => absurd c (rdK_deep x)) h1
    · rw [if_pos he] at h1 ⊢
      exact ⟨[], by rw [List.append_nil], herr _ _ _ _ htm he⟩
  | succ k ih =>
    intro tb va st hk htm hva h1
    rw [tblS_eq] at h1 ⊢
    by_cases he : errA S tb = 0
    · rw [if_neg (fun c => c he)] at h1 ⊢
      refine tbl_step hS (k + 1) tb va st _ rfl htm hva he _ ?_ h1
      intro x va' st' _ hv ht
      have hlv : isLv (3 - ((k + 1 : Nat) : Int)) = true := decide_eq_true (by omega)
      have hlv2 : isLv (3 - (k : Int)) = true := decide_eq_true (by omega)
      have hv1 := lowK_val hlv
      have hv2 := lowK_val hlv2
      have hp : 512 * 2 ^ lowK (3 - (k : Int)) = 2 ^ lowK (3 - ((k + 1 : Nat) : Int)) := by
        have : lowK (3 - ((k + 1 : Nat) : Int)) = lowK (3 - (k : Int)) + 9 := by omega
        rw [this, Nat.pow_add, Nat.mul_comm]
      have := ih (rdO x) va' st' (by omega) (rdO_mod x) (by rw [hp]; exact hv) ht
      rw [hp] at this
      exact this
    · rw [if_pos he] at h1 ⊢
      exact ⟨[], by rw [List.append_nil], herr _ _ _ _ htm he⟩

/-- WHAT All's LEAVES ARE. -/
theorem all_good {S : Nat} {f : Nat → Nat} {most : Int} {root : Nat} {L : ML} (hS : S % 4096 = 0) (h : allR S f most root = some L) :
    GoodW 0 281474976710656 (fun u => (wk0 S f 0 root u).2) L ∧ (L.length : Int) ≤ most := by
  unfold allR at h
  split at h
  · cases h
  · rename_i hin
    have hin' : inB most (0, []) = true := by simpa using hin
    split at h
    · rename_i hit
      obtain rfl := (Option.some.inj h)
      refine ⟨GoodW.none (fun u _ _ => ?_), (inB_le hin').1⟩
      have : ¬ (isLv 0 = true ∧ root % 4096 = 0 ∧ u < 281474976710656) := fun c => by
        unfold isTab at hit
        rw [c.1, Bool.true_and] at hit
        exact of_decide_eq_false hit c.2.1
      try simp only
      rw [show wk0 S f 0 root u = ([], 1, 0, 0) from if_neg this]
      show (1 : Int) ≠ 0
      decide
    · rename_i hit
      have hit' : isTab 0 root = true := by simpa using hit
      unfold isTab at hit'
      rw [Bool.and_eq_true] at hit'
      have htm : root % 4096 = 0 := of_decide_eq_true hit'.2
      split at h
      · rename_i hT
        obtain rfl := (Option.some.inj h)
        have h3 := tblS_in S f most 3 root 0 (0, []) hin' hT
        obtain ⟨M, e, g⟩ := tbl_good (f := f) hS 3 root 0 (0, []) (by decide) htm (by decide) hT
        rw [e, List.nil_append]
        refine ⟨?_, by have := (inB_le h3).1; rw [e, List.nil_append] at this; exact this⟩
        have e2 : 0 + 512 * 2 ^ lowK (3 - ((3 : Nat) : Int)) = 281474976710656 := by decide
        rw [e2] at g
        refine g.congr (fun u _ g2 => ?_)
        try simp only
        rw [show wk0 S f 0 root u = wk S f u 4 root from if_pos ⟨by decide, htm, g2⟩]
      · cases h
end Go.Proofs.YtjhplcpaaghleaaDoor
