/- The search for all leaves: what is found is just what walks come to. -/
import Derived.Test.YtjhplcpaaghleaaDoorAllG
namespace Go.Proofs.YtjhplcpaaghleaaDoor

/-! ### within to the end -/
theorem wordS_in {S : Nat} {most l : Int} {sub : Nat → Nat → SSt → Bool × SSt} {x va : Nat} {st : SSt} (hs : ∀ tb va st, inB most st = true → (sub tb va st).1 = true → inB most (sub tb va st).2 = true) (h : inB most st = true) (h1 : (wordS S most l sub x va st).1 = true) : inB most (wordS S most l sub x va st).2 = true := by
  unfold wordS at h1 ⊢
  split at h1
  · rename_i c; rw [if_pos c]; exact h
  · rename_i c
    rw [if_neg c]
    split at h1
    · rename_i c2
      rw [if_pos c2]
      split at h1
      · rename_i c3; rw [if_pos c3]; exact hs _ _ _ c3 h1
      · cases h1
    · rename_i c2; rw [if_neg c2]; exact h1
theorem rowS_in {most : Int} {g : Nat → SSt → Bool × SSt} (hg : ∀ i st, inB most st = true → (g i st).1 = true → inB most (g i st).2 = true) : ∀ (m i : Nat) (st : SSt), inB most st = true → (rowS g m i st).1 = true → inB most (rowS g m i st).2 = true
  | 0, i, st, h, _ => h
  | m + 1, i, st, h, h1 => by
    cases hb : (g i st).1
    · rw [rowS_no hb] at h1; cases h1
    · rw [rowS_yes hb] at h1 ⊢
      exact rowS_in hg m (i + 1) _ (hg i st h hb) h1
theorem tblS_in (S : Nat) (f : Nat → Nat) (most : Int) : ∀ (k tb va : Nat) (st : SSt), inB most st = true → (tblS S f most k tb va st).1 = true → inB most (tblS S f most k tb va st).2 = true := by
  intro k
  induction k with
  | zero =>
    intro tb va st h h1
    rw [tblS_eq] at h1 ⊢
    split at h1
    · rename_i c; rw [if_pos c]; exact h
    · rename_i c
      rw [if_neg c]
      exact rowS_in (fun i s q1 q2 => wordS_in (fun _ _ _ q _ => q) q1 q2) 512 0 st h h1
  | succ k ih =>
    intro tb va st h h1
    rw [tblS_eq] at h1 ⊢
    split at h1
    · rename_i c; rw [if_pos c]; exact h
    · rename_i c
      rw [if_neg c]
      exact rowS_in (fun i s q1 q2 => wordS_in (fun tb va s q q' => ih tb va s q q') q1 q2) 512 0 st h h1

/-! ### what is found -/
abbrev ML := List (Nat × Int × Nat)
structure GoodW (lo hi : Nat) (res : Nat → Int × Int × Nat) (M : ML) : Prop where
  a : ∀ q ∈ M, lo ≤ q.1 ∧ q.1 + 2 ^ lowK q.2.1 ≤ hi ∧ q.1 % 2 ^ lowK q.2.1 = 0 ∧ res q.1 = (0, q.2.1, q.2.2)
  b : M.Pairwise (fun p q => p.1 < q.1)
  c : ∀ u l x, lo ≤ u → u < hi → res u = (0, l, x) → (u / 2 ^ lowK l * 2 ^ lowK l, l, x) ∈ M

theorem GoodW.none {lo hi : Nat} {res : Nat → Int × Int × Nat} (h : ∀ u, lo ≤ u → u < hi → (res u).1 ≠ 0) : GoodW lo hi res [] :=
  ⟨fun q hq => (by cases hq), List.Pairwise.nil, fun u l x h1 h2 h3 => absurd (congrArg Prod.fst h3) (h u h1 h2)⟩
theorem GoodW.app {lo mid hi : Nat} {res : Nat → Int × Int × Nat} {M N : ML} (h : GoodW lo mid res M) (k : GoodW mid hi res N) (h1 : lo ≤ mid) (h2 : mid ≤ hi) : GoodW lo hi res (M ++ N) := by
  refine ⟨fun q hq => ?_, ?_, fun u l x g1 g2 g3 => ?_⟩
  · rcases List.mem_append.1 hq with hq | hq
    · obtain ⟨q1, q2, q3⟩ := h.a q hq; exact ⟨q1, by omega, q3⟩
    · obtain ⟨q1, q2, q3⟩ := k.a q hq; exact ⟨by omega, q2, q3⟩
  · rw [List.pairwise_append]
    refine ⟨h.b, k.b, fun p hp q hq => ?_⟩
    have := (h.a p hp).2.1
    have := (k.a q hq).1
    have := Nat.two_pow_pos (lowK p.2.1)
    omega
  · by_cases hu : u < mid
    · exact List.mem_append.2 (Or.inl (h.c u l x g1 hu g3))
    · exact List.mem_append.2 (Or.inr (k.c u l x (by omega) g2 g3))
theorem GoodW.congr {lo hi : Nat} {res res' : Nat → Int × Int × Nat} {M : ML} (h : GoodW lo hi res M) (hr : ∀ u, lo ≤ u → u < hi → res' u = res u) : GoodW lo hi res' M := by
  refine ⟨fun q hq => ?_, h.b, fun u l x g1 g2 g3 => h.c u l x g1 g2 (by rw [← hr u g1 g2]; exact g3)⟩
  obtain ⟨q1, q2, q3, q4⟩ := h.a q hq
  have := Nat.two_pow_pos (lowK q.2.1)
  exact ⟨q1, q2, q3, by rw [hr q.1 q1 (by omega)]; exact q4⟩
theorem GoodW.one {lo : Nat} {l : Int} {x : Nat} (hm : lo % 2 ^ lowK l = 0) : GoodW lo (lo + 2 ^ lowK l) (fun _ => (0, l, x)) [(lo, l, x)] := by
  refine ⟨fun q hq => ?_, List.pairwise_singleton _ _, fun u l' x' g1 g2 g3 => ?_⟩
  · obtain rfl := List.mem_singleton.1 hq
    exact ⟨Nat.le_refl _, Nat.le_refl _, hm, rfl⟩
  · have e1 := congrArg (fun q => q.2.1) g3
    have e2 := congrArg (fun q => q.2.2) g3
    simp only at e1 e2
    subst e1 e2
    have hp := Nat.two_pow_pos (lowK l)
    generalize 2 ^ lowK l = B at *
    have h1 : u / B * B = lo := by
      obtain ⟨c, rfl⟩ := Nat.dvd_of_mod_eq_zero hm
      have : u / B = c := by
        apply Nat.div_eq_of_lt_le
        · rw [Nat.mul_comm]; exact g1
        · rw [Nat.succ_mul, Nat.mul_comm]; exact g2
      rw [this, Nat.mul_comm]
    rw [h1]
    exact List.mem_singleton.2 rfl

theorem row_good {va B : Nat} {res : Nat → Int × Int × Nat} {g : Nat → SSt → Bool × SSt} (hg : ∀ i st, i < 512 → (g i st).1 = true → ∃ M, (g i st).2.2 = st.2 ++ M ∧ GoodW (va + i * B) (va + (i + 1) * B) res M) :
    ∀ (m i : Nat) (st : SSt), i + m = 512 → (rowS g m i st).1 = true → ∃ M, (rowS g m i st).2.2 = st.2 ++ M ∧ GoodW (va + i * B) (va + 512 * B) res M
  | 0, i, st, hi, _ => by
    obtain rfl : i = 512 := by omega
    exact ⟨[], by show st.2 = _; rw [List.append_nil], GoodW.none (fun u h1 h2 => by omega)⟩
  | m + 1, i, st, hi, h1 => by
    cases hb : (g i st).1
    · rw [rowS_no hb] at h1; cases h1
    · rw [rowS_yes hb] at h1 ⊢
      obtain ⟨M, e1, g1⟩ := hg i st (by omega) hb
      obtain ⟨N, e2, g2⟩ := row_good hg m (i + 1) _ (by omega) h1
      have q1 : va + i * B ≤ va + (i + 1) * B := by rw [Nat.succ_mul]; omega
      have q2 : va + (i + 1) * B ≤ va + 512 * B := Nat.add_le_add_left (Nat.mul_le_mul_right _ (by omega)) _
      exact ⟨M ++ N, by rw [e2, e1, List.append_assoc], g1.app g2 q1 q2⟩

/-- The index of an address of a word's stretch. -/
theorem idx_at {va u i : Nat} {l : Int} (hm : va % (512 * 2 ^ lowK l) = 0) (hi : i < 512) (h1 : va + i * 2 ^ lowK l ≤ u) (h2 : u < va + (i + 1) * 2 ^ lowK l) : idxN u l = i := by
  unfold idxN
  have hp := Nat.two_pow_pos (lowK l)
  generalize 2 ^ lowK l = B at *
  obtain ⟨c, rfl⟩ := Nat.dvd_of_mod_eq_zero hm
  have : u / B = 512 * c + i := by
    apply Nat.div_eq_of_lt_le
    · rw [Nat.add_mul]
      have : 512 * B * c = 512 * c * B := by rw [Nat.mul_assoc, Nat.mul_comm B c, ← Nat.mul_assoc]
      omega
    · have e : (512 * c + i + 1) * B = 512 * B * c + (i + 1) * B := by
        rw [Nat.add_assoc, Nat.add_mul, Nat.mul_assoc 512 c B, Nat.mul_comm c B, ← Nat.mul_assoc]
      rw [e]; exact h2
  rw [this]; omega
end Go.Proofs.YtjhplcpaaghleaaDoor
