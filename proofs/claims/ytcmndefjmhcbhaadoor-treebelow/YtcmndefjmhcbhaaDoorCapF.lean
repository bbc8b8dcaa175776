/- Capabilities, sixth part: the program's Right and the document's are one. -/
import Derived.Test.YtcmndefjmhcbhaaDoorCapE
set_option linter.unusedVariables false
set_option linter.unusedSimpArgs false
namespace Go.Proofs.YtcmndefjmhcbhaaDoor
open Go.RowKit

theorem aligned_mod (x : Nat) {k : Nat} (h1 : 1 ≤ k) (h2 : k < 64) : alignedB x (k : Int) = decide (x % 2 ^ k = 0) := by
  rw [alignedB, and_mid _ _ h1 h2, Bool.eq_iff_iff]; simp
theorem ra_in (a n : Nat) (h0 : 5 ≤ n) (h1 : n ≤ 32) : raB a n = inM a n := by
  have hp0 : 0 < 2 ^ n := Nat.two_pow_pos n
  have hp1 : 2 ^ n ≤ 2 ^ 32 := Nat.pow_le_pow_right (by omega) h1
  unfold raB inM
  rw [aligned_mod a (by omega) (by omega), Bool.eq_iff_iff]
  simp only [Bool.and_eq_true, decide_eq_true_eq]
  generalize 2 ^ n = p at *
  omega
theorem al_five (m : Nat) : alignedB m 5 = al5 m := aligned_mod m (k := 5) (by decide) (by decide)
theorem is_pl {m : Nat} {l : Int} : isB m l = plB m l := by
  unfold plB
  by_cases h : m < 281474976710656
  · rw [decide_eq_true h, Bool.true_and]
  · rw [decide_eq_false h, Bool.false_and]
    have := baseV_lt m l
    unfold isB
    rw [beq_eq_false_iff_ne]
    omega
theorem guard_two {b g : Int} {m : Nat} (h0 : 1 ≤ b) : rgB b g m = mk2 b g 0 m := by
  unfold rgB mk2
  by_cases h1 : 0 ≤ g
  · rw [if_pos h1, if_pos h1]
    by_cases h2 : g ≤ 64 - b
    · rw [if_pos h2, if_pos (by omega), if_pos h2]
      have e : ones g = 2 ^ g.toNat - 1 := by
        unfold ones
        by_cases h3 : g < 1
        · obtain rfl : g = 0 := by omega
          rfl
        · rw [if_neg h3, if_neg (by omega)]
      have hp := Nat.two_pow_pos g.toNat
      unfold ltP
      rw [e, decide_eq_decide]
      omega
    · rw [if_neg h2]
      by_cases h3 : g ≤ 63
      · rw [if_pos h3, if_neg h2]
      · rw [if_neg h3]
  · rw [if_neg h1, if_neg h1]
theorem mk2_s (b g s t : Int) (m : Nat) : mk2 b g s m = mk2 b g t m := rfl
theorem in_three (r : Int) : inV r 3 = decide (0 ≤ r ∧ r ≤ 3) := by
  cases h : rB r
  · have := of_decide_eq_false h
    unfold inV
    rw [h, Bool.false_and, Bool.false_and, eq_comm, decide_eq_false_iff_not]
    omega
  · have := of_decide_eq_true h
    have h8 : r = 0 ∨ r = 1 ∨ r = 2 ∨ r = 3 ∨ r = 4 ∨ r = 5 ∨ r = 6 ∨ r = 7 := by omega
    rcases h8 with rfl | rfl | rfl | rfl | rfl | rfl | rfl | rfl <;> decide
theorem rB_iff (r : Int) : (rB r = true) = (0 ≤ r ∧ r ≤ 7) := by unfold rB; simp
theorem asB_iff (s : Int) : (asB s = true) = (0 ≤ s ∧ s < 4096) := by unfold asB; simp
theorem on_iff (r g s : Int) (m : Nat) (r2 g2 s2 : Int) (m2 : Nat) : (onB r g s m r2 g2 s2 m2 = true) = (r = r2 ∧ g = g2 ∧ s = s2 ∧ m = m2) := by unfold onB; simp
theorem eqCB_iff (k : Int) (a : Nat) (b r g s : Int) (m : Nat) (k2 : Int) (a2 : Nat) (b2 r2 g2 s2 : Int) (m2 : Nat) : (eqCB k a b r g s m k2 a2 b2 r2 g2 s2 m2 = true) = (k = k2 ∧ a = a2 ∧ b = b2 ∧ r = r2 ∧ g = g2 ∧ s = s2 ∧ m = m2) := by unfold eqCB; simp
/-- The way to a 'yes', by the program: the checks one behind the other. -/
theorem c_obj (k : Int) (a : Nat) (b r g s : Int) (m : Nat) (h : hoB k = true) : (cB k a b r g s m = true) = (rbB k b = true ∧ raB a (bitV k b).toNat = true ∧ rrB k b r g s m = true) := by
  unfold cB
  rw [if_pos h]
  cases rbB k b <;> cases raB a (bitV k b).toNat <;> simp
theorem d_all (k : Int) (a : Nat) (b r g s : Int) (m : Nat) : (dB k a b r g s m = true) = (liesB k a b = true ∧ rB r = true ∧ 0 ≤ s ∧ s ≤ 4095 ∧ (r = 0 ∨ k = 3 ∨ (k = 9 ∧ r ≤ 3)) ∧ (s = 0 ∨ k = 3 ∨ k = 4 ∨ k = 5) ∧ mkB k b g s m = true) := by
  unfold dB
  cases liesB k a b <;> cases rB r
  · simp
  · simp
  · simp
  · rw [if_pos rfl, if_pos rfl, eq_iff_iff]
    by_cases h1 : s < 0
    · rw [if_pos h1]; simp; omega
    by_cases h2 : 4095 < s
    · rw [if_neg h1, if_pos h2]; simp; omega
    rw [if_neg h1, if_neg h2]
    have hs0 : 0 ≤ s := by omega
    have hs1 : s ≤ 4095 := by omega
    by_cases h3 : r = 0
    · rw [if_pos h3]
      by_cases h4 : s = 0
      · rw [if_pos h4]; simp [h3, h4, hs0, hs1]
      by_cases h5 : k = 3
      · rw [if_neg h4, if_pos h5]; simp [h3, h5, hs0, hs1]
      by_cases h6 : k = 4
      · rw [if_neg h4, if_neg h5, if_pos h6]; simp [h3, h6, hs0, hs1]
      by_cases h7 : k = 5
      · rw [if_neg h4, if_neg h5, if_neg h6, if_pos h7]; simp [h3, h7, hs0, hs1]
      · rw [if_neg h4, if_neg h5, if_neg h6, if_neg h7]; simp [h3, h4, h5, h6, h7, hs0, hs1]
    · rw [if_neg h3]
      by_cases h5 : k = 3
      · rw [if_pos h5]
        by_cases h4 : s = 0
        · rw [if_pos h4]; simp [h4, h5, hs0, hs1]
        · rw [if_neg h4]; simp [h4, h5, hs0, hs1]
      by_cases h9 : k = 9
      · rw [if_neg h5, if_pos h9]
        by_cases hr : r ≤ 3
        · rw [if_pos hr]
          by_cases h4 : s = 0
          · rw [if_pos h4]; simp [h4, h9, hr, hs0, hs1]
          · rw [if_neg h4]; simp [h3, h4, h9, hr, hs0, hs1]
        · rw [if_neg hr]; simp [h3, h9, hr, hs0, hs1]
      · rw [if_neg h5, if_neg h9]; simp [h3, h5, h9, hs0, hs1]
theorem lies_iff {k : Int} {a : Nat} {b : Int} {n : Nat} (h : szV k b = (n : Int)) : liesB k a b = inM a n := by
  unfold liesB
  rw [h, if_neg (by omega)]; rfl
end Go.Proofs.YtcmndefjmhcbhaaDoor
