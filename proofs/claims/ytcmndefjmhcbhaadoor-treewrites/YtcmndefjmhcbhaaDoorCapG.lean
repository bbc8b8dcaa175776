/- Capabilities: the program's Right is the document's, kind by kind. -/
import Derived.Test.YtcmndefjmhcbhaaDoorCapF
set_option linter.unusedVariables false
set_option linter.unusedSimpArgs false
namespace Go.Proofs.YtcmndefjmhcbhaaDoor
open Go.RowKit

theorem rr1_iff (b r g s : Int) (m : Nat) : (rr1 b r g s m = true) = (r = 0 ∧ g = 0 ∧ s = 0 ∧ leP m b = true ∧ al5 m = true) := by
  unfold rr1; rw [al_five]; simp [on_iff]; grind
theorem rr2_iff (b r g s : Int) (m : Nat) : (rr2 b r g s m = true) = (r = 0 ∧ s = 0 ∧ rgB b g m = true) := by
  unfold rr2; simp [on_iff]; grind
theorem rr3_iff (b r g s : Int) (m : Nat) : (rr3 b r g s m = true) = (g = 0 ∧ rB r = true ∧ rfB b s m = true) := by
  unfold rr3; simp [on_iff]
theorem rr4_iff (b r g s : Int) (m : Nat) : (rr4 b r g s m = true) = (r = 0 ∧ rtB g s m = true) := by
  unfold rr4; simp [on_iff]
theorem rr5_iff (b r g s : Int) (m : Nat) : (rr5 b r g s m = true) = (r = 0 ∧ g = 0 ∧ m = 0 ∧ asB s = true) := by
  unfold rr5; simp [on_iff]; grind
theorem rr7_iff (b r g s : Int) (m : Nat) : (rr7 b r g s m = true) = (r = 0 ∧ g = 0 ∧ s = 0 ∧ m < 8) := by
  unfold rr7; simp [on_iff]; grind
theorem rr8_iff (b r g s : Int) (m : Nat) : (rr8 b r g s m = true) = (r = 0 ∧ g = 0 ∧ s = 0 ∧ m = 0) := by
  unfold rr8; rw [on_iff]
theorem rr9_iff (b r g s : Int) (m : Nat) : (rr9 b r g s m = true) = (g = 0 ∧ s = 0 ∧ 0 ≤ r ∧ r ≤ 3) := by
  unfold rr9; rw [in_three]; simp [on_iff]; grind
theorem rr10_iff (b r g s : Int) (m : Nat) : (rr10 b r g s m = true) = (r = 0 ∧ g = 0 ∧ s = 0 ∧ leP m b = true) := by
  unfold rr10; simp [on_iff]; grind
theorem mk1_iff (b g s : Int) (m : Nat) : (mk1 b g s m = true) = (g = 0 ∧ leP m b = true ∧ al5 m = true) := by
  unfold mk1; simp; grind
theorem mk0_iff (b g s : Int) (m : Nat) : (mk0 b g s m = true) = (g = 0 ∧ m = 0) := by
  unfold mk0; simp
theorem mk7_iff (b g s : Int) (m : Nat) : (mk7 b g s m = true) = (g = 0 ∧ m < 8) := by
  unfold mk7; simp; grind
theorem mk9_iff (b g s : Int) (m : Nat) : (mk9 b g s m = true) = (g = 0) := by
  unfold mk9; simp
theorem mk10_iff (b g s : Int) (m : Nat) : (mk10 b g s m = true) = (g = 0 ∧ leP m b = true) := by
  unfold mk10; simp
theorem rf_iff {b s : Int} {m : Nat} (hb : b = 12 ∨ b = 21 ∨ b = 30) : (rfB b s m = true) = ((s = 0 ∧ m = 0) ∨ (¬ s = 0 ∧ 0 ≤ s ∧ s < 4096 ∧ plB m (if b = 21 then 2 else if b = 30 then 1 else 3) = true)) := by
  unfold rfB
  rw [is_pl]
  have h := asB_iff s
  rcases hb with rfl | rfl | rfl
  · rw [show levV 12 = 3 by decide]; simp only [show ((12 : Int) = 21) = False by decide, show ((12 : Int) = 30) = False by decide, if_false]; by_cases hs : s = 0 <;> simp [hs] <;> grind
  · rw [show levV 21 = 2 by decide]; simp only [if_true]; by_cases hs : s = 0 <;> simp [hs] <;> grind
  · rw [show levV 30 = 1 by decide]; simp only [show ((30 : Int) = 21) = False by decide, if_false, if_true]; by_cases hs : s = 0 <;> simp [hs] <;> grind
theorem rt_iff (g s : Int) (m : Nat) : (rtB g s m = true) = ((s = 0 ∧ g = 0 ∧ m = 0) ∨ (¬ s = 0 ∧ 0 ≤ s ∧ s < 4096 ∧ 1 ≤ g ∧ g ≤ 3 ∧ plB m (g - 1) = true)) := by
  unfold rtB
  rw [is_pl]
  have h := asB_iff s
  by_cases hs : s = 0 <;> simp [hs] <;> grind
theorem mk3_iff {b g s : Int} {m : Nat} : (mk3 b g s m = true) = (g = 0 ∧ ((s = 0 ∧ m = 0) ∨ (¬ s = 0 ∧ plB m (if b = 21 then 2 else if b = 30 then 1 else 3) = true))) := by
  unfold mk3
  by_cases hs : s = 0 <;> by_cases h1 : b = 21 <;> by_cases h2 : b = 30 <;> simp [hs, h1, h2] <;> grind
theorem mk4_iff (b g s : Int) (m : Nat) : (mk4 b g s m = true) = ((s = 0 ∧ g = 0 ∧ m = 0) ∨ (¬ s = 0 ∧ 1 ≤ g ∧ g ≤ 3 ∧ plB m (g - 1) = true)) := by
  unfold mk4
  by_cases hs : s = 0 <;> simp [hs] <;> grind
theorem rb1 (b : Int) : (rbB 1 b = true) = (5 ≤ b ∧ b ≤ 32) := by unfold rbB; simp
theorem rb2 (b : Int) : (rbB 2 b = true) = (1 ≤ b ∧ b ≤ 12) := by unfold rbB; simp
theorem rb3 (b : Int) : (rbB 3 b = true) = (b = 12 ∨ b = 21 ∨ b = 30) := by unfold rbB levB levV; simp; grind
theorem rb4 (b : Int) : (rbB 4 b = true) = (b = 12) := by unfold rbB; simp
theorem rb5 (b : Int) : (rbB 5 b = true) = (b = 12) := by unfold rbB; simp
theorem rb7 (b : Int) : (rbB 7 b = true) = (b = 12) := by unfold rbB; simp
theorem rb8 (b : Int) : (rbB 8 b = true) = (b = 7) := by unfold rbB; simp
theorem rb9 (b : Int) : (rbB 9 b = true) = (b = 5) := by unfold rbB; simp
theorem rb10 (b : Int) : (rbB 10 b = true) = (1 ≤ b ∧ b ≤ 12) := by unfold rbB; simp
theorem sz_of (k b : Int) (hk : ¬ k = 0) (h6 : ¬ k = 6) : (rbB k b = true → szV k b = bitV k b) ∧ (rbB k b = false → szV k b = -2) := by
  by_cases h1 : k = 1
  · subst h1; have := rb1 b; unfold szV bitV; grind
  by_cases h2 : k = 2
  · subst h2; have := rb2 b; unfold szV bitV; grind
  by_cases h10 : k = 10
  · subst h10; have := rb10 b; unfold szV bitV; grind
  by_cases h3 : k = 3
  · subst h3; have := rb3 b; unfold szV bitV; grind
  by_cases h4 : k = 4
  · subst h4; have := rb4 b; unfold szV bitV; grind
  by_cases h5 : k = 5
  · subst h5; have := rb5 b; unfold szV bitV; grind
  by_cases h7 : k = 7
  · subst h7; have := rb7 b; unfold szV bitV; grind
  by_cases h8 : k = 8
  · subst h8; have := rb8 b; unfold szV bitV; grind
  by_cases h9 : k = 9
  · subst h9; have := rb9 b; unfold szV bitV; grind
  · have : rbB k b = false := by unfold rbB; rw [if_neg h1, if_neg h2, if_neg h10, if_neg h3, if_neg h4, if_neg h5, if_neg h7, if_neg h8, if_neg h9]
    unfold szV; grind
theorem lies_of {k b : Int} {a : Nat} (hk : ¬ k = 0) (h6 : ¬ k = 6) : liesB k a b = (rbB k b && raB a (bitV k b).toNat) := by
  obtain ⟨h1, h2⟩ := sz_of k b hk h6
  cases h : rbB k b
  · unfold liesB; rw [h2 h]; rfl
  · obtain ⟨-, -, ⟨e1, e2, e3⟩, -⟩ := rb_bits h
    rw [Bool.true_and, ra_in a _ e2 e3]
    exact lies_iff ((h1 h).trans e1)
set_option maxHeartbeats 2000000 in
/-- The program's Right is the document's. -/
theorem right_same (k : Int) (a : Nat) (b r g s : Int) (m : Nat) : cB k a b r g s m = dB k a b r g s m := by
  rw [Bool.eq_iff_iff]
  by_cases h0 : k = 0
  · subst h0
    rw [d_all, rB_iff, show mkB 0 b g s m = mk0 b g s m by rfl, mk0_iff]
    have e : cB 0 a b r g s m = (if eqCB 0 a b r g s m 0 0 0 0 0 0 0 = true then true else eqCB 0 a b r g s m 6 0 0 0 0 0 0) := rfl
    have e1 := eqCB_iff 0 a b r g s m 0 0 0 0 0 0 0
    have e2 := eqCB_iff 0 a b r g s m 6 0 0 0 0 0 0
    have e3 : (liesB 0 a b = true) = (a = 0 ∧ b = 0) := by unfold liesB szV; by_cases hb : b = 0 <;> simp [hb]
    rw [e, e3]
    grind
  by_cases h6 : k = 6
  · subst h6
    rw [d_all, rB_iff, show mkB 6 b g s m = mk0 b g s m by rfl, mk0_iff]
    have e : cB 6 a b r g s m = (if eqCB 6 a b r g s m 0 0 0 0 0 0 0 = true then true else eqCB 6 a b r g s m 6 0 0 0 0 0 0) := rfl
    have e1 := eqCB_iff 6 a b r g s m 0 0 0 0 0 0 0
    have e2 := eqCB_iff 6 a b r g s m 6 0 0 0 0 0 0
    have e3 : (liesB 6 a b = true) = (a = 0 ∧ b = 0) := by unfold liesB szV; by_cases hb : b = 0 <;> simp [hb]
    rw [e, e3]
    grind
  have ho : hoB k = true := by unfold hoB; rw [if_neg h0, if_neg h6]
  rw [c_obj _ _ _ _ _ _ _ ho, d_all, lies_of h0 h6, rB_iff]
  cases hr : rbB k b
  · simp
  cases raB a (bitV k b).toNat
  · simp
  by_cases h1 : k = 1
  · subst h1; rw [show rrB 1 b r g s m = rr1 b r g s m by rfl, show mkB 1 b g s m = mk1 b g s m by rfl, rr1_iff, mk1_iff]; grind
  by_cases h2 : k = 2
  · subst h2; rw [rb2] at hr; rw [show rrB 2 b r g s m = rr2 b r g s m by rfl, show mkB 2 b g s m = mk2 b g s m by rfl, rr2_iff, guard_two hr.1, mk2_s b g 0 s m]; grind
  by_cases h3 : k = 3
  · subst h3; rw [rb3] at hr; rw [show rrB 3 b r g s m = rr3 b r g s m by rfl, show mkB 3 b g s m = mk3 b g s m by rfl, rr3_iff, mk3_iff, rB_iff, rf_iff hr]; grind
  by_cases h4 : k = 4
  · subst h4; rw [show rrB 4 b r g s m = rr4 b r g s m by rfl, show mkB 4 b g s m = mk4 b g s m by rfl, rr4_iff, mk4_iff, rt_iff]; grind
  by_cases h5 : k = 5
  · subst h5; rw [show rrB 5 b r g s m = rr5 b r g s m by rfl, show mkB 5 b g s m = mk0 b g s m by rfl, rr5_iff, mk0_iff, asB_iff]; grind
  by_cases h7 : k = 7
  · subst h7; rw [show rrB 7 b r g s m = rr7 b r g s m by rfl, show mkB 7 b g s m = mk7 b g s m by rfl, rr7_iff, mk7_iff]; grind
  by_cases h8 : k = 8
  · subst h8; rw [show rrB 8 b r g s m = rr8 b r g s m by rfl, show mkB 8 b g s m = mk0 b g s m by rfl, rr8_iff, mk0_iff]; grind
  by_cases h9 : k = 9
  · subst h9; rw [show rrB 9 b r g s m = rr9 b r g s m by rfl, show mkB 9 b g s m = mk9 b g s m by rfl, rr9_iff, mk9_iff]; grind
  by_cases h10 : k = 10
  · subst h10; rw [show rrB 10 b r g s m = rr10 b r g s m by rfl, show mkB 10 b g s m = mk10 b g s m by rfl, rr10_iff, mk10_iff]; grind
  · exfalso
    have : rbB k b = false := by unfold rbB; rw [if_neg h1, if_neg h2, if_neg h10, if_neg h3, if_neg h4, if_neg h5, if_neg h7, if_neg h8, if_neg h9]
    rw [this] at hr; cases hr
end Go.Proofs.YtcmndefjmhcbhaaDoor
