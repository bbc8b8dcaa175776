/- Plain facts: the word of a right descriptor bit by bit, and when a word is just what it says. -/
import Derived.Test.YtdpcbdbdacjcbaaDoorDescMath
import Derived.Test.YtdpcbdbdacjcbaaDoorDescG
import Derived.Test.YtdpcbdbdacjcbaaDoorDescAnchor
namespace Go.Proofs.YtdpcbdbdacjcbaaDoor
open Go.RowKit

theorem orN_testBit (c : Bool) (y i j : Nat) : (orN c y (2 ^ i)).testBit j = (y.testBit j || (c && decide (i = j))) := by
  unfold orN
  cases c
  · simp
  · rw [if_pos rfl, Nat.testBit_or, Nat.testBit_two_pow, Bool.true_and]
theorem or_testBit (y i j : Nat) : (y ||| 2 ^ i).testBit j = (y.testBit j || decide (i = j)) := by
  rw [Nat.testBit_or, Nat.testBit_two_pow]
theorem leafConst (j : Nat) : (9007199254743808 : Nat).testBit j = (decide (8 = j) || decide (9 = j) || decide (11 = j) || decide (53 = j)) := by
  have e : (9007199254743808 : Nat) = 2 ^ 8 ||| 2 ^ 9 ||| 2 ^ 11 ||| 2 ^ 53 := by decide +kernel
  rw [e, Nat.testBit_or, Nat.testBit_or, Nat.testBit_or, Nat.testBit_two_pow, Nat.testBit_two_pow, Nat.testBit_two_pow, Nat.testBit_two_pow]
theorem leafP_testBit (o a j : Nat) (ha : a ≤ 7) : (leafP o a).testBit j = (if 2 ≤ j ∧ j < 5 then a.testBit (j - 2) else (decide (j < 64) && (o.testBit j || (decide (8 = j) || decide (9 = j) || decide (11 = j) || decide (53 = j))))) := by
  show (putX ((2 : Nat) : Int) ((3 : Nat) : Int) (o ||| 9007199254743808) a).testBit j = _
  rw [putX_eq right23 (show a < 2 ^ 3 by omega), putV_testBit right23 _ _ _ (show a < 2 ^ 3 by omega), Nat.testBit_or, leafConst]
theorem leafN_testBit (o : Nat) (u r x s : Bool) (a j : Nat) (ha : a ≤ 7) :
    (leafN o u r x s a).testBit j = ((((((if 2 ≤ j ∧ j < 5 then a.testBit (j - 2) else (decide (j < 64) && (o.testBit j || (decide (8 = j) || decide (9 = j) || decide (11 = j) || decide (53 = j))))) || (u && decide (6 = j))) || (!r && decide (7 = j))) || (s && decide (10 = j))) || (!x && decide (54 = j)))) := by
  unfold leafN
  rw [show (64 : Nat) = 2 ^ 6 from rfl, show (128 : Nat) = 2 ^ 7 from rfl, show (1024 : Nat) = 2 ^ 10 from rfl, show (18014398509481984 : Nat) = 2 ^ 54 from by decide +kernel]
  rw [orN_testBit, orN_testBit, orN_testBit, orN_testBit, leafP_testBit o a j ha]

/-- The bits of Out alone: those from 12 to 47. -/
theorem outV_testBit (x i : Nat) : (outV x).testBit i = (x.testBit i && decide (12 ≤ i ∧ i < 48)) := by
  show (x &&& maskV ((12 : Nat) : Int) ((36 : Nat) : Int)).testBit i = _
  rw [Nat.testBit_and, maskV_testBit (by decide)]
theorem getA_testBit (x i : Nat) : (getV 2 3 x).testBit i = (decide (i < 3) && x.testBit (2 + i)) := getV_testBit (l := 2) (n := 3) (by decide) x i

/-- The word of the leaf that a word says, bit by bit. -/
theorem enc_rd (x j : Nat) (p : Bool) (hj : j < 64) :
    (orN p (leafN (outV x) (x.testBit 6) (!x.testBit 7) (!x.testBit 54) (x.testBit 10) (getV 2 3 x) ||| 2 ^ 0) (2 ^ 1)).testBit j =
      (if j = 0 then true else if j = 1 then p else if j = 5 then false else if j = 8 ∨ j = 9 ∨ j = 11 ∨ j = 53 then true else if j < 48 ∨ j = 54 then x.testBit j else false) := by
  rw [orN_testBit, or_testBit, leafN_testBit _ _ _ _ _ _ _ (getV23_le x), outV_testBit, getA_testBit]
  by_cases h12 : j < 12
  · rcases (show j = 0 ∨ j = 1 ∨ j = 2 ∨ j = 3 ∨ j = 4 ∨ j = 5 ∨ j = 6 ∨ j = 7 ∨ j = 8 ∨ j = 9 ∨ j = 10 ∨ j = 11 by omega) with rfl | rfl | rfl | rfl | rfl | rfl | rfl | rfl | rfl | rfl | rfl | rfl <;> simp
  · by_cases h48 : j < 48
    · have e : ∀ k, k < 12 ∨ 47 < k → decide (k = j) = false := fun k hk => decide_eq_false (by omega)
      rw [if_neg (show ¬ (2 ≤ j ∧ j < 5) by omega), e 8 (by omega), e 9 (by omega), e 11 (by omega), e 53 (by omega), e 6 (by omega), e 7 (by omega), e 10 (by omega), e 54 (by omega), e 0 (by omega), e 1 (by omega),
        if_neg (show ¬ j = 0 by omega), if_neg (show ¬ j = 1 by omega), if_neg (show ¬ j = 5 by omega), if_neg (show ¬ (j = 8 ∨ j = 9 ∨ j = 11 ∨ j = 53) by omega), if_pos (show j < 48 ∨ j = 54 by omega), decide_eq_true hj, decide_eq_true (show 12 ≤ j ∧ j < 48 by omega)]
      simp
    · by_cases h53 : j = 53
      · subst h53; simp
      · by_cases h54 : j = 54
        · subst h54; simp
        · have e : ∀ k, k < 12 ∨ k = 53 ∨ k = 54 → decide (k = j) = false := fun k hk => decide_eq_false (by omega)
          rw [if_neg (show ¬ (2 ≤ j ∧ j < 5) by omega), e 8 (by omega), e 9 (by omega), e 11 (by omega), e 53 (by omega), e 6 (by omega), e 7 (by omega), e 10 (by omega), e 54 (by omega), e 0 (by omega), e 1 (by omega),
            if_neg (show ¬ j = 0 by omega), if_neg (show ¬ j = 1 by omega), if_neg (show ¬ j = 5 by omega), if_neg (show ¬ (j = 8 ∨ j = 9 ∨ j = 11 ∨ j = 53) by omega), if_neg (show ¬ (j < 48 ∨ j = 54) by omega), decide_eq_false (show ¬ (12 ≤ j ∧ j < 48) by omega)]
          simp

end Go.Proofs.YtdpcbdbdacjcbaaDoor
