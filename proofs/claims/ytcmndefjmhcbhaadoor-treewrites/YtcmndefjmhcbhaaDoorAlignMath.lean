/- Plain facts on aligned words: down, up, and the document's answer. -/
import Derived.Test.YtcmndefjmhcbhaaDoorFieldMath
namespace Go.Proofs.YtcmndefjmhcbhaaDoor
open Go.RowKit

theorem downV_testBit (x : Nat) (n : Int) (i : Nat) : (downV x n).testBit i = (x.testBit i && (decide (i < 64) && !decide (i < 64 ∧ (i : Int) < n))) := by
  rw [downV, andn_testBit _ _ _ (ones_lt n), ones_testBit]
theorem downV_lt (x : Nat) (n : Int) (hx : x < 18446744073709551616) : downV x n < 18446744073709551616 := Nat.lt_of_le_of_lt (andn_le _ _) hx
theorem refDown_eq (x : Nat) (n m : Int) (hx : x < 18446744073709551616) (hm : m = max n 0) : wv (fun i => decide (m ≤ (i : Int)) && x.testBit i) 0 64 = downV x n := by
  apply wv_eq _ _ (downV_lt x n hx)
  intro i hi
  have e : decide (m ≤ (i : Int)) = !decide (i < 64 ∧ (i : Int) < n) := by
    by_cases c : m ≤ (i : Int)
    · rw [decide_eq_true c, decide_eq_false (by omega)]; rfl
    · rw [decide_eq_false c, decide_eq_true (by omega)]; rfl
  rw [downV_testBit, e, decide_eq_true hi, Bool.true_and, Bool.and_comm]
theorem down_ones (n : Int) : downV 18446744073709551615 n = 18446744073709551615 - ones n := by
  have h := ones_lt n
  apply Nat.eq_of_testBit_eq
  intro i
  have e := not_testBit (ones n) i h
  have e2 : (18446744073709551615 : Nat).testBit i = decide (i < 64) := Nat.testBit_two_pow_sub_one 64 i
  rw [downV_testBit, show (18446744073709551615 - ones n) = 2 ^ 64 - 1 - ones n from rfl, e, ones_testBit, e2]
  cases decide (i < 64) <;> simp

theorem ones_low {n : Int} (h : n < 1) : ones n = 0 := by rw [ones, if_pos h]
theorem ones_high {n : Int} (h : 64 ≤ n) : ones n = 18446744073709551615 := by rw [ones, if_neg (by omega), if_pos h]
theorem down_low (x : Nat) {n : Int} (h : n < 1) (hx : x < 18446744073709551616) : downV x n = x := by
  apply Nat.eq_of_testBit_eq
  intro i
  rw [downV_testBit]
  by_cases hi : i < 64
  · have : ¬ (i < 64 ∧ (i : Int) < n) := by omega
    rw [decide_eq_true hi, decide_eq_false this]; simp
  · rw [high_bit x i hx (by omega)]; simp
theorem down_high (x : Nat) {n : Int} (h : 64 ≤ n) : downV x n = 0 := by
  apply Nat.eq_of_testBit_eq
  intro i
  rw [downV_testBit]
  by_cases hi : i < 64
  · have : (i < 64 ∧ (i : Int) < n) := by omega
    rw [decide_eq_true this]; simp
  · rw [decide_eq_false hi]; simp
theorem down_mid (x k : Nat) (h2 : k < 64) (hx : x < 18446744073709551616) : downV x (k : Int) = x / 2 ^ k * 2 ^ k := by
  apply Nat.eq_of_testBit_eq
  intro i
  rw [downV_testBit, testBit_mul_pow, Nat.testBit_div_two_pow]
  by_cases hi : k ≤ i
  · have e : (i - k) + k = i := by omega
    rw [e, decide_eq_true hi]
    by_cases hi2 : i < 64
    · have : ¬ (i < 64 ∧ (i : Int) < (k : Int)) := by omega
      rw [decide_eq_true hi2, decide_eq_false this]; simp
    · rw [high_bit x i hx (by omega)]; simp
  · have : (i < 64 ∧ (i : Int) < (k : Int)) := by omega
    rw [decide_eq_true this, decide_eq_false hi]; simp
theorem or_mid (x k : Nat) (h1 : 1 ≤ k) (h2 : k < 64) : (x ||| ones (k : Int)) = x / 2 ^ k * 2 ^ k + ones (k : Int) := by
  have ho := ones_pow (n := (k : Int)) (by omega) (by omega)
  rw [Int.toNat_natCast] at ho
  rw [Nat.mul_comm, Nat.two_pow_add_eq_or_of_lt ho]
  apply Nat.eq_of_testBit_eq
  intro i
  rw [Nat.testBit_or, Nat.testBit_or, Nat.mul_comm, testBit_mul_pow, Nat.testBit_div_two_pow, ones_testBit]
  by_cases hi : k ≤ i
  · have e : (i - k) + k = i := by omega
    rw [e, decide_eq_true hi]; simp
  · have : (i < 64 ∧ (i : Int) < (k : Int)) := by omega
    rw [decide_eq_true this]; simp
theorem and_mid (x k : Nat) (h1 : 1 ≤ k) (h2 : k < 64) : (x &&& ones (k : Int)) = x % 2 ^ k := by
  rw [ones_eq (by omega) (by omega), Int.toNat_natCast, Nat.and_two_pow_sub_one_eq_mod]

theorem align_cases (x : Nat) (n : Int) (hx : x < 18446744073709551616) :
    (alignedB x n = true ∧ downV x n = x ∧ upV x n = x ∧ upB x n = true) ∨
    (alignedB x n = false ∧ downV x n ≠ x ∧ upV x n = 0 ∧ upB x n = false ∧ 18446744073709551615 - downV x n = ones n) ∨
    (alignedB x n = false ∧ downV x n ≠ x ∧ upB x n = true ∧ x < upV x n ∧ alignedB (upV x n) n = true ∧ upV x n = downV x n + (ones n + 1) ∧ upV x n < 18446744073709551616) := by
  by_cases h1 : n < 1
  · left
    have ha : alignedB x n = true := by unfold alignedB; rw [ones_low h1]; simp
    refine ⟨ha, down_low x h1 hx, ?_, ?_⟩
    · unfold upV; rw [if_pos ha]
    · unfold upB; rw [ha]; rfl
  · by_cases h2 : 64 ≤ n
    · have hand : (x &&& ones n) = x := by
        rw [ones_high h2]
        have := Nat.and_two_pow_sub_one_eq_mod x 64
        rw [show (18446744073709551615 : Nat) = 2 ^ 64 - 1 from rfl, this, Nat.mod_eq_of_lt hx]
      have hor : (x ||| ones n) = 18446744073709551615 := by
        rw [ones_high h2]
        have a := or_lt x 18446744073709551615 hx (by omega)
        have b : 18446744073709551615 ≤ x ||| 18446744073709551615 := Nat.right_le_or
        omega
      have hup : upW x n = 0 := by unfold upW; rw [hor]
      by_cases h0 : x = 0
      · left
        have ha : alignedB x n = true := by unfold alignedB; rw [hand, h0]; rfl
        refine ⟨ha, by rw [down_high x h2, h0], ?_, ?_⟩
        · unfold upV; rw [if_pos ha]
        · unfold upB; rw [ha]; rfl
      · right; left
        have ha : alignedB x n = false := by unfold alignedB; rw [hand]; simp [h0]
        refine ⟨ha, by rw [down_high x h2]; omega, ?_, ?_, ?_⟩
        · unfold upV; rw [if_neg (by rw [ha]; decide), hup]
        · unfold upB; rw [ha, hup]; rfl
        · rw [down_high x h2, ones_high h2]
    · obtain ⟨k, rfl⟩ := Int.eq_ofNat_of_zero_le (show 0 ≤ n by omega)
      have hk1 : 1 ≤ k := by omega
      have hk2 : k < 64 := by omega
      have hd := down_mid x k hk2 hx
      have hand := and_mid x k hk1 hk2
      have hor := or_mid x k hk1 hk2
      have ho := ones_eq (n := (k : Int)) (by omega) (by omega)
      rw [Int.toNat_natCast] at ho
      have hp : 0 < 2 ^ k := Nat.two_pow_pos _
      have hdm : x / 2 ^ k * 2 ^ k + x % 2 ^ k = x := by rw [Nat.mul_comm]; exact Nat.div_add_mod x (2 ^ k)
      have hml : x % 2 ^ k < 2 ^ k := Nat.mod_lt _ hp
      by_cases h0 : x % 2 ^ k = 0
      · left
        have ha : alignedB x k = true := by unfold alignedB; rw [hand, h0]; rfl
        refine ⟨ha, by rw [hd]; omega, ?_, ?_⟩
        · unfold upV; rw [if_pos ha]
        · unfold upB; rw [ha]; rfl
      · right
        have ha : alignedB x k = false := by unfold alignedB; rw [hand]; simp [h0]
        have hne : downV x k ≠ x := by rw [hd]; omega
        have hv : upV x k = upW x k := by unfold upV; rw [if_neg (by rw [ha]; decide)]
        have hb : upB x k = (upW x k != 0) := by unfold upB; rw [ha]; rfl
        have horl := or_lt x (ones k) hx (ones_lt k)
        by_cases hw : (x ||| ones k) = 18446744073709551615
        · left
          have hu : upW x k = 0 := by unfold upW; rw [hw]
          refine ⟨ha, hne, by rw [hv, hu], by rw [hb, hu]; rfl, ?_⟩
          rw [hd]; omega
        · right
          have hu : upW x k = (x ||| ones k) + 1 := by unfold upW; exact Nat.mod_eq_of_lt (by omega)
          refine ⟨ha, hne, by rw [hb, hu]; simp, by rw [hv, hu]; omega, ?_, by rw [hv, hu, hd]; omega, by rw [hv, hu]; omega⟩
          have e : upV x k = (x / 2 ^ k + 1) * 2 ^ k := by rw [hv, hu, hor, ho, Nat.add_mul]; omega
          unfold alignedB
          rw [and_mid _ _ hk1 hk2, e, Nat.mul_mod_left]; rfl
end Go.Proofs.YtcmndefjmhcbhaaDoor
