/- Plain facts on what package field answers, against the document's answers bit by bit. -/
import Derived.Test.YtcmndefjmhcbhaaDoorFieldWalks
namespace Go.Proofs.YtcmndefjmhcbhaaDoor
open Go.RowKit

theorem testBit_mul_pow (a k i : Nat) : (a * 2 ^ k).testBit i = (decide (k ≤ i) && a.testBit (i - k)) := by
  rw [Nat.mul_comm, Nat.testBit_two_pow_mul]

theorem right_nat {l n : Nat} (h : rightB (l : Int) (n : Int) = true) : l < 64 ∧ 1 ≤ n ∧ l + n ≤ 64 := by
  have := right_of h
  omega
theorem maskV_testBit {l n : Nat} (h : rightB (l : Int) (n : Int) = true) (i : Nat) : (maskV l n).testBit i = decide (l ≤ i ∧ i < l + n) := by
  have hr := right_nat h
  rw [maskV, if_pos h, Int.toNat_natCast, testBit_mul_pow, ones_testBit, Bool.eq_iff_iff]
  simp
  omega
theorem getV_lt (l n : Int) (x : Nat) : getV l n x < 18446744073709551616 := by
  unfold getV
  by_cases h : rightB l n = true
  · rw [if_pos h]; exact Nat.lt_of_le_of_lt Nat.and_le_right (ones_lt n)
  · rw [if_neg h]; omega
theorem getV_testBit {l n : Nat} (h : rightB (l : Int) (n : Int) = true) (x i : Nat) : (getV l n x).testBit i = (decide (i < n) && x.testBit (l + i)) := by
  have hr := right_nat h
  rw [getV, if_pos h, Int.toNat_natCast, Nat.testBit_and, Nat.testBit_div_two_pow, ones_testBit, Bool.and_comm]
  congr 1
  · rw [decide_eq_decide]; omega
  · rw [Nat.add_comm]
theorem getV_eq {l n : Nat} (h : rightB (l : Int) (n : Int) = true) (x : Nat) : wv (fun i => decide (i < n) && x.testBit (l + i)) 0 64 = getV l n x :=
  wv_eq _ _ (getV_lt _ _ _) fun i _ => (getV_testBit h x i).symm

theorem fits_iff {n : Nat} (h1 : 1 ≤ n) (h2 : n ≤ 64) (v : Nat) : fitsB v n = !decide (ones (n : Int) < v) := by
  unfold fitsB
  rw [ones_eq (by omega) (by omega), Int.toNat_natCast]
  have : 0 < 2 ^ n := Nat.two_pow_pos _
  by_cases h : v < 2 ^ n
  · rw [decide_eq_true h, decide_eq_false (by omega)]; rfl
  · rw [decide_eq_false h, decide_eq_true (by omega)]; rfl

theorem putV_testBit {l n : Nat} (h : rightB (l : Int) (n : Int) = true) (x v i : Nat) (hv : v < 2 ^ n) : (andn x (maskV l n) ||| v * 2 ^ (l : Int).toNat).testBit i = (if l ≤ i ∧ i < l + n then v.testBit (i - l) else (decide (i < 64) && x.testBit i)) := by
  have hr := right_nat h
  rw [Int.toNat_natCast, Nat.testBit_or, andn_testBit _ _ _ (maskV_lt _ _), maskV_testBit h, testBit_mul_pow]
  by_cases c : l ≤ i ∧ i < l + n
  · rw [if_pos c, decide_eq_true c, decide_eq_true c.1]; simp
  · rw [if_neg c, decide_eq_false c]
    by_cases c1 : l ≤ i
    · have hz : v.testBit (i - l) = false := Nat.testBit_lt_two_pow (Nat.lt_of_lt_of_le hv (Nat.pow_le_pow_right (by omega) (by omega)))
      rw [hz]; cases x.testBit i <;> simp
    · rw [decide_eq_false c1]; cases x.testBit i <;> simp

theorem putX_eq {l n : Nat} (h : rightB (l : Int) (n : Int) = true) {v : Nat} (hv : v < 2 ^ n) (x : Nat) : putX l n x v = andn x (maskV l n) ||| v * 2 ^ (l : Int).toNat := by
  have hr := right_nat h
  unfold putX
  rw [if_neg (by rw [h]; decide), if_neg]
  rw [ones_eq (by omega) (by omega), Int.toNat_natCast]; omega
theorem putX_lt {l n : Nat} (h : rightB (l : Int) (n : Int) = true) {v : Nat} (hv : v < 2 ^ n) {x : Nat} (hx : x < 18446744073709551616) : putX l n x v < 18446744073709551616 := by
  have hr := right_nat h
  rw [putX_eq h hv]
  exact or_lt _ _ (Nat.lt_of_le_of_lt (andn_le _ _) hx) (by rw [Int.toNat_natCast]; exact shl_lt hv (by omega))

theorem putVal_eq {l n : Nat} (h : rightB (l : Int) (n : Int) = true) {v : Nat} (hv : v < 2 ^ n) {x : Nat} (hx : x < 18446744073709551616) : putVal x l n v = putX l n x v := by
  unfold putVal
  rw [if_pos hv]
  apply wv_eq _ _ (putX_lt h hv hx)
  intro i hi
  rw [putX_eq h hv, putV_testBit h _ _ _ hv, putf, decide_eq_true hi]
  by_cases c : l ≤ i ∧ i < l + n
  · rw [if_pos c, if_pos (by omega)]
  · rw [if_neg c, if_neg (by omega)]; simp

theorem mask_eq {l n : Nat} (h : rightB (l : Int) (n : Int) = true) : putX l n 0 (ones n) = maskV l n := by
  have hr := right_nat h
  have hv : ones n < 2 ^ n := by have := ones_pow (n := (n : Int)) (by omega) (by omega); rwa [Int.toNat_natCast] at this
  apply Nat.eq_of_testBit_eq
  intro i
  rw [putX_eq h hv, putV_testBit h _ _ _ hv, maskV_testBit h, ones_testBit]
  by_cases c : l ≤ i ∧ i < l + n
  · rw [if_pos c, decide_eq_decide]; omega
  · rw [if_neg c, decide_eq_false c]; simp

theorem get_put {l n : Nat} (h : rightB (l : Int) (n : Int) = true) {v : Nat} (hv : v < 2 ^ n) (x : Nat) : getV l n (putX l n x v) = v := by
  have hr := right_nat h
  apply Nat.eq_of_testBit_eq
  intro i
  rw [getV_testBit h, putX_eq h hv, putV_testBit h _ _ _ hv]
  by_cases c : i < n
  · have e : l + i - l = i := by omega
    rw [decide_eq_true c, if_pos (by omega), e]; rfl
  · rw [decide_eq_false c]
    exact (Nat.testBit_lt_two_pow (Nat.lt_of_lt_of_le hv (Nat.pow_le_pow_right (by omega) (by omega)))).symm

theorem rest_put {l n : Nat} (h : rightB (l : Int) (n : Int) = true) {v : Nat} (hv : v < 2 ^ n) (x : Nat) : andn (putX l n x v) (maskV l n) = andn x (maskV l n) := by
  apply Nat.eq_of_testBit_eq
  intro i
  rw [andn_testBit _ _ _ (maskV_lt _ _), andn_testBit _ _ _ (maskV_lt _ _), maskV_testBit h, putX_eq h hv, putV_testBit h _ _ _ hv]
  by_cases c : l ≤ i ∧ i < l + n
  · rw [decide_eq_true c]; simp
  · rw [if_neg c]; cases x.testBit i <;> cases decide (i < 64) <;> rfl

theorem getV_wrong {l n : Int} (h : rightB l n = false) (x : Nat) : getV l n x = 0 := by rw [getV, h]; rfl
theorem maskV_wrong {l n : Int} (h : rightB l n = false) : maskV l n = 0 := by rw [maskV, h]; rfl

end Go.Proofs.YtcmndefjmhcbhaaDoor
