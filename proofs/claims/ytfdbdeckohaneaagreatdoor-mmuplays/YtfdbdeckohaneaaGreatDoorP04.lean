/- P04 -/
import Derived.Test.YtfdbdeckohaneaaGreatDoorP03
set_option maxHeartbeats 16000000
set_option maxRecDepth 100000
namespace Go.Proofs.YtfdbdeckohaneaaGreatDoor
open Go.RowKit
theorem getV_mod {l n : Nat} (h : qbj (l : Int) (n : Int) = true) (x : Nat) : getV l n x = x / 2 ^ l % 2 ^ n := by
 apply Nat.eq_of_testBit_eq
 intro i
 rw [getV_testBit h, Nat.testBit_mod_two_pow, Nat.testBit_div_two_pow, Nat.add_comm]
theorem mask_mod {l n : Nat} (h : qbj (l : Int) (n : Int) = true) (x : Nat) : x &&& qcn l n = x / 2 ^ l % 2 ^ n * 2 ^ l := by
 apply Nat.eq_of_testBit_eq
 intro i
 rw [Nat.testBit_and, qdi h, qbu, Nat.testBit_mod_two_pow, Nat.testBit_div_two_pow]
 by_cases hi : l ≤ i
 ·have e : (i - l) + l = i := by omega
  rw [e, decide_eq_true hi, Bool.true_and, Bool.and_comm]
  congr 1
  rw [decide_eq_decide]; omega
 ·rw [decide_eq_false hi, decide_eq_false (by omega), Bool.and_false, Bool.false_and]
theorem andn_mod {l n : Nat} (h : qbj (l : Int) (n : Int) = true) (x : Nat) (hx : x < 18446744073709551616) : andn x (qcn l n) = x / 2 ^ (l + n) * 2 ^ (l + n) + x % 2 ^ l := by
 have hr := qdz h
 have hlt : x % 2 ^ l < 2 ^ (l + n) := Nat.lt_of_lt_of_le (Nat.mod_lt _ (Nat.two_pow_pos _)) (Nat.pow_le_pow_right (by omega) (by omega))
 rw [Nat.mul_comm, Nat.two_pow_add_eq_or_of_lt hlt]
 apply Nat.eq_of_testBit_eq
 intro i
 rw [qek _ _ _ (qfb _ _), qdi h, Nat.testBit_or, Nat.mul_comm, qbu, Nat.testBit_div_two_pow, Nat.testBit_mod_two_pow]
 by_cases h1 : i < l
 ·rw [decide_eq_true h1, decide_eq_true (show i < 64 by omega), decide_eq_false (show ¬ (l ≤ i ∧ i < l + n) by omega), decide_eq_false (show ¬ l + n ≤ i by omega)]
  simp
 ·rw [decide_eq_false h1]
  by_cases h2 : l + n ≤ i
  ·have e : (i - (l + n)) + (l + n) = i := by omega
   rw [e, decide_eq_true h2, decide_eq_false (show ¬ (l ≤ i ∧ i < l + n) by omega)]
   by_cases h3 : i < 64
   ·rw [decide_eq_true h3]; simp
   ·rw [high_bit x i hx (by omega)]; simp
  ·rw [decide_eq_false h2, decide_eq_true (show (l ≤ i ∧ i < l + n) by omega)]; simp
theorem qbl (x : Nat) {k : Nat} (h1 : 1 ≤ k) (h2 : k < 64) : qaq x (k : Int) = decide (x % 2 ^ k = 0) := by
 unfold qaq
 rw [and_mid x k h1 h2, Bool.eq_iff_iff]; simp
theorem putX_mod {l n : Nat} (h : qbj (l : Int) (n : Int) = true) {v : Nat} (hv : v < 2 ^ n) (x : Nat) (hx : x < 18446744073709551616) : putX l n x v = x / 2 ^ (l + n) * 2 ^ (l + n) + v * 2 ^ l + x % 2 ^ l := by
 have hlt : x % 2 ^ l < 2 ^ l := Nat.mod_lt _ (Nat.two_pow_pos _)
 rw [putX_eq h hv, andn_mod h x hx, Int.toNat_natCast]
 have e1 : x / 2 ^ (l + n) * 2 ^ (l + n) + x % 2 ^ l = 2 ^ l * (x / 2 ^ (l + n) * 2 ^ n) + x % 2 ^ l := by
  rw [Nat.pow_add, Nat.mul_comm (2 ^ l) (_ * _), Nat.mul_assoc, Nat.mul_comm (2 ^ n) (2 ^ l)]
 have e2 : x / 2 ^ (l + n) * 2 ^ (l + n) + v * 2 ^ l + x % 2 ^ l = 2 ^ l * (2 ^ n * (x / 2 ^ (l + n)) + v) + x % 2 ^ l := by
  rw [Nat.mul_add, ← Nat.mul_assoc, ← Nat.pow_add, Nat.mul_comm (2 ^ (l + n)), Nat.mul_comm v]
 rw [e1, e2, Nat.two_pow_add_eq_or_of_lt hlt, Nat.two_pow_add_eq_or_of_lt hlt, Nat.two_pow_add_eq_or_of_lt hv]
 apply Nat.eq_of_testBit_eq
 intro i
 simp only [Nat.testBit_or, Nat.testBit_two_pow_mul, qbu, ge_iff_le]
 cases decide (l ≤ i) <;> cases v.testBit (i - l) <;> cases (x % 2 ^ l).testBit i <;> cases (decide (n ≤ i - l) && (x / 2 ^ (l + n)).testBit (i - l - n)) <;> rfl
theorem rest_out (x : Nat) (hx : x < 18446744073709551616) : qdk x [(12, 36)] = x / 281474976710656 * 281474976710656 + x % 4096 :=
 andn_mod (l := 12) (n := 36) (by decide) x hx
theorem isOut_mod (x k : Nat) (hx : x < 18446744073709551616) (h1 : 12 ≤ k) (h2 : k < 48) : qct x (k : Int) = decide (x < 281474976710656 ∧ x % 2 ^ k = 0) := by
 have hd : x % 4096 = x % 2 ^ k % 4096 := (Nat.mod_mod_of_dvd x (Nat.pow_dvd_pow 2 h1)).symm
 unfold qct
 rw [rest_out x hx, qbl x (by omega) (by omega), Bool.eq_iff_iff]
 simp only [Bool.and_eq_true, beq_iff_eq, decide_eq_true_eq]
 constructor
 ·rintro ⟨a, b⟩; exact ⟨by omega, b⟩
 ·rintro ⟨a, b⟩; rw [b] at hd; exact ⟨by omega, b⟩
theorem outV_mod (x : Nat) : outV x = x / 4096 % 68719476736 * 4096 := mask_mod (l := 12) (n := 36) (by decide) x -- of 83
end Go.Proofs.YtfdbdeckohaneaaGreatDoor
