/- Plain mathematics of words and their bits: nothing of the program. -/
import Derived.WalkKit
import Derived.WalkSpells
import Derived.WalkLawsBesides
namespace Go.Proofs.YtcmndefjmhcbhaaDoor
open Go.RowKit

/-- The number whose bits, the lowest first, are f k, f (k + 1), .. (n of them). -/
def wv (f : Nat → Bool) : Nat → Nat → Nat
  | _, 0 => 0
  | k, n + 1 => 2 * wv f (k + 1) n + (f k).toNat

theorem wv_testBit (f : Nat → Bool) : ∀ n k i, (wv f k n).testBit i = (decide (i < n) && f (k + i))
  | 0, k, i => by simp [wv]
  | n + 1, k, 0 => by
    cases h : f k <;> simp [wv, Nat.testBit_zero, h]
  | n + 1, k, i + 1 => by
    have e : (2 * wv f (k + 1) n + (f k).toNat) / 2 = wv f (k + 1) n := by
      cases f k <;> simp <;> omega
    rw [wv, Nat.testBit_succ, e, wv_testBit f n (k + 1) i]
    have e2 : k + 1 + i = k + (i + 1) := by omega
    rw [e2]; simp

theorem wv_lt (f : Nat → Bool) : ∀ n k, wv f k n < 2 ^ n
  | 0, _ => by simp [wv]
  | n + 1, k => by
    have := wv_lt f n (k + 1)
    rw [wv, Nat.pow_succ]
    cases f k <;> simp <;> omega

theorem wv_self (x : Nat) (hx : x < 2 ^ 64) : wv x.testBit 0 64 = x := by
  apply Nat.eq_of_testBit_eq
  intro i
  rw [wv_testBit]
  by_cases h : i < 64
  · simp [h]
  · have : x.testBit i = false := Nat.testBit_lt_two_pow (Nat.lt_of_lt_of_le hx (Nat.pow_le_pow_right (by omega) (by omega)))
    simp [h, this]

theorem wv_eq (f : Nat → Bool) (x : Nat) (hx : x < 2 ^ 64) (h : ∀ i, i < 64 → f i = x.testBit i) : wv f 0 64 = x := by
  apply Nat.eq_of_testBit_eq
  intro i
  rw [wv_testBit]
  by_cases hi : i < 64
  · simp [hi, h i hi]
  · have : x.testBit i = false := Nat.testBit_lt_two_pow (Nat.lt_of_lt_of_le hx (Nat.pow_le_pow_right (by omega) (by omega)))
    simp [hi, this]

/-- 64 bits as the cells of an array. -/
def arr (f : Nat → Bool) : Array Value := ((List.range 64).map fun i => Value.bool (f i)).toArray

theorem arr_size (f : Nat → Bool) : (arr f).size = 64 := by simp [arr]
theorem arr_get (f : Nat → Bool) (i : Nat) (h : i < 64) : (arr f)[i]? = some (.bool (f i)) := by
  simp [arr, h]
theorem arr_congr {f g : Nat → Bool} (h : ∀ i, i < 64 → f i = g i) : arr f = arr g := by
  unfold arr
  congr 1
  apply List.map_congr_left
  intro a ha
  rw [h a (List.mem_range.1 ha)]
theorem arr_set (f : Nat → Bool) (i : Nat) (b : Bool) (h : i < 64) : (arr f).setIfInBounds i (.bool b) = arr (fun j => if j = i then b else f j) := by
  apply Array.ext_getElem?
  intro j
  rw [Array.getElem?_setIfInBounds]
  by_cases hj : i = j
  · subst hj
    rw [if_pos rfl, arr_size, if_pos h, arr_get _ _ h, if_pos rfl]
  · rw [if_neg hj]
    by_cases h64 : j < 64
    · rw [arr_get _ _ h64, arr_get _ _ h64, if_neg (fun e => hj e.symm)]
    · rw [Array.getElem?_eq_none (by rw [arr_size]; omega), Array.getElem?_eq_none (by rw [arr_size]; omega)]
theorem arr_one (f : Nat → Bool) : (arr f).all (·.oneCell') = true := by
  rw [Array.all_eq_true]
  intro i h
  rw [arr_size] at h
  have e := arr_get f i h
  rw [Array.getElem?_eq_getElem (by rw [arr_size]; exact h)] at e
  injection e with e
  rw [e]; rfl
/-- The word whose lowest n bits are 1. -/
def ones (n : Int) : Nat := if n < 1 then 0 else if 64 ≤ n then 2 ^ 64 - 1 else 2 ^ n.toNat - 1
theorem ones_testBit (n : Int) (i : Nat) : (ones n).testBit i = decide (i < 64 ∧ (i : Int) < n) := by
  unfold ones
  by_cases h1 : n < 1
  · rw [if_pos h1, Nat.zero_testBit]; symm; rw [decide_eq_false_iff_not]; omega
  · rw [if_neg h1]
    by_cases h2 : 64 ≤ n
    · rw [if_pos h2, Nat.testBit_two_pow_sub_one, decide_eq_decide]; omega
    · rw [if_neg h2, Nat.testBit_two_pow_sub_one, decide_eq_decide]; omega
theorem ones_lt (n : Int) : ones n < 2 ^ 64 := by
  unfold ones
  by_cases h1 : n < 1
  · rw [if_pos h1]; omega
  · rw [if_neg h1]
    by_cases h2 : 64 ≤ n
    · rw [if_pos h2]; omega
    · rw [if_neg h2]
      have : 2 ^ n.toNat ≤ 2 ^ 64 := Nat.pow_le_pow_right (by omega) (by omega)
      have : 0 < 2 ^ n.toNat := Nat.two_pow_pos _
      omega

/-- 'a &^ b' of words. -/
def andn (a b : Nat) : Nat := a &&& (2 ^ 64 - 1 - b)
theorem not_testBit (b i : Nat) (hb : b < 2 ^ 64) : (2 ^ 64 - 1 - b).testBit i = (decide (i < 64) && !b.testBit i) := by
  have e : (2 ^ 64 - 1 - b) = 2 ^ 64 - (b + 1) := by omega
  rw [e, Nat.testBit_two_pow_sub_succ hb]
theorem andn_testBit (a b i : Nat) (hb : b < 2 ^ 64) : (andn a b).testBit i = (a.testBit i && (decide (i < 64) && !b.testBit i)) := by
  rw [andn, Nat.testBit_and, not_testBit b i hb]
theorem andn_le (a b : Nat) : andn a b ≤ a := Nat.and_le_left
theorem bits_andNot (a b : Nat) (ha : a < 18446744073709551616) (hb : b < 18446744073709551616) : bits .andNot .u64 (a : Int) (b : Int) = ((andn a b : Nat) : Int) := by
  have h1 : (BitVec.ofInt 64 (a : Int)) = BitVec.ofNat 64 a := BitVec.ofInt_natCast 64 a
  have h2 : (BitVec.ofInt 64 (b : Int)) = BitVec.ofNat 64 b := BitVec.ofInt_natCast 64 b
  show IntKind.u64.wrap ((BitVec.ofInt 64 (a : Int) &&& ~~~(BitVec.ofInt 64 (b : Int))).toNat : Int) = _
  rw [h1, h2, IntKind.wrap_u64]
  have h3 : (BitVec.ofNat 64 a &&& ~~~(BitVec.ofNat 64 b)).toNat = andn a b := by
    rw [BitVec.toNat_and, BitVec.toNat_not, BitVec.toNat_ofNat, BitVec.toNat_ofNat, Nat.mod_eq_of_lt ha, Nat.mod_eq_of_lt hb]; rfl
  rw [h3]
  have := andn_le a b
  omega
theorem and_lt (a b : Nat) (ha : a < 2 ^ 64) : a &&& b < 2 ^ 64 := Nat.lt_of_le_of_lt Nat.and_le_left ha
theorem high_bit (x i : Nat) (hx : x < 2 ^ 64) (hi : 64 ≤ i) : x.testBit i = false :=
  Nat.testBit_lt_two_pow (Nat.lt_of_lt_of_le hx (Nat.pow_le_pow_right (by omega) hi))

end Go.Proofs.YtcmndefjmhcbhaaDoor
