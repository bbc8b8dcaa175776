/- The walks of the document's own answers for layer 1: bits of a word, the word of bits. -/
import Derived.Test.YtcmndefjmhcbhaaDoorBitMath
import Derived.Test.YtcmndefjmhcbhaaDoorRows
import Derived.Deep.WholeRow
import Derived.Deep.RegionHeld3
import Derived.Laws.CopyOwn
namespace Go.Proofs.YtcmndefjmhcbhaaDoor
open Go.RowKit

/-- The bits of a word with those of v in a field, the first k of them. -/
def putf (x v l n k : Nat) (j : Nat) : Bool := if l ≤ j ∧ j < l + n ∧ j < l + k then v.testBit (j - l) else x.testBit j

/-- The answer of Put. -/
def putVal (x l n v : Nat) : Nat := if v < 2 ^ n then wv (putf x v l n 64) 0 64 else 0
def fitsB (v n : Nat) : Bool := decide (v < 2 ^ n)

theorem putf_step (x v l n k : Nat) (hn : l + n ≤ 64) (hk : k < n) : (arr (putf x v l n k)).setIfInBounds (l + k) (.bool (v.testBit k)) = arr (putf x v l n (k + 1)) := by
  rw [arr_set _ _ _ (by omega)]
  apply arr_congr
  intro i _
  unfold putf
  by_cases e : i = l + k
  · subst e
    have e2 : l + k - l = k := by omega
    rw [if_pos rfl, if_pos (by omega), e2]
  · rw [if_neg e]
    by_cases c : l ≤ i ∧ i < l + n ∧ i < l + k
    · rw [if_pos c, if_pos (by omega)]
    · rw [if_neg c, if_neg (by omega)]
theorem putf_over (x v l n k : Nat) (hk : n ≤ k) : putf x v l n k = putf x v l n (k + 1) := by
  funext j
  unfold putf
  by_cases c : l ≤ j ∧ j < l + n ∧ j < l + k
  · rw [if_pos c, if_pos (by omega)]
  · rw [if_neg c, if_neg (by omega)]

theorem low_of_bits (v n : Nat) (hv : v < 2 ^ 64) (h : ∀ i, n ≤ i → i < 64 → v.testBit i = false) : v < 2 ^ n := by
  apply Nat.lt_pow_two_of_testBit
  intro i hi
  by_cases h64 : i < 64
  · exact h i hi h64
  · exact high_bit v i hv (by omega)

end Go.Proofs.YtcmndefjmhcbhaaDoor
