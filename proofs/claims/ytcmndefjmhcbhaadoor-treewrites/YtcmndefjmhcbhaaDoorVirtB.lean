/- The document's own parts of an address, at a level from 0 to 3: the walks of portreeveref05's Index, Base and Offset. -/
import Derived.Test.YtcmndefjmhcbhaaDoorVirtA
namespace Go.Proofs.YtcmndefjmhcbhaaDoor
open Go.RowKit

/-- A low address is its base and its offset together. -/
theorem base_off {l : Int} (hl : isLv l = true) {x : Nat} (hx : x < 281474976710656) : (baseV x l ||| offV x l) = x ∧ (baseV x l &&& offV x l) = 0 := by
  have hb : baseV x l = x / 2 ^ lowK l * 2 ^ lowK l := by
    unfold baseV baseN; rw [if_pos hl, Nat.mod_eq_of_lt hx]
  have ho : offV x l = x % 2 ^ lowK l := by unfold offV; rw [if_pos hl]
  have hlt : x % 2 ^ lowK l < 2 ^ lowK l := Nat.mod_lt _ (Nat.two_pow_pos _)
  rw [hb, ho]
  constructor
  · rw [Nat.mul_comm, ← Nat.two_pow_add_eq_or_of_lt hlt, Nat.div_add_mod]
  · apply Nat.eq_of_testBit_eq
    intro i
    rw [Nat.testBit_and, testBit_mul_pow, Nat.testBit_mod_two_pow, Nat.zero_testBit]
    by_cases h : lowK l ≤ i
    · rw [decide_eq_false (show ¬ i < lowK l by omega)]; simp
    · rw [decide_eq_false h]; simp
end Go.Proofs.YtcmndefjmhcbhaaDoor
