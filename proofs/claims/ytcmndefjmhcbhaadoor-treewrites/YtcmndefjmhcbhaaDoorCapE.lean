/- Capabilities, fifth part: what the document says of guards and marks; its Right. -/
import Derived.Test.YtcmndefjmhcbhaaDoorCapC
import Derived.Test.YtcmndefjmhcbhaaDoorCapD
set_option linter.unusedVariables false
namespace Go.Proofs.YtcmndefjmhcbhaaDoor
open Go.RowKit

/-- Does 32 divide a number? -/
def al5 (m : Nat) : Bool := decide (m % 32 = 0)

/-- Is a number below two to the power of another one? -/
def ltP (m : Nat) (b : Int) : Bool := decide (m < 2 ^ b.toNat)

theorem rem5 {m : Nat} (h : al5 m = true) : (m : Int).tmod 32 = 0 := by
  have := of_decide_eq_true h
  rw [Int.tmod_eq_emod_of_nonneg (by omega)]; omega

theorem rem5n {m : Nat} (h : al5 m = false) : ∃ q : Nat, (m : Int).tmod 32 = (q : Int) ∧ ¬ q = 0 ∧ ((q : Int) == 0) = false := by
  have := of_decide_eq_false h
  refine ⟨m % 32, ?_, this, ?_⟩
  · rw [Int.tmod_eq_emod_of_nonneg (by omega)]; omega
  · rw [beq_eq_false_iff_ne]; omega

def mk1 (b g s : Int) (m : Nat) : Bool := if leP m b = true then (if al5 m = true then ((g : Int) == 0) else (false)) else (false)

def mk2 (b g s : Int) (m : Nat) : Bool := if 0 ≤ g then (if g ≤ 63 then (if g ≤ 64 - b then (ltP m g) else (false)) else (false)) else (false)

def mk3 (b g s : Int) (m : Nat) : Bool := if g = 0 then (if s = 0 then ((m : Int) == 0) else (if b = 21 then (plB m 2) else (if b = 30 then (plB m 1) else (plB m 3)))) else (false)

def mk4 (b g s : Int) (m : Nat) : Bool := if s = 0 then (if g = 0 then ((m : Int) == 0) else (false)) else (if 1 ≤ g then (if g ≤ 3 then (plB m (g - 1)) else (false)) else (false))

def mk7 (b g s : Int) (m : Nat) : Bool := if g = 0 then (decide ((m : Int) < 8)) else (false)

def mk9 (b g s : Int) (m : Nat) : Bool := if g = 0 then (true) else (false)

def mk10 (b g s : Int) (m : Nat) : Bool := if g = 0 then (leP m b) else (false)

def mk0 (b g s : Int) (m : Nat) : Bool := if g = 0 then ((m : Int) == 0) else (false)

/-- Is Mark right, and Guard, by the document? -/
def mkB (k b g s : Int) (m : Nat) : Bool := if k = 1 then mk1 b g s m else if k = 2 then mk2 b g s m else if k = 3 then mk3 b g s m else if k = 4 then mk4 b g s m else if k = 7 then mk7 b g s m else if k = 9 then mk9 b g s m else if k = 10 then mk10 b g s m else mk0 b g s m

set_option maxHeartbeats 4000000 in
theorem sz_bits {k b : Int} (h : ¬ szV k b = -2) : (k = 0 ∨ k = 1 ∨ k = 2 ∨ k = 3 ∨ k = 4 ∨ k = 5 ∨ k = 6 ∨ k = 7 ∨ k = 8 ∨ k = 9 ∨ k = 10) ∧ 0 ≤ b ∧ b ≤ 32 ∧ (k = 2 → 1 ≤ b ∧ b ≤ 12) := by
  unfold szV at h
  (repeat' split at h) <;> first | exact absurd rfl h | (refine ⟨by omega, ?_, ?_, ?_⟩ <;> omega)

theorem lies_sz {k b : Int} {a : Nat} (h : liesB k a b = true) : ¬ szV k b = -2 := by
  intro hc
  unfold liesB at h
  rw [hc, if_pos (by decide), if_neg (by decide)] at h
  cases h

/-- Is a capability right, by the document? -/
def dB (k : Int) (a : Nat) (b r g s : Int) (m : Nat) : Bool := if liesB k a b = true then (if rB r = true then (if s < 0 then (false) else (if 4095 < s then (false) else (if r = 0 then (if s = 0 then (mkB k b g s m) else (if k = 3 then (mkB k b g s m) else (if k = 4 then (mkB k b g s m) else (if k = 5 then (mkB k b g s m) else (false))))) else (if k = 3 then (if s = 0 then (mkB k b g s m) else (mkB k b g s m)) else (if k = 9 then (if r ≤ 3 then (if s = 0 then (mkB k b g s m) else (false)) else (false)) else (false)))))) else (false)) else (false)

end Go.Proofs.YtcmndefjmhcbhaaDoor
