/- Capabilities, fourth part: what the document says is right. -/
import Derived.Test.YtcmndefjmhcbhaaDoorCapB
set_option linter.unusedVariables false
namespace Go.Proofs.YtcmndefjmhcbhaaDoor
open Go.RowKit

/-- How many bits an object's size has, by the document. -/
def szV (k b : Int) : Int := if k = 0 then (if b = 0 then (-1) else (-2)) else (if k = 6 then (if b = 0 then (-1) else (-2)) else (if k = 1 then (if 5 ≤ b then (if b ≤ 32 then (b) else (-2)) else (-2)) else (if k = 2 then (if 1 ≤ b then (if b ≤ 12 then (b + 5) else (-2)) else (-2)) else (if k = 10 then (if 1 ≤ b then (if b ≤ 12 then (b + 5) else (-2)) else (-2)) else (if k = 3 then (if b = 12 then (b) else (if b = 21 then (b) else (if b = 30 then (b) else (-2)))) else (if k = 4 then (if b = 12 then (12) else (-2)) else (if k = 5 then (if b = 12 then (12) else (-2)) else (if k = 7 then (if b = 12 then (12) else (-2)) else (if k = 8 then (if b = 7 then (b) else (-2)) else (if k = 9 then (if b = 5 then (b) else (-2)) else (-2)))))))))))

set_option maxHeartbeats 4000000 in
theorem sz_le (k b : Int) : -2 ≤ szV k b ∧ szV k b ≤ 32 := by
  generalize h : szV k b = z
  unfold szV at h
  (repeat' split at h) <;> subst h <;> constructor <;> omega

/-- May an object of so many bits lie there? -/
def inM (a n : Nat) : Bool := decide (a < 4294967296) && (decide (a % 2 ^ n = 0) && decide (a + 2 ^ n ≤ 4294967296))

/-- May the object lie so? -/
def liesB (k : Int) (a : Nat) (b : Int) : Bool := if szV k b < 0 then (if szV k b = -1 then decide (a = 0) else false) else inM a (szV k b).toNat

/-- Is an address the base of a level's stretch, by the document? -/
def plB (m : Nat) (l : Int) : Bool := decide (m < 281474976710656) && isB m l

end Go.Proofs.YtcmndefjmhcbhaaDoor
