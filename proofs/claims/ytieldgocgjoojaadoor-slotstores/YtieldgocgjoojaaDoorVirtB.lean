/- The document's own parts of an address, at a level from 0 to 3: the walks of portreeveref05's Index, Base and Offset. -/
import Derived.Test.YtieldgocgjoojaaDoorVirtA
namespace Go.Proofs.YtieldgocgjoojaaDoor
open Go.RowKit

theorem right_off {l : Int} (hl : isLv l = true) : rightB ((0 : Nat) : Int) ((lowK l : Nat) : Int) = true := by
  obtain ⟨-, h1, h2, -⟩ := lowK_eq hl
  unfold rightB; rw [decide_eq_true_eq]; omega
theorem wv_idx {l : Int} (hl : isLv l = true) (x : Nat) : wv (fun i => decide (i < 9) && x.testBit (lowK l + i)) 0 64 = idxN x l := by
  rw [getV_eq (n := 9) (right_idx hl) x]; exact getV_mod (n := 9) (right_idx hl) x
theorem wv_off {l : Int} (hl : isLv l = true) (x : Nat) : wv (fun i => decide (i < lowK l) && x.testBit (0 + i)) 0 64 = offV x l := by
  rw [getV_eq (l := 0) (right_off hl) x, getV_mod (l := 0) (right_off hl) x]
  unfold offV
  rw [if_pos hl]; simp
theorem wv_base {l : Int} (hl : isLv l = true) (x : Nat) : wv (fun i => decide (((lowK l : Nat) : Int) ≤ (i : Int)) && (x % 281474976710656).testBit i) 0 64 = baseV x l := by
  rw [refDown_eq (x % 281474976710656) ((lowK l : Nat) : Int) _ (mod48_lt x) (by omega), ← (lowK_eq hl).1, downV_base hl]
  unfold baseV
  rw [if_pos hl]
theorem refLowK_any (l : Int) (hl : isLv l = true) (w : World) :
    Calls Tryd.prog 74 #[.int .i64 l] w fun e w' => e = .returned (.int .i64 ((lowK l : Nat) : Int)) ∧ Below w.heap.size w w' := by
  have h := refLow_any l hl w
  rw [(lowK_eq hl).1] at h
  exact h

set_option maxHeartbeats 400000 in
theorem refBase_any (x : Nat) (l : Int) (hl : isLv l = true) (hx : x < 18446744073709551616) (w : World) :
    Calls Tryd.prog 70 #[.int .u64 x, .int .i64 l] w fun e w' => e = .returned (.int .u64 ((baseV x l : Nat) : Int)) ∧ Below w.heap.size w w' := by
  have hG := wv_base hl x
  have hm := mod48_lt x
  obtain ⟨-, k1, k2, -⟩ := lowK_eq hl
  have hE : (x : Int) % 281474976710656 = ((x % 281474976710656 : Nat) : Int) := by omega
  generalize x % 281474976710656 = y at *
  go_enter Tryd.func70, Tryd.ntmps70
  go_wp2_with fail
  refine (refLowK_any l hl _).mono ?_
  rintro e w1 ⟨rfl, b1⟩
  go_wp2_with fail
  refine (refDown_any y (lowK l) hm (by omega) _).mono ?_
  rintro e w2 ⟨rfl, b2⟩
  rw [hG]
  go_wp2
  go_ret
  exact ⟨rfl, below_tr b1 b2⟩

/-- A low address is its base and its offset together. -/
theorem base_off {l : Int} (hl : isLv l = true) {x : Nat} (hx : x < 281474976710656) : (baseV x l ||| offV x l) = x ∧ (baseV x l &&& offV x l) = 0 := by
  have hb : baseV x l = x / 2 ^ lowK l * 2 ^ lowK l := by
    unfold baseV baseN; rw [if_pos hl, Nat.mod_eq_of_lt hx]
  have ho : offV x l = x % 2 ^ lowK l := by unfold offV; rw [if_pos hl]
  have hlt : x % 2 ^ lowK l < 2 ^ lowK l := Nat.mod_lt _ (Nat.two_pow_pos _)
  rw [hb, ho]
  constructor
  · rw [Nat.mul_comm, ← Nat.two_pow_add_eq_or_of_lt hlt, Nat.div_add_mod]
  · apply Nat.eq_of_testBit_eq
    intro i
    rw [Nat.testBit_and, testBit_mul_pow, Nat.testBit_mod_two_pow, Nat.zero_testBit]
    by_cases h : lowK l ≤ i
    · rw [decide_eq_false (show ¬ i < lowK l by omega)]; simp
    · rw [decide_eq_false h]; simp
end Go.Proofs.YtieldgocgjoojaaDoor
