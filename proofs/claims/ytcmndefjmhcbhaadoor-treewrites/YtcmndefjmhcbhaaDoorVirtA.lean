/- The walks of package virt, first part: levels, and the parts of an address; what the document answers of them. -/
import Derived.Test.YtcmndefjmhcbhaaDoorAlignMath
namespace Go.Proofs.YtcmndefjmhcbhaaDoor
open Go.RowKit

theorem below_new (w : World) (o : Obj) : Below w.heap.size w (w.alloc o) := (Below.refl _ _).alloc (Nat.le_refl _) _

def isLv (l : Int) : Bool := decide (0 ≤ l ∧ l ≤ 3)
theorem isLv_of {l : Int} (h : isLv l = true) : 0 ≤ l ∧ l ≤ 3 := of_decide_eq_true h
theorem low_lv {l : Int} (hl : isLv l = true) : l = 0 ∨ l = 1 ∨ l = 2 ∨ l = 3 := by have := isLv_of hl; omega

set_option maxHeartbeats 400000 in
theorem isLevel_any (l : Int) (w : World) :
    Calls Tryd.prog 88 #[.int .i64 l] w fun e w' => e = .returned (.bool (isLv l)) ∧ w = w' := by
  by_cases h1 : 0 ≤ l
  · have d1 : decide (0 ≤ l) = true := decide_eq_true h1
    have HE : Hid (isLv l = decide (l ≤ 3)) := by show isLv l = _; unfold isLv; rw [decide_eq_decide]; omega
    go_enter Tryd.func88, Tryd.ntmps88
    go_wp2
    go_ret
    exact ⟨by rw [HE.out]; rfl, rfl⟩
  · have d1 : decide (0 ≤ l) = false := decide_eq_false h1
    have HE : Hid (isLv l = false) := by show isLv l = _; unfold isLv; rw [decide_eq_false_iff_not]; omega
    go_enter Tryd.func88, Tryd.ntmps88
    go_wp2
    go_ret
    exact ⟨by rw [HE.out]; rfl, rfl⟩

set_option maxHeartbeats 400000 in
theorem vlevel_any (l : Int) (w : World) :
    Calls Tryd.prog 90 #[.int .i64 l] w fun e w' => e = .returned (.bool (isLv l)) ∧ w = w' := by
  by_cases h1 : 0 ≤ l
  · have d1 : decide (0 ≤ l) = true := decide_eq_true h1
    have HE : Hid (isLv l = decide (l < 4)) := by show isLv l = _; unfold isLv; rw [decide_eq_decide]; omega
    go_enter Tryd.func90, Tryd.ntmps90
    go_wp2
    go_ret
    exact ⟨by rw [HE.out]; rfl, rfl⟩
  · have d1 : decide (0 ≤ l) = false := decide_eq_false h1
    have HE : Hid (isLv l = false) := by show isLv l = _; unfold isLv; rw [decide_eq_false_iff_not]; omega
    go_enter Tryd.func90, Tryd.ntmps90
    go_wp2
    go_ret
    exact ⟨by rw [HE.out]; rfl, rfl⟩

/-- How many bits an entry of a level covers. -/
def lowL (l : Int) : Int := if isLv l = true then 39 - 9 * l else 0

set_option maxHeartbeats 400000 in
theorem dbits_any (l : Int) (w : World) :
    Calls Tryd.prog 86 #[.int .i64 l] w fun e w' => e = .returned (.int .i64 (lowL l)) ∧ w = w' := by
  cases hl : isLv l
  · have HE : Hid (lowL l = 0) := by show lowL l = _; unfold lowL; rw [hl]; rfl
    go_enter Tryd.func86, Tryd.ntmps86
    go_wp2_with (go_at_call 88; refine (isLevel_any _ _).mono ?_; rintro e w' ⟨rfl, rfl⟩; rw [hl])
    go_ret
    exact ⟨by rw [HE.out]; rfl, rfl⟩
  · have hb := isLv_of hl
    obtain ⟨h0, h3⟩ := hb
    have HE : Hid (lowL l = 12 + 9 * (3 - l)) := by show lowL l = _; unfold lowL; rw [hl, if_pos rfl]; omega
    go_enter Tryd.func86, Tryd.ntmps86
    go_wp2_with (go_at_call 88; refine (isLevel_any _ _).mono ?_; rintro e w' ⟨rfl, rfl⟩; rw [hl])
    go_ret
    exact ⟨by rw [HE.out]; rfl, rfl⟩

/-- The bits of a level as a plain number. -/
def lowK (l : Int) : Nat := (lowL l).toNat
theorem lowK_eq {l : Int} (hl : isLv l = true) : lowL l = ((lowK l : Nat) : Int) ∧ 12 ≤ lowK l ∧ lowK l ≤ 39 ∧ (lowK l : Int) = 39 - 9 * l := by
  have hb := isLv_of hl
  have e : lowL l = 39 - 9 * l := by unfold lowL; rw [if_pos hl]
  unfold lowK
  rw [e]; omega
theorem lowL_wrong {l : Int} (hl : isLv l = false) : lowL l = 0 := by unfold lowL; rw [hl]; rfl

/-- The parts of an address, by division. -/
def idxN (x : Nat) (l : Int) : Nat := x / 2 ^ lowK l % 512
def idxI (x : Nat) (l : Int) : Int := if isLv l = true then (idxN x l : Int) else -1
def baseN (x : Nat) (l : Int) : Nat := x % 281474976710656 / 2 ^ lowK l * 2 ^ lowK l
def baseV (x : Nat) (l : Int) : Nat := if isLv l = true then baseN x l else 0
def offV (x : Nat) (l : Int) : Nat := if isLv l = true then x % 2 ^ lowK l else 0
def lowB (x : Nat) : Bool := decide (x < 281474976710656)

theorem getV_mod {l n : Nat} (h : rightB (l : Int) (n : Int) = true) (x : Nat) : getV l n x = x / 2 ^ l % 2 ^ n := by
  apply Nat.eq_of_testBit_eq
  intro i
  rw [getV_testBit h, Nat.testBit_mod_two_pow, Nat.testBit_div_two_pow, Nat.add_comm]
theorem idxN_lt (x : Nat) (l : Int) : idxN x l < 512 := Nat.mod_lt _ (by omega)
theorem right_idx {l : Int} (hl : isLv l = true) : rightB ((lowK l : Nat) : Int) ((9 : Nat) : Int) = true := by
  obtain ⟨-, h1, h2, -⟩ := lowK_eq hl
  unfold rightB; rw [decide_eq_true_eq]; omega
theorem getV_idx {l : Int} (hl : isLv l = true) (x : Nat) : getV (lowL l) 9 x = idxN x l := by
  rw [(lowK_eq hl).1]; exact getV_mod (n := 9) (right_idx hl) x
theorem baseN_le (x : Nat) (l : Int) : baseN x l ≤ x % 281474976710656 := Nat.div_mul_le_self _ _
theorem baseV_lt (x : Nat) (l : Int) : baseV x l < 281474976710656 := by
  unfold baseV
  cases isLv l
  · show 0 < _; omega
  · have := baseN_le x l
    have := Nat.mod_lt x (show 0 < 281474976710656 by omega)
    rw [if_pos rfl]; omega
theorem offV_le (x : Nat) (l : Int) : offV x l ≤ x := by
  unfold offV
  cases isLv l
  · show 0 ≤ _; omega
  · rw [if_pos rfl]; exact Nat.mod_le _ _
theorem ones48 : ones 48 = 281474976710655 := by decide +kernel
theorem and48 (x : Nat) : x &&& 281474976710655 = x % 281474976710656 := Nat.and_two_pow_sub_one_eq_mod x 48
theorem mod48_lt (x : Nat) : x % 281474976710656 < 18446744073709551616 := by have := Nat.mod_lt x (show 0 < 281474976710656 by omega); omega
theorem downV_base {l : Int} (hl : isLv l = true) (x : Nat) : downV (x % 281474976710656) (lowL l) = baseN x l := by
  obtain ⟨e, h1, h2, -⟩ := lowK_eq hl
  rw [e]; exact down_mid _ _ (by omega) (mod48_lt x)
theorem and_off (x : Nat) (l : Int) : x &&& ones (lowL l) = offV x l := by
  cases hl : isLv l
  · rw [lowL_wrong hl, show ones 0 = 0 by decide]; unfold offV; rw [hl]; simp
  · obtain ⟨e, h1, h2, -⟩ := lowK_eq hl
    rw [e, and_mid _ _ (by omega) (by omega)]; unfold offV; rw [if_pos hl]

set_option maxHeartbeats 400000 in
theorem base_any (x : Nat) (l : Int) (hx : x < 18446744073709551616) (w : World) :
    Calls Tryd.prog 89 #[.int .u64 x, .int .i64 l] w fun e w' => e = .returned (.int .u64 ((baseV x l : Nat) : Int)) ∧ w = w' := by
  cases hl : isLv l
  · have HE : Hid (baseV x l = 0) := by show baseV x l = _; unfold baseV; rw [hl]; rfl
    go_enter Tryd.func89, Tryd.ntmps89
    go_wp2_with (go_at_call 90; refine (vlevel_any _ _).mono ?_; rintro e w' ⟨rfl, rfl⟩; rw [hl])
    go_ret
    exact ⟨by rw [HE.out]; rfl, rfl⟩
  · have HE : Hid (baseV x l = baseN x l) := by show baseV x l = _; unfold baseV; rw [if_pos hl]
    have hD := downV_base hl x
    have hA : bits BinOp.and IntKind.u64 (x : Int) (281474976710655 : Int) = ((x % 281474976710656 : Nat) : Int) := by
      have := bits_and_u64_nat x 281474976710655 hx (by omega)
      rw [and48] at this
      exact this
    have hm := mod48_lt x
    generalize x % 281474976710656 = y at *
    go_enter Tryd.func89, Tryd.ntmps89
    go_wp2_with (first
      | (go_at_call 90; refine (vlevel_any _ _).mono ?_; rintro e w' ⟨rfl, rfl⟩; rw [hl])
      | (go_at_call 55; refine (ones_any _ _).mono ?_; rintro e w' ⟨rfl, rfl⟩; rw [ones48])
      | (go_at_call 86; refine (dbits_any _ _).mono ?_; rintro e w' ⟨rfl, rfl⟩)
      | fail)
    refine (down_any y _ hm _).mono ?_
    rintro e w1 ⟨rfl, rfl⟩
    rw [hD]
    go_wp2
    go_ret
    exact ⟨by rw [HE.out]; rfl, rfl⟩

end Go.Proofs.YtcmndefjmhcbhaaDoor
