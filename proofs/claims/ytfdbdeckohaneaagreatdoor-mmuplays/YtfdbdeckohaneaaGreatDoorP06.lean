/- P06 -/
import Derived.Test.YtfdbdeckohaneaaGreatDoorP05
set_option maxHeartbeats 16000000
set_option maxRecDepth 100000
namespace Go.Proofs.YtfdbdeckohaneaaGreatDoor
open Go.RowKit
theorem vlevel_any (l : Int) (w : World) :
  Calls Tryz.prog 134 #[.int .i64 l] w fun e w' => e = .returned (.bool (isLv l)) ∧ w = w' := by
 by_cases h1 : 0 ≤ l
 ·have d1 : decide (0 ≤ l) = true := decide_eq_true h1
  have HE : Hid (isLv l = decide (l < 4)) := by show isLv l = _; unfold isLv; rw [decide_eq_decide]; omega
  go_enter Tryz.func134, Tryz.ntmps134
  go_wp2
  go_ret
  exact ⟨by rw [HE.out]; rfl, rfl⟩
 ·have d1 : decide (0 ≤ l) = false := decide_eq_false h1
  have HE : Hid (isLv l = false) := by show isLv l = _; unfold isLv; rw [decide_eq_false_iff_not]; omega
  go_enter Tryz.func134, Tryz.ntmps134
  go_wp2
  go_ret
  exact ⟨by rw [HE.out]; rfl, rfl⟩
def lowK (l : Int) : Nat := (lowL l).toNat
theorem qcg {l : Int} (hl : isLv l = true) : lowL l = ((lowK l : Nat) : Int) ∧ 12 ≤ lowK l ∧ lowK l ≤ 39 ∧ (lowK l : Int) = 39 - 9 * l := by
 have hb := qdf hl
 have e : lowL l = 39 - 9 * l := by unfold lowL; rw [if_pos hl]
 unfold lowK
 rw [e]; omega
theorem lowL_wrong {l : Int} (hl : isLv l = false) : lowL l = 0 := by unfold lowL; rw [hl]; rfl
def idxN (x : Nat) (l : Int) : Nat := x / 2 ^ lowK l % 512
def idxI (x : Nat) (l : Int) : Int := if isLv l = true then (idxN x l : Int) else -1
def baseN (x : Nat) (l : Int) : Nat := x % 281474976710656 / 2 ^ lowK l * 2 ^ lowK l
def qbn (x : Nat) (l : Int) : Nat := if isLv l = true then baseN x l else 0
def offV (x : Nat) (l : Int) : Nat := if isLv l = true then x % 2 ^ lowK l else 0
def lowB (x : Nat) : Bool := decide (x < 281474976710656)
theorem idxN_lt (x : Nat) (l : Int) : idxN x l < 512 := Nat.mod_lt _ (by omega)
theorem right_idx {l : Int} (hl : isLv l = true) : qbj ((lowK l : Nat) : Int) ((9 : Nat) : Int) = true := by
 obtain ⟨-, h1, h2, -⟩ := qcg hl
 unfold qbj; rw [decide_eq_true_eq]; omega
theorem getV_idx {l : Int} (hl : isLv l = true) (x : Nat) : getV (lowL l) 9 x = idxN x l := by
 rw [(qcg hl).1]; exact getV_mod (n := 9) (right_idx hl) x
theorem baseN_le (x : Nat) (l : Int) : baseN x l ≤ x % 281474976710656 := Nat.div_mul_le_self _ _
theorem baseV_lt (x : Nat) (l : Int) : qbn x l < 281474976710656 := by
 unfold qbn
 cases isLv l
 ·show 0 < _; omega
 ·have := baseN_le x l
  have := Nat.mod_lt x (show 0 < 281474976710656 by omega)
  rw [if_pos rfl]; omega
theorem ones48 : ones 48 = 281474976710655 := by decide +kernel
theorem and48 (x : Nat) : x &&& 281474976710655 = x % 281474976710656 := Nat.and_two_pow_sub_one_eq_mod x 48
theorem mod48_lt (x : Nat) : x % 281474976710656 < 18446744073709551616 := by have := Nat.mod_lt x (show 0 < 281474976710656 by omega); omega
theorem downV_base {l : Int} (hl : isLv l = true) (x : Nat) : downV (x % 281474976710656) (lowL l) = baseN x l := by
 obtain ⟨e, h1, h2, -⟩ := qcg hl
 rw [e]; exact down_mid _ _ (by omega) (mod48_lt x)
theorem and_off (x : Nat) (l : Int) : x &&& ones (lowL l) = offV x l := by
 cases hl : isLv l
 ·rw [lowL_wrong hl, show ones 0 = 0 by decide]; unfold offV; rw [hl]; simp
 ·obtain ⟨e, h1, h2, -⟩ := qcg hl
  rw [e, and_mid _ _ (by omega) (by omega)]; unfold offV; rw [if_pos hl]
theorem low_any (x : Nat) (w : World) :
  Calls Tryz.prog 122 #[.int .u64 x] w fun e w' => e = .returned (.bool (lowB x)) ∧ w = w' := by
 have HE : Hid (lowB x = decide ((x : Int) < 281474976710656)) := by show lowB x = _; unfold lowB; rw [decide_eq_decide]; omega
 go_enter Tryz.func122, Tryz.ntmps122
 go_wp2
 go_ret
 exact ⟨by rw [HE.out]; rfl, rfl⟩
theorem index_any (x : Nat) (l : Int) (hx : x < 18446744073709551616) (w : World) :
  Calls Tryz.prog 137 #[.int .u64 x, .int .i64 l] w fun e w' => e = .returned (.int .i64 (idxI x l)) ∧ Below w.heap.size w w' := by
 cases hl : isLv l
 ·have HE : Hid (idxI x l = -1) := by show idxI x l = _; unfold idxI; rw [hl]; rfl
  go_enter Tryz.func137, Tryz.ntmps137
  go_wp2_with (go_at_call 134; refine (vlevel_any _ _).mono ?_; rintro e w' ⟨rfl, rfl⟩; rw [hl])
  go_ret
  exact ⟨by rw [HE.out]; rfl, Below.refl _ _⟩
 ·have HE : Hid (idxI x l = (idxN x l : Int)) := by show idxI x l = _; unfold idxI; rw [if_pos hl]
  have hG := getV_idx hl x
  have hlt := idxN_lt x l
  go_enter Tryz.func137, Tryz.ntmps137
  go_wp2_with (first
   | (go_at_call 134; refine (vlevel_any _ _).mono ?_; rintro e w' ⟨rfl, rfl⟩; rw [hl])
   | (go_at_call 115; refine (qcd _ _).mono ?_; rintro e w' ⟨rfl, rfl⟩)
   | fail)
  refine (get_any _ _ _ hx _).mono ?_
  rintro e w1 ⟨rfl, hb⟩
  rw [hG]
  go_wp2
  go_ret
  exact ⟨by rw [HE.out]; rfl, qab (qac _ _) hb⟩
theorem qfd (x : Nat) (l : Int) (hx : x < 18446744073709551616) (w : World) :
  Calls Tryz.prog 101 #[.int .u64 x, .int .i64 l] w fun e w' => e = .returned (.int .u64 ((qbn x l : Nat) : Int)) ∧ w = w' := by
 cases hl : isLv l
 ·have HE : Hid (qbn x l = 0) := by show qbn x l = _; unfold qbn; rw [hl]; rfl
  go_enter Tryz.func101, Tryz.ntmps101
  go_wp2_with (go_at_call 134; refine (vlevel_any _ _).mono ?_; rintro e w' ⟨rfl, rfl⟩; rw [hl])
  go_ret
  exact ⟨by rw [HE.out]; rfl, rfl⟩
 ·have HE : Hid (qbn x l = baseN x l) := by show qbn x l = _; unfold qbn; rw [if_pos hl]
  have hD := downV_base hl x
  have hA : bits BinOp.and IntKind.u64 (x : Int) (281474976710655 : Int) = ((x % 281474976710656 : Nat) : Int) := by
   have := bits_and_u64_nat x 281474976710655 hx (by omega)
   rw [and48] at this
   exact this
  have hm := mod48_lt x
  generalize x % 281474976710656 = y at *
  go_enter Tryz.func101, Tryz.ntmps101
  go_wp2_with (first
   | (go_at_call 134; refine (vlevel_any _ _).mono ?_; rintro e w' ⟨rfl, rfl⟩; rw [hl])
   | (go_at_call 78; refine (qfh _ _).mono ?_; rintro e w' ⟨rfl, rfl⟩; rw [ones48])
   | (go_at_call 115; refine (qcd _ _).mono ?_; rintro e w' ⟨rfl, rfl⟩)
   | fail)
  refine (down_any y _ hm _).mono ?_
  rintro e w1 ⟨rfl, rfl⟩
  rw [hD]
  go_wp2
  go_ret
  exact ⟨by rw [HE.out]; rfl, rfl⟩
theorem offset_any (x : Nat) (l : Int) (hx : x < 18446744073709551616) (w : World) :
  Calls Tryz.prog 77 #[.int .u64 x, .int .i64 l] w fun e w' => e = .returned (.int .u64 ((offV x l : Nat) : Int)) ∧ w = w' := by
 have HE : Hid ((offV x l : Int) = bits BinOp.and IntKind.u64 (x : Int) (ones (lowL l) : Int)) := by
  show (offV x l : Int) = _
  rw [bits_and_u64_nat _ _ hx (ones_lt _), and_off]
 go_enter Tryz.func77, Tryz.ntmps77
 go_wp2_with (first
  | (go_at_call 115; refine (qcd _ _).mono ?_; rintro e w' ⟨rfl, rfl⟩)
  | (go_at_call 78; refine (qfh _ _).mono ?_; rintro e w' ⟨rfl, rfl⟩))
 go_ret
 exact ⟨by rw [HE.out]; rfl, rfl⟩
end Go.Proofs.YtfdbdeckohaneaaGreatDoor
