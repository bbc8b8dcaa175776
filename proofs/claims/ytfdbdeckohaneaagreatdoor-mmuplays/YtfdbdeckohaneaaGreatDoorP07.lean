/- P07 -/
import Derived.Test.YtfdbdeckohaneaaGreatDoorP06
set_option maxHeartbeats 16000000
set_option maxRecDepth 100000
namespace Go.Proofs.YtfdbdeckohaneaaGreatDoor
open Go.RowKit
theorem right_off {l : Int} (hl : isLv l = true) : qbj ((0 : Nat) : Int) ((lowK l : Nat) : Int) = true := by
 obtain ⟨-, h1, h2, -⟩ := qcg hl
 unfold qbj; rw [decide_eq_true_eq]; omega
theorem wv_idx {l : Int} (hl : isLv l = true) (x : Nat) : wv (fun i => decide (i < 9) && x.testBit (lowK l + i)) 0 64 = idxN x l := by
 rw [getV_eq (n := 9) (right_idx hl) x]; exact getV_mod (n := 9) (right_idx hl) x
theorem wv_off {l : Int} (hl : isLv l = true) (x : Nat) : wv (fun i => decide (i < lowK l) && x.testBit (0 + i)) 0 64 = offV x l := by
 rw [getV_eq (l := 0) (right_off hl) x, getV_mod (l := 0) (right_off hl) x]
 unfold offV
 rw [if_pos hl]; simp
theorem wv_base {l : Int} (hl : isLv l = true) (x : Nat) : wv (fun i => decide (((lowK l : Nat) : Int) ≤ (i : Int)) && (x % 281474976710656).testBit i) 0 64 = qbn x l := by
 rw [refDown_eq (x % 281474976710656) ((lowK l : Nat) : Int) _ (mod48_lt x) (by omega), ← (qcg hl).1, downV_base hl]
 unfold qbn
 rw [if_pos hl]
theorem qfe (l : Int) (hl : isLv l = true) (w : World) :
  Calls Tryz.prog 96 #[.int .i64 l] w fun e w' => e = .returned (.int .i64 ((lowK l : Nat) : Int)) ∧ Below w.heap.size w w' := by
 have h := refLow_any l hl w
 rw [(qcg hl).1] at h
 exact h
theorem refIndex_any (x : Nat) (l : Int) (hl : isLv l = true) (hx : x < 18446744073709551616) (w : World) :
  Calls Tryz.prog 109 #[.int .u64 x, .int .i64 l] w fun e w' => e = .returned (.int .i64 (idxI x l)) ∧ Below w.heap.size w w' := by
 have HE : Hid (idxI x l = (idxN x l : Int)) := by show idxI x l = _; unfold idxI; rw [if_pos hl]
 have hlt := idxN_lt x l
 have hG := wv_idx hl x
 obtain ⟨-, k1, k2, -⟩ := qcg hl
 go_enter Tryz.func109, Tryz.ntmps109
 go_wp2_with fail
 refine (qfe l hl _).mono ?_
 rintro e w1 ⟨rfl, b1⟩
 go_wp2_with fail
 refine (refGet_any x (lowK l) 9 hx (by omega) _).mono ?_
 rintro e w2 ⟨rfl, b2⟩
 rw [hG]
 go_wp2
 go_ret
 exact ⟨by rw [HE.out]; rfl, qab b1 b2⟩
theorem qcz (x : Nat) (l : Int) (hl : isLv l = true) (hx : x < 18446744073709551616) (w : World) :
  Calls Tryz.prog 94 #[.int .u64 x, .int .i64 l] w fun e w' => e = .returned (.int .u64 ((qbn x l : Nat) : Int)) ∧ Below w.heap.size w w' := by
 have hG := wv_base hl x
 have hm := mod48_lt x
 obtain ⟨-, k1, k2, -⟩ := qcg hl
 have hE : (x : Int) % 281474976710656 = ((x % 281474976710656 : Nat) : Int) := by omega
 generalize x % 281474976710656 = y at *
 go_enter Tryz.func94, Tryz.ntmps94
 go_wp2_with fail
 refine (qfe l hl _).mono ?_
 rintro e w1 ⟨rfl, b1⟩
 go_wp2_with fail
 refine (refDown_any y (lowK l) hm (by omega) _).mono ?_
 rintro e w2 ⟨rfl, b2⟩
 rw [hG]
 go_wp2
 go_ret
 exact ⟨rfl, qab b1 b2⟩
theorem qdl (x : Nat) (l : Int) (hl : isLv l = true) (hx : x < 18446744073709551616) (w : World) :
  Calls Tryz.prog 58 #[.int .u64 x, .int .i64 l] w fun e w' => e = .returned (.int .u64 ((offV x l : Nat) : Int)) ∧ Below w.heap.size w w' := by
 have hG := wv_off hl x
 obtain ⟨-, k1, k2, -⟩ := qcg hl
 go_enter Tryz.func58, Tryz.ntmps58
 go_wp2_with fail
 refine (qfe l hl _).mono ?_
 rintro e w1 ⟨rfl, b1⟩
 go_wp2_with fail
 refine (refGet_any x 0 (lowK l) hx (by omega) _).mono ?_
 rintro e w2 ⟨rfl, b2⟩
 rw [hG]
 go_wp2
 go_ret
 exact ⟨rfl, qab b1 b2⟩
end Go.Proofs.YtfdbdeckohaneaaGreatDoor
