/- P16 -/
import Derived.Test.YtfdbdeckohaneaaGreatDoorP15
import Derived.Test.YtfdbdeckohaneaaGreatDoorP07
import Derived.Test.YtfdbdeckohaneaaGreatDoorP11
set_option maxHeartbeats 16000000
set_option maxRecDepth 100000
namespace Go.Proofs.YtfdbdeckohaneaaGreatDoor
open Go.RowKit Go.Maps
theorem cell_drw {w : World} {a : Addr} {v : Value} (h : w.cell? a = some v) : w.drew.cell? a = some v := cell_later (Below.refl _ _).drew h
def mf (S : Nat) (l : Int) (x : Nat) : Int := if qde l x = false then 4 else if rdK l x = 0 then 1 else if rdK l x ≠ 1 ∧ S < rdO x + 2 ^ lowK l then 4 else 0
def wk (S : Nat) (f : Nat → Nat) (va : Nat) : Nat → Nat → List (Nat × Nat) × Int × Int × Nat
 | 0, _ => ([], 1, 0, 0)
 | k + 1, tb =>
  let t := tb + 8 * idxN va (3 - k)
  if errA S t ≠ 0 then ([], 4, 3 - k, 0)
  else if mf S (3 - k) (f t) ≠ 0 then ([(t, f t)], mf S (3 - k) (f t), 3 - k, 0)
  else if rdK (3 - k) (f t) ≠ 1 then ([(t, f t)], 0, 3 - k, f t)
  else ((t, f t) :: (wk S f va k (rdO (f t))).1, (wk S f va k (rdO (f t))).2)
section
variable {S : Nat} {f : Nat → Nat} {va k tb t x : Nat} {l : Int}
theorem wk_err (hl : l = 3 - k) (ht : t = tb + 8 * idxN va l) (he : errA S t ≠ 0) : wk S f va (k + 1) tb = ([], 4, l, 0) := by
 subst hl ht; unfold wk; simp only; rw [if_pos he]
theorem qfi (hl : l = 3 - k) (ht : t = tb + 8 * idxN va l) (he : errA S t = 0) (hm : mf S l (f t) ≠ 0) : wk S f va (k + 1) tb = ([(t, f t)], mf S l (f t), l, 0) := by
 subst hl ht; unfold wk; simp only; rw [if_neg (fun c => c he), if_pos hm]
theorem wk_leaf (hl : l = 3 - k) (ht : t = tb + 8 * idxN va l) (he : errA S t = 0) (hm : mf S l (f t) = 0) (hk : rdK l (f t) ≠ 1) : wk S f va (k + 1) tb = ([(t, f t)], 0, l, f t) := by
 subst hl ht; unfold wk; simp only; rw [if_neg (fun c => c he), if_neg (fun c => c hm), if_pos hk]
theorem wk_table (hl : l = 3 - k) (ht : t = tb + 8 * idxN va l) (he : errA S t = 0) (hm : mf S l (f t) = 0) (hk : rdK l (f t) = 1) :
  wk S f va (k + 1) tb = ((t, f t) :: (wk S f va k (rdO (f t))).1, (wk S f va k (rdO (f t))).2) := by
 subst hl ht
 conv => lhs; unfold wk
 simp only
 rw [if_neg (fun c => c he), if_neg (fun c => c hm), if_neg (fun c => c hk)]
end
def wk0 (S : Nat) (f : Nat → Nat) (l : Int) (tb va : Nat) : List (Nat × Nat) × Int × Int × Nat :=
 if isLv l = true ∧ tb % 4096 = 0 ∧ va < 281474976710656 then wk S f va (4 - l).toNat tb else ([], 1, 0, 0)
def d7 (l : Int) (x : Nat) : List Value := [.int .i64 (rdK l x), .int .u64 (rdO x : Nat), .bool (rdU l x), .bool (rdR l x), .bool (rdX l x), .bool (rdS l x), .int .i64 (rdA l x)]
theorem rdV_d7 (l : Int) (x : Nat) : rdV l x = .agg (d7 l x).toArray := rfl
def zD : List Value := [.int .i64 0, .int .u64 0, .bool false, .bool false, .bool false, .bool false, .int .i64 0]
def zL : List Value := .int .i64 0 :: zD
def zF : List Value := [.int .i64 0, .int .i64 0]
def qeg (r : Int × Int × Nat) : List Value := if r.1 = 0 then .int .i64 r.2.1 :: d7 r.2.1 r.2.2 else zL
def qcj (r : Int × Int × Nat) : List Value := if r.1 = 0 then zF else [.int .i64 r.1, .int .i64 r.2.1]
theorem leafL_len (r : Int × Int × Nat) : (qeg r).length = 8 := by unfold qeg; split <;> rfl
theorem faultL_len (r : Int × Int × Nat) : (qcj r).length = 2 := by unfold qcj; split <;> rfl
theorem leafL_one (r : Int × Int × Nat) : (qeg r).toArray.all (·.oneCell') = true := all_oneCell_toArray (by unfold qeg; split <;> simp [d7, zL, zD, Value.oneCell'])
theorem faultL_one (r : Int × Int × Nat) : (qcj r).toArray.all (·.oneCell') = true := all_oneCell_toArray (by unfold qcj; split <;> simp [zF, Value.oneCell'])
end Go.Proofs.YtfdbdeckohaneaaGreatDoor
