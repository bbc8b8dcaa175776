/- P15 -/
import Derived.Test.YtfdbdeckohaneaaGreatDoorP14
set_option maxHeartbeats 16000000
set_option maxRecDepth 100000
namespace Go.Proofs.YtfdbdeckohaneaaGreatDoor
open Go.RowKit
def qde (l : Int) (x : Nat) : Bool := !x.testBit 0 || okD l x
def rdV (l : Int) (x : Nat) : Value := dv (rdK l x) (rdO x) (rdU l x) (rdR l x) (rdX l x) (rdS l x) (rdA l x)
theorem rd_inv (l : Int) (x : Nat) (h0 : x.testBit 0 = false) : rdK l x = 0 ∧ rdO x = 0 ∧ rdU l x = false ∧ rdR l x = false ∧ rdX l x = false ∧ rdS l x = false ∧ rdA l x = 0 := by
 unfold rdK rdO rdU rdR rdX rdS rdA leafQ; simp [h0]
theorem rdV_inv (l : Int) (x : Nat) (h0 : x.testBit 0 = false) : rdV l x = dv 0 0 false false false false 0 := by
 obtain ⟨e0, e1, e2, e3, e4, e5, e6⟩ := rd_inv l x h0
 unfold rdV; rw [e0, e1, e2, e3, e4, e5, e6]
theorem qfo (l : Int) (x : Nat) (hl : isLv l = true) (hx : x < 18446744073709551616) (h : qde l x = true) (w : World) (hF : Flds w) :
  Calls Tryz.prog 83 #[.int .i64 l, .int .u64 x] w fun e w' => e = .returned (.tuple #[rdV l x, .int .i64 0]) ∧ Below w.heap.size w w' := by
 cases h0 : x.testBit 0
 ·rw [rdV_inv l x h0]
  exact decode_inv l x hx hl h0 w hF
 ·have hk : okD l x = true := by unfold qde at h; rw [h0] at h; simpa using h
  exact decode_ok l x hx hl h0 hk w hF
theorem decode_fail (l : Int) (x : Nat) (hl : isLv l = true) (hx : x < 18446744073709551616) (h : qde l x = false) (w : World) (hF : Flds w) :
  Calls Tryz.prog 83 #[.int .i64 l, .int .u64 x] w fun e w' => e = .returned (.tuple #[dv 0 0 false false false false 0, .int .i64 10]) ∧ Below w.heap.size w w' := by
 cases h0 : x.testBit 0
 ·unfold qde at h; rw [h0] at h; cases h
 ·have hk : okD l x = false := by unfold qde at h; rw [h0] at h; simpa using h
  exact decode_bad l x hx hl h0 hk w hF
end Go.Proofs.YtfdbdeckohaneaaGreatDoor
