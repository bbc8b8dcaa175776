/- P36 -/
import Derived.Test.YtfdbdeckohaneaaGreatDoorP34
import Derived.Test.YtfdbdeckohaneaaGreatDoorP35
set_option maxHeartbeats 16000000
set_option maxRecDepth 100000
namespace Go.Proofs.YtfdbdeckohaneaaGreatDoor.MM
open Go.RowKit Go.Maps
theorem rentry {e : TB.En} (h : TB.qbe e = true) : e.va < 281474976710656 ∧ qbn e.va e.lv = e.va ∧ isLv e.lv = true ∧ e.s = true := by
 unfold TB.qbe at h
 rw [Bool.and_eq_true, Bool.and_eq_true, Bool.and_eq_true] at h
 have h2 := h.2.2.2
 unfold TB.mB at h2
 rw [Bool.and_eq_true, Bool.and_eq_true] at h2
 have hl := h2.2.1
 have hb := h2.2.2
 unfold lowB at hl
 unfold TB.qdd at hb
 rw [Bool.and_eq_true, decide_eq_true_eq] at hb
 exact ⟨of_decide_eq_true hl, hb.2, hb.1, h.2.2.1⟩
section
variable {S : Nat} {f : Nat → Nat} {R : Nat}
theorem lfR_s {r : Int × Int × Nat} (h : (lfR r).s = true) : r.1 = 0 ∧ (lfR r).l = r.2.1 ∧ ftR r = (0, 0) := by
 unfold lfR at h ⊢
 unfold ftR
 by_cases hr : r.1 = 0
 ·rw [if_pos hr, if_pos hr]; exact ⟨hr, rfl, rfl⟩
 ·rw [if_neg hr] at h; cases h
end
section
variable {S : Nat} {most : Int} {s : St} {R I : Nat}
end
end Go.Proofs.YtfdbdeckohaneaaGreatDoor.MM
