/- A step of a play: a flush of all; a kind that there is not. Made by mktlby.py. -/
import Derived.Test.YthebhgllnjgjhaaDoorTlbY1
namespace Go.Proofs.YthebhgllnjgjhaaDoor
open Go.RowKit

set_option maxHeartbeats 16000000 in
set_option maxRecDepth 1000000 in
theorem step_6 {w0 w : World} {t : Nat} {most : Int} {l : List En} {ad : Option Addr} {cap : Nat} (h : PInv w0 w t most l ad cap) (hm : 1 ≤ most) (hm2 : most ≤ 64) (hF : Flds w0) (e : En) (he : e.ok) (N : Int) :
    Calls Tryd.prog 9 #[.pointer (some ⟨t, 0, none⟩), .int .i64 most, .slice ad l.length cap, .agg #[.int .i64 6, .int .i64 N, .int .i64 e.aid, .int .u64 e.va, .int .i64 e.lv, .int .i64 e.k, .int .u64 e.o, .bool e.u, .bool e.r, .bool e.x, .bool e.s, .int .i64 e.a]] w fun r w' => ∃ l' ad' cap', r = .returned (.tuple #[.slice ad' l'.length cap', .bool true]) ∧ PInv w0 w' t most l' ad' cap' := by
  have HP := Hid.mk h
  have HF := Hid.mk hF
  obtain ⟨X, hBuf, hXlo, hnX⟩ := h.ex
  have hXlt : ∀ i, X i → i < w.heap.size := by obtain ⟨v, h1⟩ := hBuf; exact h1.lt
  have HBUF := Hid.mk hBuf
  have HXLO := Hid.mk hXlo
  have HNX := Hid.mk hnX
  have HXLT := Hid.mk hXlt
  have hlnI : (l.length : Int) ≤ 64 := by have := h.ln; omega
  have HLN : Hid (l.length ≤ 64) := by show _ ≤ _; omega
  have HMO := Hid.mk (And.intro hm hm2)
  have hLS := fun w1 => listed_c e w1
  have HFA : Hid (∀ W Y, Buf W Y t most l → Calls Tryd.prog 28 #[.pointer (some ⟨t, 0, none⟩)] W fun r w' => r = .returned (.int .i64 (l.length : Int)) ∧ Buf w' Y t most [] ∧ Turn Y W w') := fun W Y h1 => flushAll_c h1 (by have := HLN.out; omega)
  clear h hF hBuf hXlo hnX hXlt hm hm2
  obtain ⟨a0, a1, a2, a3, a4, a5, a6, a7, a8, a9⟩ := e
  simp only [En.v] at *
  go_enter Tryd.func9, Tryd.ntmps9
  go_wp2_with fail
  refine (hLS _).mono ?_
  rintro e w1 ⟨rfl, hb1⟩
  have K7 := Hid.mk (block_later (below_tr hb1 (below_new w1 (.cells #[.int .i64 a0, .int .u64 a1, .int .i64 a2, .int .i64 a3, .int .u64 a4, .bool a5, .bool a6, .bool a7, .bool a8, .int .i64 a9] 51))) (heap_alloc_new w (.cells #[.int .i64 6, .int .i64 N, .int .i64 a0, .int .u64 a1, .int .i64 a2, .int .i64 a3, .int .u64 a4, .bool a5, .bool a6, .bool a7, .bool a8, .int .i64 a9] 35)))
  have K10 := Hid.mk (heap_alloc_new w1 (.cells #[.int .i64 a0, .int .u64 a1, .int .i64 a2, .int .i64 a3, .int .u64 a4, .bool a5, .bool a6, .bool a7, .bool a8, .int .i64 a9] 51))
  have HB2 := Hid.mk (below_tr (below_tr (below_new w (.cells #[.int .i64 6, .int .i64 N, .int .i64 a0, .int .u64 a1, .int .i64 a2, .int .i64 a3, .int .u64 a4, .bool a5, .bool a6, .bool a7, .bool a8, .int .i64 a9] 35)) hb1) (below_new w1 (.cells #[.int .i64 a0, .int .u64 a1, .int .i64 a2, .int .i64 a3, .int .u64 a4, .bool a5, .bool a6, .bool a7, .bool a8, .int .i64 a9] 51)))
  have HXB : Hid (∀ i, X i → i ≠ w.heap.size ∧ i ≠ w1.heap.size) := fun i hi => by
    have := HXLT.out i hi
    have := (below_tr (below_new w (.cells #[.int .i64 6, .int .i64 N, .int .i64 a0, .int .u64 a1, .int .i64 a2, .int .i64 a3, .int .u64 a4, .bool a5, .bool a6, .bool a7, .bool a8, .int .i64 a9] 35)) hb1).size
    omega
  clear hb1
  go_upto_region 2 with fail
  generalize w1.alloc (.cells #[.int .i64 a0, .int .u64 a1, .int .i64 a2, .int .i64 a3, .int .u64 a4, .bool a5, .bool a6, .bool a7, .bool a8, .int .i64 a9] 51) = w2 at *
  generalize w1.heap.size = B10 at *
  obtain ⟨k0, k1, k2, k3, k4, k5, k6, k7, k8, k9, k10, k11⟩ := cells12 K7.out
  obtain ⟨q0, q1, q2, q3, q4, q5, q6, q7, q8, q9⟩ := cells10 K10.out
  go_wp2_with fail
  refine (HFA.out _ X (HBUF.out.later HB2.out)).mono ?_
  rintro e w4 ⟨rfl, hB4, ht4⟩
  have HPN : Hid (PInv w0 w4 t most [] none 0) := HP.out.next HXLO.out HB2.out ⟨RdA.nil _ _, Nat.zero_le _, Nat.zero_le _, Or.inl rfl, fun a ha => by cases ha⟩ (fun a ha => by cases ha) ht4 hB4 (Or.inl rfl) (fun x hx => by cases hx) (by have := HMO.out.1; show (0 : Int) ≤ most; omega)
  clear k0 k1 k2 k3 k4 k5 k6 k7 k8 k9 k10 k11 q0 q1 q2 q3 q4 q5 q6 q7 q8 q9 hB4 ht4
  go_wp2
  go_ret2
  exact ⟨[], none, 0, rfl, HPN.out⟩

set_option maxHeartbeats 16000000 in
set_option maxRecDepth 1000000 in
theorem step_0 {w0 w : World} {t : Nat} {most : Int} {l : List En} {ad : Option Addr} {cap : Nat} (h : PInv w0 w t most l ad cap) (hm : 1 ≤ most) (hm2 : most ≤ 64) (hF : Flds w0) (e : En) (he : e.ok) (N kd : Int) (hkd : ¬ (kd = 1 ∨ kd = 2 ∨ kd = 3 ∨ kd = 4 ∨ kd = 5 ∨ kd = 6)) :
    Calls Tryd.prog 9 #[.pointer (some ⟨t, 0, none⟩), .int .i64 most, .slice ad l.length cap, .agg #[.int .i64 kd, .int .i64 N, .int .i64 e.aid, .int .u64 e.va, .int .i64 e.lv, .int .i64 e.k, .int .u64 e.o, .bool e.u, .bool e.r, .bool e.x, .bool e.s, .int .i64 e.a]] w fun r w' => ∃ l' ad' cap', r = .returned (.tuple #[.slice ad' l'.length cap', .bool true]) ∧ PInv w0 w' t most l' ad' cap' := by
  have HP := Hid.mk h
  have HF := Hid.mk hF
  obtain ⟨X, hBuf, hXlo, hnX⟩ := h.ex
  have hXlt : ∀ i, X i → i < w.heap.size := by obtain ⟨v, h1⟩ := hBuf; exact h1.lt
  have HBUF := Hid.mk hBuf
  have HXLO := Hid.mk hXlo
  have HNX := Hid.mk hnX
  have HXLT := Hid.mk hXlt
  have hlnI : (l.length : Int) ≤ 64 := by have := h.ln; omega
  have HLN : Hid (l.length ≤ 64) := by show _ ≤ _; omega
  have HMO := Hid.mk (And.intro hm hm2)
  have hLS := fun w1 => listed_c e w1
  have g1 : ¬ kd = 1 := fun h1 => hkd (Or.inl h1)
  have g2 : ¬ kd = 2 := fun h1 => hkd (Or.inr (Or.inl h1))
  have g3 : ¬ kd = 3 := fun h1 => hkd (Or.inr (Or.inr (Or.inl h1)))
  have g4 : ¬ kd = 4 := fun h1 => hkd (Or.inr (Or.inr (Or.inr (Or.inl h1))))
  have g5 : ¬ kd = 5 := fun h1 => hkd (Or.inr (Or.inr (Or.inr (Or.inr (Or.inl h1)))))
  have g6 : ¬ kd = 6 := fun h1 => hkd (Or.inr (Or.inr (Or.inr (Or.inr (Or.inr h1)))))
  have e1 : (kd == 1) = false := by rw [beq_eq_false_iff_ne]; exact g1
  have e2 : (kd == 2) = false := by rw [beq_eq_false_iff_ne]; exact g2
  have e3 : (kd == 3) = false := by rw [beq_eq_false_iff_ne]; exact g3
  have e4 : (kd == 4) = false := by rw [beq_eq_false_iff_ne]; exact g4
  have e5 : (kd == 5) = false := by rw [beq_eq_false_iff_ne]; exact g5
  have e6 : (kd == 6) = false := by rw [beq_eq_false_iff_ne]; exact g6
  clear hkd g1 g2 g3 g4 g5 g6
  clear h hF hBuf hXlo hnX hXlt hm hm2
  obtain ⟨a0, a1, a2, a3, a4, a5, a6, a7, a8, a9⟩ := e
  simp only [En.v] at *
  go_enter Tryd.func9, Tryd.ntmps9
  go_wp2_with fail
  refine (hLS _).mono ?_
  rintro e w1 ⟨rfl, hb1⟩
  have K7 := Hid.mk (block_later (below_tr hb1 (below_new w1 (.cells #[.int .i64 a0, .int .u64 a1, .int .i64 a2, .int .i64 a3, .int .u64 a4, .bool a5, .bool a6, .bool a7, .bool a8, .int .i64 a9] 51))) (heap_alloc_new w (.cells #[.int .i64 kd, .int .i64 N, .int .i64 a0, .int .u64 a1, .int .i64 a2, .int .i64 a3, .int .u64 a4, .bool a5, .bool a6, .bool a7, .bool a8, .int .i64 a9] 35)))
  have K10 := Hid.mk (heap_alloc_new w1 (.cells #[.int .i64 a0, .int .u64 a1, .int .i64 a2, .int .i64 a3, .int .u64 a4, .bool a5, .bool a6, .bool a7, .bool a8, .int .i64 a9] 51))
  have HB2 := Hid.mk (below_tr (below_tr (below_new w (.cells #[.int .i64 kd, .int .i64 N, .int .i64 a0, .int .u64 a1, .int .i64 a2, .int .i64 a3, .int .u64 a4, .bool a5, .bool a6, .bool a7, .bool a8, .int .i64 a9] 35)) hb1) (below_new w1 (.cells #[.int .i64 a0, .int .u64 a1, .int .i64 a2, .int .i64 a3, .int .u64 a4, .bool a5, .bool a6, .bool a7, .bool a8, .int .i64 a9] 51)))
  have HXB : Hid (∀ i, X i → i ≠ w.heap.size ∧ i ≠ w1.heap.size) := fun i hi => by
    have := HXLT.out i hi
    have := (below_tr (below_new w (.cells #[.int .i64 kd, .int .i64 N, .int .i64 a0, .int .u64 a1, .int .i64 a2, .int .i64 a3, .int .u64 a4, .bool a5, .bool a6, .bool a7, .bool a8, .int .i64 a9] 35)) hb1).size
    omega
  clear hb1
  go_upto_region 2 with fail
  generalize w1.alloc (.cells #[.int .i64 a0, .int .u64 a1, .int .i64 a2, .int .i64 a3, .int .u64 a4, .bool a5, .bool a6, .bool a7, .bool a8, .int .i64 a9] 51) = w2 at *
  generalize w1.heap.size = B10 at *
  obtain ⟨k0, k1, k2, k3, k4, k5, k6, k7, k8, k9, k10, k11⟩ := cells12 K7.out
  obtain ⟨q0, q1, q2, q3, q4, q5, q6, q7, q8, q9⟩ := cells10 K10.out
  go_wp2
  go_ret2
  exact ⟨l, _, _, rfl, HP.out.later HB2.out⟩

end Go.Proofs.YthebhgllnjgjhaaDoor
