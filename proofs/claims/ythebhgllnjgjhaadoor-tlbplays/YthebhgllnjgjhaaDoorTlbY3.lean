/- A step of a play: a drop of an entry that there is not. Made by mktlby.py. -/
import Derived.Test.YthebhgllnjgjhaaDoorTlbY1
namespace Go.Proofs.YthebhgllnjgjhaaDoor
open Go.RowKit

set_option maxHeartbeats 16000000 in
set_option maxRecDepth 1000000 in
theorem step_3n {w0 w : World} {t : Nat} {most : Int} {l : List En} {ad : Option Addr} {cap : Nat} (h : PInv w0 w t most l ad cap) (hm : 1 ≤ most) (hm2 : most ≤ 64) (hF : Flds w0) (e : En) (he : e.ok) (N : Int) (hN : N < 0 ∨ (l.length : Int) ≤ N) :
    Calls Tryd.prog 9 #[.pointer (some ⟨t, 0, none⟩), .int .i64 most, .slice ad l.length cap, .agg #[.int .i64 3, .int .i64 N, .int .i64 e.aid, .int .u64 e.va, .int .i64 e.lv, .int .i64 e.k, .int .u64 e.o, .bool e.u, .bool e.r, .bool e.x, .bool e.s, .int .i64 e.a]] w fun r w' => ∃ l' ad' cap', r = .returned (.tuple #[.slice ad' l'.length cap', .bool true]) ∧ PInv w0 w' t most l' ad' cap' := by
  have HP := Hid.mk h
  have HF := Hid.mk hF
  obtain ⟨X, hBuf, hXlo, hnX⟩ := h.ex
  have hXlt : ∀ i, X i → i < w.heap.size := by obtain ⟨v, h1⟩ := hBuf; exact h1.lt
  have HBUF := Hid.mk hBuf
  have HXLO := Hid.mk hXlo
  have HNX := Hid.mk hnX
  have HXLT := Hid.mk hXlt
  have hlnI : (l.length : Int) ≤ 64 := by have := h.ln; omega
  have HLN : Hid (l.length ≤ 64) := by show _ ≤ _; omega
  have HMO := Hid.mk (And.intro hm hm2)
  have hLS := fun w1 => listed_c e w1
  have HDN : Hid (∀ W Y, Buf W Y t most l → Calls Tryd.prog 26 #[.pointer (some ⟨t, 0, none⟩), .int .i64 N] W fun r w' => r = .returned (.bool false) ∧ W = w') := fun W Y h1 => drop_no h1 N hN (by have := HLN.out; omega)
  clear h hF hBuf hXlo hnX hXlt hm hm2
  obtain ⟨a0, a1, a2, a3, a4, a5, a6, a7, a8, a9⟩ := e
  simp only [En.v] at *
  go_enter Tryd.func9, Tryd.ntmps9
  go_wp2_with fail
  refine (hLS _).mono ?_
  rintro e w1 ⟨rfl, hb1⟩
  have K7 := Hid.mk (block_later (below_tr hb1 (below_new w1 (.cells #[.int .i64 a0, .int .u64 a1, .int .i64 a2, .int .i64 a3, .int .u64 a4, .bool a5, .bool a6, .bool a7, .bool a8, .int .i64 a9] 51))) (heap_alloc_new w (.cells #[.int .i64 3, .int .i64 N, .int .i64 a0, .int .u64 a1, .int .i64 a2, .int .i64 a3, .int .u64 a4, .bool a5, .bool a6, .bool a7, .bool a8, .int .i64 a9] 35)))
  have K10 := Hid.mk (heap_alloc_new w1 (.cells #[.int .i64 a0, .int .u64 a1, .int .i64 a2, .int .i64 a3, .int .u64 a4, .bool a5, .bool a6, .bool a7, .bool a8, .int .i64 a9] 51))
  have HB2 := Hid.mk (below_tr (below_tr (below_new w (.cells #[.int .i64 3, .int .i64 N, .int .i64 a0, .int .u64 a1, .int .i64 a2, .int .i64 a3, .int .u64 a4, .bool a5, .bool a6, .bool a7, .bool a8, .int .i64 a9] 35)) hb1) (below_new w1 (.cells #[.int .i64 a0, .int .u64 a1, .int .i64 a2, .int .i64 a3, .int .u64 a4, .bool a5, .bool a6, .bool a7, .bool a8, .int .i64 a9] 51)))
  have HXB : Hid (∀ i, X i → i ≠ w.heap.size ∧ i ≠ w1.heap.size) := fun i hi => by
    have := HXLT.out i hi
    have := (below_tr (below_new w (.cells #[.int .i64 3, .int .i64 N, .int .i64 a0, .int .u64 a1, .int .i64 a2, .int .i64 a3, .int .u64 a4, .bool a5, .bool a6, .bool a7, .bool a8, .int .i64 a9] 35)) hb1).size
    omega
  clear hb1
  go_upto_region 2 with fail
  generalize w1.alloc (.cells #[.int .i64 a0, .int .u64 a1, .int .i64 a2, .int .i64 a3, .int .u64 a4, .bool a5, .bool a6, .bool a7, .bool a8, .int .i64 a9] 51) = w2 at *
  generalize w1.heap.size = B10 at *
  obtain ⟨k0, k1, k2, k3, k4, k5, k6, k7, k8, k9, k10, k11⟩ := cells12 K7.out
  obtain ⟨q0, q1, q2, q3, q4, q5, q6, q7, q8, q9⟩ := cells10 K10.out
  by_cases hz : N < 0
  · have dz : decide (N < 0) = true := decide_eq_true hz
    go_wp2_with fail
    refine (HDN.out _ X (HBUF.out.later HB2.out)).mono ?_
    rintro e w3 ⟨rfl, rfl⟩
    clear k0 k1 k2 k3 k4 k5 k6 k7 k8 k9 k10 k11 q0 q1 q2 q3 q4 q5 q6 q7 q8 q9
    go_wp2
    go_ret2
    exact ⟨l, _, _, rfl, HP.out.later HB2.out⟩
  · have dz : decide (N < 0) = false := decide_eq_false hz
    have dn : decide ((l.length : Int) ≤ N) = true := decide_eq_true (by omega)
    have hge : (l.length : Int) ≤ N := by omega
    go_wp2_with fail
    refine (HDN.out _ X (HBUF.out.later HB2.out)).mono ?_
    rintro e w3 ⟨rfl, rfl⟩
    clear k0 k1 k2 k3 k4 k5 k6 k7 k8 k9 k10 k11 q0 q1 q2 q3 q4 q5 q6 q7 q8 q9
    go_wp2
    go_ret2
    exact ⟨l, _, _, rfl, HP.out.later HB2.out⟩

end Go.Proofs.YthebhgllnjgjhaaDoor
