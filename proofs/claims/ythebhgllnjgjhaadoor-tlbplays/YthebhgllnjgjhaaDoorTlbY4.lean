/- A step of a play: flushes. Made by mktlby.py. -/
import Derived.Test.YthebhgllnjgjhaaDoorTlbY1
namespace Go.Proofs.YthebhgllnjgjhaaDoor
open Go.RowKit

set_option maxHeartbeats 16000000 in
set_option maxRecDepth 1000000 in
theorem step_4 {w0 w : World} {t : Nat} {most : Int} {l : List En} {ad : Option Addr} {cap : Nat} (h : PInv w0 w t most l ad cap) (hm : 1 ≤ most) (hm2 : most ≤ 64) (hF : Flds w0) (e : En) (he : e.ok) (N : Int) :
    Calls Tryd.prog 9 #[.pointer (some ⟨t, 0, none⟩), .int .i64 most, .slice ad l.length cap, .agg #[.int .i64 4, .int .i64 N, .int .i64 e.aid, .int .u64 e.va, .int .i64 e.lv, .int .i64 e.k, .int .u64 e.o, .bool e.u, .bool e.r, .bool e.x, .bool e.s, .int .i64 e.a]] w fun r w' => ∃ l' ad' cap', r = .returned (.tuple #[.slice ad' l'.length cap', .bool true]) ∧ PInv w0 w' t most l' ad' cap' := by
  have HP := Hid.mk h
  have HF := Hid.mk hF
  obtain ⟨X, hBuf, hXlo, hnX⟩ := h.ex
  have hXlt : ∀ i, X i → i < w.heap.size := by obtain ⟨v, h1⟩ := hBuf; exact h1.lt
  have HBUF := Hid.mk hBuf
  have HXLO := Hid.mk hXlo
  have HNX := Hid.mk hnX
  have HXLT := Hid.mk hXlt
  have hlnI : (l.length : Int) ≤ 64 := by have := h.ln; omega
  have HLN : Hid (l.length ≤ 64) := by show _ ≤ _; omega
  have HMO := Hid.mk (And.intro hm hm2)
  have hLS := fun w1 => listed_c e w1
  have HLV : Hid (∀ x ∈ l, isLv x.lv = true) := fun x hx => (right_facts (h.rt x hx)).1
  have HFV : Hid (∀ W Y, Buf W Y t most l → Calls Tryd.prog 13 #[.pointer (some ⟨t, 0, none⟩), .int .i64 e.aid, .int .u64 e.va] W fun r w' => r = .returned (.int .i64 ((l.length : Int) - ((keepP (fun y => mB y e.aid e.va) l).length : Int))) ∧ Buf w' Y t most (keepP (fun y => mB y e.aid e.va) l) ∧ Turn Y W w') := fun W Y h1 => flushVa_c h1 (by have := HLN.out; omega) e.aid e.va he.1
  have HRF : Hid (∀ W, RdA W ad l → Calls Tryd.prog 27 #[.slice ad l.length cap, .int .i64 e.aid, .bool true, .int .u64 e.va] W fun r w' => ∃ ad' cap', r = .returned (.slice ad' (keepP (fun y => mB y e.aid e.va) l).length cap') ∧ RLst w' ad' cap' (keepP (fun y => mB y e.aid e.va) l) ∧ (∀ b, ad' = some b → W.heap.size ≤ b.block) ∧ Below W.heap.size W w') := fun W h1 => rflush_va l ad cap h1 HLV.out (by have := HLN.out; omega) e.aid e.va he.1
  have HKT : Hid (∀ x ∈ keepP (fun y => mB y e.aid e.va) l, rightE x = true) := fun x hx => h.rt x (List.mem_filter.1 hx).1
  have hkl := keep_le (fun y => mB y e.aid e.va) l
  have HKL : Hid (((keepP (fun y => mB y e.aid e.va) l).length : Int) ≤ most) := by have := h.ln; show _ ≤ _; omega
  have hkI : ((keepP (fun y => mB y e.aid e.va) l).length : Int) ≤ (l.length : Int) := by omega
  clear hkl HLV
  generalize keepP (fun y => mB y e.aid e.va) l = KL at *
  clear h hF hBuf hXlo hnX hXlt hm hm2
  obtain ⟨a0, a1, a2, a3, a4, a5, a6, a7, a8, a9⟩ := e
  simp only [En.v] at *
  go_enter Tryd.func9, Tryd.ntmps9
  go_wp2_with fail
  refine (hLS _).mono ?_
  rintro e w1 ⟨rfl, hb1⟩
  have K7 := Hid.mk (block_later (below_tr hb1 (below_new w1 (.cells #[.int .i64 a0, .int .u64 a1, .int .i64 a2, .int .i64 a3, .int .u64 a4, .bool a5, .bool a6, .bool a7, .bool a8, .int .i64 a9] 51))) (heap_alloc_new w (.cells #[.int .i64 4, .int .i64 N, .int .i64 a0, .int .u64 a1, .int .i64 a2, .int .i64 a3, .int .u64 a4, .bool a5, .bool a6, .bool a7, .bool a8, .int .i64 a9] 35)))
  have K10 := Hid.mk (heap_alloc_new w1 (.cells #[.int .i64 a0, .int .u64 a1, .int .i64 a2, .int .i64 a3, .int .u64 a4, .bool a5, .bool a6, .bool a7, .bool a8, .int .i64 a9] 51))
  have HB2 := Hid.mk (below_tr (below_tr (below_new w (.cells #[.int .i64 4, .int .i64 N, .int .i64 a0, .int .u64 a1, .int .i64 a2, .int .i64 a3, .int .u64 a4, .bool a5, .bool a6, .bool a7, .bool a8, .int .i64 a9] 35)) hb1) (below_new w1 (.cells #[.int .i64 a0, .int .u64 a1, .int .i64 a2, .int .i64 a3, .int .u64 a4, .bool a5, .bool a6, .bool a7, .bool a8, .int .i64 a9] 51)))
  have HXB : Hid (∀ i, X i → i ≠ w.heap.size ∧ i ≠ w1.heap.size) := fun i hi => by
    have := HXLT.out i hi
    have := (below_tr (below_new w (.cells #[.int .i64 4, .int .i64 N, .int .i64 a0, .int .u64 a1, .int .i64 a2, .int .i64 a3, .int .u64 a4, .bool a5, .bool a6, .bool a7, .bool a8, .int .i64 a9] 35)) hb1).size
    omega
  clear hb1
  go_upto_region 2 with fail
  generalize w1.alloc (.cells #[.int .i64 a0, .int .u64 a1, .int .i64 a2, .int .i64 a3, .int .u64 a4, .bool a5, .bool a6, .bool a7, .bool a8, .int .i64 a9] 51) = w2 at *
  generalize w1.heap.size = B10 at *
  obtain ⟨k0, k1, k2, k3, k4, k5, k6, k7, k8, k9, k10, k11⟩ := cells12 K7.out
  obtain ⟨q0, q1, q2, q3, q4, q5, q6, q7, q8, q9⟩ := cells10 K10.out
  go_wp2_with fail
  refine (HRF.out _ (HP.out.rl.later HB2.out).rd).mono ?_
  rintro e w3 ⟨ad', cap', rfl, hr3, hf3, hb3⟩
  have HB3 := Hid.mk (below_tr HB2.out hb3)
  have HR3 := Hid.mk hr3
  have HN3 : Hid (notIn X ad') := fun a ha hx => by
    have h1 := hf3 a ha
    have h2 := HXLT.out _ hx
    have h3 := HB2.out.size
    omega
  have K10b := Hid.mk (block_later hb3 K10.out)
  clear k0 k1 k2 k3 k4 k5 k6 k7 k8 k9 k10 k11 q0 q1 q2 q3 q4 q5 q6 q7 q8 q9 K7 K10 hr3 hf3 hb3 HRF
  obtain ⟨q0, q1, q2, q3, q4, q5, q6, q7, q8, q9⟩ := cells10 K10b.out
  go_wp2_with fail
  refine (HFV.out _ X (HBUF.out.later HB3.out)).mono ?_
  rintro e w4 ⟨rfl, hB4, ht4⟩
  have HPN := Hid.mk (HP.out.next HXLO.out HB3.out HR3.out HN3.out ht4 hB4 (Or.inl rfl) HKT.out HKL.out)
  clear hB4 ht4 HFV q0 q1 q2 q3 q4 q5 q6 q7 q8 q9 K10b
  go_wp2
  go_ret2
  exact ⟨_, _, _, rfl, HPN.out⟩

set_option maxHeartbeats 16000000 in
set_option maxRecDepth 1000000 in
theorem step_5 {w0 w : World} {t : Nat} {most : Int} {l : List En} {ad : Option Addr} {cap : Nat} (h : PInv w0 w t most l ad cap) (hm : 1 ≤ most) (hm2 : most ≤ 64) (hF : Flds w0) (e : En) (he : e.ok) (N : Int) (h0 : 0 ≤ e.aid) :
    Calls Tryd.prog 9 #[.pointer (some ⟨t, 0, none⟩), .int .i64 most, .slice ad l.length cap, .agg #[.int .i64 5, .int .i64 N, .int .i64 e.aid, .int .u64 e.va, .int .i64 e.lv, .int .i64 e.k, .int .u64 e.o, .bool e.u, .bool e.r, .bool e.x, .bool e.s, .int .i64 e.a]] w fun r w' => ∃ l' ad' cap', r = .returned (.tuple #[.slice ad' l'.length cap', .bool true]) ∧ PInv w0 w' t most l' ad' cap' := by
  have HP := Hid.mk h
  have HF := Hid.mk hF
  obtain ⟨X, hBuf, hXlo, hnX⟩ := h.ex
  have hXlt : ∀ i, X i → i < w.heap.size := by obtain ⟨v, h1⟩ := hBuf; exact h1.lt
  have HBUF := Hid.mk hBuf
  have HXLO := Hid.mk hXlo
  have HNX := Hid.mk hnX
  have HXLT := Hid.mk hXlt
  have hlnI : (l.length : Int) ≤ 64 := by have := h.ln; omega
  have HLN : Hid (l.length ≤ 64) := by show _ ≤ _; omega
  have HMO := Hid.mk (And.intro hm hm2)
  have hLS := fun w1 => listed_c e w1
  have HFV : Hid (∀ W Y, Buf W Y t most l → Calls Tryd.prog 16 #[.pointer (some ⟨t, 0, none⟩), .int .i64 e.aid] W fun r w' => r = .returned (.int .i64 ((l.length : Int) - ((keepP (fun y => decide (y.aid = e.aid)) l).length : Int))) ∧ Buf w' Y t most (keepP (fun y => decide (y.aid = e.aid)) l) ∧ Turn Y W w') := fun W Y h1 => flushAsid_c h1 (by have := HLN.out; omega) e.aid
  have HRF : Hid (∀ W, RdA W ad l → Calls Tryd.prog 27 #[.slice ad l.length cap, .int .i64 e.aid, .bool false, .int .u64 0] W fun r w' => ∃ ad' cap', r = .returned (.slice ad' (keepP (fun y => decide (y.aid = e.aid)) l).length cap') ∧ RLst w' ad' cap' (keepP (fun y => decide (y.aid = e.aid)) l) ∧ (∀ b, ad' = some b → W.heap.size ≤ b.block) ∧ Below W.heap.size W w') := fun W h1 => rflush_as l ad cap h1 (by have := HLN.out; omega) e.aid h0
  have HKT : Hid (∀ x ∈ keepP (fun y => decide (y.aid = e.aid)) l, rightE x = true) := fun x hx => h.rt x (List.mem_filter.1 hx).1
  have hkl := keep_le (fun y => decide (y.aid = e.aid)) l
  have HKL : Hid (((keepP (fun y => decide (y.aid = e.aid)) l).length : Int) ≤ most) := by have := h.ln; show _ ≤ _; omega
  have hkI : ((keepP (fun y => decide (y.aid = e.aid)) l).length : Int) ≤ (l.length : Int) := by omega
  have dz : decide (e.aid < 0) = false := decide_eq_false (by omega)
  clear hkl h0
  generalize keepP (fun y => decide (y.aid = e.aid)) l = KL at *
  clear h hF hBuf hXlo hnX hXlt hm hm2
  obtain ⟨a0, a1, a2, a3, a4, a5, a6, a7, a8, a9⟩ := e
  simp only [En.v] at *
  go_enter Tryd.func9, Tryd.ntmps9
  go_wp2_with fail
  refine (hLS _).mono ?_
  rintro e w1 ⟨rfl, hb1⟩
  have K7 := Hid.mk (block_later (below_tr hb1 (below_new w1 (.cells #[.int .i64 a0, .int .u64 a1, .int .i64 a2, .int .i64 a3, .int .u64 a4, .bool a5, .bool a6, .bool a7, .bool a8, .int .i64 a9] 51))) (heap_alloc_new w (.cells #[.int .i64 5, .int .i64 N, .int .i64 a0, .int .u64 a1, .int .i64 a2, .int .i64 a3, .int .u64 a4, .bool a5, .bool a6, .bool a7, .bool a8, .int .i64 a9] 35)))
  have K10 := Hid.mk (heap_alloc_new w1 (.cells #[.int .i64 a0, .int .u64 a1, .int .i64 a2, .int .i64 a3, .int .u64 a4, .bool a5, .bool a6, .bool a7, .bool a8, .int .i64 a9] 51))
  have HB2 := Hid.mk (below_tr (below_tr (below_new w (.cells #[.int .i64 5, .int .i64 N, .int .i64 a0, .int .u64 a1, .int .i64 a2, .int .i64 a3, .int .u64 a4, .bool a5, .bool a6, .bool a7, .bool a8, .int .i64 a9] 35)) hb1) (below_new w1 (.cells #[.int .i64 a0, .int .u64 a1, .int .i64 a2, .int .i64 a3, .int .u64 a4, .bool a5, .bool a6, .bool a7, .bool a8, .int .i64 a9] 51)))
  have HXB : Hid (∀ i, X i → i ≠ w.heap.size ∧ i ≠ w1.heap.size) := fun i hi => by
    have := HXLT.out i hi
    have := (below_tr (below_new w (.cells #[.int .i64 5, .int .i64 N, .int .i64 a0, .int .u64 a1, .int .i64 a2, .int .i64 a3, .int .u64 a4, .bool a5, .bool a6, .bool a7, .bool a8, .int .i64 a9] 35)) hb1).size
    omega
  clear hb1
  go_upto_region 2 with fail
  generalize w1.alloc (.cells #[.int .i64 a0, .int .u64 a1, .int .i64 a2, .int .i64 a3, .int .u64 a4, .bool a5, .bool a6, .bool a7, .bool a8, .int .i64 a9] 51) = w2 at *
  generalize w1.heap.size = B10 at *
  obtain ⟨k0, k1, k2, k3, k4, k5, k6, k7, k8, k9, k10, k11⟩ := cells12 K7.out
  obtain ⟨q0, q1, q2, q3, q4, q5, q6, q7, q8, q9⟩ := cells10 K10.out
  go_wp2_with fail
  refine (HRF.out _ (HP.out.rl.later HB2.out).rd).mono ?_
  rintro e w3 ⟨ad', cap', rfl, hr3, hf3, hb3⟩
  have HB3 := Hid.mk (below_tr HB2.out hb3)
  have HR3 := Hid.mk hr3
  have HN3 : Hid (notIn X ad') := fun a ha hx => by
    have h1 := hf3 a ha
    have h2 := HXLT.out _ hx
    have h3 := HB2.out.size
    omega
  have K10b := Hid.mk (block_later hb3 K10.out)
  clear k0 k1 k2 k3 k4 k5 k6 k7 k8 k9 k10 k11 q0 q1 q2 q3 q4 q5 q6 q7 q8 q9 K7 K10 hr3 hf3 hb3 HRF
  obtain ⟨q0, q1, q2, q3, q4, q5, q6, q7, q8, q9⟩ := cells10 K10b.out
  go_wp2_with fail
  refine (HFV.out _ X (HBUF.out.later HB3.out)).mono ?_
  rintro e w4 ⟨rfl, hB4, ht4⟩
  have HPN := Hid.mk (HP.out.next HXLO.out HB3.out HR3.out HN3.out ht4 hB4 (Or.inl rfl) HKT.out HKL.out)
  clear hB4 ht4 HFV q0 q1 q2 q3 q4 q5 q6 q7 q8 q9 K10b
  go_wp2
  go_ret2
  exact ⟨_, _, _, rfl, HPN.out⟩

set_option maxHeartbeats 16000000 in
set_option maxRecDepth 1000000 in
theorem step_5n {w0 w : World} {t : Nat} {most : Int} {l : List En} {ad : Option Addr} {cap : Nat} (h : PInv w0 w t most l ad cap) (hm : 1 ≤ most) (hm2 : most ≤ 64) (hF : Flds w0) (e : En) (he : e.ok) (N : Int) (h0 : e.aid < 0) :
    Calls Tryd.prog 9 #[.pointer (some ⟨t, 0, none⟩), .int .i64 most, .slice ad l.length cap, .agg #[.int .i64 5, .int .i64 N, .int .i64 e.aid, .int .u64 e.va, .int .i64 e.lv, .int .i64 e.k, .int .u64 e.o, .bool e.u, .bool e.r, .bool e.x, .bool e.s, .int .i64 e.a]] w fun r w' => ∃ l' ad' cap', r = .returned (.tuple #[.slice ad' l'.length cap', .bool true]) ∧ PInv w0 w' t most l' ad' cap' := by
  have HP := Hid.mk h
  have HF := Hid.mk hF
  obtain ⟨X, hBuf, hXlo, hnX⟩ := h.ex
  have hXlt : ∀ i, X i → i < w.heap.size := by obtain ⟨v, h1⟩ := hBuf; exact h1.lt
  have HBUF := Hid.mk hBuf
  have HXLO := Hid.mk hXlo
  have HNX := Hid.mk hnX
  have HXLT := Hid.mk hXlt
  have hlnI : (l.length : Int) ≤ 64 := by have := h.ln; omega
  have HLN : Hid (l.length ≤ 64) := by show _ ≤ _; omega
  have HMO := Hid.mk (And.intro hm hm2)
  have hLS := fun w1 => listed_c e w1
  have hks : keepP (fun y => decide (y.aid = e.aid)) l = l := by
    unfold keepP
    exact List.filter_eq_self.2 fun x hx => by
      have := (right_facts (h.rt x hx)).2
      have h1 : ¬ x.aid = e.aid := by omega
      simp [h1]
  have hFV : ∀ W Y, Buf W Y t most l → Calls Tryd.prog 16 #[.pointer (some ⟨t, 0, none⟩), .int .i64 e.aid] W fun r w' => r = .returned (.int .i64 0) ∧ Buf w' Y t most l ∧ Turn Y W w' := fun W Y h1 => by
    have h2 := flushAsid_c h1 (by have := HLN.out; omega) e.aid
    rw [hks, Int.sub_self] at h2
    exact h2
  have HFV := Hid.mk hFV
  have dz : decide (e.aid < 0) = true := decide_eq_true h0
  clear h0 hks hFV
  clear h hF hBuf hXlo hnX hXlt hm hm2
  obtain ⟨a0, a1, a2, a3, a4, a5, a6, a7, a8, a9⟩ := e
  simp only [En.v] at *
  go_enter Tryd.func9, Tryd.ntmps9
  go_wp2_with fail
  refine (hLS _).mono ?_
  rintro e w1 ⟨rfl, hb1⟩
  have K7 := Hid.mk (block_later (below_tr hb1 (below_new w1 (.cells #[.int .i64 a0, .int .u64 a1, .int .i64 a2, .int .i64 a3, .int .u64 a4, .bool a5, .bool a6, .bool a7, .bool a8, .int .i64 a9] 51))) (heap_alloc_new w (.cells #[.int .i64 5, .int .i64 N, .int .i64 a0, .int .u64 a1, .int .i64 a2, .int .i64 a3, .int .u64 a4, .bool a5, .bool a6, .bool a7, .bool a8, .int .i64 a9] 35)))
  have K10 := Hid.mk (heap_alloc_new w1 (.cells #[.int .i64 a0, .int .u64 a1, .int .i64 a2, .int .i64 a3, .int .u64 a4, .bool a5, .bool a6, .bool a7, .bool a8, .int .i64 a9] 51))
  have HB2 := Hid.mk (below_tr (below_tr (below_new w (.cells #[.int .i64 5, .int .i64 N, .int .i64 a0, .int .u64 a1, .int .i64 a2, .int .i64 a3, .int .u64 a4, .bool a5, .bool a6, .bool a7, .bool a8, .int .i64 a9] 35)) hb1) (below_new w1 (.cells #[.int .i64 a0, .int .u64 a1, .int .i64 a2, .int .i64 a3, .int .u64 a4, .bool a5, .bool a6, .bool a7, .bool a8, .int .i64 a9] 51)))
  have HXB : Hid (∀ i, X i → i ≠ w.heap.size ∧ i ≠ w1.heap.size) := fun i hi => by
    have := HXLT.out i hi
    have := (below_tr (below_new w (.cells #[.int .i64 5, .int .i64 N, .int .i64 a0, .int .u64 a1, .int .i64 a2, .int .i64 a3, .int .u64 a4, .bool a5, .bool a6, .bool a7, .bool a8, .int .i64 a9] 35)) hb1).size
    omega
  clear hb1
  go_upto_region 2 with fail
  generalize w1.alloc (.cells #[.int .i64 a0, .int .u64 a1, .int .i64 a2, .int .i64 a3, .int .u64 a4, .bool a5, .bool a6, .bool a7, .bool a8, .int .i64 a9] 51) = w2 at *
  generalize w1.heap.size = B10 at *
  obtain ⟨k0, k1, k2, k3, k4, k5, k6, k7, k8, k9, k10, k11⟩ := cells12 K7.out
  obtain ⟨q0, q1, q2, q3, q4, q5, q6, q7, q8, q9⟩ := cells10 K10.out
  go_wp2_with fail
  refine (HFV.out _ X (HBUF.out.later HB2.out)).mono ?_
  rintro e w4 ⟨rfl, hB4, ht4⟩
  have HPN := Hid.mk (HP.out.next HXLO.out HB2.out (HP.out.rl.later HB2.out) HNX.out ht4 hB4 (Or.inl rfl) HP.out.rt HP.out.ln)
  clear hB4 ht4 HFV k0 k1 k2 k3 k4 k5 k6 k7 k8 k9 k10 k11 q0 q1 q2 q3 q4 q5 q6 q7 q8 q9 K7 K10
  go_wp2
  go_ret2
  exact ⟨_, _, _, rfl, HPN.out⟩

end Go.Proofs.YthebhgllnjgjhaaDoor
