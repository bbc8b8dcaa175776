/- P13 -/
import Derived.Test.YtfdbdeckohaneaaGreatDoorP12
set_option maxHeartbeats 16000000
set_option maxRecDepth 100000
namespace Go.Proofs.YtfdbdeckohaneaaGreatDoor
open Go.RowKit Go.Maps
structure WrRel (w1 wr : World) (v : Value) (acc : WL) : Prop where
 own : OwnP wr w1.heap.size v acc
 bel : Below w1.heap.size w1 wr
theorem WrRel.push {w1 wr w2 : World} {v v' : Value} {acc : WL} {y z : Nat} {o : Obj} (h : WrRel w1 wr v acc) (hg : (wr.alloc o).grownBy w2 v.ownBlock) (hown : OwnP w2 w1.heap.size v' (acc ++ [(y, z)])) : WrRel w1 w2 v' (acc ++ [(y, z)]) := by
 have hs := h.bel.size
 exact ⟨hown, (h.bel.alloc hs o).grown hg (by simp; omega) (fun q hq => (h.own.lt q hq).1)⟩
theorem wr_end {w w1 wr : World} {v : Value} {acc out : WL} {B : Nat → Prop} {u1 u2 u3 : Value} (h : WrRel w1 wr v acc) (hs : w.heap.size + 2 ≤ w1.heap.size) (he : out = acc) :
  Psl (((wr.setCell ⟨w.heap.size, 1, none⟩ u1).setCell ⟨w.heap.size + 1, 0, none⟩ u2).setCell ⟨w.heap.size + 1, 1, none⟩ u3) (fun g => B g ∨ w.heap.size ≤ g) v out := by
 subst he
 have h0 := h.own.psl
 exact (((h0.set (fun g hg => by omega) u1).set (fun g hg => by omega) u2).set (fun g hg => by omega) u3).mono (fun g hg => Or.inr (by omega))
theorem rwrite_c {w : World} {B : Nat → Prop} {S : Nat} {v : Value} {L : WL} (hP : Psl w B v L) (hlen : L.length < 1000000) (x d : Nat) :
  Calls Tryz.prog 15 #[.agg #[.int .u64 S, v], .int .u64 x, .int .u64 d] w fun e w' => ∃ v', e = .returned (.tuple #[.agg #[.int .u64 S, v'], .int .i64 (errA S x)]) ∧ Psl w' (fun g => B g ∨ w.heap.size ≤ g) v' (if errA S x = 0 then outW x d L else L) ∧ Below w.heap.size w w' := by
 obtain ⟨p, cap, rfl, hc⟩ := hP.form
 have hm := fun w => may_c S x (.slice p L.length cap) w
 generalize errA S x = E at *
 generalize hN : L.length = N at *
 have HN := Hid.mk hN
 have HC := Hid.mk hc
 have HP := Hid.mk hP
 clear hc hP hN
 go_enter Tryz.func15, Tryz.ntmps15
 go_wp2_with fail
 refine (hm _).mono ?_
 rintro e w1 ⟨rfl, hb⟩
 have hs1 : w.heap.size + 2 ≤ w1.heap.size := by have := hb.size; simp at this; omega
 have k0 : w1.heap[w.heap.size]? = some (.cells #[.int .u64 S, .slice p N cap] 29) := (hb.block _ (by simp; omega)).trans (heap_alloc2_old _ _ _)
 have k1 : w1.heap[w.heap.size + 1]? = some (.cells #[.int .u64 0, .slice none 0 0] 29) := (hb.block _ (by simp)).trans (heap_alloc2_new _ _ _)
 obtain ⟨c0, c1, f0, f1⟩ := qbi k0
 obtain ⟨d0, d1, g0, g1⟩ := qbi k1
 have HB : Hid (Below w.heap.size w w1) := qab (((Below.refl _ _).alloc (Nat.le_refl _) _).alloc (by simp) _) hb
 have HK0 := Hid.mk k0
 have HK1 := Hid.mk k1
 clear hm hb k0 k1
 by_cases hE : E = 0
 ·subst hE
  have HG : Hid (∀ wq, Below w1.heap.size w1 wq → wq.heap[w.heap.size]? = some (.cells #[.int .u64 S, .slice p N cap] 29) ∧ wq.heap[w.heap.size + 1]? = some (.cells #[.int .u64 0, .slice none 0 0] 29)) := fun wq hq => ⟨(hq.block _ (by omega)).trans HK0.out, (hq.block _ (by omega)).trans HK1.out⟩
  clear c0 f0 d0 d1 f1 g0 g1 c1 HK0 HK1
  have hst : WrRel w1 w1 (.slice none 0 0) (SW x d L 0).1 := by rw [SW_zero]; exact ⟨OwnP.nil _ _, Below.refl _ _⟩
  have HST := Hid.mk hst
  clear hst
  go_wp2
  go_loopw [9, 10, 11] (fun s9 s10 s11 wr => ∃ (i : Nat) (v9 : Value), i ≤ N ∧ s11 = .int .i64 i ∧ s10 = .bool (SW x d L i).2 ∧ v9 = s9 ∧ WrRel w1 wr v9 (SW x d L i).1) (fun _ _ v11 _ => N - (intOf v11).toNat)
  case atStart => exact ⟨0, _, by omega, rfl, by rw [SW_zero], rfl, HST.out⟩
  case round =>
   clear HST
   obtain ⟨i, v9, hi, rfl, rfl, rfl, hR⟩ := hrel
   have hla := SW_len x d L i
   rw [HN.out] at hla
   have hsz : w1.heap.size ≤ wr.heap.size := hR.bel.size
   by_cases hlt : i < N
   ·have HSU := Hid.mk (SW_succ x d L (i := i) (by rw [HN.out]; exact hlt))
    obtain ⟨g, rfl, hg, q1, q2⟩ := HC.out i hlt
    have HF : Hid (∀ wq, Below w1.heap.size w1 wq → wq.cell? ⟨w.heap.size, 1, none⟩ = some (.slice (some ⟨g, 0, none⟩) N cap) ∧ wq.cell? ⟨g, i * 2, none⟩ = some (.int .u64 (L[i]!.1 : Nat)) ∧ wq.cell? ⟨g, i * 2 + 1, none⟩ = some (.int .u64 (L[i]!.2 : Nat))) := fun wq hq => ⟨(qbi (HG.out wq hq).1).2.1, ((qab HB.out hq).cell (p := ⟨g, _, none⟩) hg).trans q1, ((qab HB.out hq).cell (p := ⟨g, _, none⟩) hg).trans q2⟩
    clear q1 q2
    generalize SW x d L i = st at *
    generalize L[i]! = pr at *
    obtain ⟨acc, dn⟩ := st
    obtain ⟨y, z⟩ := pr
    simp only at hla
    have hr1 : WrRel w1 wr v9 acc := hR
    obtain ⟨c1, q1, q2⟩ := HF.out wr hr1.bel
    simp only at q1 q2
    have HR := Hid.mk hr1
    have HO := Hid.mk hr1.own
    clear hR hr1
    have fin : ∀ wq v (acc2 : WL) (dn2 : Bool), WrRel w1 wq v acc2 → stW x d (acc, dn) (y, z) = (acc2, dn2) → SW x d L (i + 1) = (acc2, dn2) ∧ WrRel w1 wq v (SW x d L (i + 1)).1 := fun wq v acc2 dn2 h1 h2 => by
     have h3 := HSU.out.trans h2
     exact ⟨h3, by rw [h3]; exact h1⟩
    have FIN := Hid.mk fin
    clear fin
    cases dn with
    | true =>
     by_cases hyx : y = x
     ·subst hyx
      go_wp2
      obtain ⟨e1, e2⟩ := FIN.out wr v9 acc true HR.out (by simp [stW])
      exact ⟨⟨i + 1, _, by omega, by go_num, by rw [e1], rfl, e2⟩, by simp [intOf]; omega⟩
     ·have hyx2 : ¬ ((y : Int) = x) := by omega
      go_wp2_with (first
       | (at_builtin; refine qcp _ rfl _ _ rfl w1.heap.size _ acc rfl (HO.out.alloc _) y z wr.heap.size rfl (heap_alloc_new _ _) (by first | omega | (simp; omega)) (by simp; omega) ?_; intro g3 cap3 w6 hown6 hgr6)
       | go_in)
      obtain ⟨e1, e2⟩ := FIN.out w6 _ (acc ++ [(y, z)]) true (HR.out.push hgr6 hown6) (by simp [stW, hyx])
      exact ⟨⟨i + 1, _, by omega, by go_num, by rw [e1], rfl, e2⟩, by simp [intOf]; omega⟩
    | false =>
     by_cases hxy : x ≤ y
     ·have hxy2 : (x : Int) ≤ y := by omega
      by_cases hd : d = 0
      ·have hd2 : (d : Int) = 0 := by omega
       by_cases hyx : y = x
       ·subst hyx
        go_wp2
        obtain ⟨e1, e2⟩ := FIN.out wr v9 acc true HR.out (by simp [stW, hd])
        exact ⟨⟨i + 1, _, by omega, by go_num, by rw [e1], rfl, e2⟩, by simp [intOf]; omega⟩
       ·have hyx2 : ¬ ((y : Int) = x) := by omega
        go_wp2_with (first
         | (at_builtin; refine qcp _ rfl _ _ rfl w1.heap.size _ acc rfl (HO.out.alloc _) y z wr.heap.size rfl (heap_alloc_new _ _) (by first | omega | (simp; omega)) (by simp; omega) ?_; intro g3 cap3 w6 hown6 hgr6)
         | go_in)
        obtain ⟨e1, e2⟩ := FIN.out w6 _ (acc ++ [(y, z)]) true (HR.out.push hgr6 hown6) (by simp [stW, hyx, hxy, hd])
        have e3 : SW x 0 L (i + 1) = (acc ++ [(y, z)], true) := by rw [← hd]; exact e1
        refine ⟨?_, by simp [intOf]; omega⟩
        first
         | exact ⟨i + 1, _, by omega, by go_num, by rw [e1], rfl, e2⟩
         | exact ⟨_, _, _, ⟨i + 1, by omega, rfl, rfl, by rw [e3]; exact HR.out.push hgr6 hown6⟩, rfl, by rw [e3], by go_num⟩
      ·have hd2 : ¬ ((d : Int) = 0) := by omega
       by_cases hyx : y = x
       ·subst hyx
        go_wp2_with (first
         | (at_builtin; refine qcp _ rfl _ _ rfl w1.heap.size _ acc rfl (HO.out.alloc _) y d wr.heap.size rfl (heap_alloc_new _ _) (by first | omega | (simp; omega)) (by simp; omega) ?_; intro g3 cap3 w6 hown6 hgr6; have HR6 := Hid.mk (HR.out.push hgr6 hown6); have hs6 := HR6.out.bel.size; obtain ⟨c1, q1, q2⟩ := HF.out w6 HR6.out.bel; simp only at q1 q2)
         | go_in)
        obtain ⟨e1, e2⟩ := FIN.out w6 _ (acc ++ [(y, d)]) true (HR.out.push hgr6 hown6) (by simp [stW, hd])
        exact ⟨⟨i + 1, _, by omega, by go_num, by rw [e1], rfl, e2⟩, by simp [intOf]; omega⟩
       ·have hyx2 : ¬ ((y : Int) = x) := by omega
        go_wp2_with (first
         | (at_builtin; refine qcp _ rfl _ _ rfl w1.heap.size _ (acc ++ [(x, d)]) rfl (HR6.out.own.alloc _) y z w6.heap.size rfl (heap_alloc_new _ _) (by simp; omega) (by simp; omega) ?_; intro g4 cap4 w7 hown7 hgr7)
         | (at_builtin; refine qcp _ rfl _ _ rfl w1.heap.size _ acc rfl (HO.out.alloc _) x d wr.heap.size rfl (heap_alloc_new _ _) (by first | omega | (simp; omega)) (by simp; omega) ?_; intro g3 cap3 w6 hown6 hgr6; have HR6 := Hid.mk (HR.out.push hgr6 hown6); have hs6 := HR6.out.bel.size; obtain ⟨c1, q1, q2⟩ := HF.out w6 HR6.out.bel; simp only at q1 q2)
         | go_in)
        obtain ⟨e1, e2⟩ := FIN.out w7 _ (acc ++ [(x, d)] ++ [(y, z)]) true (HR6.out.push hgr7 hown7) (by simp [stW, hyx, hxy, hd])
        rw [List.length_append] at e2
        exact ⟨⟨i + 1, _, by omega, by go_num, by rw [e1], rfl, e2⟩, by simp [intOf]; omega⟩
     ·have hxy2 : ¬ ((x : Int) ≤ y) := by omega
      have hyx : ¬ (y = x) := by omega
      have hyx2 : ¬ ((y : Int) = x) := by omega
      go_wp2_with (first
       | (at_builtin; refine qcp _ rfl _ _ rfl w1.heap.size _ acc rfl (HO.out.alloc _) y z wr.heap.size rfl (heap_alloc_new _ _) (by first | omega | (simp; omega)) (by simp; omega) ?_; intro g3 cap3 w6 hown6 hgr6)
       | go_in)
      obtain ⟨e1, e2⟩ := FIN.out w6 _ (acc ++ [(y, z)]) false (HR.out.push hgr6 hown6) (by simp [stW, hyx, hxy])
      exact ⟨⟨i + 1, _, by omega, by go_num, by rw [e1], rfl, e2⟩, by simp [intOf]; omega⟩
   ·obtain rfl : i = N := by omega
    have HOUT : Hid (outW x d L = finW x d (SW x d L i)) := by
     show finW x d (SW x d L L.length) = _
     rw [HN.out]
    generalize SW x d L i = st at *
    obtain ⟨acc, dn⟩ := st
    simp only at hla
    have hr1 : WrRel w1 wr v9 acc := hR
    have HR := Hid.mk hr1
    have HO := Hid.mk hr1.own
    clear hR
    obtain ⟨c0, c1, f0, f1⟩ := qbi (HG.out wr hr1.bel).1
    obtain ⟨d0, d1, g0, g1⟩ := qbi (HG.out wr hr1.bel).2
    obtain ⟨pp, cc, rfl, -⟩ := hr1.own.psl.form
    clear hr1
    cases dn with
    | true =>
     go_wp2
     refine bodyPost_ret (v := .tuple #[.agg #[.int .u64 S, .slice pp acc.length cc], .int .i64 0]) ?_ rfl ⟨_, rfl, ?_, ?_⟩
     ·rw [results_cell_tmp rfl]
      go_simp
     ·rw [HOUT.out]
      exact wr_end HR.out hs1 (by simp [finW])
     ·exact ((((qab HB.out HR.out.bel).setCell (by simp) _).setCell (by simp) _).setCell (by simp) _)
    | false =>
     by_cases hd : d = 0
     ·have hd2 : (d : Int) = 0 := by omega
      have HFW : Hid (finW x d (acc, false) = acc) := by
       show finW x d (acc, false) = acc
       simp [finW, hd]
      clear hd
      go_wp2
      refine bodyPost_ret (v := .tuple #[.agg #[.int .u64 S, .slice pp acc.length cc], .int .i64 0]) ?_ rfl ⟨_, rfl, ?_, ?_⟩
      ·rw [results_cell_tmp rfl]
       go_simp
      ·rw [HOUT.out]
       exact wr_end HR.out hs1 HFW.out
      ·exact ((((qab HB.out HR.out.bel).setCell (by simp) _).setCell (by simp) _).setCell (by simp) _)
     ·have hd2 : ¬ ((d : Int) = 0) := by omega
      go_wp2_with (first
       | (at_builtin; refine qcp _ rfl _ _ rfl w1.heap.size _ acc rfl (HO.out.alloc _) x d wr.heap.size rfl (heap_alloc_new _ _) (by first | omega | (simp; omega)) (by simp; omega) ?_; intro g3 cap3 w6 hown6 hgr6; have HR6 := Hid.mk (HR.out.push hgr6 hown6); obtain ⟨c0, c1, f0, f1⟩ := qbi (HG.out w6 HR6.out.bel).1; obtain ⟨d0, d1, g0, g1⟩ := qbi (HG.out w6 HR6.out.bel).2)
       | go_in)
      refine bodyPost_ret (v := .tuple #[.agg #[.int .u64 S, .slice (some ⟨g3, 0, none⟩) (acc.length + 1) cap3], .int .i64 0]) ?_ rfl ⟨_, rfl, ?_, ?_⟩
      ·rw [results_cell_tmp rfl]
       go_simp
      ·rw [HOUT.out]
       exact wr_end HR6.out hs1 (by simp [finW, hd])
      ·exact ((((qab HB.out HR6.out.bel).setCell (by simp) _).setCell (by simp) _).setCell (by simp) _)
 ·clear f0 f1
  have HE := Hid.mk hE
  go_wp2
  refine bodyPost_ret (v := .tuple #[.agg #[.int .u64 S, .slice p N cap], .int .i64 E]) ?_ rfl ⟨_, rfl, ?_, ?_⟩
  ·rw [results_cell_tmp rfl]
   go_simp
  ·have hq : Below w.heap.size w ((w1.setCell ⟨w.heap.size + 1, 0, none⟩ (.int .u64 S)).setCell ⟨w.heap.size + 1, 1, none⟩ (.slice p N cap)) := (HB.out.setCell (by simp) _).setCell (by simp) _
   exact (HP.out.below hq).mono (fun g hg => Or.inl hg)
  ·exact (HB.out.setCell (by simp) _).setCell (by simp) _
end Go.Proofs.YtfdbdeckohaneaaGreatDoor
