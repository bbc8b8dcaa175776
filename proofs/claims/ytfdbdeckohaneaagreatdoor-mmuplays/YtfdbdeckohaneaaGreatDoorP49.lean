/- P49 -/
import Derived.Test.YtfdbdeckohaneaaGreatDoorP48
import Derived.Test.YtfdbdeckohaneaaGreatDoorP38
set_option maxHeartbeats 16000000
set_option maxRecDepth 100000
set_option linter.unusedVariables false
namespace Go.Proofs.YtfdbdeckohaneaaGreatDoor.MM
open Go.RowKit Go.Maps
section
variable {w w' : World} {B B' : Nat → Prop} {m S : Nat} {most : Int} {s : St} {d : Yd}
theorem guS_f (va : Nat) (hn : Hn) : (guS S most s va hn).f = s.f := by
 unfold guS
 split
 ·rfl
 ·unfold lfS
  split
  ·rfl
  ·rfl
theorem Wf.gu (h : Wf most s) (va : Nat) (hn : Hn) : Wf most (guS S most s va hn) := by
 unfold guS
 split
 ·exact h
 ·rename_i R I hg
  unfold lfS
  split
  ·have h1 : Wf most { s with K := kK S most s R I va hn } := by
    unfold kK
    split
    ·exact h.mark
    ·exact h
   have h2 : Wf most (wdS S most s R I va hn) := by
    unfold wdS kE
    split
    ·exact h1.fill (en_ok _ _ _)
    ·exact h1
   exact h2
  ·exact h
theorem guL_wf (most : Int) : ∀ (l : List Pl) (s : St), Wf most s → Wf most (guL S most s l)
 | [], s, h => h
 | p :: l, s, h => guL_wf most l _ (h.gu p.va p.h)
theorem guL_f (most : Int) : ∀ (l : List Pl) (s : St), (guL S most s l).f = s.f
 | [], s => rfl
 | p :: l, s => by
  show (guL S most (guS S most s p.va p.h) l).f = _
  rw [guL_f most l, guS_f]
theorem Fm.wr {f : Nat → Nat} (h : Fm S f) (y v : Nat) (hv : v < 18446744073709551616) : Fm S (wrF f S y v) := by
 unfold wrF
 by_cases he : errA S y = 0
 ·rw [if_pos he]
  refine ⟨fun x hx => ?_, fun x => ?_, h.hS⟩
  ·unfold updF
   rw [if_neg (fun c => hx (by rw [c]; exact he))]
   exact h.outs x hx
  ·unfold updF
   split
   ·exact hv
   ·exact h.fl x
 ·rw [if_neg he]; exact h
theorem Wf.wr (h : Wf most s) (f' : Nat → Nat) : Wf most { s with f := f' } := ⟨h.m1, h.m64, h.el, h.kl, h.er, h.eo, h.kr, h.rr, h.pl, h.pv, h.nd⟩
theorem info_s29 : (Tryz.prog.info? 29).map (·.size) = some 2 := by kernel_rfl
theorem ykw_no (h : YOk w B m s d) (hm : m < 1000000) (y v : Nat) (he : ¬ errA S y = 0) : Calls Tryz.prog 29 #[.agg (d.cs S most s), .int .u64 y, .int .u64 v] w fun r w' => ∃ d', r = .returned (.tuple #[.agg (d'.cs S most (kwS S most s y v)), .int .i64 (errA S y)]) ∧ YOk w' (fun g => B g ∨ w.heap.size ≤ g) (m + 1) (kwS S most s y v) d' ∧ Below w.heap.size w w' := by
 have HS : Hid (kwS S most s y v = s) := by show _ = _; unfold kwS; rw [if_neg he]
 have HY : Hid (YOk w (fun g => B g ∧ g < w.heap.size) m s d) := Hid.mk h.tight
 have HV1 := Hid.mk h.vm1
 have HW : Hid (∀ W (B' : Nat → Prop), YOk W B' m s d → Calls Tryz.prog 15 #[.agg #[.int .u64 S, d.vm], .int .u64 y, .int .u64 v] W fun e w' => ∃ v' L', e = .returned (.tuple #[.agg #[.int .u64 S, v'], .int .i64 (errA S y)]) ∧ v'.oneCell' = true ∧ YOk w' (fun g => B' g ∨ W.heap.size ≤ g) (m + 1) { s with f := wrF s.f S y v } { d with vm := v', L := L' } ∧ Below W.heap.size W w') := Hid.mk (fun W B' hy => ywrite_c hy hm y v)
 have dE : (errA S y != 0) = true := by rw [bne_iff_ne]; exact he
 have HYs : Hid (YOk w (fun g => B g ∧ g < w.heap.size) m s d) := HY
 clear h hm he
 generalize kwS S most s y v = sA at *
 generalize errA S y = er at *
 obtain ⟨vm, L, aE, cE, aK, cK, aP, cP, on', R', I'⟩ := d
 dsimp only at HV1 HW
 obtain ⟨W4, hW4, g0, g1, hB, hsz⟩ := hp2 w (.cells #[.int .u64 S, vm, .int .i64 most, .slice aE s.E.length cE, .slice aK s.K.length cK, .bool on', .int .u64 R', .int .i64 I', .slice aP s.P.length cP] 34) (.cells #[.int .u64 0, .slice none 0 0, .int .i64 0, .slice none 0 0, .slice none 0 0, .bool false, .int .u64 0, .int .i64 0, .slice none 0 0] 34)
 go_enter Tryz.func29, Tryz.ntmps29
 go_upto_region 1 with fail
 (try rw [hW4])
 clear hW4
 have HZ4 := Hid.mk hsz
 clear hsz
 replace HY := Hid.mk (HY.out.later hB)
 replace HYs := HY
 obtain ⟨c0, c1, c2, c3, c4, c5, c6, c7, c8⟩ := qal g0
 go_wp2_with fail
 refine (HW.out _ _ HY.out).mono ?_
 clear c0 c1 c2 c3 c4 c5 c6 c7 c8
 rintro e w1 ⟨v', L', rfl, hv', hy1, hb⟩
 obtain ⟨p', q', ev, -⟩ := hy1.psl.form
 dsimp only at ev
 subst ev
 have HY1 := Hid.mk hy1
 obtain ⟨g0, g1⟩ := bl2 hb g0 g1
 replace hB := qab hB hb
 replace HYs := Hid.mk (HYs.out.later hb)
 have hs1 : W4.heap.size ≤ w1.heap.size := hb.size
 have HS1 := Hid.mk hs1
 clear HY HW hv' hy1 hb hs1
 have hb2 := qac w1 (.cells #[.int .u64 S, .slice p' L'.length q'] 29)
 have gM := heap_alloc_new w1 (.cells #[.int .u64 S, .slice p' L'.length q'] 29)
 go_upto_region 2 with fail
 generalize w1.alloc (.cells #[.int .u64 S, .slice p' L'.length q'] 29) = w2 at *
 obtain ⟨g0, g1⟩ := bl2 hb2 g0 g1
 replace hB := qab hB hb2
 replace HYs := Hid.mk (HYs.out.later hb2)
 clear HY1
 have HSM := Hid.mk hb2.size
 clear hb2
 generalize w1.heap.size = MB at *
 obtain ⟨c0, c1, c2, c3, c4, c5, c6, c7, c8⟩ := qal g0
 go_wp2_with (first
  | (refine qad rfl 34 _ _ rfl rfl (w.heap.size + 1) 0 _ #[.int .u64 S, vm, .int .i64 most, .slice aE s.E.length cE, .slice aK s.K.length cK, .bool on', .int .u64 R', .int .i64 I', .slice aP s.P.length cP] rfl rfl rfl 34 _ g1 (show 0 + 9 ≤ 9 by decide) qao (qdm HV1.out) #[.int .u64 S, vm, .int .i64 most, .slice aE s.E.length cE, .slice aK s.K.length cK, .bool on', .int .u64 R', .int .i64 I', .slice aP s.P.length cP] rfl ?_; intro wq hrq htq)
  | fail)
 refine bodyPost_ret (TR.qax rfl _ wq (w.heap.size + 1) 34 #[.int .u64 S, vm, .int .i64 most, .slice aE s.E.length cE, .slice aK s.K.length cK, .bool on', .int .u64 R', .int .i64 I', .slice aP s.P.length cP] (0, 0) _ rfl hrq Tryz.underlying34 rfl qao) rfl ?_
 rw [HS.out]
 exact ⟨⟨vm, L, aE, cE, aK, cK, aP, cP, on', R', I'⟩, rfl, ((HYs.out.turn htq (fun i hi c => by have c' : i = w.heap.size + 1 := c; (try dsimp only at hi); omega)).mono (fun i hi => Or.inl hi.1)).up (Nat.le_succ _), qaf hB htq (by omega)⟩
theorem zP49x01 {Z : Prop} (z : Z := by
 clear hK
 try simp only [Act.put, sq]
 refine tk 10 42 (h := ?_)
 refine tk 11 43 (h := ?_)
 refine tk 12 44 (h := ?_)
 refine rd1 13 (h := fun K hK => ?_)
 go_simp
 refine (HG.out _ _ HYi.out).mono ?_
 rintro e wc ⟨d2, rfl, hyn, hb⟩
 obtain ⟨vn, Ln, bE, dE, bK, dK, bP, dP, on2, R2, I2⟩ := d2
 go_wp2_with fail
 obtain ⟨k0, k1, k2, k3⟩ := cl4 hb k0 k1 k2 k3
 obtain ⟨g0, g1⟩ := bl2 hb g0 g1
 have HVn : Hid (vn.oneCell' = true) := hyn.vm1
 have HYn := Hid.mk hyn
 have HBn := Hid.mk (qab HB.out hb)
 have HSz := Hid.mk (Nat.le_trans HSW.out hb.size)
 clear hyn hb HYi HG HB c0 c1 c2 c3 c4 c5 c6 c7 c8
 refine hK.out _ _ ⟨k0, k1, k2, k3⟩ (fun hHeldc => ?_)
 clear hK
 try simp only [Act.put, sq]
 refine rd1 14 (h := fun K hK => ?_)
 refine qah rfl rfl 34 _ _ rfl (w.heap.size) 0 _ #[.int .u64 S, vn, .int .i64 most, .slice bE sn.E.length dE, .slice bK sn.K.length dK, .bool on2, .int .u64 R2, .int .i64 I2, .slice bP sn.P.length dP] rfl rfl rfl 34 _ g0 (show 0 + 9 ≤ 9 by decide) qao (qdm HVn.out) #[.int .u64 S, vn, .int .i64 most, .slice bE sn.E.length dE, .slice bK sn.K.length dK, .bool on2, .int .u64 R2, .int .i64 I2, .slice bP sn.P.length dP] rfl ?_
 intro ws hrq htq
 obtain ⟨k0, k1, k2, k3⟩ := tc4 htq k0 k1 k2 k3 HNG.out HNG.out HNG.out HNG.out
 replace g1 := qae htq g1 (by omega)
 replace HYn := Hid.mk ((HYn.out.turn htq (fun i hi c => by have c' : i = w.heap.size := c; have := HZ4.out; have := HSW.out; (try dsimp only at hi); rcases hi with (hi | hi) | hi <;> omega)).mono (B' := fun g => (B g ∧ g < w.heap.size) ∨ W4.heap.size ≤ g) (fun i hi => by
  have := HSW.out
  (try dsimp only at hi)
  rcases hi with hi | hi
  ·exact hi
  ·exact Or.inr (by omega)))
 replace HSz := Hid.mk (Nat.le_trans HSz.out htq.size)
 replace HBn := Hid.mk (qaf HBn.out htq (Nat.le_refl _))
 have HX := Hid.mk hrq
 have HR := Hid.mk g1
 clear hrq htq g0 g1
 refine hK.out _ _ ⟨k0, k1, k2, k3⟩ (fun hHelds => ?_)
 clear hK k0 k1 k2 k3
 try simp only [Act.put, sq]
 refine wpAnyH_done (by kernel_rfl) ?_ _
 refine NoPanic.normal ?_
 go_wp2
 refine ⟨⟨i + 1, ⟨vn, Ln, bE, dE, bK, dK, bP, dP, on2, R2, I2⟩, by have := HLT.out; omega, by go_num, ?_, HR.out, ?_, HBn.out, HSz.out⟩, by have := HLT.out; simp [RowKit.intOf]; omega⟩
 ·rw [HSN.out]; exact HX.out
 ·rw [HSN.out]; exact HYn.out) : Z := z
theorem zP49x02 {Z : Prop} (z : Z := by
 clear hK
 try simp only [Act.put, sq]
 refine tk 4 36 (h := ?_)
 refine tk 5 37 (h := ?_)
 refine tk 6 38 (h := ?_)
 refine rd1 13 (h := fun K hK => ?_)
 go_simp
 refine (HG.out _ _ HYi.out).mono ?_
 rintro e wc ⟨d2, rfl, hyn, hb⟩
 obtain ⟨vn, Ln, bE, dE, bK, dK, bP, dP, on2, R2, I2⟩ := d2
 go_wp2_with fail
 obtain ⟨k0, k1, k2, k3⟩ := cl4 hb k0 k1 k2 k3
 obtain ⟨g0, g1⟩ := bl2 hb g0 g1
 have HVn : Hid (vn.oneCell' = true) := hyn.vm1
 have HYn := Hid.mk hyn
 have HBn := Hid.mk (qab HB.out hb)
 have HSz := Hid.mk (Nat.le_trans HSW.out hb.size)
 clear hyn hb HYi HG HB c0 c1 c2 c3 c4 c5 c6 c7 c8
 refine hK.out _ _ ⟨k0, k1, k2, k3⟩ (fun hHeldc => ?_)
 clear hK
 try simp only [Act.put, sq]
 refine rd1 14 (h := fun K hK => ?_)
 refine qah rfl rfl 34 _ _ rfl (w.heap.size) 0 _ #[.int .u64 S, vn, .int .i64 most, .slice bE sn.E.length dE, .slice bK sn.K.length dK, .bool on2, .int .u64 R2, .int .i64 I2, .slice bP sn.P.length dP] rfl rfl rfl 34 _ g0 (show 0 + 9 ≤ 9 by decide) qao (qdm HVn.out) #[.int .u64 S, vn, .int .i64 most, .slice bE sn.E.length dE, .slice bK sn.K.length dK, .bool on2, .int .u64 R2, .int .i64 I2, .slice bP sn.P.length dP] rfl ?_
 intro ws hrq htq
 obtain ⟨k0, k1, k2, k3⟩ := tc4 htq k0 k1 k2 k3 HNG.out HNG.out HNG.out HNG.out
 replace g1 := qae htq g1 (by omega)
 replace HYn := Hid.mk ((HYn.out.turn htq (fun i hi c => by have c' : i = w.heap.size := c; have := HZ4.out; have := HSW.out; (try dsimp only at hi); rcases hi with (hi | hi) | hi <;> omega)).mono (B' := fun g => (B g ∧ g < w.heap.size) ∨ W4.heap.size ≤ g) (fun i hi => by
  have := HSW.out
  (try dsimp only at hi)
  rcases hi with hi | hi
  ·exact hi
  ·exact Or.inr (by omega)))
 replace HSz := Hid.mk (Nat.le_trans HSz.out htq.size)
 replace HBn := Hid.mk (qaf HBn.out htq (Nat.le_refl _))
 have HX := Hid.mk hrq
 have HR := Hid.mk g1
 clear hrq htq g0 g1
 refine hK.out _ _ ⟨k0, k1, k2, k3⟩ (fun hHelds => ?_)
 clear hK k0 k1 k2 k3
 try simp only [Act.put, sq]
 refine wpAnyH_done (by kernel_rfl) ?_ _
 refine NoPanic.normal ?_
 go_wp2
 refine ⟨⟨i + 1, ⟨vn, Ln, bE, dE, bK, dK, bP, dP, on2, R2, I2⟩, by have := HLT.out; omega, by go_num, ?_, HR.out, ?_, HBn.out, HSz.out⟩, by have := HLT.out; simp [RowKit.intOf]; omega⟩
 ·rw [HSN.out]; exact HX.out
 ·rw [HSN.out]; exact HYn.out) : Z := z
theorem zP49x03 {Z : Prop} (z : Z := by
 clear hK
 try simp only [Act.put, sq]
 refine rd1 13 (h := fun K hK => ?_)
 go_simp
 refine (HG.out _ _ HYi.out).mono ?_
 rintro e wc ⟨d2, rfl, hyn, hb⟩
 obtain ⟨vn, Ln, bE, dE, bK, dK, bP, dP, on2, R2, I2⟩ := d2
 go_wp2_with fail
 obtain ⟨k0, k1, k2, k3⟩ := cl4 hb k0 k1 k2 k3
 obtain ⟨g0, g1⟩ := bl2 hb g0 g1
 have HVn : Hid (vn.oneCell' = true) := hyn.vm1
 have HYn := Hid.mk hyn
 have HBn := Hid.mk (qab HB.out hb)
 have HSz := Hid.mk (Nat.le_trans HSW.out hb.size)
 clear hyn hb HYi HG HB c0 c1 c2 c3 c4 c5 c6 c7 c8
 refine hK.out _ _ ⟨k0, k1, k2, k3⟩ (fun hHeldc => ?_)
 clear hK
 try simp only [Act.put, sq]
 refine rd1 14 (h := fun K hK => ?_)
 refine qah rfl rfl 34 _ _ rfl (w.heap.size) 0 _ #[.int .u64 S, vn, .int .i64 most, .slice bE sn.E.length dE, .slice bK sn.K.length dK, .bool on2, .int .u64 R2, .int .i64 I2, .slice bP sn.P.length dP] rfl rfl rfl 34 _ g0 (show 0 + 9 ≤ 9 by decide) qao (qdm HVn.out) #[.int .u64 S, vn, .int .i64 most, .slice bE sn.E.length dE, .slice bK sn.K.length dK, .bool on2, .int .u64 R2, .int .i64 I2, .slice bP sn.P.length dP] rfl ?_
 intro ws hrq htq
 obtain ⟨k0, k1, k2, k3⟩ := tc4 htq k0 k1 k2 k3 HNG.out HNG.out HNG.out HNG.out
 replace g1 := qae htq g1 (by omega)
 replace HYn := Hid.mk ((HYn.out.turn htq (fun i hi c => by have c' : i = w.heap.size := c; have := HZ4.out; have := HSW.out; (try dsimp only at hi); rcases hi with (hi | hi) | hi <;> omega)).mono (B' := fun g => (B g ∧ g < w.heap.size) ∨ W4.heap.size ≤ g) (fun i hi => by
  have := HSW.out
  (try dsimp only at hi)
  rcases hi with hi | hi
  ·exact hi
  ·exact Or.inr (by omega)))
 replace HSz := Hid.mk (Nat.le_trans HSz.out htq.size)
 replace HBn := Hid.mk (qaf HBn.out htq (Nat.le_refl _))
 have HX := Hid.mk hrq
 have HR := Hid.mk g1
 clear hrq htq g0 g1
 refine hK.out _ _ ⟨k0, k1, k2, k3⟩ (fun hHelds => ?_)
 clear hK k0 k1 k2 k3
 try simp only [Act.put, sq]
 refine wpAnyH_done (by kernel_rfl) ?_ _
 refine NoPanic.normal ?_
 go_wp2
 refine ⟨⟨i + 1, ⟨vn, Ln, bE, dE, bK, dK, bP, dP, on2, R2, I2⟩, by have := HLT.out; omega, by go_num, ?_, HR.out, ?_, HBn.out, HSz.out⟩, by have := HLT.out; simp [RowKit.intOf]; omega⟩
 ·rw [HSN.out]; exact HX.out
 ·rw [HSN.out]; exact HYn.out) : Z := z
theorem ykw_ok (h : YOk w B m s d) (hf0 : Fm S s.f) (hw : Wf most s) (hm : m + 1 < 1000000) (y v : Nat) (hv : v < 18446744073709551616) (he : errA S y = 0) : Calls Tryz.prog 29 #[.agg (d.cs S most s), .int .u64 y, .int .u64 v] w fun r w' => ∃ d', r = .returned (.tuple #[.agg (d'.cs S most (kwS S most s y v)), .int .i64 (errA S y)]) ∧ YOk w' (fun g => B g ∨ w.heap.size ≤ g) (m + 1) (kwS S most s y v) d' ∧ Below w.heap.size w w' := by
 have hm0 : m < 1000000 := by omega
 have HS : Hid (kwS S most s y v = guL S most { s with f := wrF s.f S y v } s.P) := by show _ = _; unfold kwS; rw [if_pos he]
 have HY : Hid (YOk w (fun g => B g ∧ g < w.heap.size) m s d) := Hid.mk h.tight
 have HV1 := Hid.mk h.vm1
 have HW : Hid (∀ W (B' : Nat → Prop), YOk W B' m s d → Calls Tryz.prog 15 #[.agg #[.int .u64 S, d.vm], .int .u64 y, .int .u64 v] W fun e w' => ∃ v' L', e = .returned (.tuple #[.agg #[.int .u64 S, v'], .int .i64 (errA S y)]) ∧ v'.oneCell' = true ∧ YOk w' (fun g => B' g ∨ W.heap.size ≤ g) (m + 1) { s with f := wrF s.f S y v } { d with vm := v', L := L' } ∧ Below W.heap.size W w') := Hid.mk (fun W B' hy => ywrite_c hy hm0 y v)
 have HT := Hid.mk (fun i hi => guL_take S most s.P { s with f := wrF s.f S y v } i hi)
 have HZ : Hid (∀ i, (guL S most { s with f := wrF s.f S y v } (s.P.take i)).P = s.P) := fun i => by rw [guL_P]
 have HE : Hid (guL S most { s with f := wrF s.f S y v } (s.P.take s.P.length) = kwS S most s y v) := by show _ = _; rw [HS.out, List.take_length]
 have H00 : Hid (guL S most { s with f := wrF s.f S y v } (s.P.take 0) = { s with f := wrF s.f S y v }) := rfl
 have HWF : Hid (∀ i, Wf most (guL S most { s with f := wrF s.f S y v } (s.P.take i))) := fun i => guL_wf most _ _ (hw.wr _)
 have HFM : Hid (∀ i, Fm S (guL S most { s with f := wrF s.f S y v } (s.P.take i)).f) := fun i => by rw [guL_f]; exact hf0.wr y v hv
 have HPV := Hid.mk hw.pv
 have hpl := hw.pl
 rw [he] at HW ⊢
 have HM1 := Hid.mk hm
 clear h hf0 hw hm hm0 hv he HS
 generalize kwS S most s y v = sA at *
 generalize hs1g : ({ s with f := wrF s.f S y v } : St) = s1 at *
 have HSE : Hid (s1.E = s.E ∧ s1.K = s.K ∧ s1.P = s.P) := by subst hs1g; exact ⟨rfl, rfl, rfl⟩
 clear hs1g
 generalize hPP : s.P = P at *
 obtain ⟨vm, L, aE, cE, aK, cK, aP, cP, on', R', I'⟩ := d
 dsimp only at HV1 HW
 obtain ⟨W4, hW4, g0, g1, hB, hsz⟩ := hp2 w (.cells #[.int .u64 S, vm, .int .i64 most, .slice aE s.E.length cE, .slice aK s.K.length cK, .bool on', .int .u64 R', .int .i64 I', .slice aP s.P.length cP] 34) (.cells #[.int .u64 0, .slice none 0 0, .int .i64 0, .slice none 0 0, .slice none 0 0, .bool false, .int .u64 0, .int .i64 0, .slice none 0 0] 34)
 go_enter Tryz.func29, Tryz.ntmps29
 go_upto_region 1 with fail
 (try rw [hW4])
 clear hW4
 have HZ4 := Hid.mk hsz
 clear hsz
 replace HY := Hid.mk (HY.out.later hB)
 obtain ⟨c0, c1, c2, c3, c4, c5, c6, c7, c8⟩ := qal g0
 go_wp2_with fail
 refine (HW.out _ _ HY.out).mono ?_
 clear c0 c1 c2 c3 c4 c5 c6 c7 c8
 rintro e w1 ⟨v', L', rfl, hv', hy1, hb⟩
 obtain ⟨p', q', ev, -⟩ := hy1.psl.form
 dsimp only at ev
 subst ev
 have HY1 := Hid.mk hy1
 obtain ⟨g0, g1⟩ := bl2 hb g0 g1
 replace hB := qab hB hb
 have hs1 : W4.heap.size ≤ w1.heap.size := hb.size
 have HS1 := Hid.mk hs1
 clear HY HW hv' hy1 hb hs1
 have hb2 := qac w1 (.cells #[.int .u64 S, .slice p' L'.length q'] 29)
 have gM := heap_alloc_new w1 (.cells #[.int .u64 S, .slice p' L'.length q'] 29)
 go_upto_region 2 with fail
 generalize w1.alloc (.cells #[.int .u64 S, .slice p' L'.length q'] 29) = w2 at *
 obtain ⟨g0, g1⟩ := bl2 hb2 g0 g1
 replace hB := qab hB hb2
 replace HY1 := Hid.mk (HY1.out.later hb2)
 have HSM := Hid.mk hb2.size
 clear hb2
 generalize w1.heap.size = MB at *
 obtain ⟨c0, c1, c2, c3, c4, c5, c6, c7, c8⟩ := qal g0
 have q0 : w2.cell? ⟨MB, 0, none⟩ = some (.int .u64 S) := by rw [cell_of_row _ _ _ _ _ _ gM]; rfl
 have q1 : w2.cell? ⟨MB, 1, none⟩ = some (.slice p' L'.length q') := by rw [cell_of_row _ _ _ _ _ _ gM]; rfl
 go_upto_region 5 with (first
  | (refine qad rfl 29 _ _ rfl rfl w.heap.size 0 _ #[.int .u64 S, .slice p' L'.length q'] rfl rfl rfl 34 _ g0 (show 0 + 2 ≤ 9 by decide) info_s29 (by simp [Value.oneCell']) #[.int .u64 S, (.slice p' L'.length q'), .int .i64 most, .slice aE s.E.length cE, .slice aK s.K.length cK, .bool on', .int .u64 R', .int .i64 I', .slice aP s.P.length cP] rfl ?_; intro wq hrq htq)
  | fail)
 replace g1 := qae htq g1 (by omega)
 replace HY1 := Hid.mk (HY1.out.turn htq (fun i hi c => by have c' : i = w.heap.size := c; have := HZ4.out; have := HS1.out; (try dsimp only at hi); rcases hi with hi | hi <;> omega))
 replace HY1 := Hid.mk (HY1.out.mono (B' := fun g => (B g ∧ g < w.heap.size) ∨ W4.heap.size ≤ g) (fun i hi => hi))
 have HSW0 : Hid (W4.heap.size ≤ wq.heap.size) := Nat.le_trans HS1.out (Nat.le_trans HSM.out htq.size)
 replace hB := qaf hB htq (Nat.le_refl _)
 replace g0 := hrq
 clear hrq htq q0 q1 gM HS1 HSM c0 c1 c2 c3 c4 c5 c6 c7 c8
 generalize wq = w5 at *
 have HB0 := Hid.mk hB
 clear hB
 have hplI : (P.length : Int) ≤ 8 := by omega
 go_wp2
 go_loopw [10] (fun s10 wr => ∃ (i : Nat) (di : Yd), i ≤ P.length ∧ s10 = .int .i64 i ∧ wr.heap[w.heap.size]? = some (.cells (di.cs S most (guL S most s1 (P.take i))) 34 (0, 0)) ∧ wr.heap[w.heap.size + 1]? = some (.cells #[.int .u64 0, .slice none 0 0, .int .i64 0, .slice none 0 0, .slice none 0 0, .bool false, .int .u64 0, .int .i64 0, .slice none 0 0] 34 (0, 0)) ∧ YOk wr (fun g => (B g ∧ g < w.heap.size) ∨ W4.heap.size ≤ g) (m + 1) (guL S most s1 (P.take i)) di ∧ Below w.heap.size w wr ∧ W4.heap.size ≤ wr.heap.size) (fun s10 _ => P.length - (RowKit.intOf s10).toNat)
 case atStart =>
  refine ⟨0, ⟨.slice p' L'.length q', L', aE, cE, aK, cK, aP, cP, on', R', I'⟩, by omega, rfl, ?_, g1, ?_, HB0.out, HSW0.out⟩
  ·rw [H00.out]
   dsimp only [Yd.cs]
   rw [HSE.out.1, HSE.out.2.1, HSE.out.2.2, ← hPP]
   exact g0
  ·rw [H00.out]; exact HY1.out
 case round =>
  obtain ⟨i, di, hi, rfl, g0, g1, hY, hB, hs⟩ := hrel
  have HYi := Hid.mk hY
  have HB := Hid.mk hB
  have HSW := Hid.mk hs
  by_cases hlt : i < P.length
  ·have hib : (i : Int) < 8 := by omega
   have HLT := Hid.mk hlt
   have hrp := hY.rp
   rw [HZ.out i] at hrp
   obtain ⟨g, o, ea, hg, hc0⟩ := hrp i hlt
   have hc : ∀ (j : Nat) (u : Value), (gP P i).cs[j]? = some u → wr.cell? ⟨g, o + i * 4 + j, none⟩ = some u := hc0
   clear hc0
   have hbp := (hY.bp ⟨g, o, none⟩ ea).1
   have HNG : Hid (¬ g = w.heap.size) := fun c => by
    have := HZ4.out
    (try dsimp only at hbp)
    rcases hbp with q | q <;> omega
   have hpl2 : (guL S most s1 (P.take i)).P.length = P.length := by rw [HZ.out i]
   have HG : Hid (∀ W (B' : Nat → Prop), YOk W B' (m + 1) (guL S most s1 (P.take i)) di → Calls Tryz.prog 19 #[.agg (di.cs S most (guL S most s1 (P.take i))), .int .u64 ((gP P i).va : Nat), (gP P i).h.v] W fun r w' => ∃ d', r = .returned (.agg (d'.cs S most (guL S most s1 (P.take (i + 1))))) ∧ YOk w' (fun g => B' g ∨ W.heap.size ≤ g) (m + 1) (guL S most s1 (P.take (i + 1))) d' ∧ Below W.heap.size W w') := Hid.mk (fun W B' hy => by
    have := yguess_c hy (HFM.out i) (HWF.out i) HM1.out (gP P i).va (HPV.out _ (by rw [gP_pos P i hlt]; exact List.getElem_mem hlt)) (gP P i).h
    rw [← HT.out i hlt] at this
    exact this)
   have hlt2 : (i : Int) < ((guL S most s1 (P.take i)).P.length : Int) := by omega
   have hlt3 : i < (guL S most s1 (P.take i)).P.length := by omega
   clear hrp hbp hpl2 hg hY hB hs hi hlt
   generalize hsn : guL S most s1 (P.take (i + 1)) = sn at *
   have HSN := Hid.mk hsn
   clear hsn
   generalize guL S most s1 (P.take i) = si at *
   generalize gP P i = q at *
   obtain ⟨va, hf, hl, hkp⟩ := q
   have k0 := hc 0 _ rfl
   have k1 := hc 1 _ rfl
   have k2 := hc 2 _ rfl
   have k3 := hc 3 _ rfl
   rw [Nat.add_zero] at k0
   clear hc
   obtain ⟨vi, Li, eE, fE, eK, fK, eP, fP, on1, R1, I1⟩ := di
   (try dsimp only at ea)
   subst ea
   (try dsimp only at k0 k1 k2 k3)
   have hdr := (Below.refl wr.heap.size wr).drew
   obtain ⟨c0, c1, c2, c3, c4, c5, c6, c7, c8⟩ := qal g0
   go_upto_region 8 with fail
   obtain ⟨k0, k1, k2, k3⟩ := cl4 hdr k0 k1 k2 k3
   clear c0 c1 c2 c3 c4 c5 c6 c7 c8
   obtain ⟨g0, g1⟩ := bl2 hdr g0 g1
   replace HYi := Hid.mk (HYi.out.later hdr)
   replace HB := Hid.mk (qab HB.out hdr)
   replace HSW := Hid.mk (Nat.le_trans HSW.out hdr.size)
   clear hdr
   refine hd4 k0 k1 k2 k3 (h := fun hHeld => ?_)
   generalize wr.drew = Wd at *
   obtain ⟨c0, c1, c2, c3, c4, c5, c6, c7, c8⟩ := qal g0
   refine tk 1 33 (h := ?_)
   refine tk 3 35 (h := ?_)
   refine tk 7 39 (h := ?_)
   refine tk 9 41 (h := ?_)
   refine wpAnyH_ready (rs := [0, 2, 8]) (by kernel_rfl) (by simp) ?_
   refine AllReadyH.cons rfl (fun K hK => ?_) (AllReadyH.cons rfl (fun K hK => ?_) (AllReadyH.cons rfl (fun K hK => ?_) AllReadyH.nil))
   ·go_simp
    refine hK.out _ _ ⟨k0, k1, k2, k3⟩ (fun hHelda0 => ?_)
    clear hK
    try simp only [Act.put, sq]
    refine wpAnyH_ready (rs := [2, 8]) (by kernel_rfl) (by simp) ?_
    refine AllReadyH.cons rfl (fun K hK => ?_) (AllReadyH.cons rfl (fun K hK => ?_) AllReadyH.nil)
    ·go_simp
     refine hK.out _ _ ⟨k0, k1, k2, k3⟩ (fun hHelda02 => ?_)
     clear hK
     try simp only [Act.put, sq]
     refine tk 4 36 (h := ?_)
     refine tk 5 37 (h := ?_)
     refine tk 6 38 (h := ?_)
     refine rd1 8 (h := fun K hK => ?_)
     go_simp
     refine hK.out _ _ ⟨k0, k1, k2, k3⟩ (fun hHelda028 => ?_)
     exact zP49x01
    ·go_simp
     refine hK.out _ _ ⟨k0, k1, k2, k3⟩ (fun hHelda08 => ?_)
     clear hK
     try simp only [Act.put, sq]
     refine tk 10 42 (h := ?_)
     refine tk 11 43 (h := ?_)
     refine tk 12 44 (h := ?_)
     refine rd1 2 (h := fun K hK => ?_)
     go_simp
     refine hK.out _ _ ⟨k0, k1, k2, k3⟩ (fun hHelda082 => ?_)
     exact zP49x02
   ·go_simp
    refine hK.out _ _ ⟨k0, k1, k2, k3⟩ (fun hHelda2 => ?_)
    clear hK
    try simp only [Act.put, sq]
    refine tk 4 36 (h := ?_)
    refine tk 5 37 (h := ?_)
    refine tk 6 38 (h := ?_)
    refine wpAnyH_ready (rs := [0, 8]) (by kernel_rfl) (by simp) ?_
    refine AllReadyH.cons rfl (fun K hK => ?_) (AllReadyH.cons rfl (fun K hK => ?_) AllReadyH.nil)
    ·go_simp
     refine hK.out _ _ ⟨k0, k1, k2, k3⟩ (fun hHelda20 => ?_)
     clear hK
     try simp only [Act.put, sq]
     refine rd1 8 (h := fun K hK => ?_)
     go_simp
     refine hK.out _ _ ⟨k0, k1, k2, k3⟩ (fun hHelda208 => ?_)
     exact zP49x01
    ·go_simp
     refine hK.out _ _ ⟨k0, k1, k2, k3⟩ (fun hHelda28 => ?_)
     clear hK
     try simp only [Act.put, sq]
     refine tk 10 42 (h := ?_)
     refine tk 11 43 (h := ?_)
     refine tk 12 44 (h := ?_)
     refine rd1 0 (h := fun K hK => ?_)
     go_simp
     refine hK.out _ _ ⟨k0, k1, k2, k3⟩ (fun hHelda280 => ?_)
     exact zP49x03
   ·go_simp
    refine hK.out _ _ ⟨k0, k1, k2, k3⟩ (fun hHelda8 => ?_)
    clear hK
    try simp only [Act.put, sq]
    refine tk 10 42 (h := ?_)
    refine tk 11 43 (h := ?_)
    refine tk 12 44 (h := ?_)
    refine wpAnyH_ready (rs := [0, 2]) (by kernel_rfl) (by simp) ?_
    refine AllReadyH.cons rfl (fun K hK => ?_) (AllReadyH.cons rfl (fun K hK => ?_) AllReadyH.nil)
    ·go_simp
     refine hK.out _ _ ⟨k0, k1, k2, k3⟩ (fun hHelda80 => ?_)
     clear hK
     try simp only [Act.put, sq]
     refine rd1 2 (h := fun K hK => ?_)
     go_simp
     refine hK.out _ _ ⟨k0, k1, k2, k3⟩ (fun hHelda802 => ?_)
     exact zP49x02
    ·go_simp
     refine hK.out _ _ ⟨k0, k1, k2, k3⟩ (fun hHelda82 => ?_)
     clear hK
     try simp only [Act.put, sq]
     refine tk 4 36 (h := ?_)
     refine tk 5 37 (h := ?_)
     refine tk 6 38 (h := ?_)
     refine rd1 0 (h := fun K hK => ?_)
     go_simp
     refine hK.out _ _ ⟨k0, k1, k2, k3⟩ (fun hHelda820 => ?_)
     exact zP49x03
  ·have hpl2 : (guL S most s1 (P.take i)).P.length = P.length := by rw [HZ.out i]
   have hlt2 : ¬ (i : Int) < ((guL S most s1 (P.take i)).P.length : Int) := by omega
   obtain rfl : i = P.length := by omega
   rw [HE.out] at HYi g0 hlt2
   clear hpl2 hY hB hs hi hlt
   obtain ⟨vi, Li, eE, fE, eK, fK, eP, fP, on1, R1, I1⟩ := di
   have HVi : Hid (vi.oneCell' = true) := HYi.out.vm1
   obtain ⟨c0, c1, c2, c3, c4, c5, c6, c7, c8⟩ := qal g0
   go_wp2_with (first
    | (refine qad rfl 34 _ _ rfl rfl (w.heap.size + 1) 0 _ #[.int .u64 S, vi, .int .i64 most, .slice eE sA.E.length fE, .slice eK sA.K.length fK, .bool on1, .int .u64 R1, .int .i64 I1, .slice eP sA.P.length fP] rfl rfl rfl 34 _ g1 (show 0 + 9 ≤ 9 by decide) qao (qdm HVi.out) #[.int .u64 S, vi, .int .i64 most, .slice eE sA.E.length fE, .slice eK sA.K.length fK, .bool on1, .int .u64 R1, .int .i64 I1, .slice eP sA.P.length fP] rfl ?_; intro wq hrq htq)
    | fail)
   refine bodyPost_ret (TR.qax rfl _ wq (w.heap.size + 1) 34 #[.int .u64 S, vi, .int .i64 most, .slice eE sA.E.length fE, .slice eK sA.K.length fK, .bool on1, .int .u64 R1, .int .i64 I1, .slice eP sA.P.length fP] (0, 0) _ rfl hrq Tryz.underlying34 rfl qao) rfl ?_
   exact ⟨⟨vi, Li, eE, fE, eK, fK, eP, fP, on1, R1, I1⟩, rfl, (HYi.out.turn htq (fun i hi c => by have c' : i = w.heap.size + 1 := c; have := HZ4.out; (try dsimp only at hi); rcases hi with hi | hi <;> omega)).mono (fun i hi => by
    have := HZ4.out
    (try dsimp only at hi)
    rcases hi with hi | hi
    ·exact Or.inl hi.1
    ·exact Or.inr (by omega)), qaf HB.out htq (by omega)⟩
theorem ykw_c (h : YOk w B m s d) (hf0 : Fm S s.f) (hw : Wf most s) (hm : m + 1 < 1000000) (y v : Nat) (hv : v < 18446744073709551616) : Calls Tryz.prog 29 #[.agg (d.cs S most s), .int .u64 y, .int .u64 v] w fun r w' => ∃ d', r = .returned (.tuple #[.agg (d'.cs S most (kwS S most s y v)), .int .i64 (errA S y)]) ∧ YOk w' (fun g => B g ∨ w.heap.size ≤ g) (m + 1) (kwS S most s y v) d' ∧ Below w.heap.size w w' := by
 by_cases he : errA S y = 0
 ·have := ykw_ok h hf0 hw hm y v hv he
  exact this
 ·exact ykw_no h (by omega) y v he
end
section
variable {w0 w w' : World} {l : List Nat} {x a n S : Nat} {most : Int} {s : St}
theorem One.fm (h : One w0 w l x a n S most s) : Fm S s.f := by
 obtain ⟨X, h, -⟩ := h
 obtain ⟨XM, XB, XT, tb, tr, pv, h⟩ := h
 obtain ⟨mb, pg, hm⟩ := h.mem
 refine ⟨fun y hy => hm.out y ?_, hm.fl, hm.s0.2.1⟩
 apply Classical.byContradiction
 intro c
 apply hy
 unfold errA
 rw [if_neg (by omega), if_neg (by omega)]
end
theorem One.ltg {w0 w : World} {l : List Nat} {x a n S : Nat} {most : Int} {s : St} (h : One w0 w l x a n S most s) {g : Nat} (hg : g ∈ l) : g < w.heap.size := by
 obtain ⟨X, -, hX⟩ := h
 exact (hX g hg).1
section
variable {w0 w w' : World} {l : List Nat} {x a n m S : Nat} {most : Int} {s : St} {B : Nat → Prop} {d : Yd}
theorem One.more {l' : List Nat} (h : One w0 w l x a n S most s) (hb : Below w.heap.size w w') (hl : ∀ g ∈ l', (g ∈ l ∨ w.heap.size ≤ g) ∧ g < w'.heap.size) : One w0 w' (l' ++ l) x a n S most s := by
 obtain ⟨X, h, hX⟩ := h
 refine ⟨X, h.later hb, fun g hg => ?_⟩
 rcases List.mem_append.1 hg with hg | hg
 ·refine ⟨(hl g hg).2, ?_⟩
  rcases (hl g hg).1 with hi | hi
  ·exact (hX g hi).2
  ·exact h.nX hi
 ·exact ⟨Nat.lt_of_lt_of_le (hX g hg).1 hb.size, (hX g hg).2⟩
theorem Mch.one {X : Nat → Prop} (h : Mch w0 w X x a n S most s) (l : List Nat) (hl : ∀ g ∈ l, g < w.heap.size ∧ ¬ X g) : One w0 w l x a n S most s := ⟨X, h, hl⟩
theorem YOk.inl (h : YOk w B m s d) : ∃ q : List Nat, YOk w (fun g => g ∈ q) m s d ∧ ∀ g ∈ q, B g ∧ g < w.heap.size := by
 have hT := h.tight
 refine ⟨(d.vm.ownBlock.toList ++ (d.aE.map (·.block)).toList) ++ ((d.aK.map (·.block)).toList ++ (d.aP.map (·.block)).toList), ⟨hT.ref, hT.len, ?_, hT.re, hT.rk, hT.rp, ?_, ?_, ?_, hT.on, hT.rg⟩, ?_⟩
 ·rcases hT.psl with q | ⟨g, cap, q1, q2, q3, q4⟩
  ·exact Or.inl q
  ·exact Or.inr ⟨g, cap, q1, by rw [q1]; simp [Value.ownBlock], q3, q4⟩
 ·intro a ha; rw [ha]; simp
 ·intro a ha; rw [ha]; simp
 ·intro a ha; refine ⟨?_, (hT.bp a ha).2⟩; rw [ha]; simp
 ·intro g hg
  rcases List.mem_append.1 hg with hg | hg
  ·rcases List.mem_append.1 hg with hg | hg
   ·rcases hT.psl with ⟨q, -⟩ | ⟨g', cap, q1, q2, q3, q4⟩
    ·rw [q] at hg; simp [Value.ownBlock] at hg
    ·rw [q1] at hg; simp [Value.ownBlock] at hg; subst hg; exact q2
   ·simp only [Option.mem_toList, Option.map_eq_some_iff] at hg
    obtain ⟨b, hb, rfl⟩ := hg
    exact hT.be b hb
  ·rcases List.mem_append.1 hg with hg | hg
   ·simp only [Option.mem_toList, Option.map_eq_some_iff] at hg
    obtain ⟨b, hb, rfl⟩ := hg
    exact hT.bk b hb
   ·simp only [Option.mem_toList, Option.map_eq_some_iff] at hg
    obtain ⟨b, hb, rfl⟩ := hg
    exact (hT.bp b hb).1
theorem YOk.kp {q : List Nat} (h : YOk w (fun g => g ∈ q) m s d) (hk : Kp l w w') (hq : ∀ g ∈ q, g ∈ l) (b1 : Below w0.heap.size w0 w) (b2 : Below w0.heap.size w0 w') : YOk w' (fun g => g ∈ q) m s d :=
 h.turn (X := fun i => i ∉ l) ⟨b2.os.trans b1.os.symm, b2.tape.trans b1.tape.symm, b2.output.trans b1.output.symm, hk.1, fun i _ hne => hk.2 i (Classical.byContradiction hne)⟩ (fun i hi c => c (hq i hi))
def Duo (w0 w : World) (l F : List Nat) (x a n S : Nat) (most : Int) (s : St) (m : Nat) (t : St) (d : Yd) : Prop :=
 One w0 w l x a n S most s ∧ (∀ g ∈ F, g ∈ l ∧ w0.heap.size ≤ g) ∧ ∃ q : List Nat, YOk w (fun g => g ∈ q) m t d ∧ ∀ g ∈ q, g ∈ l ∧ g ∉ F
variable {F : List Nat} {t t' : St} {d' : Yd} {n' m' : Nat} {s' : St}
theorem Duo.one (h : Duo w0 w l F x a n S most s m t d) : One w0 w l x a n S most s := h.1
theorem Duo.fr (h : Duo w0 w l F x a n S most s m t d) {g : Nat} (hg : g ∈ F) : g ∈ l := (h.2.1 g hg).1
theorem Duo.later (h : Duo w0 w l F x a n S most s m t d) (hb : Below w.heap.size w w') : Duo w0 w' l F x a n S most s m t d := by
 obtain ⟨h1, hF, q, h2, h3⟩ := h
 exact ⟨h1.later hb, hF, q, h2.later hb, h3⟩
theorem Duo.own (h : Duo w0 w l F x a n S most s m t d) (o : Obj) : Duo w0 (w.alloc o) (w.heap.size :: l) (w.heap.size :: F) x a n S most s m t d := by
 obtain ⟨h1, hF, q, h2, h3⟩ := h
 refine ⟨h1.own o, fun g hg => ?_, q, h2.later (qac _ _), fun g hg => ⟨List.mem_cons_of_mem _ (h3 g hg).1, fun c => ?_⟩⟩
 ·rcases List.mem_cons.1 hg with rfl | hg
  ·exact ⟨by simp, h1.bl.size⟩
  ·exact ⟨List.mem_cons_of_mem _ (hF g hg).1, (hF g hg).2⟩
 ·rcases List.mem_cons.1 c with rfl | c
  ·have := h1.ltg (h3 _ hg).1; omega
  ·exact (h3 g hg).2 c
theorem Duo.acts (h : Duo w0 w l F x a n S most s m t d) (h1 : One w0 w' l x a n' S most s') (hk : Kp l w w') : Duo w0 w' l F x a n' S most s' m t d := by
 obtain ⟨h0, hF, q, h2, h3⟩ := h
 exact ⟨h1, hF, q, h2.kp hk (fun g hg => (h3 g hg).1) h0.bl h1.bl, h3⟩
theorem Duo.put {R : Nat} (h : Duo w0 w l F x a n S most s m t d) (ht : Turn (fun i => i = R) w w') (hR : R ∈ F) : Duo w0 w' l F x a n S most s m t d := by
 obtain ⟨h0, hF, q, h2, h3⟩ := h
 exact ⟨h0.put ht (fun i hi => by rw [hi]; exact hF R hR), hF, q, h2.turn ht (fun i hi c => (h3 i hi).2 (by rw [c]; exact hR)), h3⟩
theorem Duo.same (h : Duo w0 w l F x a n S most s m s d) (hm : m < 1000000) :
  Calls Tryz.prog 7 #[.pointer (some ⟨x, 0, none⟩), .agg (d.cs S most s)] w fun r w' => r = .returned (.bool true) ∧ Below w.heap.size w w' := by
 obtain ⟨h0, -, q, h2, -⟩ := h
 have hf := h0.fm
 obtain ⟨X, h0, -⟩ := h0
 exact same_c h0 h2 hf hm
def dOp (v : Value) (L : WL) : Yd := { vm := v, L := L, aE := none, cE := 0, aK := none, cK := 0, on := false, R := 0, I := 0, aP := none, cP := 0 }
theorem OpenOK.duo {f : Nat → Nat} {v : Value} (h : OpenOK w w' x a most f v) : ∃ (l : List Nat) (L : WL) (p : Option Addr) (c : Nat), v = .slice p L.length c ∧ Duo w w' l [] x a 61 1048576 most ⟨f, [], [], none, []⟩ 60 ⟨f, [], [], none, []⟩ (dOp v L) := by
 obtain ⟨X, hM, L, hp, hr, hl⟩ := h.mch
 have hy : YOk w' (fun g => w.heap.size ≤ g ∧ ¬ X g) 60 ⟨f, [], [], none, []⟩ (dOp v L) :=
  ⟨hr, hl, hp, ⟨TB.RdA.nil _ _, Nat.le_refl _, Nat.zero_le _, Or.inl rfl, fun a ha => (by cases ha)⟩, ⟨TR.RdA.nil _ _, Nat.le_refl _, Nat.zero_le _, Or.inl rfl, fun a ha => (by cases ha)⟩, PL.RdA.nil _ _, fun a ha => (by cases ha), fun a ha => (by cases ha), fun a ha => (by cases ha), rfl, fun R I e => (by cases e)⟩
 obtain ⟨q, h4, h5⟩ := hy.inl
 obtain ⟨p, c, e, -⟩ := hp.form
 exact ⟨q, L, p, c, e, hM.one q (fun g hg => ⟨(h5 g hg).2, (h5 g hg).1.2⟩), fun g hg => absurd hg List.not_mem_nil, q, h4, fun g hg => ⟨hg, List.not_mem_nil⟩⟩
theorem YOk.set (h : YOk w B m s d) (R I : Nat) : YOk w B m { s with rg := some (R, I) } { d with on := true, R := R, I := I } :=
 ⟨h.ref, h.len, h.psl, h.re, h.rk, h.rp, h.be, h.bk, h.bp, rfl, fun R' I' e => by cases e; exact ⟨rfl, rfl⟩⟩
end
set_option linter.unusedVariables false
theorem Kp.less {l l' : List Nat} {w w' : World} (h : Kp l w w') (hl : ∀ g ∈ l', g ∈ l) : Kp l' w w' := ⟨h.1, fun g hg => h.2 g (hl g hg)⟩
theorem qay {w : World} {g t : Nat} {c0 c1 c2 c3 c4 c5 c6 c7 : Value} (hh : w.heap[g]? = some (.cells #[c0, c1, c2, c3, c4, c5, c6, c7] t (0, 0))) : w.cell? ⟨g, 0, none⟩ = some c0 ∧ w.cell? ⟨g, 1, none⟩ = some c1 ∧ w.cell? ⟨g, 2, none⟩ = some c2 ∧ w.cell? ⟨g, 3, none⟩ = some c3 ∧ w.cell? ⟨g, 4, none⟩ = some c4 ∧ w.cell? ⟨g, 5, none⟩ = some c5 ∧ w.cell? ⟨g, 6, none⟩ = some c6 ∧ w.cell? ⟨g, 7, none⟩ = some c7 := by
 refine ⟨?_, ?_, ?_, ?_, ?_, ?_, ?_, ?_⟩
 all_goals (rw [cell_of_row _ _ _ _ _ _ hh]; rfl)
theorem info_u64 : (Tryz.prog.info? 26).map (·.size) = some 1 := by kernel_rfl
theorem mk9 (w : World) : ∃ arr, (Instr.makeSlice 77 (.int .i64 9) (.int .i64 9)).run Tryz.prog w = .ok (.slice (some ⟨w.heap.size, 0, none⟩) 9 9) (w.alloc (.cells arr 76)) := by
 obtain ⟨i, hi, hz, hs, hb⟩ := PL.infoP PL.etyT.info
 have h := run_makeSlice (P := Tryz.prog) (w := w) 77 76 i _ Tryz.underlying77 hi hz .i64 .i64 9 9 (by decide) (by decide) (by rw [hs]; decide) (by rw [hb]; decide) (by decide)
 exact ⟨_, h⟩
theorem info_ps : (Tryz.prog.info? 32).map (·.size) = some 1 := by kernel_rfl
theorem info_int : (Tryz.prog.info? 3).map (·.size) = some 1 := by kernel_rfl
theorem eqF2 (a b c d : Int) (w : World) : (binOp .eql 65 (.agg #[.int .i64 a, .int .i64 b]) (.agg #[.int .i64 c, .int .i64 d])).run Tryz.prog w = .ok (.bool (decide (a = c) && decide (b = d))) w := by
 by_cases h0 : a = c
 ·subst h0
  by_cases h1 : b = d
  ·subst h1; go_simp
  ·go_simp <;> simp_all
 ·go_simp <;> simp_all
section
variable {w0 w w4 w5 : World} {l : List Nat} {x a n S R : Nat} {most : Int} {s : St}
theorem One.ltl (h0 : One w0 w l x a n S most s) {g : Nat} (hg : g ∈ l) : g < w.heap.size := by
 obtain ⟨X, -, hX⟩ := h0
 exact (hX g hg).1
theorem Kp.put (h0 : One w0 w l x a n S most s) (hk : Kp l w w4) (ht : Turn (fun i => i = R) w4 w5) (hlo : w.heap.size ≤ R) : Kp l w w5 :=
 ⟨Nat.le_trans hk.1 ht.size, fun g hg => by
  have hg1 := h0.ltl hg
  exact (ht.block g (Nat.lt_of_lt_of_le hg1 hk.1) (fun c => by have : g = R := c; omega)).trans (hk.2 g hg)⟩
theorem Kp.below (h0 : One w0 w l x a n S most s) (hk : Kp l w w4) (hb : Below w4.heap.size w4 w5) : Kp l w w5 :=
 ⟨Nat.le_trans hk.1 hb.size, fun g hg => (hb.block g (Nat.lt_of_lt_of_le (h0.ltl hg) hk.1)).trans (hk.2 g hg)⟩
end
section
variable {w0 w w4 w5 w6 w7 : World} {l F : List Nat} {x a n m n' m' S : Nat} {most : Int} {s s' t t' : St} {d d' : Yd}
theorem Duo.vm1 (h : Duo w0 w l F x a n S most s m t d) : d.vm.oneCell' = true := by
 obtain ⟨-, -, q, h2, -⟩ := h
 exact h2.vm1
theorem Duo.own4 (h : Duo w0 w l F x a n S most s m t d) (o1 o2 o3 o4 : Obj) : Duo w0 ((((w.alloc o1).alloc o2).alloc o3).alloc o4) ([w.heap.size + 1 + 1 + 1, w.heap.size + 1 + 1, w.heap.size + 1, w.heap.size] ++ l) ([w.heap.size + 1 + 1 + 1, w.heap.size + 1 + 1, w.heap.size + 1, w.heap.size] ++ F) x a n S most s m t d := by
 have := (((h.own o1).own o2).own o3).own o4
 simpa using this
theorem Duo.lessF {F' : List Nat} (h : Duo w0 w l F x a n S most s m t d) (hF : ∀ g ∈ F', g ∈ F) : Duo w0 w l F' x a n S most s m t d := by
 obtain ⟨h1, h2, q, h3, h4⟩ := h
 exact ⟨h1, fun g hg => h2 g (hF g hg), q, h3, fun g hg => ⟨(h4 g hg).1, fun c => (h4 g hg).2 (hF g c)⟩⟩
theorem Duo.ydoes (h : Duo w0 w l F x a n S most s m t d) {f : FuncId} {args : Array Value} {Rr : Ending → Yd → Prop} (hc : ∀ B, YOk w B m t d → Calls Tryz.prog f args w fun r w' => ∃ d', Rr r d' ∧ YOk w' (fun g => B g ∨ w.heap.size ≤ g) m' t' d' ∧ Below w.heap.size w w') :
  Calls Tryz.prog f args w fun r w' => ∃ d' l', Rr r d' ∧ Duo w0 w' (l' ++ l) F x a n S most s m' t' d' ∧ Below w.heap.size w w' := by
 obtain ⟨h0, hF, q, h2, h3⟩ := h
 refine (hc _ h2).mono ?_
 rintro r w' ⟨d', hr, h4, hb⟩
 obtain ⟨q', h5, h6⟩ := h4.inl
 refine ⟨d', q', hr, ⟨h0.more hb (fun g hg => ⟨?_, (h6 g hg).2⟩), fun g hg => ⟨List.mem_append_right _ (hF g hg).1, (hF g hg).2⟩, q', h5, fun g hg => ⟨List.mem_append_left _ hg, fun c => ?_⟩⟩, hb⟩
 ·rcases (h6 g hg).1 with c | c
  ·exact Or.inl (h3 g c).1
  ·exact Or.inr c
 ·rcases (h6 g hg).1 with k | k
  ·exact (h3 g k).2 c
  ·have := h0.ltg (hF g c).1; omega
theorem Duo.up (h : Duo w0 w l F x a n S most s m t d) (hn : n ≤ n') (hm : m ≤ m') : Duo w0 w l F x a n' S most s m' t d := by
 obtain ⟨h0, hF, q, h2, h3⟩ := h
 exact ⟨h0.mono hn, hF, q, h2.up hm, h3⟩
def VO (w0 w : World) (l F : List Nat) (x a n S : Nat) (most : Int) (m : Nat) (r : Ending) (w' : World) : Prop :=
 ∃ (s' : St) (d' : Yd) (l' : List Nat), r = .returned (.tuple #[.agg (d'.cs S most s'), .bool true]) ∧ Duo w0 w' (l' ++ l) F x a n S most s' m s' d' ∧ Kp l w w'
theorem Duo.fin {r : Ending} {l1 : List Nat} (h0 : Duo w0 w l F x a n S most s m t d) (hb : Below w.heap.size w w4) (hk : Kp ([w.heap.size + 1 + 1 + 1, w.heap.size + 1 + 1, w.heap.size + 1, w.heap.size] ++ l) w4 w5) (h6 : Duo w0 w6 (l1 ++ ([w.heap.size + 1 + 1 + 1, w.heap.size + 1 + 1, w.heap.size + 1, w.heap.size] ++ l)) ([w.heap.size + 1 + 1 + 1, w.heap.size + 1 + 1, w.heap.size + 1, w.heap.size] ++ F) x a n' S most s' m' s' d') (hb6 : Below w5.heap.size w5 w6) (ht : Turn (fun i => i = w.heap.size + 1 + 1) w6 w7)
  (hr : r = .returned (.tuple #[.agg (d'.cs S most s'), .bool true])) (hn : n' ≤ n + 1 := by omega) (hm : m' ≤ m + 1 := by omega) : VO w0 w l F x a (n + 1) S most (m + 1) r w7 := by
 refine ⟨s', d', l1 ++ [w.heap.size + 1 + 1 + 1, w.heap.size + 1 + 1, w.heap.size + 1, w.heap.size], hr, ?_, ?_⟩
 ·have := ((h6.put ht (by simp)).lessF (F' := F) (fun g hg => by simp [hg])).up hn hm
  rw [List.append_assoc]
  exact this
 ·have e0 := h0.one.bl.size
  have e1 := hb.size
  have e2 := hk.1
  have e3 := hb6.size
  have e4 := ht.size
  refine ⟨by omega, fun g hg => ?_⟩
  have hg1 := h0.one.ltl hg
  exact (((ht.block g (by omega) (fun c => by have : g = w.heap.size + 1 + 1 := c; omega)).trans (hb6.block g (by omega))).trans (hk.2 g (by simp [hg]))).trans (hb.block g hg1)
theorem Duo.fin3 {r : Ending} {l1 : List Nat} (h0 : Duo w0 w l F x a n S most s m t d) (hk : Kp l w w6) (h6 : Duo w0 w6 (l1 ++ ([w.heap.size + 1 + 1 + 1, w.heap.size + 1 + 1, w.heap.size + 1, w.heap.size] ++ l)) ([w.heap.size + 1 + 1 + 1, w.heap.size + 1 + 1, w.heap.size + 1, w.heap.size] ++ F) x a n' S most s' m' s' d') (ht : Turn (fun i => i = w.heap.size + 1 + 1) w6 w7)
  (hr : r = .returned (.tuple #[.agg (d'.cs S most s'), .bool true])) (hn : n' ≤ n + 1 := by omega) (hm : m' ≤ m + 1 := by omega) : VO w0 w l F x a (n + 1) S most (m + 1) r w7 := by
 refine ⟨s', d', l1 ++ [w.heap.size + 1 + 1 + 1, w.heap.size + 1 + 1, w.heap.size + 1, w.heap.size], hr, ?_, hk.put h0.one ht (by omega)⟩
 have := ((h6.put ht (by simp)).lessF (F' := F) (fun g hg => by simp [hg])).up hn hm
 rw [List.append_assoc]
 exact this
theorem Duo.offY (h : Duo w0 w l F x a n S most s m t d) : Duo w0 w l F x a n S most s m { t with rg := none } { d with on := false } := by
 obtain ⟨h0, hF, q, h2, h3⟩ := h
 exact ⟨h0, hF, q, ⟨h2.ref, h2.len, h2.psl, h2.re, h2.rk, h2.rp, h2.be, h2.bk, h2.bp, rfl, fun R I e => by cases e⟩, h3⟩
theorem Duo.set2 (h : Duo w0 w l F x a n S most s m t d) (R I : Nat) : Duo w0 w l F x a n S most s m { t with rg := some (R, I) } { d with on := true, R := R, I := I } := by
 obtain ⟨h0, hF, q, h2, h3⟩ := h
 exact ⟨h0, hF, q, h2.set R I, h3⟩
theorem Duo.vmf (h : Duo w0 w l F x a n S most s m t d) : ∃ p c, d.vm = .slice p d.L.length c := by
 obtain ⟨-, -, q, h2, -⟩ := h
 obtain ⟨p, c, e, -⟩ := h2.psl.form
 exact ⟨p, c, e⟩
theorem keep_neg {most : Int} {s : St} (h : Wf most s) {i : Int} (hi : i < 0) : flAs s i = s := by
 have e1 : TB.qar (fun e => decide (e.aid = i)) s.E = s.E := by
  unfold TB.qar
  rw [List.filter_eq_self]
  intro e he
  have := h.er e he
  unfold TB.qbe at this
  rw [Bool.and_eq_true, Bool.and_eq_true, Bool.and_eq_true, decide_eq_true_eq] at this
  simp; omega
 have e2 : TR.qar (fun e => decide (e.aid = i)) s.K = s.K := by
  unfold TR.qar
  rw [List.filter_eq_self]
  intro e he
  have := (h.kr e he).2
  unfold TR.qbe at this
  simp only [Bool.and_eq_true, decide_eq_true_eq] at this
  simp; omega
 unfold flAs
 rw [e1, e2]
end
end Go.Proofs.YtfdbdeckohaneaaGreatDoor.MM
