/- P51 -/
import Derived.Test.YtfdbdeckohaneaaGreatDoorP50
set_option maxHeartbeats 16000000
set_option maxRecDepth 100000
set_option linter.unusedVariables false
namespace Go.Proofs.YtfdbdeckohaneaaGreatDoor.MM
open Go.RowKit Go.Maps
section
variable {w0 w : World} {l F : List Nat} {x a n m S : Nat} {most : Int} {s : St} {d : Yd}
theorem zP51x01 {Z : Prop} (z : Z := by
 refine tk 18 118 (h := ?_)
 refine tk 19 119 (h := ?_)
 refine rd1 20 (h := fun K hK => ?_)
 refine qah rfl rfl 34 _ _ rfl (w.heap.size + 1 + 1) 0 _ #[.int .u64 S, vm1, .int .i64 most, .slice aE1 s1.E.length cE1, .slice aK1 s1.K.length cK1, .bool on1, .int .u64 R1, .int .i64 I1, .slice aP1 s1.P.length cP1] rfl rfl rfl 34 _ gR (show 0 + 9 ≤ 9 by decide) qao (qdm HV5.out) #[.int .u64 S, vm1, .int .i64 most, .slice aE1 s1.E.length cE1, .slice aK1 s1.K.length cK1, .bool on1, .int .u64 R1, .int .i64 I1, .slice aP1 s1.P.length cP1] rfl ?_
 intro wz hrz htz
 obtain ⟨k0, k1, k2, k3, k4⟩ := tc5 htz k0 k1 k2 k3 k4
 obtain ⟨k5, k6, k7, k8, k9⟩ := tc5 htz k5 k6 k7 k8 k9
 refine hK.out _ _ ⟨k0, k1, k2, k3, k4, k5, k6, k7, k8, k9⟩ (fun hHeldz => ?_)
 clear hK
 try simp only [Act.put, sq]
 clear k0 k1 k2 k3 k4 k5 k6 k7 k8 k9
 refine tk 21 7 (h := ?_)
 refine wpAnyH_done (by kernel_rfl) ?_ _
 refine NoPanic.normal ?_
 go_wp2_with fail
 refine bodyPost_ret (TR.qax (p := 6) (u := 7) rfl _ _ (w.heap.size + 1 + 1) 34 _ _ _ rfl hrz Tryz.underlying34 rfl qao) rfl ?_
 exact H0.out.fin3 ((Kp.below H0.out.one (Kp.refl l w) HB5.out).trans (HK6.out.less (fun g hg => by simp [hg]))) H6.out htz rfl) : Z := z
theorem vst_4y (h : Duo w0 w l F x a n S most s m s d) (hm : m + 1 < 1000000) (hn : n < 1000000) (so nn : Int) (va wd : Nat) (hf hl hk : Bool) (hva : va < 18446744073709551616) (hwd : wd < 18446744073709551616) (hN : 0 ≤ nn) (bq : Bool) (hI : inB nn s.E.length = bq) (hL : decide (nn < (s.E.length : Int)) = bq) :
  Calls Tryz.prog 6 #[.pointer (some ⟨x, 0, none⟩), .agg (d.cs S most s), .agg #[.int .i64 4, .int .i64 so, .int .i64 nn, .int .u64 va, .int .u64 wd, .bool hf, .bool hl, .bool hk]] w (VO w0 w l F x a (n + 1) S most (m + 1)) := by
 have H0 := Hid.mk h
 have HFM := Hid.mk h.one.fm
 have HWF := Hid.mk h.one.wfm
 have HV1 := Hid.mk h.vm1
 have HDR : Hid (∀ W (B : Nat → Prop), YOk W B m s d → Calls Tryz.prog 20 #[.agg (d.cs S most s), .int .i64 nn, .bool false] W fun r w' => ∃ d', r = .returned (.agg (d'.cs S most { s with E := qce s.E nn })) ∧ YOk w' (fun g => B g ∨ W.heap.size ≤ g) m { s with E := qce s.E nn } d' ∧ Below W.heap.size W w') := Hid.mk (fun W B hy => ydrop_E hy HWF.out nn)
 have HEV : Hid (∀ (X : Nat → Prop) W, Mch w0 W X x a n S most s → Calls Tryz.prog 21 #[.pointer (some ⟨x, 0, none⟩), .int .i64 nn] W fun r w' => r = .returned (.bool bq) ∧ Mch w0 w' (Gr X W w') x a n S most { s with E := qce s.E nn } ∧ Turn X W w') := Hid.mk (fun X W hM => by
  have := evict_c hM nn
  rw [hI] at this
  exact this)
 generalize hs1 : ({ s with E := qce s.E nn } : St) = s1 at *
 clear hs1 hI
 clear h
 obtain ⟨vm, L, aE, cE, aK, cK, aP, cP, on', R', I'⟩ := d
 (try dsimp only at HV1)
 have HW := Hid.mk (H0.out.own4 (.cells #[.int .u64 S, vm, .int .i64 most, .slice aE s.E.length cE, .slice aK s.K.length cK, .bool on', .int .u64 R', .int .i64 I', .slice aP s.P.length cP] 34) (.cells #[.int .i64 4, .int .i64 so, .int .i64 nn, .int .u64 va, .int .u64 wd, .bool hf, .bool hl, .bool hk] 40) (.cells #[.int .u64 0, .slice none 0 0, .int .i64 0, .slice none 0 0, .slice none 0 0, .bool false, .int .u64 0, .int .i64 0, .slice none 0 0] 34) (.cells #[.bool hf, .bool hl, .bool hk] 64))
 obtain ⟨W, hW, gY, gO, gR, gH, hB, hsz⟩ := hp4 w (.cells #[.int .u64 S, vm, .int .i64 most, .slice aE s.E.length cE, .slice aK s.K.length cK, .bool on', .int .u64 R', .int .i64 I', .slice aP s.P.length cP] 34) (.cells #[.int .i64 4, .int .i64 so, .int .i64 nn, .int .u64 va, .int .u64 wd, .bool hf, .bool hl, .bool hk] 40) (.cells #[.int .u64 0, .slice none 0 0, .int .i64 0, .slice none 0 0, .slice none 0 0, .bool false, .int .u64 0, .int .i64 0, .slice none 0 0] 34) (.cells #[.bool hf, .bool hl, .bool hk] 64)
 rw [hW] at HW
 have dN : decide ((0 : Int) ≤ nn) = true := decide_eq_true hN
 go_enter Tryz.func6, Tryz.ntmps6
 go_upto_region 2 with fail
 (try rw [hW])
 clear hW hsz
 have HB := Hid.mk hB
 clear hB
 obtain ⟨o0, o1, o2, o3, o4, o5, o6, o7⟩ := qay gO
 obtain ⟨c0, c1, c2, c3, c4, c5, c6, c7, c8⟩ := qal gY
 obtain ⟨t0, t1, t2⟩ := qan gH
 go_upto_region 16 with fail
 have k0 := c0
 have k1 := c1
 have k2 := c2
 have k3 := c3
 have k4 := c4
 have k5 := c5
 have k6 := c6
 have k7 := c7
 have k8 := c8
 have k9 := o2
 clear o0 o1 o2 o3 o4 o5 o6 o7 c0 c1 c2 c3 c4 c5 c6 c7 c8 t0 t1 t2
 obtain ⟨k0, k1, k2, k3, k4⟩ := cl5 (Below.refl _ W).drew k0 k1 k2 k3 k4
 obtain ⟨k5, k6, k7, k8, k9⟩ := cl5 (Below.refl _ W).drew k5 k6 k7 k8 k9
 refine hd10 k0 k1 k2 k3 k4 k5 k6 k7 k8 k9 (h := fun hHeld => ?_)
 have hdr := (Below.refl W.heap.size W).drew
 have HWd := Hid.mk (HW.out.later hdr)
 replace gR := qaa hdr gR
 have HBd := Hid.mk (qab HB.out hdr)
 clear HW HB hdr gY gO gH
 generalize W.drew = Wd at *
 refine tk 0 100 (h := ?_)
 refine tk 1 101 (h := ?_)
 refine tk 2 102 (h := ?_)
 refine tk 4 104 (h := ?_)
 refine tk 5 105 (h := ?_)
 refine tk 6 106 (h := ?_)
 refine tk 8 108 (h := ?_)
 refine tk 9 109 (h := ?_)
 refine tk 10 110 (h := ?_)
 refine rd1 3 (h := fun K hK => ?_)
 go_simp
 refine (HWd.out.ydoes (Rr := fun r d' => r = .returned (.agg (d'.cs S most s1))) (fun B hy => HDR.out _ _ hy)).mono ?_
 rintro e w5 ⟨d1, l1, rfl, h5, hb5⟩
 go_wp2_with fail
 obtain ⟨vm1, L1, aE1, cE1, aK1, cK1, aP1, cP1, on1, R1, I1⟩ := d1
 have HV5 : Hid (vm1.oneCell' = true) := h5.vm1
 obtain ⟨k0, k1, k2, k3, k4⟩ := cl5 hb5 k0 k1 k2 k3 k4
 obtain ⟨k5, k6, k7, k8, k9⟩ := cl5 hb5 k5 k6 k7 k8 k9
 replace gR := qaa hb5 gR
 have H5 := Hid.mk h5
 have HB5 := Hid.mk (qab HBd.out hb5)
 clear h5 hb5 HWd HBd
 refine hK.out _ _ ⟨k0, k1, k2, k3, k4, k5, k6, k7, k8, k9⟩ (fun hHeldc0 => ?_)
 clear hK
 try simp only [Act.put, sq]
 refine rd1 7 (h := fun K hK => ?_)
 go_simp
 refine (H5.out.one.does (fun X hM => HEV.out _ _ hM)).mono ?_
 rintro e w6 ⟨rfl, h6, hk6⟩
 go_wp2_with fail
 replace k0 := hk6.cell (by simp) k0
 replace k1 := hk6.cell (by simp) k1
 replace k2 := hk6.cell (by simp) k2
 replace k3 := hk6.cell (by simp) k3
 replace k4 := hk6.cell (by simp) k4
 replace k5 := hk6.cell (by simp) k5
 replace k6 := hk6.cell (by simp) k6
 replace k7 := hk6.cell (by simp) k7
 replace k8 := hk6.cell (by simp) k8
 replace k9 := hk6.cell (by simp) k9
 replace gR := hk6.row (by simp) gR
 have H6 := Hid.mk (H5.out.acts h6 hk6)
 have HK6 := Hid.mk hk6
 clear h6 hk6 H5
 refine hK.out _ _ ⟨k0, k1, k2, k3, k4, k5, k6, k7, k8, k9⟩ (fun hHeldc1 => ?_)
 clear hK
 try simp only [Act.put, sq]
 refine tk 11 111 (h := ?_)
 refine tk 12 112 (h := ?_)
 refine tk 13 113 (h := ?_)
 refine tk 14 114 (h := ?_)
 refine tk 15 115 (h := ?_)
 refine tk 16 116 (h := ?_)
 refine tk 17 117 (h := ?_)
 exact zP51x01
theorem zP51x02 {Z : Prop} (z : Z := by
 refine tk 18 140 (h := ?_)
 refine tk 19 141 (h := ?_)
 refine rd1 20 (h := fun K hK => ?_)
 refine qah rfl rfl 34 _ _ rfl (w.heap.size + 1 + 1) 0 _ #[.int .u64 S, vm1, .int .i64 most, .slice aE1 s1.E.length cE1, .slice aK1 s1.K.length cK1, .bool on1, .int .u64 R1, .int .i64 I1, .slice aP1 s1.P.length cP1] rfl rfl rfl 34 _ gR (show 0 + 9 ≤ 9 by decide) qao (qdm HV5.out) #[.int .u64 S, vm1, .int .i64 most, .slice aE1 s1.E.length cE1, .slice aK1 s1.K.length cK1, .bool on1, .int .u64 R1, .int .i64 I1, .slice aP1 s1.P.length cP1] rfl ?_
 intro wz hrz htz
 obtain ⟨k0, k1, k2, k3, k4⟩ := tc5 htz k0 k1 k2 k3 k4
 obtain ⟨k5, k6, k7, k8, k9⟩ := tc5 htz k5 k6 k7 k8 k9
 refine hK.out _ _ ⟨k0, k1, k2, k3, k4, k5, k6, k7, k8, k9⟩ (fun hHeldz => ?_)
 clear hK
 try simp only [Act.put, sq]
 clear k0 k1 k2 k3 k4 k5 k6 k7 k8 k9
 refine tk 21 7 (h := ?_)
 refine wpAnyH_done (by kernel_rfl) ?_ _
 refine NoPanic.normal ?_
 go_wp2_with fail
 refine bodyPost_ret (TR.qax (p := 6) (u := 7) rfl _ _ (w.heap.size + 1 + 1) 34 _ _ _ rfl hrz Tryz.underlying34 rfl qao) rfl ?_
 exact H0.out.fin3 ((Kp.below H0.out.one (Kp.refl l w) HB5.out).trans (HK6.out.less (fun g hg => by simp [hg]))) H6.out htz rfl) : Z := z
theorem vst_5y (h : Duo w0 w l F x a n S most s m s d) (hm : m + 1 < 1000000) (hn : n < 1000000) (so nn : Int) (va wd : Nat) (hf hl hk : Bool) (hva : va < 18446744073709551616) (hwd : wd < 18446744073709551616) (hN : 0 ≤ nn) (bq : Bool) (hI : inB nn s.K.length = bq) (hL : decide (nn < (s.K.length : Int)) = bq) :
  Calls Tryz.prog 6 #[.pointer (some ⟨x, 0, none⟩), .agg (d.cs S most s), .agg #[.int .i64 5, .int .i64 so, .int .i64 nn, .int .u64 va, .int .u64 wd, .bool hf, .bool hl, .bool hk]] w (VO w0 w l F x a (n + 1) S most (m + 1)) := by
 have H0 := Hid.mk h
 have HFM := Hid.mk h.one.fm
 have HWF := Hid.mk h.one.wfm
 have HV1 := Hid.mk h.vm1
 have HDR : Hid (∀ W (B : Nat → Prop), YOk W B m s d → Calls Tryz.prog 20 #[.agg (d.cs S most s), .int .i64 nn, .bool true] W fun r w' => ∃ d', r = .returned (.agg (d'.cs S most { s with K := qce s.K nn })) ∧ YOk w' (fun g => B g ∨ W.heap.size ≤ g) m { s with K := qce s.K nn } d' ∧ Below W.heap.size W w') := Hid.mk (fun W B hy => ydrop_K hy HWF.out nn)
 have HEV : Hid (∀ (X : Nat → Prop) W, Mch w0 W X x a n S most s → Calls Tryz.prog 22 #[.pointer (some ⟨x, 0, none⟩), .int .i64 nn] W fun r w' => r = .returned (.bool bq) ∧ Mch w0 w' (Gr X W w') x a n S most { s with K := qce s.K nn } ∧ Turn X W w') := Hid.mk (fun X W hM => by
  have := lose_c hM nn
  rw [hI] at this
  exact this)
 generalize hs1 : ({ s with K := qce s.K nn } : St) = s1 at *
 clear hs1 hI
 clear h
 obtain ⟨vm, L, aE, cE, aK, cK, aP, cP, on', R', I'⟩ := d
 (try dsimp only at HV1)
 have HW := Hid.mk (H0.out.own4 (.cells #[.int .u64 S, vm, .int .i64 most, .slice aE s.E.length cE, .slice aK s.K.length cK, .bool on', .int .u64 R', .int .i64 I', .slice aP s.P.length cP] 34) (.cells #[.int .i64 5, .int .i64 so, .int .i64 nn, .int .u64 va, .int .u64 wd, .bool hf, .bool hl, .bool hk] 40) (.cells #[.int .u64 0, .slice none 0 0, .int .i64 0, .slice none 0 0, .slice none 0 0, .bool false, .int .u64 0, .int .i64 0, .slice none 0 0] 34) (.cells #[.bool hf, .bool hl, .bool hk] 64))
 obtain ⟨W, hW, gY, gO, gR, gH, hB, hsz⟩ := hp4 w (.cells #[.int .u64 S, vm, .int .i64 most, .slice aE s.E.length cE, .slice aK s.K.length cK, .bool on', .int .u64 R', .int .i64 I', .slice aP s.P.length cP] 34) (.cells #[.int .i64 5, .int .i64 so, .int .i64 nn, .int .u64 va, .int .u64 wd, .bool hf, .bool hl, .bool hk] 40) (.cells #[.int .u64 0, .slice none 0 0, .int .i64 0, .slice none 0 0, .slice none 0 0, .bool false, .int .u64 0, .int .i64 0, .slice none 0 0] 34) (.cells #[.bool hf, .bool hl, .bool hk] 64)
 rw [hW] at HW
 have dN : decide ((0 : Int) ≤ nn) = true := decide_eq_true hN
 go_enter Tryz.func6, Tryz.ntmps6
 go_upto_region 2 with fail
 (try rw [hW])
 clear hW hsz
 have HB := Hid.mk hB
 clear hB
 obtain ⟨o0, o1, o2, o3, o4, o5, o6, o7⟩ := qay gO
 obtain ⟨c0, c1, c2, c3, c4, c5, c6, c7, c8⟩ := qal gY
 obtain ⟨t0, t1, t2⟩ := qan gH
 go_upto_region 18 with fail
 have k0 := c0
 have k1 := c1
 have k2 := c2
 have k3 := c3
 have k4 := c4
 have k5 := c5
 have k6 := c6
 have k7 := c7
 have k8 := c8
 have k9 := o2
 clear o0 o1 o2 o3 o4 o5 o6 o7 c0 c1 c2 c3 c4 c5 c6 c7 c8 t0 t1 t2
 obtain ⟨k0, k1, k2, k3, k4⟩ := cl5 (Below.refl _ W).drew k0 k1 k2 k3 k4
 obtain ⟨k5, k6, k7, k8, k9⟩ := cl5 (Below.refl _ W).drew k5 k6 k7 k8 k9
 refine hd10 k0 k1 k2 k3 k4 k5 k6 k7 k8 k9 (h := fun hHeld => ?_)
 have hdr := (Below.refl W.heap.size W).drew
 have HWd := Hid.mk (HW.out.later hdr)
 replace gR := qaa hdr gR
 have HBd := Hid.mk (qab HB.out hdr)
 clear HW HB hdr gY gO gH
 generalize W.drew = Wd at *
 refine tk 0 122 (h := ?_)
 refine tk 1 123 (h := ?_)
 refine tk 2 124 (h := ?_)
 refine tk 4 126 (h := ?_)
 refine tk 5 127 (h := ?_)
 refine tk 6 128 (h := ?_)
 refine tk 8 130 (h := ?_)
 refine tk 9 131 (h := ?_)
 refine tk 10 132 (h := ?_)
 refine rd1 3 (h := fun K hK => ?_)
 go_simp
 refine (HWd.out.ydoes (Rr := fun r d' => r = .returned (.agg (d'.cs S most s1))) (fun B hy => HDR.out _ _ hy)).mono ?_
 rintro e w5 ⟨d1, l1, rfl, h5, hb5⟩
 go_wp2_with fail
 obtain ⟨vm1, L1, aE1, cE1, aK1, cK1, aP1, cP1, on1, R1, I1⟩ := d1
 have HV5 : Hid (vm1.oneCell' = true) := h5.vm1
 obtain ⟨k0, k1, k2, k3, k4⟩ := cl5 hb5 k0 k1 k2 k3 k4
 obtain ⟨k5, k6, k7, k8, k9⟩ := cl5 hb5 k5 k6 k7 k8 k9
 replace gR := qaa hb5 gR
 have H5 := Hid.mk h5
 have HB5 := Hid.mk (qab HBd.out hb5)
 clear h5 hb5 HWd HBd
 refine hK.out _ _ ⟨k0, k1, k2, k3, k4, k5, k6, k7, k8, k9⟩ (fun hHeldc0 => ?_)
 clear hK
 try simp only [Act.put, sq]
 refine rd1 7 (h := fun K hK => ?_)
 go_simp
 refine (H5.out.one.does (fun X hM => HEV.out _ _ hM)).mono ?_
 rintro e w6 ⟨rfl, h6, hk6⟩
 go_wp2_with fail
 replace k0 := hk6.cell (by simp) k0
 replace k1 := hk6.cell (by simp) k1
 replace k2 := hk6.cell (by simp) k2
 replace k3 := hk6.cell (by simp) k3
 replace k4 := hk6.cell (by simp) k4
 replace k5 := hk6.cell (by simp) k5
 replace k6 := hk6.cell (by simp) k6
 replace k7 := hk6.cell (by simp) k7
 replace k8 := hk6.cell (by simp) k8
 replace k9 := hk6.cell (by simp) k9
 replace gR := hk6.row (by simp) gR
 have H6 := Hid.mk (H5.out.acts h6 hk6)
 have HK6 := Hid.mk hk6
 clear h6 hk6 H5
 refine hK.out _ _ ⟨k0, k1, k2, k3, k4, k5, k6, k7, k8, k9⟩ (fun hHeldc1 => ?_)
 clear hK
 try simp only [Act.put, sq]
 refine tk 11 133 (h := ?_)
 refine tk 12 134 (h := ?_)
 refine tk 13 135 (h := ?_)
 refine tk 14 136 (h := ?_)
 refine tk 15 137 (h := ?_)
 refine tk 16 138 (h := ?_)
 refine tk 17 139 (h := ?_)
 exact zP51x02
theorem vst_4n (h : Duo w0 w l F x a n S most s m s d) (hm : m + 1 < 1000000) (hn : n < 1000000) (so nn : Int) (va wd : Nat) (hf hl hk : Bool) (hva : va < 18446744073709551616) (hwd : wd < 18446744073709551616) (hN : ¬ 0 ≤ nn) (bq : Bool) (hI : inB nn s.E.length = bq) (hL : bq = false) :
  Calls Tryz.prog 6 #[.pointer (some ⟨x, 0, none⟩), .agg (d.cs S most s), .agg #[.int .i64 4, .int .i64 so, .int .i64 nn, .int .u64 va, .int .u64 wd, .bool hf, .bool hl, .bool hk]] w (VO w0 w l F x a (n + 1) S most (m + 1)) := by
 have H0 := Hid.mk h
 have HFM := Hid.mk h.one.fm
 have HWF := Hid.mk h.one.wfm
 have HV1 := Hid.mk h.vm1
 have HDR : Hid (∀ W (B : Nat → Prop), YOk W B m s d → Calls Tryz.prog 20 #[.agg (d.cs S most s), .int .i64 nn, .bool false] W fun r w' => ∃ d', r = .returned (.agg (d'.cs S most { s with E := qce s.E nn })) ∧ YOk w' (fun g => B g ∨ W.heap.size ≤ g) m { s with E := qce s.E nn } d' ∧ Below W.heap.size W w') := Hid.mk (fun W B hy => ydrop_E hy HWF.out nn)
 have HEV : Hid (∀ (X : Nat → Prop) W, Mch w0 W X x a n S most s → Calls Tryz.prog 21 #[.pointer (some ⟨x, 0, none⟩), .int .i64 nn] W fun r w' => r = .returned (.bool bq) ∧ Mch w0 w' (Gr X W w') x a n S most { s with E := qce s.E nn } ∧ Turn X W w') := Hid.mk (fun X W hM => by
  have := evict_c hM nn
  rw [hI] at this
  exact this)
 generalize hs1 : ({ s with E := qce s.E nn } : St) = s1 at *
 clear hs1 hI
 clear h
 obtain ⟨vm, L, aE, cE, aK, cK, aP, cP, on', R', I'⟩ := d
 (try dsimp only at HV1)
 have HW := Hid.mk (H0.out.own4 (.cells #[.int .u64 S, vm, .int .i64 most, .slice aE s.E.length cE, .slice aK s.K.length cK, .bool on', .int .u64 R', .int .i64 I', .slice aP s.P.length cP] 34) (.cells #[.int .i64 4, .int .i64 so, .int .i64 nn, .int .u64 va, .int .u64 wd, .bool hf, .bool hl, .bool hk] 40) (.cells #[.int .u64 0, .slice none 0 0, .int .i64 0, .slice none 0 0, .slice none 0 0, .bool false, .int .u64 0, .int .i64 0, .slice none 0 0] 34) (.cells #[.bool hf, .bool hl, .bool hk] 64))
 obtain ⟨W, hW, gY, gO, gR, gH, hB, hsz⟩ := hp4 w (.cells #[.int .u64 S, vm, .int .i64 most, .slice aE s.E.length cE, .slice aK s.K.length cK, .bool on', .int .u64 R', .int .i64 I', .slice aP s.P.length cP] 34) (.cells #[.int .i64 4, .int .i64 so, .int .i64 nn, .int .u64 va, .int .u64 wd, .bool hf, .bool hl, .bool hk] 40) (.cells #[.int .u64 0, .slice none 0 0, .int .i64 0, .slice none 0 0, .slice none 0 0, .bool false, .int .u64 0, .int .i64 0, .slice none 0 0] 34) (.cells #[.bool hf, .bool hl, .bool hk] 64)
 rw [hW] at HW
 subst hL
 have dN : decide ((0 : Int) ≤ nn) = false := decide_eq_false hN
 go_enter Tryz.func6, Tryz.ntmps6
 go_upto_region 2 with fail
 (try rw [hW])
 clear hW hsz
 have HB := Hid.mk hB
 clear hB
 obtain ⟨o0, o1, o2, o3, o4, o5, o6, o7⟩ := qay gO
 obtain ⟨c0, c1, c2, c3, c4, c5, c6, c7, c8⟩ := qal gY
 obtain ⟨t0, t1, t2⟩ := qan gH
 go_upto_region 16 with fail
 have k0 := c0
 have k1 := c1
 have k2 := c2
 have k3 := c3
 have k4 := c4
 have k5 := c5
 have k6 := c6
 have k7 := c7
 have k8 := c8
 have k9 := o2
 clear o0 o1 o2 o3 o4 o5 o6 o7 c0 c1 c2 c3 c4 c5 c6 c7 c8 t0 t1 t2
 obtain ⟨k0, k1, k2, k3, k4⟩ := cl5 (Below.refl _ W).drew k0 k1 k2 k3 k4
 obtain ⟨k5, k6, k7, k8, k9⟩ := cl5 (Below.refl _ W).drew k5 k6 k7 k8 k9
 refine hd10 k0 k1 k2 k3 k4 k5 k6 k7 k8 k9 (h := fun hHeld => ?_)
 have hdr := (Below.refl W.heap.size W).drew
 have HWd := Hid.mk (HW.out.later hdr)
 replace gR := qaa hdr gR
 have HBd := Hid.mk (qab HB.out hdr)
 clear HW HB hdr gY gO gH
 generalize W.drew = Wd at *
 refine tk 0 100 (h := ?_)
 refine tk 1 101 (h := ?_)
 refine tk 2 102 (h := ?_)
 refine tk 4 104 (h := ?_)
 refine tk 5 105 (h := ?_)
 refine tk 6 106 (h := ?_)
 refine tk 8 108 (h := ?_)
 refine tk 9 109 (h := ?_)
 refine tk 10 110 (h := ?_)
 refine rd1 3 (h := fun K hK => ?_)
 go_simp
 refine (HWd.out.ydoes (Rr := fun r d' => r = .returned (.agg (d'.cs S most s1))) (fun B hy => HDR.out _ _ hy)).mono ?_
 rintro e w5 ⟨d1, l1, rfl, h5, hb5⟩
 go_wp2_with fail
 obtain ⟨vm1, L1, aE1, cE1, aK1, cK1, aP1, cP1, on1, R1, I1⟩ := d1
 have HV5 : Hid (vm1.oneCell' = true) := h5.vm1
 obtain ⟨k0, k1, k2, k3, k4⟩ := cl5 hb5 k0 k1 k2 k3 k4
 obtain ⟨k5, k6, k7, k8, k9⟩ := cl5 hb5 k5 k6 k7 k8 k9
 replace gR := qaa hb5 gR
 have H5 := Hid.mk h5
 have HB5 := Hid.mk (qab HBd.out hb5)
 clear h5 hb5 HWd HBd
 refine hK.out _ _ ⟨k0, k1, k2, k3, k4, k5, k6, k7, k8, k9⟩ (fun hHeldc0 => ?_)
 clear hK
 try simp only [Act.put, sq]
 refine rd1 7 (h := fun K hK => ?_)
 go_simp
 refine (H5.out.one.does (fun X hM => HEV.out _ _ hM)).mono ?_
 rintro e w6 ⟨rfl, h6, hk6⟩
 go_wp2_with fail
 replace k0 := hk6.cell (by simp) k0
 replace k1 := hk6.cell (by simp) k1
 replace k2 := hk6.cell (by simp) k2
 replace k3 := hk6.cell (by simp) k3
 replace k4 := hk6.cell (by simp) k4
 replace k5 := hk6.cell (by simp) k5
 replace k6 := hk6.cell (by simp) k6
 replace k7 := hk6.cell (by simp) k7
 replace k8 := hk6.cell (by simp) k8
 replace k9 := hk6.cell (by simp) k9
 replace gR := hk6.row (by simp) gR
 have H6 := Hid.mk (H5.out.acts h6 hk6)
 have HK6 := Hid.mk hk6
 clear h6 hk6 H5
 refine hK.out _ _ ⟨k0, k1, k2, k3, k4, k5, k6, k7, k8, k9⟩ (fun hHeldc1 => ?_)
 clear hK
 try simp only [Act.put, sq]
 refine tk 11 111 (h := ?_)
 refine TR.qbo (i := 12) (v := undef) 112 rfl rfl (by kernel_rfl) (by kernel_rfl) (by kernel_rfl) (fun _ _ _ h => h) (Or.inr ⟨by rfl, rfl⟩) (by assumption) ?_
 try simp only [Act.put, sq]
 refine TR.qbo (i := 13) (v := undef) 113 rfl rfl (by kernel_rfl) (by kernel_rfl) (by kernel_rfl) (fun _ _ _ h => h) (Or.inr ⟨by rfl, rfl⟩) (by assumption) ?_
 try simp only [Act.put, sq]
 refine TR.qbo (i := 14) (v := undef) 114 rfl rfl (by kernel_rfl) (by kernel_rfl) (by kernel_rfl) (fun _ _ _ h => h) (Or.inr ⟨by rfl, rfl⟩) (by assumption) ?_
 try simp only [Act.put, sq]
 refine TR.qbo (i := 15) (v := undef) 115 rfl rfl (by kernel_rfl) (by kernel_rfl) (by kernel_rfl) (fun _ _ _ h => h) (Or.inr ⟨by rfl, rfl⟩) (by assumption) ?_
 try simp only [Act.put, sq]
 refine TR.qbo (i := 16) (v := undef) 116 rfl rfl (by kernel_rfl) (by kernel_rfl) (by kernel_rfl) (fun _ _ _ h => h) (Or.inr ⟨by rfl, rfl⟩) (by assumption) ?_
 try simp only [Act.put, sq]
 refine TR.qbo (i := 17) (v := undef) 117 rfl rfl (by kernel_rfl) (by kernel_rfl) (by kernel_rfl) (fun _ _ _ h => h) (Or.inr ⟨by rfl, rfl⟩) (by assumption) ?_
 try simp only [Act.put, sq]
 exact zP51x01
theorem vst_5n (h : Duo w0 w l F x a n S most s m s d) (hm : m + 1 < 1000000) (hn : n < 1000000) (so nn : Int) (va wd : Nat) (hf hl hk : Bool) (hva : va < 18446744073709551616) (hwd : wd < 18446744073709551616) (hN : ¬ 0 ≤ nn) (bq : Bool) (hI : inB nn s.K.length = bq) (hL : bq = false) :
  Calls Tryz.prog 6 #[.pointer (some ⟨x, 0, none⟩), .agg (d.cs S most s), .agg #[.int .i64 5, .int .i64 so, .int .i64 nn, .int .u64 va, .int .u64 wd, .bool hf, .bool hl, .bool hk]] w (VO w0 w l F x a (n + 1) S most (m + 1)) := by
 have H0 := Hid.mk h
 have HFM := Hid.mk h.one.fm
 have HWF := Hid.mk h.one.wfm
 have HV1 := Hid.mk h.vm1
 have HDR : Hid (∀ W (B : Nat → Prop), YOk W B m s d → Calls Tryz.prog 20 #[.agg (d.cs S most s), .int .i64 nn, .bool true] W fun r w' => ∃ d', r = .returned (.agg (d'.cs S most { s with K := qce s.K nn })) ∧ YOk w' (fun g => B g ∨ W.heap.size ≤ g) m { s with K := qce s.K nn } d' ∧ Below W.heap.size W w') := Hid.mk (fun W B hy => ydrop_K hy HWF.out nn)
 have HEV : Hid (∀ (X : Nat → Prop) W, Mch w0 W X x a n S most s → Calls Tryz.prog 22 #[.pointer (some ⟨x, 0, none⟩), .int .i64 nn] W fun r w' => r = .returned (.bool bq) ∧ Mch w0 w' (Gr X W w') x a n S most { s with K := qce s.K nn } ∧ Turn X W w') := Hid.mk (fun X W hM => by
  have := lose_c hM nn
  rw [hI] at this
  exact this)
 generalize hs1 : ({ s with K := qce s.K nn } : St) = s1 at *
 clear hs1 hI
 clear h
 obtain ⟨vm, L, aE, cE, aK, cK, aP, cP, on', R', I'⟩ := d
 (try dsimp only at HV1)
 have HW := Hid.mk (H0.out.own4 (.cells #[.int .u64 S, vm, .int .i64 most, .slice aE s.E.length cE, .slice aK s.K.length cK, .bool on', .int .u64 R', .int .i64 I', .slice aP s.P.length cP] 34) (.cells #[.int .i64 5, .int .i64 so, .int .i64 nn, .int .u64 va, .int .u64 wd, .bool hf, .bool hl, .bool hk] 40) (.cells #[.int .u64 0, .slice none 0 0, .int .i64 0, .slice none 0 0, .slice none 0 0, .bool false, .int .u64 0, .int .i64 0, .slice none 0 0] 34) (.cells #[.bool hf, .bool hl, .bool hk] 64))
 obtain ⟨W, hW, gY, gO, gR, gH, hB, hsz⟩ := hp4 w (.cells #[.int .u64 S, vm, .int .i64 most, .slice aE s.E.length cE, .slice aK s.K.length cK, .bool on', .int .u64 R', .int .i64 I', .slice aP s.P.length cP] 34) (.cells #[.int .i64 5, .int .i64 so, .int .i64 nn, .int .u64 va, .int .u64 wd, .bool hf, .bool hl, .bool hk] 40) (.cells #[.int .u64 0, .slice none 0 0, .int .i64 0, .slice none 0 0, .slice none 0 0, .bool false, .int .u64 0, .int .i64 0, .slice none 0 0] 34) (.cells #[.bool hf, .bool hl, .bool hk] 64)
 rw [hW] at HW
 subst hL
 have dN : decide ((0 : Int) ≤ nn) = false := decide_eq_false hN
 go_enter Tryz.func6, Tryz.ntmps6
 go_upto_region 2 with fail
 (try rw [hW])
 clear hW hsz
 have HB := Hid.mk hB
 clear hB
 obtain ⟨o0, o1, o2, o3, o4, o5, o6, o7⟩ := qay gO
 obtain ⟨c0, c1, c2, c3, c4, c5, c6, c7, c8⟩ := qal gY
 obtain ⟨t0, t1, t2⟩ := qan gH
 go_upto_region 18 with fail
 have k0 := c0
 have k1 := c1
 have k2 := c2
 have k3 := c3
 have k4 := c4
 have k5 := c5
 have k6 := c6
 have k7 := c7
 have k8 := c8
 have k9 := o2
 clear o0 o1 o2 o3 o4 o5 o6 o7 c0 c1 c2 c3 c4 c5 c6 c7 c8 t0 t1 t2
 obtain ⟨k0, k1, k2, k3, k4⟩ := cl5 (Below.refl _ W).drew k0 k1 k2 k3 k4
 obtain ⟨k5, k6, k7, k8, k9⟩ := cl5 (Below.refl _ W).drew k5 k6 k7 k8 k9
 refine hd10 k0 k1 k2 k3 k4 k5 k6 k7 k8 k9 (h := fun hHeld => ?_)
 have hdr := (Below.refl W.heap.size W).drew
 have HWd := Hid.mk (HW.out.later hdr)
 replace gR := qaa hdr gR
 have HBd := Hid.mk (qab HB.out hdr)
 clear HW HB hdr gY gO gH
 generalize W.drew = Wd at *
 refine tk 0 122 (h := ?_)
 refine tk 1 123 (h := ?_)
 refine tk 2 124 (h := ?_)
 refine tk 4 126 (h := ?_)
 refine tk 5 127 (h := ?_)
 refine tk 6 128 (h := ?_)
 refine tk 8 130 (h := ?_)
 refine tk 9 131 (h := ?_)
 refine tk 10 132 (h := ?_)
 refine rd1 3 (h := fun K hK => ?_)
 go_simp
 refine (HWd.out.ydoes (Rr := fun r d' => r = .returned (.agg (d'.cs S most s1))) (fun B hy => HDR.out _ _ hy)).mono ?_
 rintro e w5 ⟨d1, l1, rfl, h5, hb5⟩
 go_wp2_with fail
 obtain ⟨vm1, L1, aE1, cE1, aK1, cK1, aP1, cP1, on1, R1, I1⟩ := d1
 have HV5 : Hid (vm1.oneCell' = true) := h5.vm1
 obtain ⟨k0, k1, k2, k3, k4⟩ := cl5 hb5 k0 k1 k2 k3 k4
 obtain ⟨k5, k6, k7, k8, k9⟩ := cl5 hb5 k5 k6 k7 k8 k9
 replace gR := qaa hb5 gR
 have H5 := Hid.mk h5
 have HB5 := Hid.mk (qab HBd.out hb5)
 clear h5 hb5 HWd HBd
 refine hK.out _ _ ⟨k0, k1, k2, k3, k4, k5, k6, k7, k8, k9⟩ (fun hHeldc0 => ?_)
 clear hK
 try simp only [Act.put, sq]
 refine rd1 7 (h := fun K hK => ?_)
 go_simp
 refine (H5.out.one.does (fun X hM => HEV.out _ _ hM)).mono ?_
 rintro e w6 ⟨rfl, h6, hk6⟩
 go_wp2_with fail
 replace k0 := hk6.cell (by simp) k0
 replace k1 := hk6.cell (by simp) k1
 replace k2 := hk6.cell (by simp) k2
 replace k3 := hk6.cell (by simp) k3
 replace k4 := hk6.cell (by simp) k4
 replace k5 := hk6.cell (by simp) k5
 replace k6 := hk6.cell (by simp) k6
 replace k7 := hk6.cell (by simp) k7
 replace k8 := hk6.cell (by simp) k8
 replace k9 := hk6.cell (by simp) k9
 replace gR := hk6.row (by simp) gR
 have H6 := Hid.mk (H5.out.acts h6 hk6)
 have HK6 := Hid.mk hk6
 clear h6 hk6 H5
 refine hK.out _ _ ⟨k0, k1, k2, k3, k4, k5, k6, k7, k8, k9⟩ (fun hHeldc1 => ?_)
 clear hK
 try simp only [Act.put, sq]
 refine tk 11 133 (h := ?_)
 refine TR.qbo (i := 12) (v := undef) 134 rfl rfl (by kernel_rfl) (by kernel_rfl) (by kernel_rfl) (fun _ _ _ h => h) (Or.inr ⟨by rfl, rfl⟩) (by assumption) ?_
 try simp only [Act.put, sq]
 refine TR.qbo (i := 13) (v := undef) 135 rfl rfl (by kernel_rfl) (by kernel_rfl) (by kernel_rfl) (fun _ _ _ h => h) (Or.inr ⟨by rfl, rfl⟩) (by assumption) ?_
 try simp only [Act.put, sq]
 refine TR.qbo (i := 14) (v := undef) 136 rfl rfl (by kernel_rfl) (by kernel_rfl) (by kernel_rfl) (fun _ _ _ h => h) (Or.inr ⟨by rfl, rfl⟩) (by assumption) ?_
 try simp only [Act.put, sq]
 refine TR.qbo (i := 15) (v := undef) 137 rfl rfl (by kernel_rfl) (by kernel_rfl) (by kernel_rfl) (fun _ _ _ h => h) (Or.inr ⟨by rfl, rfl⟩) (by assumption) ?_
 try simp only [Act.put, sq]
 refine TR.qbo (i := 16) (v := undef) 138 rfl rfl (by kernel_rfl) (by kernel_rfl) (by kernel_rfl) (fun _ _ _ h => h) (Or.inr ⟨by rfl, rfl⟩) (by assumption) ?_
 try simp only [Act.put, sq]
 refine TR.qbo (i := 17) (v := undef) 139 rfl rfl (by kernel_rfl) (by kernel_rfl) (by kernel_rfl) (fun _ _ _ h => h) (Or.inr ⟨by rfl, rfl⟩) (by assumption) ?_
 try simp only [Act.put, sq]
 exact zP51x02
end
end Go.Proofs.YtfdbdeckohaneaaGreatDoor.MM
