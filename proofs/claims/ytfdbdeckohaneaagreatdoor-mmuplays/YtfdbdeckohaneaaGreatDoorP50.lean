/- P50 -/
import Derived.Test.YtfdbdeckohaneaaGreatDoorP49
set_option maxHeartbeats 16000000
set_option maxRecDepth 100000
set_option linter.unusedVariables false
namespace Go.Proofs.YtfdbdeckohaneaaGreatDoor.MM
open Go.RowKit Go.Maps
section
variable {w0 w : World} {l F : List Nat} {x a n m S : Nat} {most : Int} {s : St} {d : Yd}
theorem zP50x01 {Z : Prop} (z : Z := by
 obtain ⟨o0, o1, o2, o3, o4, o5, o6, o7⟩ := qay gO
 obtain ⟨c0, c1, c2, c3, c4, c5, c6, c7, c8⟩ := qal gY
 obtain ⟨t0, t1, t2⟩ := qan gH
 go_wp2_with (first
  | (refine qad rfl 34 _ _ rfl rfl (w.heap.size + 1 + 1) 0 _ #[.int .u64 S, vm, .int .i64 most, .slice aE s.E.length cE, .slice aK s.K.length cK, .bool on', .int .u64 R', .int .i64 I', .slice aP s.P.length cP] rfl rfl rfl 34 _ gR (show 0 + 9 ≤ 9 by decide) qao (qdm HV1.out) #[.int .u64 S, vm, .int .i64 most, .slice aE s.E.length cE, .slice aK s.K.length cK, .bool on', .int .u64 R', .int .i64 I', .slice aP s.P.length cP] rfl ?_; intro wz hrz htz)
  | fail)
 refine bodyPost_ret (TR.qax (p := 6) (u := 7) rfl _ _ (w.heap.size + 1 + 1) 34 _ _ _ rfl hrz Tryz.underlying34 rfl qao) rfl ?_
 first
 | exact H0.out.fin (l1 := []) HB.out (Kp.refl _ _) HW.out (Below.refl _ _) htz rfl
 | exact H0.out.fin (l1 := []) HB.out HK5.out H5.out (Below.refl _ _) htz rfl) : Z := z
theorem vst_x (h : Duo w0 w l F x a n S most s m s d) (hm : m + 1 < 1000000) (hn : n < 1000000) {kd : Int} (h1 : kd ≠ 1) (h2 : kd ≠ 2) (h3 : kd ≠ 3) (h4 : kd ≠ 4) (h5 : kd ≠ 5) (h6 : kd ≠ 6) (h7 : kd ≠ 7) (h8 : kd ≠ 8) (h9 : kd ≠ 9) (h10 : kd ≠ 10) (h11 : kd ≠ 11) (h12 : kd ≠ 12) (so nn : Int) (va wd : Nat) (hf hl hk : Bool) (hva : va < 18446744073709551616) (hwd : wd < 18446744073709551616) :
  Calls Tryz.prog 6 #[.pointer (some ⟨x, 0, none⟩), .agg (d.cs S most s), .agg #[.int .i64 kd, .int .i64 so, .int .i64 nn, .int .u64 va, .int .u64 wd, .bool hf, .bool hl, .bool hk]] w (VO w0 w l F x a (n + 1) S most (m + 1)) := by
 have H0 := Hid.mk h
 have HFM := Hid.mk h.one.fm
 have HWF := Hid.mk h.one.wfm
 have HV1 := Hid.mk h.vm1
 clear h
 obtain ⟨vm, L, aE, cE, aK, cK, aP, cP, on', R', I'⟩ := d
 (try dsimp only at HV1)
 have HW := Hid.mk (H0.out.own4 (.cells #[.int .u64 S, vm, .int .i64 most, .slice aE s.E.length cE, .slice aK s.K.length cK, .bool on', .int .u64 R', .int .i64 I', .slice aP s.P.length cP] 34) (.cells #[.int .i64 kd, .int .i64 so, .int .i64 nn, .int .u64 va, .int .u64 wd, .bool hf, .bool hl, .bool hk] 40) (.cells #[.int .u64 0, .slice none 0 0, .int .i64 0, .slice none 0 0, .slice none 0 0, .bool false, .int .u64 0, .int .i64 0, .slice none 0 0] 34) (.cells #[.bool hf, .bool hl, .bool hk] 64))
 obtain ⟨W, hW, gY, gO, gR, gH, hB, hsz⟩ := hp4 w (.cells #[.int .u64 S, vm, .int .i64 most, .slice aE s.E.length cE, .slice aK s.K.length cK, .bool on', .int .u64 R', .int .i64 I', .slice aP s.P.length cP] 34) (.cells #[.int .i64 kd, .int .i64 so, .int .i64 nn, .int .u64 va, .int .u64 wd, .bool hf, .bool hl, .bool hk] 40) (.cells #[.int .u64 0, .slice none 0 0, .int .i64 0, .slice none 0 0, .slice none 0 0, .bool false, .int .u64 0, .int .i64 0, .slice none 0 0] 34) (.cells #[.bool hf, .bool hl, .bool hk] 64)
 rw [hW] at HW
 go_enter Tryz.func6, Tryz.ntmps6
 go_upto_region 2 with fail
 (try rw [hW])
 clear hW hsz
 have HB := Hid.mk hB
 clear hB
 exact zP50x01
theorem zP50x02 {Z : Prop} (z : Z := by
 go_wp2_with (first
  | (refine qad rfl 34 _ _ rfl rfl (w.heap.size + 1 + 1) 0 _ #[.int .u64 S, vm1, .int .i64 most, .slice aE1 s1.E.length cE1, .slice aK1 s1.K.length cK1, .bool on1, .int .u64 R1, .int .i64 I1, .slice aP1 s1.P.length cP1] rfl rfl rfl 34 _ gR (show 0 + 9 ≤ 9 by decide) qao (qdm HV6.out) #[.int .u64 S, vm1, .int .i64 most, .slice aE1 s1.E.length cE1, .slice aK1 s1.K.length cK1, .bool on1, .int .u64 R1, .int .i64 I1, .slice aP1 s1.P.length cP1] rfl ?_; intro wz hrz htz)
  | fail)
 refine bodyPost_ret (TR.qax (p := 6) (u := 7) rfl _ _ (w.heap.size + 1 + 1) 34 _ _ _ rfl hrz Tryz.underlying34 rfl qao) rfl ?_
 exact H0.out.fin HB.out HK5.out H6.out HB6.out htz rfl) : Z := z
theorem vst_2 (h : Duo w0 w l F x a n S most s m s d) (hm : m + 1 < 1000000) (hn : n < 1000000) (so nn : Int) (va wd : Nat) (hf hl hk : Bool) (hva : va < 18446744073709551616) (hwd : wd < 18446744073709551616) :
  Calls Tryz.prog 6 #[.pointer (some ⟨x, 0, none⟩), .agg (d.cs S most s), .agg #[.int .i64 2, .int .i64 so, .int .i64 nn, .int .u64 va, .int .u64 wd, .bool hf, .bool hl, .bool hk]] w (VO w0 w l F x a (n + 1) S most (m + 1)) := by
 have H0 := Hid.mk h
 have HFM := Hid.mk h.one.fm
 have HWF := Hid.mk h.one.wfm
 have HV1 := Hid.mk h.vm1
 clear h
 obtain ⟨vm, L, aE, cE, aK, cK, aP, cP, on', R', I'⟩ := d
 (try dsimp only at HV1)
 have HW := Hid.mk (H0.out.own4 (.cells #[.int .u64 S, vm, .int .i64 most, .slice aE s.E.length cE, .slice aK s.K.length cK, .bool on', .int .u64 R', .int .i64 I', .slice aP s.P.length cP] 34) (.cells #[.int .i64 2, .int .i64 so, .int .i64 nn, .int .u64 va, .int .u64 wd, .bool hf, .bool hl, .bool hk] 40) (.cells #[.int .u64 0, .slice none 0 0, .int .i64 0, .slice none 0 0, .slice none 0 0, .bool false, .int .u64 0, .int .i64 0, .slice none 0 0] 34) (.cells #[.bool hf, .bool hl, .bool hk] 64))
 obtain ⟨W, hW, gY, gO, gR, gH, hB, hsz⟩ := hp4 w (.cells #[.int .u64 S, vm, .int .i64 most, .slice aE s.E.length cE, .slice aK s.K.length cK, .bool on', .int .u64 R', .int .i64 I', .slice aP s.P.length cP] 34) (.cells #[.int .i64 2, .int .i64 so, .int .i64 nn, .int .u64 va, .int .u64 wd, .bool hf, .bool hl, .bool hk] 40) (.cells #[.int .u64 0, .slice none 0 0, .int .i64 0, .slice none 0 0, .slice none 0 0, .bool false, .int .u64 0, .int .i64 0, .slice none 0 0] 34) (.cells #[.bool hf, .bool hl, .bool hk] 64)
 rw [hW] at HW
 go_enter Tryz.func6, Tryz.ntmps6
 go_upto_region 2 with fail
 (try rw [hW])
 clear hW hsz
 have HB := Hid.mk hB
 clear hB
 obtain ⟨o0, o1, o2, o3, o4, o5, o6, o7⟩ := qay gO
 obtain ⟨c0, c1, c2, c3, c4, c5, c6, c7, c8⟩ := qal gY
 obtain ⟨t0, t1, t2⟩ := qan gH
 go_wp2_with fail
 refine (HW.out.one.does (fun X hM => (guess_c hM va hva ⟨hf, hl, hk⟩).mono (fun r w' q => And.intro q.1 (And.intro q.2.1 q.2.2.1)))).mono ?_
 rintro e w5 ⟨rfl, h5, hk5⟩
 replace gY := hk5.row (by simp) gY
 replace gO := hk5.row (by simp) gO
 replace gR := hk5.row (by simp) gR
 replace gH := hk5.row (by simp) gH
 have H5 := Hid.mk (HW.out.acts h5 hk5)
 have HK5 := Hid.mk hk5
 clear h5 hk5 HW o0 o1 o2 o3 o4 o5 o6 o7 c0 c1 c2 c3 c4 c5 c6 c7 c8 t0 t1 t2
 obtain ⟨o0, o1, o2, o3, o4, o5, o6, o7⟩ := qay gO
 obtain ⟨c0, c1, c2, c3, c4, c5, c6, c7, c8⟩ := qal gY
 obtain ⟨t0, t1, t2⟩ := qan gH
 go_wp2_with fail
 refine (H5.out.ydoes (fun B hy => yguess_c hy HFM.out HWF.out (by omega) va hva ⟨hf, hl, hk⟩)).mono ?_
 rintro e w6 ⟨d1, l1, rfl, h6, hb6⟩
 obtain ⟨gY, gO, gR, gH⟩ := bl4 hb6 gY gO gR gH
 have H6 := Hid.mk h6
 have HB6 := Hid.mk hb6
 have HV6 := Hid.mk h6.vm1
 obtain ⟨vm1, L1, aE1, cE1, aK1, cK1, aP1, cP1, on1, R1, I1⟩ := d1
 (try dsimp only at HV6)
 clear h6 hb6 H5 o0 o1 o2 o3 o4 o5 o6 o7 c0 c1 c2 c3 c4 c5 c6 c7 c8 t0 t1 t2
 generalize guS S most s va ⟨hf, hl, hk⟩ = s1 at *
 exact zP50x02
theorem vst_6 (h : Duo w0 w l F x a n S most s m s d) (hm : m + 1 < 1000000) (hn : n < 1000000) (so nn : Int) (va wd : Nat) (hf hl hk : Bool) (hva : va < 18446744073709551616) (hwd : wd < 18446744073709551616) :
  Calls Tryz.prog 6 #[.pointer (some ⟨x, 0, none⟩), .agg (d.cs S most s), .agg #[.int .i64 6, .int .i64 so, .int .i64 nn, .int .u64 va, .int .u64 wd, .bool hf, .bool hl, .bool hk]] w (VO w0 w l F x a (n + 1) S most (m + 1)) := by
 have H0 := Hid.mk h
 have HFM := Hid.mk h.one.fm
 have HWF := Hid.mk h.one.wfm
 have HV1 := Hid.mk h.vm1
 clear h
 obtain ⟨vm, L, aE, cE, aK, cK, aP, cP, on', R', I'⟩ := d
 (try dsimp only at HV1)
 have HW := Hid.mk (H0.out.own4 (.cells #[.int .u64 S, vm, .int .i64 most, .slice aE s.E.length cE, .slice aK s.K.length cK, .bool on', .int .u64 R', .int .i64 I', .slice aP s.P.length cP] 34) (.cells #[.int .i64 6, .int .i64 so, .int .i64 nn, .int .u64 va, .int .u64 wd, .bool hf, .bool hl, .bool hk] 40) (.cells #[.int .u64 0, .slice none 0 0, .int .i64 0, .slice none 0 0, .slice none 0 0, .bool false, .int .u64 0, .int .i64 0, .slice none 0 0] 34) (.cells #[.bool hf, .bool hl, .bool hk] 64))
 obtain ⟨W, hW, gY, gO, gR, gH, hB, hsz⟩ := hp4 w (.cells #[.int .u64 S, vm, .int .i64 most, .slice aE s.E.length cE, .slice aK s.K.length cK, .bool on', .int .u64 R', .int .i64 I', .slice aP s.P.length cP] 34) (.cells #[.int .i64 6, .int .i64 so, .int .i64 nn, .int .u64 va, .int .u64 wd, .bool hf, .bool hl, .bool hk] 40) (.cells #[.int .u64 0, .slice none 0 0, .int .i64 0, .slice none 0 0, .slice none 0 0, .bool false, .int .u64 0, .int .i64 0, .slice none 0 0] 34) (.cells #[.bool hf, .bool hl, .bool hk] 64)
 rw [hW] at HW
 go_enter Tryz.func6, Tryz.ntmps6
 go_upto_region 2 with fail
 (try rw [hW])
 clear hW hsz
 have HB := Hid.mk hB
 clear hB
 obtain ⟨o0, o1, o2, o3, o4, o5, o6, o7⟩ := qay gO
 obtain ⟨c0, c1, c2, c3, c4, c5, c6, c7, c8⟩ := qal gY
 obtain ⟨t0, t1, t2⟩ := qan gH
 go_wp2_with fail
 refine (HW.out.one.does (fun X hM => qev hM nn va hva)).mono ?_
 rintro e w5 ⟨rfl, h5, hk5⟩
 replace gY := hk5.row (by simp) gY
 replace gO := hk5.row (by simp) gO
 replace gR := hk5.row (by simp) gR
 replace gH := hk5.row (by simp) gH
 have H5 := Hid.mk (HW.out.acts h5 hk5)
 have HK5 := Hid.mk hk5
 clear h5 hk5 HW o0 o1 o2 o3 o4 o5 o6 o7 c0 c1 c2 c3 c4 c5 c6 c7 c8 t0 t1 t2
 obtain ⟨o0, o1, o2, o3, o4, o5, o6, o7⟩ := qay gO
 obtain ⟨c0, c1, c2, c3, c4, c5, c6, c7, c8⟩ := qal gY
 obtain ⟨t0, t1, t2⟩ := qan gH
 go_wp2_with fail
 refine (H5.out.ydoes (fun B hy => yflush_va hy HWF.out nn va hva)).mono ?_
 rintro e w6 ⟨d1, l1, rfl, h6, hb6⟩
 obtain ⟨gY, gO, gR, gH⟩ := bl4 hb6 gY gO gR gH
 have H6 := Hid.mk h6
 have HB6 := Hid.mk hb6
 have HV6 := Hid.mk h6.vm1
 obtain ⟨vm1, L1, aE1, cE1, aK1, cK1, aP1, cP1, on1, R1, I1⟩ := d1
 (try dsimp only at HV6)
 clear h6 hb6 H5 o0 o1 o2 o3 o4 o5 o6 o7 c0 c1 c2 c3 c4 c5 c6 c7 c8 t0 t1 t2
 generalize flVa s nn va = s1 at *
 exact zP50x02
theorem vst_8 (h : Duo w0 w l F x a n S most s m s d) (hm : m + 1 < 1000000) (hn : n < 1000000) (so nn : Int) (va wd : Nat) (hf hl hk : Bool) (hva : va < 18446744073709551616) (hwd : wd < 18446744073709551616) :
  Calls Tryz.prog 6 #[.pointer (some ⟨x, 0, none⟩), .agg (d.cs S most s), .agg #[.int .i64 8, .int .i64 so, .int .i64 nn, .int .u64 va, .int .u64 wd, .bool hf, .bool hl, .bool hk]] w (VO w0 w l F x a (n + 1) S most (m + 1)) := by
 have H0 := Hid.mk h
 have HFM := Hid.mk h.one.fm
 have HWF := Hid.mk h.one.wfm
 have HV1 := Hid.mk h.vm1
 clear h
 obtain ⟨vm, L, aE, cE, aK, cK, aP, cP, on', R', I'⟩ := d
 (try dsimp only at HV1)
 have HW := Hid.mk (H0.out.own4 (.cells #[.int .u64 S, vm, .int .i64 most, .slice aE s.E.length cE, .slice aK s.K.length cK, .bool on', .int .u64 R', .int .i64 I', .slice aP s.P.length cP] 34) (.cells #[.int .i64 8, .int .i64 so, .int .i64 nn, .int .u64 va, .int .u64 wd, .bool hf, .bool hl, .bool hk] 40) (.cells #[.int .u64 0, .slice none 0 0, .int .i64 0, .slice none 0 0, .slice none 0 0, .bool false, .int .u64 0, .int .i64 0, .slice none 0 0] 34) (.cells #[.bool hf, .bool hl, .bool hk] 64))
 obtain ⟨W, hW, gY, gO, gR, gH, hB, hsz⟩ := hp4 w (.cells #[.int .u64 S, vm, .int .i64 most, .slice aE s.E.length cE, .slice aK s.K.length cK, .bool on', .int .u64 R', .int .i64 I', .slice aP s.P.length cP] 34) (.cells #[.int .i64 8, .int .i64 so, .int .i64 nn, .int .u64 va, .int .u64 wd, .bool hf, .bool hl, .bool hk] 40) (.cells #[.int .u64 0, .slice none 0 0, .int .i64 0, .slice none 0 0, .slice none 0 0, .bool false, .int .u64 0, .int .i64 0, .slice none 0 0] 34) (.cells #[.bool hf, .bool hl, .bool hk] 64)
 rw [hW] at HW
 go_enter Tryz.func6, Tryz.ntmps6
 go_upto_region 2 with fail
 (try rw [hW])
 clear hW hsz
 have HB := Hid.mk hB
 clear hB
 obtain ⟨o0, o1, o2, o3, o4, o5, o6, o7⟩ := qay gO
 obtain ⟨c0, c1, c2, c3, c4, c5, c6, c7, c8⟩ := qal gY
 obtain ⟨t0, t1, t2⟩ := qan gH
 go_wp2_with fail
 refine (HW.out.one.does (fun X hM => qet hM)).mono ?_
 rintro e w5 ⟨rfl, h5, hk5⟩
 replace gY := hk5.row (by simp) gY
 replace gO := hk5.row (by simp) gO
 replace gR := hk5.row (by simp) gR
 replace gH := hk5.row (by simp) gH
 have H5 := Hid.mk (HW.out.acts h5 hk5)
 have HK5 := Hid.mk hk5
 clear h5 hk5 HW o0 o1 o2 o3 o4 o5 o6 o7 c0 c1 c2 c3 c4 c5 c6 c7 c8 t0 t1 t2
 obtain ⟨o0, o1, o2, o3, o4, o5, o6, o7⟩ := qay gO
 obtain ⟨c0, c1, c2, c3, c4, c5, c6, c7, c8⟩ := qal gY
 obtain ⟨t0, t1, t2⟩ := qan gH
 go_wp2_with fail
 refine (H5.out.ydoes (fun B hy => yflush_all hy HWF.out)).mono ?_
 rintro e w6 ⟨d1, l1, rfl, h6, hb6⟩
 obtain ⟨gY, gO, gR, gH⟩ := bl4 hb6 gY gO gR gH
 have H6 := Hid.mk h6
 have HB6 := Hid.mk hb6
 have HV6 := Hid.mk h6.vm1
 obtain ⟨vm1, L1, aE1, cE1, aK1, cK1, aP1, cP1, on1, R1, I1⟩ := d1
 (try dsimp only at HV6)
 clear h6 hb6 H5 o0 o1 o2 o3 o4 o5 o6 o7 c0 c1 c2 c3 c4 c5 c6 c7 c8 t0 t1 t2
 generalize flAll s = s1 at *
 exact zP50x02
theorem vst_7b (h : Duo w0 w l F x a n S most s m s d) (hm : m + 1 < 1000000) (hn : n < 1000000) (so nn : Int) (va wd : Nat) (hf hl hk : Bool) (hva : va < 18446744073709551616) (hwd : wd < 18446744073709551616) (hN : ¬ nn < 0) :
  Calls Tryz.prog 6 #[.pointer (some ⟨x, 0, none⟩), .agg (d.cs S most s), .agg #[.int .i64 7, .int .i64 so, .int .i64 nn, .int .u64 va, .int .u64 wd, .bool hf, .bool hl, .bool hk]] w (VO w0 w l F x a (n + 1) S most (m + 1)) := by
 have H0 := Hid.mk h
 have HFM := Hid.mk h.one.fm
 have HWF := Hid.mk h.one.wfm
 have HV1 := Hid.mk h.vm1
 clear h
 obtain ⟨vm, L, aE, cE, aK, cK, aP, cP, on', R', I'⟩ := d
 (try dsimp only at HV1)
 have HW := Hid.mk (H0.out.own4 (.cells #[.int .u64 S, vm, .int .i64 most, .slice aE s.E.length cE, .slice aK s.K.length cK, .bool on', .int .u64 R', .int .i64 I', .slice aP s.P.length cP] 34) (.cells #[.int .i64 7, .int .i64 so, .int .i64 nn, .int .u64 va, .int .u64 wd, .bool hf, .bool hl, .bool hk] 40) (.cells #[.int .u64 0, .slice none 0 0, .int .i64 0, .slice none 0 0, .slice none 0 0, .bool false, .int .u64 0, .int .i64 0, .slice none 0 0] 34) (.cells #[.bool hf, .bool hl, .bool hk] 64))
 obtain ⟨W, hW, gY, gO, gR, gH, hB, hsz⟩ := hp4 w (.cells #[.int .u64 S, vm, .int .i64 most, .slice aE s.E.length cE, .slice aK s.K.length cK, .bool on', .int .u64 R', .int .i64 I', .slice aP s.P.length cP] 34) (.cells #[.int .i64 7, .int .i64 so, .int .i64 nn, .int .u64 va, .int .u64 wd, .bool hf, .bool hl, .bool hk] 40) (.cells #[.int .u64 0, .slice none 0 0, .int .i64 0, .slice none 0 0, .slice none 0 0, .bool false, .int .u64 0, .int .i64 0, .slice none 0 0] 34) (.cells #[.bool hf, .bool hl, .bool hk] 64)
 rw [hW] at HW
 go_enter Tryz.func6, Tryz.ntmps6
 go_upto_region 2 with fail
 (try rw [hW])
 clear hW hsz
 have HB := Hid.mk hB
 clear hB
 obtain ⟨o0, o1, o2, o3, o4, o5, o6, o7⟩ := qay gO
 obtain ⟨c0, c1, c2, c3, c4, c5, c6, c7, c8⟩ := qal gY
 obtain ⟨t0, t1, t2⟩ := qan gH
 go_wp2_with fail
 refine (HW.out.one.does (fun X hM => qcy hM nn)).mono ?_
 rintro e w5 ⟨rfl, h5, hk5⟩
 replace gY := hk5.row (by simp) gY
 replace gO := hk5.row (by simp) gO
 replace gR := hk5.row (by simp) gR
 replace gH := hk5.row (by simp) gH
 have H5 := Hid.mk (HW.out.acts h5 hk5)
 have HK5 := Hid.mk hk5
 clear h5 hk5 HW o0 o1 o2 o3 o4 o5 o6 o7 c0 c1 c2 c3 c4 c5 c6 c7 c8 t0 t1 t2
 obtain ⟨o0, o1, o2, o3, o4, o5, o6, o7⟩ := qay gO
 obtain ⟨c0, c1, c2, c3, c4, c5, c6, c7, c8⟩ := qal gY
 obtain ⟨t0, t1, t2⟩ := qan gH
 go_wp2_with fail
 refine (H5.out.ydoes (fun B hy => yflush_as hy HWF.out nn (by omega))).mono ?_
 rintro e w6 ⟨d1, l1, rfl, h6, hb6⟩
 obtain ⟨gY, gO, gR, gH⟩ := bl4 hb6 gY gO gR gH
 have H6 := Hid.mk h6
 have HB6 := Hid.mk hb6
 have HV6 := Hid.mk h6.vm1
 obtain ⟨vm1, L1, aE1, cE1, aK1, cK1, aP1, cP1, on1, R1, I1⟩ := d1
 (try dsimp only at HV6)
 clear h6 hb6 H5 o0 o1 o2 o3 o4 o5 o6 o7 c0 c1 c2 c3 c4 c5 c6 c7 c8 t0 t1 t2
 generalize flAs s nn = s1 at *
 exact zP50x02
theorem vst_7a (h : Duo w0 w l F x a n S most s m s d) (hm : m + 1 < 1000000) (hn : n < 1000000) (so nn : Int) (va wd : Nat) (hf hl hk : Bool) (hva : va < 18446744073709551616) (hwd : wd < 18446744073709551616) (hN : nn < 0) :
  Calls Tryz.prog 6 #[.pointer (some ⟨x, 0, none⟩), .agg (d.cs S most s), .agg #[.int .i64 7, .int .i64 so, .int .i64 nn, .int .u64 va, .int .u64 wd, .bool hf, .bool hl, .bool hk]] w (VO w0 w l F x a (n + 1) S most (m + 1)) := by
 have H0 := Hid.mk h
 have HFM := Hid.mk h.one.fm
 have HWF := Hid.mk h.one.wfm
 have HV1 := Hid.mk h.vm1
 have HKN := Hid.mk (keep_neg HWF.out hN)
 clear h
 obtain ⟨vm, L, aE, cE, aK, cK, aP, cP, on', R', I'⟩ := d
 (try dsimp only at HV1)
 have HW := Hid.mk (H0.out.own4 (.cells #[.int .u64 S, vm, .int .i64 most, .slice aE s.E.length cE, .slice aK s.K.length cK, .bool on', .int .u64 R', .int .i64 I', .slice aP s.P.length cP] 34) (.cells #[.int .i64 7, .int .i64 so, .int .i64 nn, .int .u64 va, .int .u64 wd, .bool hf, .bool hl, .bool hk] 40) (.cells #[.int .u64 0, .slice none 0 0, .int .i64 0, .slice none 0 0, .slice none 0 0, .bool false, .int .u64 0, .int .i64 0, .slice none 0 0] 34) (.cells #[.bool hf, .bool hl, .bool hk] 64))
 obtain ⟨W, hW, gY, gO, gR, gH, hB, hsz⟩ := hp4 w (.cells #[.int .u64 S, vm, .int .i64 most, .slice aE s.E.length cE, .slice aK s.K.length cK, .bool on', .int .u64 R', .int .i64 I', .slice aP s.P.length cP] 34) (.cells #[.int .i64 7, .int .i64 so, .int .i64 nn, .int .u64 va, .int .u64 wd, .bool hf, .bool hl, .bool hk] 40) (.cells #[.int .u64 0, .slice none 0 0, .int .i64 0, .slice none 0 0, .slice none 0 0, .bool false, .int .u64 0, .int .i64 0, .slice none 0 0] 34) (.cells #[.bool hf, .bool hl, .bool hk] 64)
 rw [hW] at HW
 go_enter Tryz.func6, Tryz.ntmps6
 go_upto_region 2 with fail
 (try rw [hW])
 clear hW hsz
 have HB := Hid.mk hB
 clear hB
 obtain ⟨o0, o1, o2, o3, o4, o5, o6, o7⟩ := qay gO
 obtain ⟨c0, c1, c2, c3, c4, c5, c6, c7, c8⟩ := qal gY
 obtain ⟨t0, t1, t2⟩ := qan gH
 go_wp2_with fail
 refine (HW.out.one.does (fun X hM => by have := qcy hM nn; rw [HKN.out] at this; exact this)).mono ?_
 rintro e w5 ⟨rfl, h5, hk5⟩
 replace gY := hk5.row (by simp) gY
 replace gO := hk5.row (by simp) gO
 replace gR := hk5.row (by simp) gR
 replace gH := hk5.row (by simp) gH
 have H5 := Hid.mk (HW.out.acts h5 hk5)
 have HK5 := Hid.mk hk5
 clear h5 hk5 HW o0 o1 o2 o3 o4 o5 o6 o7 c0 c1 c2 c3 c4 c5 c6 c7 c8 t0 t1 t2
 exact zP50x01
end
set_option linter.unusedVariables false
section
variable {w0 w : World} {l F : List Nat} {x a n m S : Nat} {most : Int} {s : St} {d : Yd}
theorem vst_10 (h : Duo w0 w l F x a n S most s m s d) (hm : m + 1 < 1000000) (hn : n < 1000000) (so nn : Int) (va wd : Nat) (hf hl hk : Bool) (hva : va < 18446744073709551616) (hwd : wd < 18446744073709551616) :
  Calls Tryz.prog 6 #[.pointer (some ⟨x, 0, none⟩), .agg (d.cs S most s), .agg #[.int .i64 10, .int .i64 so, .int .i64 nn, .int .u64 va, .int .u64 wd, .bool hf, .bool hl, .bool hk]] w (VO w0 w l F x a (n + 1) S most (m + 1)) := by
 have H0 := Hid.mk h
 have HFM := Hid.mk h.one.fm
 have HWF := Hid.mk h.one.wfm
 have HV1 := Hid.mk h.vm1
 clear h
 obtain ⟨vm, L, aE, cE, aK, cK, aP, cP, on', R', I'⟩ := d
 (try dsimp only at HV1)
 have HW := Hid.mk (H0.out.own4 (.cells #[.int .u64 S, vm, .int .i64 most, .slice aE s.E.length cE, .slice aK s.K.length cK, .bool on', .int .u64 R', .int .i64 I', .slice aP s.P.length cP] 34) (.cells #[.int .i64 10, .int .i64 so, .int .i64 nn, .int .u64 va, .int .u64 wd, .bool hf, .bool hl, .bool hk] 40) (.cells #[.int .u64 0, .slice none 0 0, .int .i64 0, .slice none 0 0, .slice none 0 0, .bool false, .int .u64 0, .int .i64 0, .slice none 0 0] 34) (.cells #[.bool hf, .bool hl, .bool hk] 64))
 obtain ⟨W, hW, gY, gO, gR, gH, hB, hsz⟩ := hp4 w (.cells #[.int .u64 S, vm, .int .i64 most, .slice aE s.E.length cE, .slice aK s.K.length cK, .bool on', .int .u64 R', .int .i64 I', .slice aP s.P.length cP] 34) (.cells #[.int .i64 10, .int .i64 so, .int .i64 nn, .int .u64 va, .int .u64 wd, .bool hf, .bool hl, .bool hk] 40) (.cells #[.int .u64 0, .slice none 0 0, .int .i64 0, .slice none 0 0, .slice none 0 0, .bool false, .int .u64 0, .int .i64 0, .slice none 0 0] 34) (.cells #[.bool hf, .bool hl, .bool hk] 64)
 rw [hW] at HW
 go_enter Tryz.func6, Tryz.ntmps6
 go_upto_region 2 with fail
 (try rw [hW])
 clear hW hsz
 have HB := Hid.mk hB
 clear hB
 obtain ⟨o0, o1, o2, o3, o4, o5, o6, o7⟩ := qay gO
 obtain ⟨c0, c1, c2, c3, c4, c5, c6, c7, c8⟩ := qal gY
 obtain ⟨t0, t1, t2⟩ := qan gH
 go_wp2_with fail
 refine (HW.out.one.does (fun X hM => off_c hM)).mono ?_
 rintro e w5 ⟨rfl, h5, hk5⟩
 replace gY := hk5.row (by simp) gY
 replace gO := hk5.row (by simp) gO
 replace gR := hk5.row (by simp) gR
 replace gH := hk5.row (by simp) gH
 have H5 := Hid.mk (HW.out.acts h5 hk5)
 have HK5 := Hid.mk hk5
 clear h5 hk5 HW o0 o1 o2 o3 o4 o5 o6 o7 c0 c1 c2 c3 c4 c5 c6 c7 c8 t0 t1 t2
 obtain ⟨o0, o1, o2, o3, o4, o5, o6, o7⟩ := qay gO
 obtain ⟨c0, c1, c2, c3, c4, c5, c6, c7, c8⟩ := qal gY
 obtain ⟨t0, t1, t2⟩ := qan gH
 go_wp2_with (first
  | (refine qad rfl 4 _ _ rfl rfl w.heap.size 5 _ #[.bool false] rfl rfl rfl 34 _ gY (show 5 + 1 ≤ 9 by decide) info_bool (by simp [Value.oneCell']) #[.int .u64 S, vm, .int .i64 most, .slice aE s.E.length cE, .slice aK s.K.length cK, .bool false, .int .u64 R', .int .i64 I', .slice aP s.P.length cP] rfl ?_
     intro wy hry hty
     replace gR := qae hty gR (by omega)
     clear c0 c1 c2 c3 c4 c5 c6 c7 c8
     obtain ⟨c0, c1, c2, c3, c4, c5, c6, c7, c8⟩ := qal hry)
  | (refine qad rfl 34 _ _ rfl rfl (w.heap.size + 1 + 1) 0 _ #[.int .u64 S, vm, .int .i64 most, .slice aE s.E.length cE, .slice aK s.K.length cK, .bool false, .int .u64 R', .int .i64 I', .slice aP s.P.length cP] rfl rfl rfl 34 _ gR (show 0 + 9 ≤ 9 by decide) qao (qdm HV1.out) #[.int .u64 S, vm, .int .i64 most, .slice aE s.E.length cE, .slice aK s.K.length cK, .bool false, .int .u64 R', .int .i64 I', .slice aP s.P.length cP] rfl ?_
     intro wz hrz htz)
  | fail)
 refine bodyPost_ret (TR.qax (p := 6) (u := 7) rfl _ _ (w.heap.size + 1 + 1) 34 _ _ _ rfl hrz Tryz.underlying34 rfl qao) rfl ?_
 exact H0.out.fin3 (l1 := []) (((Kp.below H0.out.one (Kp.refl l w) HB.out).trans (HK5.out.less (fun g hg => by simp [hg]))).put H0.out.one hty (Nat.le_refl _)) ((H5.out.put hty (by simp)).offY) htz rfl
theorem vst_12 (h : Duo w0 w l F x a n S most s m s d) (hm : m + 1 < 1000000) (hn : n < 1000000) (so nn : Int) (va wd : Nat) (hf hl hk : Bool) (hva : va < 18446744073709551616) (hwd : wd < 18446744073709551616) :
  Calls Tryz.prog 6 #[.pointer (some ⟨x, 0, none⟩), .agg (d.cs S most s), .agg #[.int .i64 12, .int .i64 so, .int .i64 nn, .int .u64 va, .int .u64 wd, .bool hf, .bool hl, .bool hk]] w (VO w0 w l F x a (n + 1) S most (m + 1)) := by
 have H0 := Hid.mk h
 have HFM := Hid.mk h.one.fm
 have HWF := Hid.mk h.one.wfm
 have HV1 := Hid.mk h.vm1
 clear h
 obtain ⟨vm, L, aE, cE, aK, cK, aP, cP, on', R', I'⟩ := d
 (try dsimp only at HV1)
 have HW := Hid.mk (H0.out.own4 (.cells #[.int .u64 S, vm, .int .i64 most, .slice aE s.E.length cE, .slice aK s.K.length cK, .bool on', .int .u64 R', .int .i64 I', .slice aP s.P.length cP] 34) (.cells #[.int .i64 12, .int .i64 so, .int .i64 nn, .int .u64 va, .int .u64 wd, .bool hf, .bool hl, .bool hk] 40) (.cells #[.int .u64 0, .slice none 0 0, .int .i64 0, .slice none 0 0, .slice none 0 0, .bool false, .int .u64 0, .int .i64 0, .slice none 0 0] 34) (.cells #[.bool hf, .bool hl, .bool hk] 64))
 obtain ⟨W, hW, gY, gO, gR, gH, hB, hsz⟩ := hp4 w (.cells #[.int .u64 S, vm, .int .i64 most, .slice aE s.E.length cE, .slice aK s.K.length cK, .bool on', .int .u64 R', .int .i64 I', .slice aP s.P.length cP] 34) (.cells #[.int .i64 12, .int .i64 so, .int .i64 nn, .int .u64 va, .int .u64 wd, .bool hf, .bool hl, .bool hk] 40) (.cells #[.int .u64 0, .slice none 0 0, .int .i64 0, .slice none 0 0, .slice none 0 0, .bool false, .int .u64 0, .int .i64 0, .slice none 0 0] 34) (.cells #[.bool hf, .bool hl, .bool hk] 64)
 rw [hW] at HW
 go_enter Tryz.func6, Tryz.ntmps6
 go_upto_region 2 with fail
 (try rw [hW])
 clear hW hsz
 have HB := Hid.mk hB
 clear hB
 obtain ⟨o0, o1, o2, o3, o4, o5, o6, o7⟩ := qay gO
 obtain ⟨c0, c1, c2, c3, c4, c5, c6, c7, c8⟩ := qal gY
 obtain ⟨t0, t1, t2⟩ := qan gH
 go_wp2_with fail
 refine (HW.out.one.does (fun X hM => kwrite_c hM (by omega) va wd hva hwd)).mono ?_
 rintro e w5 ⟨rfl, h5, hk5⟩
 replace gY := hk5.row (by simp) gY
 replace gO := hk5.row (by simp) gO
 replace gR := hk5.row (by simp) gR
 replace gH := hk5.row (by simp) gH
 have H5 := Hid.mk (HW.out.acts h5 hk5)
 have HK5 := Hid.mk hk5
 clear h5 hk5 HW o0 o1 o2 o3 o4 o5 o6 o7 c0 c1 c2 c3 c4 c5 c6 c7 c8 t0 t1 t2
 obtain ⟨o0, o1, o2, o3, o4, o5, o6, o7⟩ := qay gO
 obtain ⟨c0, c1, c2, c3, c4, c5, c6, c7, c8⟩ := qal gY
 obtain ⟨t0, t1, t2⟩ := qan gH
 go_wp2_with fail
 refine (H5.out.ydoes (Rr := fun r d' => r = .returned (.tuple #[.agg (d'.cs S most (kwS S most s va wd)), .int .i64 (errA S va)])) (fun B hy => ykw_c hy HFM.out HWF.out hm va wd hwd)).mono ?_
 rintro e w6 ⟨d1, l1, rfl, h6, hb6⟩
 obtain ⟨gY, gO, gR, gH⟩ := bl4 hb6 gY gO gR gH
 have H6 := Hid.mk h6
 have HB6 := Hid.mk hb6
 have HV6 := Hid.mk h6.vm1
 obtain ⟨p6, q6, e6⟩ := h6.vmf
 obtain ⟨vm1, L1, aE1, cE1, aK1, cK1, aP1, cP1, on1, R1, I1⟩ := d1
 (try dsimp only at HV6 e6)
 subst e6
 clear h6 hb6 H5 o0 o1 o2 o3 o4 o5 o6 o7 c0 c1 c2 c3 c4 c5 c6 c7 c8 t0 t1 t2
 generalize kwS S most s va wd = s1 at *
 have her : IntKind.i64.wrap (errA S va) = errA S va := by
  have : errA S va = 0 ∨ errA S va = 12 ∨ errA S va = 13 := by
   unfold errA
   split
   ·exact Or.inr (Or.inr rfl)
   ·split
    ·exact Or.inr (Or.inl rfl)
    ·exact Or.inl rfl
  rw [IntKind.wrap_i64]; omega
 generalize errA S va = er at *
 have hbT := qac w6 (.cells #[.int .u64 S, .slice p6 L1.length q6, .int .i64 most, .slice aE1 s1.E.length cE1, .slice aK1 s1.K.length cK1, .bool on1, .int .u64 R1, .int .i64 I1, .slice aP1 s1.P.length cP1] 34)
 have gT := heap_alloc_new w6 (.cells #[.int .u64 S, .slice p6 L1.length q6, .int .i64 most, .slice aE1 s1.E.length cE1, .slice aK1 s1.K.length cK1, .bool on1, .int .u64 R1, .int .i64 I1, .slice aP1 s1.P.length cP1] 34)
 go_upto_region 47 with fail
 generalize w6.alloc (.cells #[.int .u64 S, .slice p6 L1.length q6, .int .i64 most, .slice aE1 s1.E.length cE1, .slice aK1 s1.K.length cK1, .bool on1, .int .u64 R1, .int .i64 I1, .slice aP1 s1.P.length cP1] 34) = w7 at *
 replace gR := qaa hbT gR
 have HB7 := Hid.mk (qab HB6.out hbT)
 have H7 := Hid.mk (H6.out.later hbT)
 clear hbT
 obtain ⟨c0, c1, c2, c3, c4, c5, c6, c7, c8⟩ := qal gT
 go_wp2_with (first
  | (refine qad rfl 34 _ _ rfl rfl (w.heap.size + 1 + 1) 0 _ #[.int .u64 S, .slice p6 L1.length q6, .int .i64 most, .slice aE1 s1.E.length cE1, .slice aK1 s1.K.length cK1, .bool on1, .int .u64 R1, .int .i64 I1, .slice aP1 s1.P.length cP1] rfl rfl rfl 34 _ gR (show 0 + 9 ≤ 9 by decide) qao (qdm HV6.out) #[.int .u64 S, .slice p6 L1.length q6, .int .i64 most, .slice aE1 s1.E.length cE1, .slice aK1 s1.K.length cK1, .bool on1, .int .u64 R1, .int .i64 I1, .slice aP1 s1.P.length cP1] rfl ?_; intro wz hrz htz)
  | fail)
 refine bodyPost_ret (TR.qax (p := 6) (u := 7) rfl _ _ (w.heap.size + 1 + 1) 34 _ _ _ rfl hrz Tryz.underlying34 rfl qao) rfl ?_
 exact H0.out.fin HB.out HK5.out H7.out HB7.out htz rfl
theorem vst_3 (h : Duo w0 w l F x a n S most s m s d) (hm : m + 1 < 1000000) (hn : n < 1000000) (so nn : Int) (va wd : Nat) (hf hl hk : Bool) (hva : va < 18446744073709551616) (hwd : wd < 18446744073709551616) :
  Calls Tryz.prog 6 #[.pointer (some ⟨x, 0, none⟩), .agg (d.cs S most s), .agg #[.int .i64 3, .int .i64 so, .int .i64 nn, .int .u64 va, .int .u64 wd, .bool hf, .bool hl, .bool hk]] w (VO w0 w l F x a (n + 1) S most (m + 1)) := by
 have H0 := Hid.mk h
 have HFM := Hid.mk h.one.fm
 have HWF := Hid.mk h.one.wfm
 have HV1 := Hid.mk h.vm1
 clear h
 obtain ⟨vm, L, aE, cE, aK, cK, aP, cP, on', R', I'⟩ := d
 (try dsimp only at HV1)
 have HW := Hid.mk (H0.out.own4 (.cells #[.int .u64 S, vm, .int .i64 most, .slice aE s.E.length cE, .slice aK s.K.length cK, .bool on', .int .u64 R', .int .i64 I', .slice aP s.P.length cP] 34) (.cells #[.int .i64 3, .int .i64 so, .int .i64 nn, .int .u64 va, .int .u64 wd, .bool hf, .bool hl, .bool hk] 40) (.cells #[.int .u64 0, .slice none 0 0, .int .i64 0, .slice none 0 0, .slice none 0 0, .bool false, .int .u64 0, .int .i64 0, .slice none 0 0] 34) (.cells #[.bool hf, .bool hl, .bool hk] 64))
 obtain ⟨W, hW, gY, gO, gR, gH, hB, hsz⟩ := hp4 w (.cells #[.int .u64 S, vm, .int .i64 most, .slice aE s.E.length cE, .slice aK s.K.length cK, .bool on', .int .u64 R', .int .i64 I', .slice aP s.P.length cP] 34) (.cells #[.int .i64 3, .int .i64 so, .int .i64 nn, .int .u64 va, .int .u64 wd, .bool hf, .bool hl, .bool hk] 40) (.cells #[.int .u64 0, .slice none 0 0, .int .i64 0, .slice none 0 0, .slice none 0 0, .bool false, .int .u64 0, .int .i64 0, .slice none 0 0] 34) (.cells #[.bool hf, .bool hl, .bool hk] 64)
 rw [hW] at HW
 go_enter Tryz.func6, Tryz.ntmps6
 go_upto_region 2 with fail
 (try rw [hW])
 clear hW hsz
 have HB := Hid.mk hB
 clear hB
 obtain ⟨o0, o1, o2, o3, o4, o5, o6, o7⟩ := qay gO
 obtain ⟨c0, c1, c2, c3, c4, c5, c6, c7, c8⟩ := qal gY
 obtain ⟨t0, t1, t2⟩ := qan gH
 go_upto_region 11 with fail
 have k0 := o3
 have k1 := o4
 clear o0 o1 o2 o3 o4 o5 o6 o7 c0 c1 c2 c3 c4 c5 c6 c7 c8 t0 t1 t2
 obtain ⟨k0, k1⟩ := cl2 (Below.refl _ W).drew k0 k1
 refine hd2 k0 k1 (h := fun hHeld => ?_)
 have hdr := (Below.refl W.heap.size W).drew
 have HWd := Hid.mk (HW.out.later hdr)
 obtain ⟨gY, gO, gR, gH⟩ := bl4 hdr gY gO gR gH
 have HBd := Hid.mk (qab HB.out hdr)
 clear HW HB hdr
 generalize W.drew = Wd at *
 refine tk 0 75 (h := ?_)
 refine tk 2 77 (h := ?_)
 refine tk 3 78 (h := ?_)
 refine tk 4 79 (h := ?_)
 refine tk 5 80 (h := ?_)
 refine rd1 1 (h := fun K hK => ?_)
 go_simp
 refine (one_mem HWd.out.one).mono ?_
 rintro e v0 ⟨rfl, e0⟩
 obtain rfl : Wd = v0 := e0
 go_wp2_with fail
 refine hK.out _ _ ⟨k0, k1⟩ (fun hHeldc0 => ?_)
 clear hK
 try simp only [Act.put, sq]
 refine rd1 6 (h := fun K hK => ?_)
 go_simp
 refine (HWd.out.one.write (by omega) va wd hva hwd).mono ?_
 rintro e w5 ⟨rfl, h5, hk5⟩
 go_wp2_with fail
 replace k0 := hk5.cell (by simp) k0
 replace k1 := hk5.cell (by simp) k1
 replace gY := hk5.row (by simp) gY
 replace gO := hk5.row (by simp) gO
 replace gR := hk5.row (by simp) gR
 replace gH := hk5.row (by simp) gH
 have H5 := Hid.mk (HWd.out.acts h5 hk5)
 have HK5 := Hid.mk hk5
 clear h5 hk5 HWd
 refine hK.out _ _ ⟨k0, k1⟩ (fun hHeldc1 => ?_)
 clear hK
 try simp only [Act.put, sq]
 refine tk 7 13 (h := ?_)
 refine wpAnyH_done (by kernel_rfl) ?_ _
 refine NoPanic.normal ?_
 clear k0 k1
 obtain ⟨o0, o1, o2, o3, o4, o5, o6, o7⟩ := qay gO
 obtain ⟨c0, c1, c2, c3, c4, c5, c6, c7, c8⟩ := qal gY
 obtain ⟨t0, t1, t2⟩ := qan gH
 go_wp2_with fail
 refine (H5.out.ydoes (Rr := fun r d' => ∃ v' L', r = .returned (.tuple #[.agg #[.int .u64 S, v'], .int .i64 (errA S va)]) ∧ d' = ⟨v', L', aE, cE, aK, cK, aP, cP, on', R', I'⟩) (fun B hy => (ywrite_c hy (by omega) va wd).mono (fun r w' ⟨v', L', q1, q2, q3, q4⟩ => ⟨_, ⟨v', L', q1, rfl⟩, q3, q4⟩))).mono ?_
 rintro e w6 ⟨d1, l1, ⟨v6, L6, rfl, rfl⟩, h6, hb6⟩
 obtain ⟨p6, q6, e6⟩ := h6.vmf
 (try dsimp only at e6)
 subst e6
 have H6 := Hid.mk h6
 have hbT := qac w6 (.cells #[.int .u64 S, .slice p6 L6.length q6] 29)
 have gT := heap_alloc_new w6 (.cells #[.int .u64 S, .slice p6 L6.length q6] 29)
 clear o0 o1 o2 o3 o4 o5 o6 o7 c0 c1 c2 c3 c4 c5 c6 c7 c8 t0 t1 t2
 go_upto_region 13 with fail
 generalize w6.alloc (.cells #[.int .u64 S, .slice p6 L6.length q6] 29) = w7 at *
 obtain ⟨gY, gR⟩ := bl2 hb6 gY gR
 obtain ⟨gY, gR⟩ := bl2 hbT gY gR
 have HB7 := Hid.mk (qab hb6 hbT)
 have H7 := Hid.mk (H6.out.later hbT)
 clear hbT hb6 h6 H5 H6
 generalize errA S va = er at *
 obtain ⟨m0, m1⟩ := TR.qaz gT
 go_wp2_with
  first
  | (refine qad rfl 29 _ _ rfl rfl w.heap.size 0 _ #[.int .u64 S, .slice p6 L6.length q6] rfl rfl rfl 34 _ gY (show 0 + 2 ≤ 9 by decide) info_M (by simp [Value.oneCell']) #[.int .u64 S, (.slice p6 L6.length q6), .int .i64 most, .slice aE s.E.length cE, .slice aK s.K.length cK, .bool on', .int .u64 R', .int .i64 I', .slice aP s.P.length cP] rfl ?_
     intro wy hry hty
     replace gR := qae hty gR (by omega)
     obtain ⟨c0, c1, c2, c3, c4, c5, c6, c7, c8⟩ := qal hry)
  | (refine qad rfl 34 _ _ rfl rfl (w.heap.size + 1 + 1) 0 _ #[.int .u64 S, (.slice p6 L6.length q6), .int .i64 most, .slice aE s.E.length cE, .slice aK s.K.length cK, .bool on', .int .u64 R', .int .i64 I', .slice aP s.P.length cP] rfl rfl rfl 34 _ gR (show 0 + 9 ≤ 9 by decide) qao (qdm rfl) #[.int .u64 S, (.slice p6 L6.length q6), .int .i64 most, .slice aE s.E.length cE, .slice aK s.K.length cK, .bool on', .int .u64 R', .int .i64 I', .slice aP s.P.length cP] rfl ?_
     intro wz hrz htz)
  | fail
 refine bodyPost_ret (TR.qax (p := 6) (u := 7) rfl _ _ (w.heap.size + 1 + 1) 34 _ _ _ rfl hrz Tryz.underlying34 rfl qao) rfl ?_
 exact H0.out.fin3 (((Kp.below H0.out.one (Kp.refl l w) HBd.out).trans (HK5.out.less (fun g hg => by simp [hg]))).below H0.out.one HB7.out |>.put H0.out.one hty (Nat.le_refl _)) (H7.out.put hty (by simp)) htz rfl
end
end Go.Proofs.YtfdbdeckohaneaaGreatDoor.MM
