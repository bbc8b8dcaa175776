/- P52 -/
import Derived.Test.YtfdbdeckohaneaaGreatDoorP50
set_option maxHeartbeats 16000000
set_option maxRecDepth 100000
set_option linter.unusedVariables false
namespace Go.Proofs.YtfdbdeckohaneaaGreatDoor.MM
open Go.RowKit Go.Maps
section
variable {w0 w : World} {l F : List Nat} {x a n m S : Nat} {most : Int} {s : St} {d : Yd}
theorem zP52x01 {Z : Prop} (z : Z := by
 refine tk 10 193 (h := ?_)
 refine rd1 11 (h := fun K hK => ?_)
 refine qah rfl rfl 34 _ _ rfl (w.heap.size + 1 + 1) 0 _ #[.int .u64 S, vm, .int .i64 most, .slice aE s.E.length cE, .slice aK s.K.length cK, .bool on', .int .u64 R', .int .i64 I', .slice aP s.P.length cP] rfl rfl rfl 34 _ gR (show 0 + 9 ≤ 9 by decide) qao (qdm HV1.out) #[.int .u64 S, vm, .int .i64 most, .slice aE s.E.length cE, .slice aK s.K.length cK, .bool on', .int .u64 R', .int .i64 I', .slice aP s.P.length cP] rfl ?_
 intro wz hrz htz
 obtain ⟨k0, k1, k2, k3, k4⟩ := tc5 htz k0 k1 k2 k3 k4
 obtain ⟨k5, k6, k7, k8, k9⟩ := tc5 htz k5 k6 k7 k8 k9
 refine hK.out _ _ ⟨k0, k1, k2, k3, k4, k5, k6, k7, k8, k9⟩ (fun hHeldz => ?_)
 clear hK
 try simp only [Act.put, sq]
 clear k0 k1 k2 k3 k4 k5 k6 k7 k8 k9
 refine tk 12 7 (h := ?_)
 refine wpAnyH_done (by kernel_rfl) ?_ _
 refine NoPanic.normal ?_
 go_wp2_with fail
 refine bodyPost_ret (TR.qax (p := 6) (u := 7) rfl _ _ (w.heap.size + 1 + 1) 34 _ _ _ rfl hrz Tryz.underlying34 rfl qao) rfl ?_
 exact H0.out.fin (l1 := []) HB.out HK5.out (H5.out.later hdr) hdr htz rfl) : Z := z
theorem vst_9a (h : Duo w0 w l F x a n S most s m s d) (hm : m + 1 < 1000000) (hn : n < 1000000) (so nn : Int) (va wd : Nat) (hf hl hk : Bool) (hva : va < 18446744073709551616) (hwd : wd < 18446744073709551616) (hb : rgB wd = false) (h4 : ¬ ((wd : Nat) : Int) % 4096 = 0) :
  Calls Tryz.prog 6 #[.pointer (some ⟨x, 0, none⟩), .agg (d.cs S most s), .agg #[.int .i64 9, .int .i64 so, .int .i64 nn, .int .u64 va, .int .u64 wd, .bool hf, .bool hl, .bool hk]] w (VO w0 w l F x a (n + 1) S most (m + 1)) := by
 have H0 := Hid.mk h
 have HFM := Hid.mk h.one.fm
 have HWF := Hid.mk h.one.wfm
 have HV1 := Hid.mk h.vm1
 have HSN : Hid (setN wd = 10 ∧ setRg s wd = s) := by show _ ∧ _; unfold setN setRg; rw [hb]; exact ⟨rfl, rfl⟩
 have tm : ((wd : Nat) : Int).tmod 4096 = ((wd : Nat) : Int) % 4096 := Int.tmod_eq_emod_of_nonneg (by omega)
 have hq1 : (((wd : Nat) : Int).tmod 4096 != 0) = true := bne_iff_ne.2 (by rw [tm]; exact h4)
 clear hb tm h4
 clear h
 obtain ⟨vm, L, aE, cE, aK, cK, aP, cP, on', R', I'⟩ := d
 (try dsimp only at HV1)
 have HW := Hid.mk (H0.out.own4 (.cells #[.int .u64 S, vm, .int .i64 most, .slice aE s.E.length cE, .slice aK s.K.length cK, .bool on', .int .u64 R', .int .i64 I', .slice aP s.P.length cP] 34) (.cells #[.int .i64 9, .int .i64 so, .int .i64 nn, .int .u64 va, .int .u64 wd, .bool hf, .bool hl, .bool hk] 40) (.cells #[.int .u64 0, .slice none 0 0, .int .i64 0, .slice none 0 0, .slice none 0 0, .bool false, .int .u64 0, .int .i64 0, .slice none 0 0] 34) (.cells #[.bool hf, .bool hl, .bool hk] 64))
 obtain ⟨W, hW, gY, gO, gR, gH, hB, hsz⟩ := hp4 w (.cells #[.int .u64 S, vm, .int .i64 most, .slice aE s.E.length cE, .slice aK s.K.length cK, .bool on', .int .u64 R', .int .i64 I', .slice aP s.P.length cP] 34) (.cells #[.int .i64 9, .int .i64 so, .int .i64 nn, .int .u64 va, .int .u64 wd, .bool hf, .bool hl, .bool hk] 40) (.cells #[.int .u64 0, .slice none 0 0, .int .i64 0, .slice none 0 0, .slice none 0 0, .bool false, .int .u64 0, .int .i64 0, .slice none 0 0] 34) (.cells #[.bool hf, .bool hl, .bool hk] 64)
 rw [hW] at HW
 go_enter Tryz.func6, Tryz.ntmps6
 go_upto_region 2 with fail
 (try rw [hW])
 clear hW hsz
 have HB := Hid.mk hB
 clear hB
 obtain ⟨o0, o1, o2, o3, o4, o5, o6, o7⟩ := qay gO
 obtain ⟨c0, c1, c2, c3, c4, c5, c6, c7, c8⟩ := qal gY
 obtain ⟨t0, t1, t2⟩ := qan gH
 go_wp2_with fail
 refine (HW.out.one.does (fun X hM => by have := set_c hM wd hwd; rw [HSN.out.1, HSN.out.2] at this; exact this)).mono ?_
 rintro e w5 ⟨rfl, h5, hk5⟩
 replace gY := hk5.row (by simp) gY
 replace gO := hk5.row (by simp) gO
 replace gR := hk5.row (by simp) gR
 replace gH := hk5.row (by simp) gH
 have H5 := Hid.mk (HW.out.acts h5 hk5)
 have HK5 := Hid.mk hk5
 clear h5 hk5 HW o0 o1 o2 o3 o4 o5 o6 o7 c0 c1 c2 c3 c4 c5 c6 c7 c8 t0 t1 t2
 obtain ⟨o0, o1, o2, o3, o4, o5, o6, o7⟩ := qay gO
 obtain ⟨c0, c1, c2, c3, c4, c5, c6, c7, c8⟩ := qal gY
 obtain ⟨t0, t1, t2⟩ := qan gH
 go_upto_region 32 with fail
 have k0 := o4
 have k1 := c0
 have k2 := c1
 have k3 := c2
 have k4 := c3
 have k5 := c4
 have k6 := c5
 have k7 := c6
 have k8 := c7
 have k9 := c8
 clear o0 o1 o2 o3 o4 o5 o6 o7 c0 c1 c2 c3 c4 c5 c6 c7 c8 t0 t1 t2
 have hdr := (Below.refl w5.heap.size w5).drew
 replace gR := qaa hdr gR
 obtain ⟨k0, k1, k2, k3, k4⟩ := cl5 (Below.refl _ w5).drew k0 k1 k2 k3 k4
 obtain ⟨k5, k6, k7, k8, k9⟩ := cl5 (Below.refl _ w5).drew k5 k6 k7 k8 k9
 refine hd10 k0 k1 k2 k3 k4 k5 k6 k7 k8 k9 (h := fun hHeld => ?_)
 refine tk 0 183 (h := ?_)
 refine tk 1 184 (h := ?_)
 refine tk 2 185 (h := ?_)
 refine tk 3 186 (h := ?_)
 refine tk 4 187 (h := ?_)
 refine tk 5 188 (h := ?_)
 refine TR.qbo (i := 6) (v := undef) 189 rfl rfl (by kernel_rfl) (by kernel_rfl) (by kernel_rfl) (fun _ _ _ h => h) (Or.inr ⟨by rfl, rfl⟩) (by assumption) ?_
 try simp only [Act.put, sq]
 refine TR.qbo (i := 7) (v := undef) 190 rfl rfl (by kernel_rfl) (by kernel_rfl) (by kernel_rfl) (fun _ _ _ h => h) (Or.inr ⟨by rfl, rfl⟩) (by assumption) ?_
 try simp only [Act.put, sq]
 refine TR.qbo (i := 8) (v := undef) 191 rfl rfl (by kernel_rfl) (by kernel_rfl) (by kernel_rfl) (fun _ _ _ h => h) (Or.inr ⟨by rfl, rfl⟩) (by assumption) ?_
 try simp only [Act.put, sq]
 refine TR.qbo (i := 9) (v := undef) 192 rfl rfl (by kernel_rfl) (by kernel_rfl) (by kernel_rfl) (fun _ _ _ h => h) (Or.inr ⟨by rfl, rfl⟩) (by assumption) ?_
 try simp only [Act.put, sq]
 exact zP52x01
theorem vst_9b (h : Duo w0 w l F x a n S most s m s d) (hm : m + 1 < 1000000) (hn : n < 1000000) (so nn : Int) (va wd : Nat) (hf hl hk : Bool) (hva : va < 18446744073709551616) (hwd : wd < 18446744073709551616) (hb : rgB wd = false) (h4 : ((wd : Nat) : Int) % 4096 = 0) :
  Calls Tryz.prog 6 #[.pointer (some ⟨x, 0, none⟩), .agg (d.cs S most s), .agg #[.int .i64 9, .int .i64 so, .int .i64 nn, .int .u64 va, .int .u64 wd, .bool hf, .bool hl, .bool hk]] w (VO w0 w l F x a (n + 1) S most (m + 1)) := by
 have H0 := Hid.mk h
 have HFM := Hid.mk h.one.fm
 have HWF := Hid.mk h.one.wfm
 have HV1 := Hid.mk h.vm1
 have HSN : Hid (setN wd = 10 ∧ setRg s wd = s) := by show _ ∧ _; unfold setN setRg; rw [hb]; exact ⟨rfl, rfl⟩
 have tm : ((wd : Nat) : Int).tmod 4096 = ((wd : Nat) : Int) % 4096 := Int.tmod_eq_emod_of_nonneg (by omega)
 have hq1 : (((wd : Nat) : Int).tmod 4096 != 0) = false := by rw [tm, h4]; rfl
 have hq2 : (((wd : Nat) : Int) / 72057594037927936 != 0) = true := bne_iff_ne.2 (by have := of_decide_eq_false hb; omega)
 clear hb tm h4
 clear h
 obtain ⟨vm, L, aE, cE, aK, cK, aP, cP, on', R', I'⟩ := d
 (try dsimp only at HV1)
 have HW := Hid.mk (H0.out.own4 (.cells #[.int .u64 S, vm, .int .i64 most, .slice aE s.E.length cE, .slice aK s.K.length cK, .bool on', .int .u64 R', .int .i64 I', .slice aP s.P.length cP] 34) (.cells #[.int .i64 9, .int .i64 so, .int .i64 nn, .int .u64 va, .int .u64 wd, .bool hf, .bool hl, .bool hk] 40) (.cells #[.int .u64 0, .slice none 0 0, .int .i64 0, .slice none 0 0, .slice none 0 0, .bool false, .int .u64 0, .int .i64 0, .slice none 0 0] 34) (.cells #[.bool hf, .bool hl, .bool hk] 64))
 obtain ⟨W, hW, gY, gO, gR, gH, hB, hsz⟩ := hp4 w (.cells #[.int .u64 S, vm, .int .i64 most, .slice aE s.E.length cE, .slice aK s.K.length cK, .bool on', .int .u64 R', .int .i64 I', .slice aP s.P.length cP] 34) (.cells #[.int .i64 9, .int .i64 so, .int .i64 nn, .int .u64 va, .int .u64 wd, .bool hf, .bool hl, .bool hk] 40) (.cells #[.int .u64 0, .slice none 0 0, .int .i64 0, .slice none 0 0, .slice none 0 0, .bool false, .int .u64 0, .int .i64 0, .slice none 0 0] 34) (.cells #[.bool hf, .bool hl, .bool hk] 64)
 rw [hW] at HW
 go_enter Tryz.func6, Tryz.ntmps6
 go_upto_region 2 with fail
 (try rw [hW])
 clear hW hsz
 have HB := Hid.mk hB
 clear hB
 obtain ⟨o0, o1, o2, o3, o4, o5, o6, o7⟩ := qay gO
 obtain ⟨c0, c1, c2, c3, c4, c5, c6, c7, c8⟩ := qal gY
 obtain ⟨t0, t1, t2⟩ := qan gH
 go_wp2_with fail
 refine (HW.out.one.does (fun X hM => by have := set_c hM wd hwd; rw [HSN.out.1, HSN.out.2] at this; exact this)).mono ?_
 rintro e w5 ⟨rfl, h5, hk5⟩
 replace gY := hk5.row (by simp) gY
 replace gO := hk5.row (by simp) gO
 replace gR := hk5.row (by simp) gR
 replace gH := hk5.row (by simp) gH
 have H5 := Hid.mk (HW.out.acts h5 hk5)
 have HK5 := Hid.mk hk5
 clear h5 hk5 HW o0 o1 o2 o3 o4 o5 o6 o7 c0 c1 c2 c3 c4 c5 c6 c7 c8 t0 t1 t2
 obtain ⟨o0, o1, o2, o3, o4, o5, o6, o7⟩ := qay gO
 obtain ⟨c0, c1, c2, c3, c4, c5, c6, c7, c8⟩ := qal gY
 obtain ⟨t0, t1, t2⟩ := qan gH
 go_upto_region 32 with fail
 have k0 := o4
 have k1 := c0
 have k2 := c1
 have k3 := c2
 have k4 := c3
 have k5 := c4
 have k6 := c5
 have k7 := c6
 have k8 := c7
 have k9 := c8
 clear o0 o1 o2 o3 o4 o5 o6 o7 c0 c1 c2 c3 c4 c5 c6 c7 c8 t0 t1 t2
 have hdr := (Below.refl w5.heap.size w5).drew
 replace gR := qaa hdr gR
 obtain ⟨k0, k1, k2, k3, k4⟩ := cl5 (Below.refl _ w5).drew k0 k1 k2 k3 k4
 obtain ⟨k5, k6, k7, k8, k9⟩ := cl5 (Below.refl _ w5).drew k5 k6 k7 k8 k9
 refine hd10 k0 k1 k2 k3 k4 k5 k6 k7 k8 k9 (h := fun hHeld => ?_)
 refine tk 0 183 (h := ?_)
 refine tk 1 184 (h := ?_)
 refine tk 2 185 (h := ?_)
 refine tk 3 186 (h := ?_)
 refine tk 4 187 (h := ?_)
 refine tk 5 188 (h := ?_)
 refine tk 6 189 (h := ?_)
 refine tk 7 190 (h := ?_)
 refine tk 8 191 (h := ?_)
 refine tk 9 192 (h := ?_)
 exact zP52x01
theorem vst_9c (h : Duo w0 w l F x a n S most s m s d) (hm : m + 1 < 1000000) (hn : n < 1000000) (so nn : Int) (va wd : Nat) (hf hl hk : Bool) (hva : va < 18446744073709551616) (hwd : wd < 18446744073709551616) (hb : rgB wd = true) :
  Calls Tryz.prog 6 #[.pointer (some ⟨x, 0, none⟩), .agg (d.cs S most s), .agg #[.int .i64 9, .int .i64 so, .int .i64 nn, .int .u64 va, .int .u64 wd, .bool hf, .bool hl, .bool hk]] w (VO w0 w l F x a (n + 1) S most (m + 1)) := by
 have H0 := Hid.mk h
 have HFM := Hid.mk h.one.fm
 have HWF := Hid.mk h.one.wfm
 have HV1 := Hid.mk h.vm1
 have HSN : Hid (setN wd = 0 ∧ setRg s wd = { s with rg := some (wd % 281474976710656, wd / 281474976710656) }) := by show _ ∧ _; unfold setN setRg; rw [hb]; exact ⟨rfl, rfl⟩
 have tm : ((wd : Nat) : Int).tmod 4096 = ((wd : Nat) : Int) % 4096 := Int.tmod_eq_emod_of_nonneg (by omega)
 have hbb := of_decide_eq_true hb
 have hq1 : (((wd : Nat) : Int).tmod 4096 == 0) = true := by rw [tm]; have : ((wd : Nat) : Int) % 4096 = 0 := by omega
                                                             rw [this]; rfl
 have hq2 : (((wd : Nat) : Int) / 72057594037927936 == 0) = true := by rw [beq_iff_eq]; omega
 have m1 : ((wd : Nat) : Int).tmod 281474976710656 = ((wd % 281474976710656 : Nat) : Int) := by rw [Int.tmod_eq_emod_of_nonneg (by omega)]; omega
 have m2 : IntKind.i64.wrap (((wd : Nat) : Int) / 281474976710656) = ((wd / 281474976710656 : Nat) : Int) := by rw [IntKind.wrap_i64]; omega
 clear hb tm hbb
 generalize wd % 281474976710656 = Rn at *
 generalize wd / 281474976710656 = In at *
 clear h
 obtain ⟨vm, L, aE, cE, aK, cK, aP, cP, on', R', I'⟩ := d
 (try dsimp only at HV1)
 have HW := Hid.mk (H0.out.own4 (.cells #[.int .u64 S, vm, .int .i64 most, .slice aE s.E.length cE, .slice aK s.K.length cK, .bool on', .int .u64 R', .int .i64 I', .slice aP s.P.length cP] 34) (.cells #[.int .i64 9, .int .i64 so, .int .i64 nn, .int .u64 va, .int .u64 wd, .bool hf, .bool hl, .bool hk] 40) (.cells #[.int .u64 0, .slice none 0 0, .int .i64 0, .slice none 0 0, .slice none 0 0, .bool false, .int .u64 0, .int .i64 0, .slice none 0 0] 34) (.cells #[.bool hf, .bool hl, .bool hk] 64))
 obtain ⟨W, hW, gY, gO, gR, gH, hB, hsz⟩ := hp4 w (.cells #[.int .u64 S, vm, .int .i64 most, .slice aE s.E.length cE, .slice aK s.K.length cK, .bool on', .int .u64 R', .int .i64 I', .slice aP s.P.length cP] 34) (.cells #[.int .i64 9, .int .i64 so, .int .i64 nn, .int .u64 va, .int .u64 wd, .bool hf, .bool hl, .bool hk] 40) (.cells #[.int .u64 0, .slice none 0 0, .int .i64 0, .slice none 0 0, .slice none 0 0, .bool false, .int .u64 0, .int .i64 0, .slice none 0 0] 34) (.cells #[.bool hf, .bool hl, .bool hk] 64)
 rw [hW] at HW
 go_enter Tryz.func6, Tryz.ntmps6
 go_upto_region 2 with fail
 (try rw [hW])
 clear hW hsz
 have HB := Hid.mk hB
 clear hB
 obtain ⟨o0, o1, o2, o3, o4, o5, o6, o7⟩ := qay gO
 obtain ⟨c0, c1, c2, c3, c4, c5, c6, c7, c8⟩ := qal gY
 obtain ⟨t0, t1, t2⟩ := qan gH
 go_wp2_with fail
 refine (HW.out.one.does (fun X hM => by have := set_c hM wd hwd; rw [HSN.out.1, HSN.out.2] at this; exact this)).mono ?_
 rintro e w5 ⟨rfl, h5, hk5⟩
 replace gY := hk5.row (by simp) gY
 replace gO := hk5.row (by simp) gO
 replace gR := hk5.row (by simp) gR
 replace gH := hk5.row (by simp) gH
 have H5 := Hid.mk (HW.out.acts h5 hk5)
 have HK5 := Hid.mk hk5
 clear h5 hk5 HW o0 o1 o2 o3 o4 o5 o6 o7 c0 c1 c2 c3 c4 c5 c6 c7 c8 t0 t1 t2
 obtain ⟨o0, o1, o2, o3, o4, o5, o6, o7⟩ := qay gO
 obtain ⟨c0, c1, c2, c3, c4, c5, c6, c7, c8⟩ := qal gY
 obtain ⟨t0, t1, t2⟩ := qan gH
 go_upto_region 33 with fail
 have k0 := o4
 clear o0 o1 o2 o3 o4 o5 o6 o7 c0 c1 c2 c3 c4 c5 c6 c7 c8 t0 t1 t2
 have hdr := (Below.refl w5.heap.size w5).drew
 obtain ⟨gY, gR⟩ := bl2 hdr gY gR
 have H5d := Hid.mk (H5.out.later hdr)
 have HKd := Hid.mk (((Kp.below H0.out.one (Kp.refl l w) HB.out).trans (HK5.out.less (fun g hg => by simp [hg]))).below H0.out.one hdr)
 clear hdr H5
 replace k0 := cell_later (Below.refl _ w5).drew k0
 refine hd1 k0 (h := fun hHeld => ?_)
 generalize w5.drew = Wd at *
 refine tk 0 194 (h := ?_)
 refine tk 1 195 (h := ?_)
 refine tk 2 196 (h := ?_)
 refine tk 3 197 (h := ?_)
 refine tk 4 198 (h := ?_)
 refine tk 5 199 (h := ?_)
 refine tk 6 200 (h := ?_)
 refine tk 7 201 (h := ?_)
 refine rd1 8 (h := fun K hK => ?_)
 refine qah rfl rfl 4 _ _ rfl w.heap.size 5 _ #[.bool true] rfl rfl rfl 34 _ gY (show 5 + 1 ≤ 9 by decide) info_bool (by simp [Value.oneCell']) #[.int .u64 S, vm, .int .i64 most, .slice aE s.E.length cE, .slice aK s.K.length cK, .bool true, .int .u64 R', .int .i64 I', .slice aP s.P.length cP] rfl ?_
 intro wya hrya htya
 replace gR := qae htya gR (by omega)
 replace k0 := TR.qam htya (show ¬ (w.heap.size + 1) = w.heap.size by omega) k0
 refine hK.out _ _ k0 (fun hHeldya => ?_)
 clear hK
 try simp only [Act.put, sq]
 refine tk 9 202 (h := ?_)
 refine rd1 10 (h := fun K hK => ?_)
 refine qah rfl rfl 26 _ _ rfl w.heap.size 6 _ #[.int .u64 Rn] rfl rfl rfl 34 _ hrya (show 6 + 1 ≤ 9 by decide) info_u64 (by simp [Value.oneCell']) #[.int .u64 S, vm, .int .i64 most, .slice aE s.E.length cE, .slice aK s.K.length cK, .bool true, .int .u64 Rn, .int .i64 I', .slice aP s.P.length cP] rfl ?_
 intro wyb hryb htyb
 replace gR := qae htyb gR (by omega)
 replace k0 := TR.qam htyb (show ¬ (w.heap.size + 1) = w.heap.size by omega) k0
 refine hK.out _ _ k0 (fun hHeldyb => ?_)
 clear hK
 try simp only [Act.put, sq]
 refine tk 11 203 (h := ?_)
 refine rd1 12 (h := fun K hK => ?_)
 refine qah rfl rfl 3 _ _ rfl w.heap.size 7 _ #[.int .i64 In] rfl rfl rfl 34 _ hryb (show 7 + 1 ≤ 9 by decide) info_int (by simp [Value.oneCell']) #[.int .u64 S, vm, .int .i64 most, .slice aE s.E.length cE, .slice aK s.K.length cK, .bool true, .int .u64 Rn, .int .i64 In, .slice aP s.P.length cP] rfl ?_
 intro wyc hryc htyc
 replace gR := qae htyc gR (by omega)
 replace k0 := TR.qam htyc (show ¬ (w.heap.size + 1) = w.heap.size by omega) k0
 refine hK.out _ _ k0 (fun hHeldyc => ?_)
 clear hK
 try simp only [Act.put, sq]
 refine wpAnyH_done (by kernel_rfl) ?_ _
 refine NoPanic.normal ?_
 have HKp := Hid.mk (((HKd.out.put H0.out.one htya (Nat.le_refl _)).put H0.out.one htyb (Nat.le_refl _)).put H0.out.one htyc (Nat.le_refl _))
 have HDn := Hid.mk ((((H5d.out.put htya (by simp)).put htyb (by simp)).put htyc (by simp)).set2 Rn In)
 have k0c := k0
 have gYc := hryc
 clear hrya hryb hryc htya htyb htyc k0 gO gY gH HKd H5d
 obtain ⟨c0, c1, c2, c3, c4, c5, c6, c7, c8⟩ := qal gYc
 clear gYc
 go_upto_region 34 with fail
 have k0 := k0c
 have k1 := c0
 have k2 := c1
 have k3 := c2
 have k4 := c3
 have k5 := c4
 have k6 := c5
 have k7 := c6
 have k8 := c7
 have k9 := c8
 clear k0c c0 c1 c2 c3 c4 c5 c6 c7 c8
 have hdr := (Below.refl wyc.heap.size wyc).drew
 replace gR := qaa hdr gR
 obtain ⟨k0, k1, k2, k3, k4⟩ := cl5 (Below.refl _ wyc).drew k0 k1 k2 k3 k4
 obtain ⟨k5, k6, k7, k8, k9⟩ := cl5 (Below.refl _ wyc).drew k5 k6 k7 k8 k9
 refine hd10 k0 k1 k2 k3 k4 k5 k6 k7 k8 k9 (h := fun hHeld => ?_)
 refine tk 0 204 (h := ?_)
 refine tk 1 205 (h := ?_)
 refine tk 2 206 (h := ?_)
 refine tk 3 207 (h := ?_)
 refine tk 4 208 (h := ?_)
 refine tk 5 209 (h := ?_)
 refine tk 6 210 (h := ?_)
 refine tk 7 211 (h := ?_)
 refine tk 8 212 (h := ?_)
 refine tk 9 213 (h := ?_)
 refine tk 10 214 (h := ?_)
 refine rd1 11 (h := fun K hK => ?_)
 refine qah rfl rfl 34 _ _ rfl (w.heap.size + 1 + 1) 0 _ #[.int .u64 S, vm, .int .i64 most, .slice aE s.E.length cE, .slice aK s.K.length cK, .bool true, .int .u64 Rn, .int .i64 In, .slice aP s.P.length cP] rfl rfl rfl 34 _ gR (show 0 + 9 ≤ 9 by decide) qao (qdm HV1.out) #[.int .u64 S, vm, .int .i64 most, .slice aE s.E.length cE, .slice aK s.K.length cK, .bool true, .int .u64 Rn, .int .i64 In, .slice aP s.P.length cP] rfl ?_
 intro wz hrz htz
 obtain ⟨k0, k1, k2, k3, k4⟩ := tc5 htz k0 k1 k2 k3 k4
 obtain ⟨k5, k6, k7, k8, k9⟩ := tc5 htz k5 k6 k7 k8 k9
 refine hK.out _ _ ⟨k0, k1, k2, k3, k4, k5, k6, k7, k8, k9⟩ (fun hHeldz => ?_)
 clear hK
 try simp only [Act.put, sq]
 clear k0 k1 k2 k3 k4 k5 k6 k7 k8 k9
 refine tk 12 7 (h := ?_)
 refine wpAnyH_done (by kernel_rfl) ?_ _
 refine NoPanic.normal ?_
 go_wp2_with fail
 refine bodyPost_ret (TR.qax (p := 6) (u := 7) rfl _ _ (w.heap.size + 1 + 1) 34 _ _ _ rfl hrz Tryz.underlying34 rfl qao) rfl ?_
 exact H0.out.fin3 (l1 := []) (HKp.out.below H0.out.one hdr) (HDn.out.later hdr) htz rfl
theorem vst_1 (h : Duo w0 w l F x a n S most s m s d) (hm : m + 1 < 1000000) (hn : n < 1000000) (so nn : Int) (va wd : Nat) (hf hl hk : Bool) (hva : va < 18446744073709551616) (hwd : wd < 18446744073709551616) :
  Calls Tryz.prog 6 #[.pointer (some ⟨x, 0, none⟩), .agg (d.cs S most s), .agg #[.int .i64 1, .int .i64 so, .int .i64 nn, .int .u64 va, .int .u64 wd, .bool hf, .bool hl, .bool hk]] w (VO w0 w l F x a (n + 1) S most (m + 1)) := by
 have H0 := Hid.mk h
 have HFM := Hid.mk h.one.fm
 have HWF := Hid.mk h.one.wfm
 have HV1 := Hid.mk h.vm1
 have HAC := Hid.mk (fun (X : Nat → Prop) W (hM : Mch w0 W X x a n S most s) => access_c hM (by omega) so va wd hva hwd ⟨hf, hl, hk⟩)
 have HYA := Hid.mk (fun W (B : Nat → Prop) (hy : YOk W B m s d) => yaccess_c hy HFM.out HWF.out (by omega) so va wd hva ⟨hf, hl, hk⟩)
 generalize accS S most s so va wd ⟨hf, hl, hk⟩ = s1 at *
 generalize accF (qai S s va ⟨hf, hl, hk⟩) so = FF at *
 generalize accW s.f (qai S s va ⟨hf, hl, hk⟩) so va = vw at *
 obtain ⟨f1, f2⟩ := FF
 simp only [resV] at HAC
 (try dsimp only at HYA)
 have HQ : ∀ W, (binOp .eql 65 (.agg #[.int .i64 f1, .int .i64 f2]) (.agg #[.int .i64 f1, .int .i64 f2])).run Tryz.prog W = .ok (.bool true) W := fun W => by
  rw [eqF2]; simp
 clear h
 obtain ⟨vm, L, aE, cE, aK, cK, aP, cP, on', R', I'⟩ := d
 (try dsimp only at HV1)
 have HW := Hid.mk (H0.out.own4 (.cells #[.int .u64 S, vm, .int .i64 most, .slice aE s.E.length cE, .slice aK s.K.length cK, .bool on', .int .u64 R', .int .i64 I', .slice aP s.P.length cP] 34) (.cells #[.int .i64 1, .int .i64 so, .int .i64 nn, .int .u64 va, .int .u64 wd, .bool hf, .bool hl, .bool hk] 40) (.cells #[.int .u64 0, .slice none 0 0, .int .i64 0, .slice none 0 0, .slice none 0 0, .bool false, .int .u64 0, .int .i64 0, .slice none 0 0] 34) (.cells #[.bool hf, .bool hl, .bool hk] 64))
 obtain ⟨W, hW, gY, gO, gR, gH, hB, hsz⟩ := hp4 w (.cells #[.int .u64 S, vm, .int .i64 most, .slice aE s.E.length cE, .slice aK s.K.length cK, .bool on', .int .u64 R', .int .i64 I', .slice aP s.P.length cP] 34) (.cells #[.int .i64 1, .int .i64 so, .int .i64 nn, .int .u64 va, .int .u64 wd, .bool hf, .bool hl, .bool hk] 40) (.cells #[.int .u64 0, .slice none 0 0, .int .i64 0, .slice none 0 0, .slice none 0 0, .bool false, .int .u64 0, .int .i64 0, .slice none 0 0] 34) (.cells #[.bool hf, .bool hl, .bool hk] 64)
 rw [hW] at HW
 go_enter Tryz.func6, Tryz.ntmps6
 go_upto_region 2 with fail
 (try rw [hW])
 clear hW hsz
 have HB := Hid.mk hB
 clear hB
 obtain ⟨o0, o1, o2, o3, o4, o5, o6, o7⟩ := qay gO
 obtain ⟨c0, c1, c2, c3, c4, c5, c6, c7, c8⟩ := qal gY
 obtain ⟨t0, t1, t2⟩ := qan gH
 go_wp2_with fail
 refine (HW.out.one.does (fun X hM => HAC.out X _ hM)).mono ?_
 rintro e w5 ⟨rfl, h5, hk5⟩
 replace gY := hk5.row (by simp) gY
 replace gO := hk5.row (by simp) gO
 replace gR := hk5.row (by simp) gR
 replace gH := hk5.row (by simp) gH
 have H5 := Hid.mk (HW.out.acts h5 hk5)
 have HK5 := Hid.mk hk5
 clear h5 hk5 HW o0 o1 o2 o3 o4 o5 o6 o7 c0 c1 c2 c3 c4 c5 c6 c7 c8 t0 t1 t2
 obtain ⟨o0, o1, o2, o3, o4, o5, o6, o7⟩ := qay gO
 obtain ⟨c0, c1, c2, c3, c4, c5, c6, c7, c8⟩ := qal gY
 obtain ⟨t0, t1, t2⟩ := qan gH
 have hbA := qac w5 (.cells #[.int .i64 f1, .int .i64 f2, .int .u64 vw] 52)
 have gA := heap_alloc_new w5 (.cells #[.int .i64 f1, .int .i64 f2, .int .u64 vw] 52)
 clear o0 o1 o2 o3 o4 o5 o6 o7 c0 c1 c2 c3 c4 c5 c6 c7 c8 t0 t1 t2
 go_upto_region 5 with fail
 generalize w5.alloc (.cells #[.int .i64 f1, .int .i64 f2, .int .u64 vw] 52) = w5b at *
 obtain ⟨gY, gO, gR, gH⟩ := bl4 hbA gY gO gR gH
 obtain ⟨o0, o1, o2, o3, o4, o5, o6, o7⟩ := qay gO
 obtain ⟨c0, c1, c2, c3, c4, c5, c6, c7, c8⟩ := qal gY
 obtain ⟨t0, t1, t2⟩ := qan gH
 have H5b := Hid.mk (H5.out.later hbA)
 go_wp2_with fail
 refine (H5b.out.ydoes (Rr := fun r d' => r = .returned (.tuple #[.agg (d'.cs S most s1), .agg #[.int .i64 f1, .int .i64 f2], .int .u64 vw])) (fun B hy => HYA.out _ _ hy)).mono ?_
 rintro e w6 ⟨d1, l1, rfl, h6, hb6⟩
 obtain ⟨p6, q6, e6⟩ := h6.vmf
 obtain ⟨vm1, L1, aE1, cE1, aK1, cK1, aP1, cP1, on1, R1, I1⟩ := d1
 (try dsimp only at e6)
 subst e6
 have hk2 : w5.heap.size < w6.heap.size := Nat.lt_of_lt_of_le (qag gA) hb6.size
 have hr5 : (w.heap.size + 1 + 1) < w5.heap.size := H5.out.one.ltl (by simp)
 obtain ⟨W7, hW7, gT, gU, hbT, -⟩ := hp2 w6 (.cells #[.int .u64 S, .slice p6 L1.length q6, .int .i64 most, .slice aE1 s1.E.length cE1, .slice aK1 s1.K.length cK1, .bool on1, .int .u64 R1, .int .i64 I1, .slice aP1 s1.P.length cP1] 34) (.cells #[.int .i64 f1, .int .i64 f2] 65)
 clear o0 o1 o2 o3 o4 o5 o6 o7 c0 c1 c2 c3 c4 c5 c6 c7 c8 t0 t1 t2
 go_upto_region 6 with fail
 (try rw [hW7])
 clear hW7
 have gA1 := qaa hbT (qaa hb6 gA)
 replace gR := qaa hbT (qaa hb6 gR)
 have hb7 := qab (qab hbA hb6) hbT
 have H7 := Hid.mk (h6.later hbT)
 clear hbA hb6 hbT gY gO gH h6 H5b H5 gA
 generalize w6.heap.size = K2 at *
 generalize hK15 : w5.heap.size = K1 at *
 obtain ⟨k0, k1, k2, k3, k4, k5, k6, k7, k8⟩ := qal gT
 obtain ⟨k9, k10, k11⟩ := qan gA1
 obtain ⟨k12, k13⟩ := TR.qaz gU
 clear gT gA1 gU
 have hdr := (Below.refl W7.heap.size W7).drew
 replace gR := qaa hdr gR
 obtain ⟨k0, k1, k2, k3, k4⟩ := cl5 (Below.refl _ W7).drew k0 k1 k2 k3 k4
 obtain ⟨k5, k6, k7, k8, k9⟩ := cl5 (Below.refl _ W7).drew k5 k6 k7 k8 k9
 obtain ⟨k10, k11, k12, k13⟩ := cl4 (Below.refl _ W7).drew k10 k11 k12 k13
 refine hd14 k0 k1 k2 k3 k4 k5 k6 k7 k8 k9 k10 k11 k12 k13 (h := fun hHeld => ?_)
 refine tk 0 49 (h := ?_)
 refine tk 1 50 (h := ?_)
 refine tk 2 51 (h := ?_)
 refine tk 3 52 (h := ?_)
 refine tk 4 53 (h := ?_)
 refine tk 5 54 (h := ?_)
 refine tk 6 55 (h := ?_)
 refine tk 7 56 (h := ?_)
 refine tk 8 57 (h := ?_)
 refine tk 9 58 (h := ?_)
 refine tk 10 59 (h := ?_)
 refine rd1 11 (h := fun K hK => ?_)
 refine qah rfl rfl 34 _ _ rfl (w.heap.size + 1 + 1) 0 _ #[.int .u64 S, .slice p6 L1.length q6, .int .i64 most, .slice aE1 s1.E.length cE1, .slice aK1 s1.K.length cK1, .bool on1, .int .u64 R1, .int .i64 I1, .slice aP1 s1.P.length cP1] rfl rfl rfl 34 _ gR (show 0 + 9 ≤ 9 by decide) qao (qdm rfl) #[.int .u64 S, .slice p6 L1.length q6, .int .i64 most, .slice aE1 s1.E.length cE1, .slice aK1 s1.K.length cK1, .bool on1, .int .u64 R1, .int .i64 I1, .slice aP1 s1.P.length cP1] rfl ?_
 intro wz hrz htz
 obtain ⟨k0, k1, k2, k3, k4⟩ := tc5 htz k0 k1 k2 k3 k4
 obtain ⟨k5, k6, k7, k8, k9⟩ := tc5 htz k5 k6 k7 k8 k9
 obtain ⟨k10, k11, k12, k13⟩ := tc4 htz k10 k11 k12 k13
 refine hK.out _ _ ⟨k0, k1, k2, k3, k4, k5, k6, k7, k8, k9, k10, k11, k12, k13⟩ (fun hHeldz => ?_)
 clear hK
 try simp only [Act.put, sq]
 clear k0 k1 k2 k3 k4 k5 k6 k7 k8 k9 k10 k11 k12 k13
 refine tk 12 7 (h := ?_)
 refine wpAnyH_done (by kernel_rfl) ?_ _
 refine NoPanic.normal ?_
 go_wp2_with fail
 refine bodyPost_ret (TR.qax (p := 6) (u := 7) rfl _ _ (w.heap.size + 1 + 1) 34 _ _ _ rfl hrz Tryz.underlying34 rfl qao) rfl ?_
 subst hK15
 exact H0.out.fin HB.out HK5.out (H7.out.later hdr) (qab hb7 hdr) htz rfl
end
end Go.Proofs.YtfdbdeckohaneaaGreatDoor.MM
