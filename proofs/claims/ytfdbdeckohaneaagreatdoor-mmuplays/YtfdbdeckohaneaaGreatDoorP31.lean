/- P31 -/
import Derived.Test.YtfdbdeckohaneaaGreatDoorP30
set_option maxHeartbeats 16000000
set_option maxRecDepth 100000
namespace Go.Proofs.YtfdbdeckohaneaaGreatDoor.MM
open Go.RowKit Go.Maps
theorem info_bool : (Tryz.prog.info? 4).map (·.size) = some 1 := by kernel_rfl
theorem heap4_0 (w : World) (a b c d : Obj) : ((((w.alloc a).alloc b).alloc c).alloc d).heap[w.heap.size]? = some a := qaa (qac _ _) (qaa (qac _ _) (qcf _ _ _))
theorem heap4_1 (w : World) (a b c d : Obj) : ((((w.alloc a).alloc b).alloc c).alloc d).heap[w.heap.size + 1]? = some b := by
 have := qaa (qac ((w.alloc a).alloc b) c) (heap_alloc2_new w a b)
 exact qaa (qac _ d) this
theorem heap4_2 (w : World) (a b c d : Obj) : ((((w.alloc a).alloc b).alloc c).alloc d).heap[w.heap.size + 1 + 1]? = some c := by
 have := heap_alloc2_new (w.alloc a) b c
 rw [show (w.alloc a).heap.size + 1 = w.heap.size + 1 + 1 by simp] at this
 exact qaa (qac _ d) this
theorem heap4_3 (w : World) (a b c d : Obj) : ((((w.alloc a).alloc b).alloc c).alloc d).heap[w.heap.size + 1 + 1 + 1]? = some d := by
 have := heap_alloc2_new ((w.alloc a).alloc b) c d
 rw [show ((w.alloc a).alloc b).heap.size + 1 = w.heap.size + 1 + 1 + 1 by simp] at this
 exact this
theorem below4 (w : World) (a b c d : Obj) : Below w.heap.size w ((((w.alloc a).alloc b).alloc c).alloc d) := qab (qbx _ _ _) (qbx _ _ _)
theorem size4 (w : World) (a b c d : Obj) : ((((w.alloc a).alloc b).alloc c).alloc d).heap.size = w.heap.size + 1 + 1 + 1 + 1 := by simp
section
variable {w0 w : World} {X : Nat → Prop} {x a n S : Nat} {most : Int} {s : St}
theorem and_mid {A B C : Prop} (hc : C) (h : A ∧ B) : A ∧ B ∧ C := ⟨h.1, h.2, hc⟩
theorem Mch.fin {Z Y : Nat → Prop} {w1 w2 w3 : World} {m : Nat} {s' : St} (h0 : Mch w0 w X x a n S most s) (h : Mch w0 w1 Z x a m S most s') (hb : Below w1.heap.size w1 w2) (ht : Turn Y w2 w3) (hZ : ∀ i, Z i → X i ∨ w.heap.size ≤ i) (hY : ∀ i, Y i → w.heap.size ≤ i ∧ ¬ Z i) (hT : Turn X w w1) : Mch w0 w3 (Gr X w w3) x a m S most s' ∧ Turn X w w3 := by
 have e0 := h0.bl.size
 have h3 := (h.later hb).turn ht (fun i hi hy => (hY i hy).2 hi) (fun i hy => Nat.le_trans e0 (hY i hy).1)
 have hT3 : Turn X w w3 := (hT.trans (qak X hb) (fun _ _ h => h)).trans ht (fun i hi hy => absurd (hY i hy).1 (Nat.not_le.2 hi))
 refine ⟨h3.wide (fun i hi => ?_) (fun i hi => gr_in hT3.size h0.ltX h0.loX e0 hi), hT3⟩
 rcases hZ i hi with h1 | h1
 ·exact Or.inl h1
 ·exact Or.inr ⟨h1, h3.ltX i hi⟩
theorem zP31x02 {Z : Prop} (z : Z := by
 intro wa hrwa htwa
 obtain ⟨k0, k1, k2, k3, k4⟩ := tc5 htwa k0 k1 k2 k3 k4
 obtain ⟨k5, k6, k7, k8, k9⟩ := tc5 htwa k5 k6 k7 k8 k9
 replace g3 := qae htwa (qaa (Below.refl _ w3).drew g3) (by omega)
 refine hK.out _ _ ⟨k0, k1, k2, k3, k4, k5, k6, k7, k8, k9⟩ (fun hHeldwa => ?_)
 clear hK
 try simp only [Act.put, sq]
 refine rd1 3 (h := fun K hK => ?_)
 refine qah rfl rfl 50 _ _ rfl (w.heap.size + 1 + 1 + 1) 0 _ #[.int .i64 f1, .int .i64 f2] rfl rfl rfl 50 _ g3 (show 0 + 2 ≤ 2 by decide) qap (by simp [Value.oneCell']) #[.int .i64 f1, .int .i64 f2] rfl ?_
 intro wb hrwb htwb
 obtain ⟨k0, k1, k2, k3, k4⟩ := tc5 htwb k0 k1 k2 k3 k4
 obtain ⟨k5, k6, k7, k8, k9⟩ := tc5 htwb k5 k6 k7 k8 k9
 replace hrwa := qae htwb hrwa (by omega)
 refine hK.out _ _ ⟨k0, k1, k2, k3, k4, k5, k6, k7, k8, k9⟩ (fun hHeldwb => ?_)
 clear hK
 try simp only [Act.put, sq]
 refine wpAnyH_done (by kernel_rfl) ?_ _
 refine NoPanic.normal ?_
 clear k0 k1 k2 k3 k4 k5 k6 k7 k8 k9
 go_wp2
 refine bodyPost_ret (qas rfl _ _ (w.heap.size + 1 + 1) (w.heap.size + 1 + 1 + 1) _ _ _ _ _ _ _ _ rfl hrwa Tryz.underlying112 rfl qbd rfl hrwb Tryz.underlying50 rfl qap) rfl ⟨rfl, ?_⟩
 rw [HWS.out]
 have hTT : Turn (fun i => i = w.heap.size + 1 + 1 ∨ i = w.heap.size + 1 + 1 + 1) w3.drew wb := ((qak _ (Below.refl _ _)).trans htwa (fun i _ hi => Or.inl hi)).trans htwb (fun i _ hi => Or.inr hi)
 have e1 := hsz
 have hTw := qak X hB
 have hxw : x < w.heap.size := H0.out.ltX x (by obtain ⟨_, _, _, _, _, _, h⟩ := H0.out; exact h.cx)
 have hdx : ∀ W : World, x < W.heap.size → W.drew.heap[x]? = W.heap[x]? := fun W hx => (Below.refl W.heap.size W).drew.block x hx
 have hxx : wb.heap[x]? = w.heap[x]? := by
  have hxa : x < w3.heap.size := by have e : w3.drew.heap.size = w3.heap.size := rfl; have := hTw.size; omega
  have ea := hTT.block x hxa (fun c => by rcases c with c | c <;> omega)
  exact (ea.trans (hdx w3 hxa)).trans (hB.block x hxw)
 refine and_mid hxx ?_
 refine H0.out.fin (Hid.mk (H0.out.later hB)).out (Below.refl _ _).drew hTT (fun i hi => ?_) (fun i hi => ?_) hTw
 ·skip
  exact Or.inl hi
 ·have h1 : w.heap.size ≤ i := by rcases hi with hi | hi <;> omega
  have h2 : i < w.heap.size + 1 + 1 + 1 + 1 := by rcases hi with hi | hi <;> omega
  refine ⟨h1, fun c => ?_⟩
  ·skip
   exact nX.out i h1 c) : Z := z
theorem zP31x03 {Z : Prop} (z : Z := by
 have := from_any (stL s I va hn) (stT s R I va hn) va HT.out h.mem h.fld.t.d
 rw [leafL_cs, faultL_cs] at this
 exact this) : Z := z
theorem walked_nn (h : Mch w0 w X x a n S most s) (R I va : Nat) (hR : R < 281474976710656) (hn : Hn) (hva : va < 18446744073709551616) (hk : hn.keep = false) (hf : hn.fill = false) :
  Calls Tryz.prog 61 #[.pointer (some ⟨x, 0, none⟩), bsV R I, .int .u64 va, hn.v] w fun r w' => r = .returned (.tuple #[.agg (lfR (wkO S s R I va hn).2).cs.toArray, .agg #[.int .i64 (ftR (wkO S s R I va hn).2).1, .int .i64 (ftR (wkO S s R I va hn).2).2]]) ∧ Mch w0 w' (Gr X w w') x a n S most (wdS S most s R I va hn) ∧ Turn X w w' ∧ w'.heap[x]? = w.heap[x]? := by
 have H0 := Hid.mk h
 have HST := Hid.mk (fun W (hb : Below w.heap.size w W) => start_c (H0.out.later hb) R I va hn hva)
 have HL := Hid.mk (stL_lv h.wfm I va hn)
 have HT := Hid.mk (qei h.wfm hR I va hn)
 have HFR : Hid (∀ W (_ : Below w.heap.size w W), Calls Tryz.prog 98 #[.pointer (some ⟨a, 0, none⟩), .int .i64 (stL s I va hn), .int .u64 (stT s R I va hn : Nat), .int .u64 va] W fun e w' => e = .returned (.tuple #[.agg (lfR (wkO S s R I va hn).2).cs.toArray, .agg #[.int .i64 (ftR (wkO S s R I va hn).2).1, .int .i64 (ftR (wkO S s R I va hn).2).2]]) ∧ Below W.heap.size W w') := fun W hb => by
  obtain ⟨XM, XB, XT, tb, tr, pv, h⟩ := H0.out.later hb
  exact zP31x03
 have HEK : Hid (kK S most s R I va hn = s.K) := by show _ = _; unfold kK; rw [if_neg (by rw [hk]; decide)]
 have HEE : Hid (kE S most s R I va hn = s.E) := by show _ = _; unfold kE; rw [if_neg (by rw [hf, Bool.false_and]; decide)]
 have HWS : Hid (wdS S most s R I va hn = { s with E := kE S most s R I va hn, K := kK S most s R I va hn }) := rfl
 clear h hva hR
 generalize wdS S most s R I va hn = s' at *
 rw [HEE.out] at HWS
 rw [HEK.out] at HWS
 clear HEE
 generalize kE S most s R I va hn = E' at *
 generalize wkO S s R I va hn = wr at *
 generalize stL s I va hn = LV at *
 generalize stT s R I va hn = TV at *
 generalize lfR wr.2 = lf at *
 generalize ftR wr.2 = ft at *
 obtain ⟨L, r0⟩ := wr
 obtain ⟨l, k, o, u, r, y, q, t⟩ := lf
 obtain ⟨f1, f2⟩ := ft
 obtain ⟨hf', hl', hk'⟩ := hn
 simp only [Lf.cs] at *
 subst hk hf
 obtain ⟨W4, hW4, g0, g1, g2, g3, hB, hsz⟩ := hp4 w (.cells #[.int .u64 R, .int .i64 I] 106) (.cells #[.bool false, .bool hl', .bool false] 38) (.cells #[.int .i64 0, .int .i64 0, .int .u64 0, .bool false, .bool false, .bool false, .bool false, .int .i64 0] 112) (.cells #[.int .i64 0, .int .i64 0] 50)
 go_enter Tryz.func61, Tryz.ntmps61
 go_upto_region 1 with fail
 (try rw [hW4])
 clear hW4
 obtain ⟨c0, c1⟩ := TR.qaz g0
 obtain ⟨c2, c3, c4⟩ := qan g1
 go_wp2_with fail
 refine (HST.out _ hB).mono ?_
 rintro e w1 ⟨rfl, hb1⟩
 clear HST c0 c1 c2 c3 c4
 obtain ⟨g0, g1, g2, g3⟩ := bl4 hb1 g0 g1 g2 g3
 replace hB := qab hB hb1
 replace hsz : w.heap.size + 1 + 1 + 1 + 1 ≤ w1.heap.size := hsz ▸ hb1.size
 clear hb1
 obtain ⟨XM, XB, XT, tb, tr, pv, h1⟩ := H0.out.later hB
 obtain ⟨d0, d1, d2, -⟩ := row5 h1.row
 clear h1
 go_wp2_with fail
 refine (HFR.out _ hB).mono ?_
 rintro e w2 ⟨rfl, hb2⟩
 clear HFR d0 d1 d2
 obtain ⟨g0, g1, g2, g3⟩ := bl4 hb2 g0 g1 g2 g3
 replace hB := qab hB hb2
 replace hsz := Nat.le_trans hsz hb2.size
 clear hb2
 have g4 := qcf w2 (.cells #[.int .i64 l, .int .i64 k, .int .u64 o, .bool u, .bool r, .bool y, .bool q, .int .i64 t] 112) (.cells #[.int .i64 f1, .int .i64 f2] 50)
 have g5 := heap_alloc2_new w2 (.cells #[.int .i64 l, .int .i64 k, .int .u64 o, .bool u, .bool r, .bool y, .bool q, .int .i64 t] 112) (.cells #[.int .i64 f1, .int .i64 f2] 50)
 have hb3 := qbx w2 (.cells #[.int .i64 l, .int .i64 k, .int .u64 o, .bool u, .bool r, .bool y, .bool q, .int .i64 t] 112) (.cells #[.int .i64 f1, .int .i64 f2] 50)
 go_upto_region 3 with fail
 generalize (w2.alloc (.cells #[.int .i64 l, .int .i64 k, .int .u64 o, .bool u, .bool r, .bool y, .bool q, .int .i64 t] 112)).alloc (.cells #[.int .i64 f1, .int .i64 f2] 50) = w3 at *
 obtain ⟨g0, g1, g2, g3⟩ := bl4 hb3 g0 g1 g2 g3
 replace hB := qab hB hb3
 clear hb3
 generalize w2.heap.size = KL at *
 obtain ⟨h0, h2, h3⟩ := qan g1
 have hK5 := qag g5
 have nX : Hid (∀ i, w.heap.size ≤ i → ¬ X i) := fun i hi c => by have := H0.out.ltX i c; omega
 obtain ⟨⟨k0, k1, k2, k3, k4, k5, k6, k7⟩, -⟩ := qec g4
 obtain ⟨k8, k9⟩ := TR.qaz g5
 go_upto_region 7 with fail
 obtain ⟨k0, k1, k2, k3, k4⟩ := cl5 (Below.refl _ w3).drew k0 k1 k2 k3 k4
 obtain ⟨k5, k6, k7, k8, k9⟩ := cl5 (Below.refl _ w3).drew k5 k6 k7 k8 k9
 refine hd10 k0 k1 k2 k3 k4 k5 k6 k7 k8 k9 (h := fun hHeld => ?_)
 refine tk 0 75 (h := ?_)
 refine tk 1 76 (h := ?_)
 refine rd1 2 (h := fun K hK => ?_)
 refine qah rfl rfl 112 _ _ rfl (w.heap.size + 1 + 1) 0 _ #[.int .i64 l, .int .i64 k, .int .u64 o, .bool u, .bool r, .bool y, .bool q, .int .i64 t] rfl rfl rfl 112 _ (qaa (Below.refl _ w3).drew g2) (show 0 + 8 ≤ 8 by decide) qbd (by simp [Value.oneCell']) #[.int .i64 l, .int .i64 k, .int .u64 o, .bool u, .bool r, .bool y, .bool q, .int .i64 t] rfl ?_
 exact zP31x02
theorem walked_nfn (h : Mch w0 w X x a n S most s) (R I va : Nat) (hR : R < 281474976710656) (hn : Hn) (hva : va < 18446744073709551616) (hk : hn.keep = false) (hf : hn.fill = true) (hu : (lfR (wkO S s R I va hn).2).s = false) :
  Calls Tryz.prog 61 #[.pointer (some ⟨x, 0, none⟩), bsV R I, .int .u64 va, hn.v] w fun r w' => r = .returned (.tuple #[.agg (lfR (wkO S s R I va hn).2).cs.toArray, .agg #[.int .i64 (ftR (wkO S s R I va hn).2).1, .int .i64 (ftR (wkO S s R I va hn).2).2]]) ∧ Mch w0 w' (Gr X w w') x a n S most (wdS S most s R I va hn) ∧ Turn X w w' ∧ w'.heap[x]? = w.heap[x]? := by
 have H0 := Hid.mk h
 have HST := Hid.mk (fun W (hb : Below w.heap.size w W) => start_c (H0.out.later hb) R I va hn hva)
 have HL := Hid.mk (stL_lv h.wfm I va hn)
 have HT := Hid.mk (qei h.wfm hR I va hn)
 have HFR : Hid (∀ W (_ : Below w.heap.size w W), Calls Tryz.prog 98 #[.pointer (some ⟨a, 0, none⟩), .int .i64 (stL s I va hn), .int .u64 (stT s R I va hn : Nat), .int .u64 va] W fun e w' => e = .returned (.tuple #[.agg (lfR (wkO S s R I va hn).2).cs.toArray, .agg #[.int .i64 (ftR (wkO S s R I va hn).2).1, .int .i64 (ftR (wkO S s R I va hn).2).2]]) ∧ Below W.heap.size W w') := fun W hb => by
  obtain ⟨XM, XB, XT, tb, tr, pv, h⟩ := H0.out.later hb
  exact zP31x03
 have HEK : Hid (kK S most s R I va hn = s.K) := by show _ = _; unfold kK; rw [if_neg (by rw [hk]; decide)]
 have HEE : Hid (kE S most s R I va hn = s.E) := by show _ = _; unfold kE; rw [if_neg (by rw [hf, hu]; decide)]
 have HWS : Hid (wdS S most s R I va hn = { s with E := kE S most s R I va hn, K := kK S most s R I va hn }) := rfl
 clear h hva hR
 generalize wdS S most s R I va hn = s' at *
 rw [HEE.out] at HWS
 rw [HEK.out] at HWS
 clear HEE
 generalize kE S most s R I va hn = E' at *
 generalize wkO S s R I va hn = wr at *
 generalize stL s I va hn = LV at *
 generalize stT s R I va hn = TV at *
 generalize lfR wr.2 = lf at *
 generalize ftR wr.2 = ft at *
 obtain ⟨L, r0⟩ := wr
 obtain ⟨l, k, o, u, r, y, q, t⟩ := lf
 obtain ⟨f1, f2⟩ := ft
 obtain ⟨hf', hl', hk'⟩ := hn
 simp only [Lf.cs] at *
 subst hk hf hu
 obtain ⟨W4, hW4, g0, g1, g2, g3, hB, hsz⟩ := hp4 w (.cells #[.int .u64 R, .int .i64 I] 106) (.cells #[.bool true, .bool hl', .bool false] 38) (.cells #[.int .i64 0, .int .i64 0, .int .u64 0, .bool false, .bool false, .bool false, .bool false, .int .i64 0] 112) (.cells #[.int .i64 0, .int .i64 0] 50)
 go_enter Tryz.func61, Tryz.ntmps61
 go_upto_region 1 with fail
 (try rw [hW4])
 clear hW4
 obtain ⟨c0, c1⟩ := TR.qaz g0
 obtain ⟨c2, c3, c4⟩ := qan g1
 go_wp2_with fail
 refine (HST.out _ hB).mono ?_
 rintro e w1 ⟨rfl, hb1⟩
 clear HST c0 c1 c2 c3 c4
 obtain ⟨g0, g1, g2, g3⟩ := bl4 hb1 g0 g1 g2 g3
 replace hB := qab hB hb1
 replace hsz : w.heap.size + 1 + 1 + 1 + 1 ≤ w1.heap.size := hsz ▸ hb1.size
 clear hb1
 obtain ⟨XM, XB, XT, tb, tr, pv, h1⟩ := H0.out.later hB
 obtain ⟨d0, d1, d2, -⟩ := row5 h1.row
 clear h1
 go_wp2_with fail
 refine (HFR.out _ hB).mono ?_
 rintro e w2 ⟨rfl, hb2⟩
 clear HFR d0 d1 d2
 obtain ⟨g0, g1, g2, g3⟩ := bl4 hb2 g0 g1 g2 g3
 replace hB := qab hB hb2
 replace hsz := Nat.le_trans hsz hb2.size
 clear hb2
 have g4 := qcf w2 (.cells #[.int .i64 l, .int .i64 k, .int .u64 o, .bool u, .bool r, .bool y, .bool false, .int .i64 t] 112) (.cells #[.int .i64 f1, .int .i64 f2] 50)
 have g5 := heap_alloc2_new w2 (.cells #[.int .i64 l, .int .i64 k, .int .u64 o, .bool u, .bool r, .bool y, .bool false, .int .i64 t] 112) (.cells #[.int .i64 f1, .int .i64 f2] 50)
 have hb3 := qbx w2 (.cells #[.int .i64 l, .int .i64 k, .int .u64 o, .bool u, .bool r, .bool y, .bool false, .int .i64 t] 112) (.cells #[.int .i64 f1, .int .i64 f2] 50)
 go_upto_region 3 with fail
 generalize (w2.alloc (.cells #[.int .i64 l, .int .i64 k, .int .u64 o, .bool u, .bool r, .bool y, .bool false, .int .i64 t] 112)).alloc (.cells #[.int .i64 f1, .int .i64 f2] 50) = w3 at *
 obtain ⟨g0, g1, g2, g3⟩ := bl4 hb3 g0 g1 g2 g3
 replace hB := qab hB hb3
 clear hb3
 generalize w2.heap.size = KL at *
 obtain ⟨h0, h2, h3⟩ := qan g1
 have hK5 := qag g5
 have nX : Hid (∀ i, w.heap.size ≤ i → ¬ X i) := fun i hi c => by have := H0.out.ltX i c; omega
 obtain ⟨⟨k0, k1, k2, k3, k4, k5, k6, k7⟩, -⟩ := qec g4
 obtain ⟨k8, k9⟩ := TR.qaz g5
 go_upto_region 7 with fail
 obtain ⟨k0, k1, k2, k3, k4⟩ := cl5 (Below.refl _ w3).drew k0 k1 k2 k3 k4
 obtain ⟨k5, k6, k7, k8, k9⟩ := cl5 (Below.refl _ w3).drew k5 k6 k7 k8 k9
 refine hd10 k0 k1 k2 k3 k4 k5 k6 k7 k8 k9 (h := fun hHeld => ?_)
 refine tk 0 75 (h := ?_)
 refine tk 1 76 (h := ?_)
 refine rd1 2 (h := fun K hK => ?_)
 refine qah rfl rfl 112 _ _ rfl (w.heap.size + 1 + 1) 0 _ #[.int .i64 l, .int .i64 k, .int .u64 o, .bool u, .bool r, .bool y, .bool false, .int .i64 t] rfl rfl rfl 112 _ (qaa (Below.refl _ w3).drew g2) (show 0 + 8 ≤ 8 by decide) qbd (by simp [Value.oneCell']) #[.int .i64 l, .int .i64 k, .int .u64 o, .bool u, .bool r, .bool y, .bool false, .int .i64 t] rfl ?_
 exact zP31x02
theorem walked_nfu (h : Mch w0 w X x a n S most s) (R I va : Nat) (hR : R < 281474976710656) (hn : Hn) (hva : va < 18446744073709551616) (hk : hn.keep = false) (hf : hn.fill = true) (hu : (lfR (wkO S s R I va hn).2).s = true) :
  Calls Tryz.prog 61 #[.pointer (some ⟨x, 0, none⟩), bsV R I, .int .u64 va, hn.v] w fun r w' => r = .returned (.tuple #[.agg (lfR (wkO S s R I va hn).2).cs.toArray, .agg #[.int .i64 (ftR (wkO S s R I va hn).2).1, .int .i64 (ftR (wkO S s R I va hn).2).2]]) ∧ Mch w0 w' (Gr X w w') x a n S most (wdS S most s R I va hn) ∧ Turn X w w' ∧ w'.heap[x]? = w.heap[x]? := by
 have H0 := Hid.mk h
 have HST := Hid.mk (fun W (hb : Below w.heap.size w W) => start_c (H0.out.later hb) R I va hn hva)
 have HL := Hid.mk (stL_lv h.wfm I va hn)
 have HT := Hid.mk (qei h.wfm hR I va hn)
 have HFR : Hid (∀ W (_ : Below w.heap.size w W), Calls Tryz.prog 98 #[.pointer (some ⟨a, 0, none⟩), .int .i64 (stL s I va hn), .int .u64 (stT s R I va hn : Nat), .int .u64 va] W fun e w' => e = .returned (.tuple #[.agg (lfR (wkO S s R I va hn).2).cs.toArray, .agg #[.int .i64 (ftR (wkO S s R I va hn).2).1, .int .i64 (ftR (wkO S s R I va hn).2).2]]) ∧ Below W.heap.size W w') := fun W hb => by
  obtain ⟨XM, XB, XT, tb, tr, pv, h⟩ := H0.out.later hb
  exact zP31x03
 have HEK : Hid (kK S most s R I va hn = s.K) := by show _ = _; unfold kK; rw [if_neg (by rw [hk]; decide)]
 have HEE : Hid (kE S most s R I va hn = TB.qbt s.E most ((lfR (wkO S s R I va hn).2).en I va)) := by show _ = _; unfold kE; rw [if_pos (by rw [hf, hu]; rfl)]
 have HEO := Hid.mk (en_ok (wkO S s R I va hn).2 I va)
 have HBA := Hid.mk (fun W => qfd va (lfR (wkO S s R I va hn).2).l hva W)
 have HWS : Hid (wdS S most s R I va hn = { s with E := kE S most s R I va hn, K := kK S most s R I va hn }) := rfl
 clear h hva hR
 generalize wdS S most s R I va hn = s' at *
 rw [HEE.out] at HWS
 rw [HEK.out] at HWS
 clear HEE
 generalize kE S most s R I va hn = E' at *
 generalize wkO S s R I va hn = wr at *
 generalize stL s I va hn = LV at *
 generalize stT s R I va hn = TV at *
 generalize lfR wr.2 = lf at *
 generalize ftR wr.2 = ft at *
 obtain ⟨L, r0⟩ := wr
 obtain ⟨l, k, o, u, r, y, q, t⟩ := lf
 obtain ⟨f1, f2⟩ := ft
 obtain ⟨hf', hl', hk'⟩ := hn
 simp only [Lf.cs, Lf.en] at *
 subst hk hf hu
 obtain ⟨W4, hW4, g0, g1, g2, g3, hB, hsz⟩ := hp4 w (.cells #[.int .u64 R, .int .i64 I] 106) (.cells #[.bool true, .bool hl', .bool false] 38) (.cells #[.int .i64 0, .int .i64 0, .int .u64 0, .bool false, .bool false, .bool false, .bool false, .int .i64 0] 112) (.cells #[.int .i64 0, .int .i64 0] 50)
 go_enter Tryz.func61, Tryz.ntmps61
 go_upto_region 1 with fail
 (try rw [hW4])
 clear hW4
 obtain ⟨c0, c1⟩ := TR.qaz g0
 obtain ⟨c2, c3, c4⟩ := qan g1
 go_wp2_with fail
 refine (HST.out _ hB).mono ?_
 rintro e w1 ⟨rfl, hb1⟩
 clear HST c0 c1 c2 c3 c4
 obtain ⟨g0, g1, g2, g3⟩ := bl4 hb1 g0 g1 g2 g3
 replace hB := qab hB hb1
 replace hsz : w.heap.size + 1 + 1 + 1 + 1 ≤ w1.heap.size := hsz ▸ hb1.size
 clear hb1
 obtain ⟨XM, XB, XT, tb, tr, pv, h1⟩ := H0.out.later hB
 obtain ⟨d0, d1, d2, -⟩ := row5 h1.row
 clear h1
 go_wp2_with fail
 refine (HFR.out _ hB).mono ?_
 rintro e w2 ⟨rfl, hb2⟩
 clear HFR d0 d1 d2
 obtain ⟨g0, g1, g2, g3⟩ := bl4 hb2 g0 g1 g2 g3
 replace hB := qab hB hb2
 replace hsz := Nat.le_trans hsz hb2.size
 clear hb2
 have g4 := qcf w2 (.cells #[.int .i64 l, .int .i64 k, .int .u64 o, .bool u, .bool r, .bool y, .bool true, .int .i64 t] 112) (.cells #[.int .i64 f1, .int .i64 f2] 50)
 have g5 := heap_alloc2_new w2 (.cells #[.int .i64 l, .int .i64 k, .int .u64 o, .bool u, .bool r, .bool y, .bool true, .int .i64 t] 112) (.cells #[.int .i64 f1, .int .i64 f2] 50)
 have hb3 := qbx w2 (.cells #[.int .i64 l, .int .i64 k, .int .u64 o, .bool u, .bool r, .bool y, .bool true, .int .i64 t] 112) (.cells #[.int .i64 f1, .int .i64 f2] 50)
 go_upto_region 3 with fail
 generalize (w2.alloc (.cells #[.int .i64 l, .int .i64 k, .int .u64 o, .bool u, .bool r, .bool y, .bool true, .int .i64 t] 112)).alloc (.cells #[.int .i64 f1, .int .i64 f2] 50) = w3 at *
 obtain ⟨g0, g1, g2, g3⟩ := bl4 hb3 g0 g1 g2 g3
 replace hB := qab hB hb3
 clear hb3
 generalize w2.heap.size = KL at *
 obtain ⟨h0, h2, h3⟩ := qan g1
 have hK5 := qag g5
 have nX : Hid (∀ i, w.heap.size ≤ i → ¬ X i) := fun i hi c => by have := H0.out.ltX i c; omega
 have HM3 := Hid.mk (H0.out.later hB)
 obtain ⟨XM, XB, XT, tb, tr, pv, hm⟩ := HM3.out
 have HM := Hid.mk hm
 obtain ⟨-, k0, -⟩ := row5 hm.row
 have k1 := (TR.qaz g0).2
 obtain ⟨⟨k2, k3, k4, k5, k6, k7, k8, k9⟩, -⟩ := qec g4
 clear hm
 go_upto_region 6 with fail
 obtain ⟨k0, k1, k2, k3, k4⟩ := cl5 (Below.refl _ w3).drew k0 k1 k2 k3 k4
 obtain ⟨k5, k6, k7, k8, k9⟩ := cl5 (Below.refl _ w3).drew k5 k6 k7 k8 k9
 refine hd10 k0 k1 k2 k3 k4 k5 k6 k7 k8 k9 (h := fun hHeld => ?_)
 refine tk 0 59 (h := ?_)
 refine tk 1 60 (h := ?_)
 refine tk 2 61 (h := ?_)
 refine tk 3 62 (h := ?_)
 refine tk 4 63 (h := ?_)
 refine tk 5 64 (h := ?_)
 refine tk 6 65 (h := ?_)
 refine tk 7 66 (h := ?_)
 refine tk 8 67 (h := ?_)
 refine tk 10 69 (h := ?_)
 refine tk 11 70 (h := ?_)
 refine tk 12 71 (h := ?_)
 refine tk 13 72 (h := ?_)
 refine rd1 9 (h := fun K hK => ?_)
 go_simp
 refine (HBA.out _).mono ?_
 rintro e w7 ⟨rfl, rfl⟩
 go_wp2_with fail
 refine hK.out _ _ ⟨k0, k1, k2, k3, k4, k5, k6, k7, k8, k9⟩ (fun hHeld1 => ?_)
 clear hK
 try simp only [Act.put, sq]
 refine tk 14 73 (h := ?_)
 have nX8 : Hid (∀ i, w.heap.size ≤ i → i < w3.heap.size → ¬ X i) := fun i hi hj c => nX.out i hi c
 refine rd1 15 (h := fun K hK => ?_)
 go_simp
 refine ((HM.out.later (Below.refl _ w3).drew).fillE ⟨(I : Int), qbn va l, l, k, o, u, r, y, true, t⟩ HEO.out).mono ?_
 rintro e w8 ⟨⟨kk8, rfl⟩, hM8, hT8, hx8⟩
 go_wp2_with fail
 replace k0 := (World.cell?_of_block (a := ⟨x, 1, none⟩) hx8).trans k0
 replace k1 := TR.qam hT8 (nX8.out _ (by omega) (by omega)) k1
 replace k2 := TR.qam hT8 (nX8.out _ (by omega) (by omega)) k2
 replace k3 := TR.qam hT8 (nX8.out _ (by omega) (by omega)) k3
 replace k4 := TR.qam hT8 (nX8.out _ (by omega) (by omega)) k4
 replace k5 := TR.qam hT8 (nX8.out _ (by omega) (by omega)) k5
 replace k6 := TR.qam hT8 (nX8.out _ (by omega) (by omega)) k6
 replace k7 := TR.qam hT8 (nX8.out _ (by omega) (by omega)) k7
 replace k8 := TR.qam hT8 (nX8.out _ (by omega) (by omega)) k8
 replace k9 := TR.qam hT8 (nX8.out _ (by omega) (by omega)) k9
 refine hK.out _ _ ⟨k0, k1, k2, k3, k4, k5, k6, k7, k8, k9⟩ (fun hHeld2 => ?_)
 have HX8 := Hid.mk hx8
 clear hK k0 k1 k2 k3 k4 k5 k6 k7 k8 k9 hx8 HM
 try simp only [Act.put, sq]
 refine wpAnyH_done (by kernel_rfl) ?_ _
 refine NoPanic.normal ?_
 replace g0 := (hT8.block _ (qag g0) (nX8.out _ (by omega) (by omega))).trans g0
 replace g1 := (hT8.block _ (qag g1) (nX8.out _ (by omega) (by omega))).trans g1
 replace g2 := (hT8.block _ (qag g2) (nX8.out _ (by omega) (by omega))).trans g2
 replace g3 := (hT8.block _ (qag g3) (nX8.out _ (by omega) (by omega))).trans g3
 replace g4 := (hT8.block _ (qag g4) (nX8.out _ (by omega) (by omega))).trans g4
 replace g5 := (hT8.block _ (qag g5) (nX8.out _ (by omega) (by omega))).trans g5
 have HM8 := Hid.mk hM8
 have HT8 := Hid.mk hT8
 clear hM8 hT8
 obtain ⟨⟨k0, k1, k2, k3, k4, k5, k6, k7⟩, -⟩ := qec g4
 obtain ⟨k8, k9⟩ := TR.qaz g5
 go_upto_region 7 with fail
 obtain ⟨k0, k1, k2, k3, k4⟩ := cl5 (Below.refl _ w8).drew k0 k1 k2 k3 k4
 obtain ⟨k5, k6, k7, k8, k9⟩ := cl5 (Below.refl _ w8).drew k5 k6 k7 k8 k9
 refine hd10 k0 k1 k2 k3 k4 k5 k6 k7 k8 k9 (h := fun hHeld => ?_)
 refine tk 0 75 (h := ?_)
 refine tk 1 76 (h := ?_)
 refine rd1 2 (h := fun K hK => ?_)
 refine qah rfl rfl 112 _ _ rfl (w.heap.size + 1 + 1) 0 _ #[.int .i64 l, .int .i64 k, .int .u64 o, .bool u, .bool r, .bool y, .bool true, .int .i64 t] rfl rfl rfl 112 _ (qaa (Below.refl _ w8).drew g2) (show 0 + 8 ≤ 8 by decide) qbd (by simp [Value.oneCell']) #[.int .i64 l, .int .i64 k, .int .u64 o, .bool u, .bool r, .bool y, .bool true, .int .i64 t] rfl ?_
 intro wa hrwa htwa
 obtain ⟨k0, k1, k2, k3, k4⟩ := tc5 htwa k0 k1 k2 k3 k4
 obtain ⟨k5, k6, k7, k8, k9⟩ := tc5 htwa k5 k6 k7 k8 k9
 replace g3 := qae htwa (qaa (Below.refl _ w8).drew g3) (by omega)
 refine hK.out _ _ ⟨k0, k1, k2, k3, k4, k5, k6, k7, k8, k9⟩ (fun hHeldwa => ?_)
 clear hK
 try simp only [Act.put, sq]
 refine rd1 3 (h := fun K hK => ?_)
 refine qah rfl rfl 50 _ _ rfl (w.heap.size + 1 + 1 + 1) 0 _ #[.int .i64 f1, .int .i64 f2] rfl rfl rfl 50 _ g3 (show 0 + 2 ≤ 2 by decide) qap (by simp [Value.oneCell']) #[.int .i64 f1, .int .i64 f2] rfl ?_
 intro wb hrwb htwb
 obtain ⟨k0, k1, k2, k3, k4⟩ := tc5 htwb k0 k1 k2 k3 k4
 obtain ⟨k5, k6, k7, k8, k9⟩ := tc5 htwb k5 k6 k7 k8 k9
 replace hrwa := qae htwb hrwa (by omega)
 refine hK.out _ _ ⟨k0, k1, k2, k3, k4, k5, k6, k7, k8, k9⟩ (fun hHeldwb => ?_)
 clear hK
 try simp only [Act.put, sq]
 refine wpAnyH_done (by kernel_rfl) ?_ _
 refine NoPanic.normal ?_
 clear k0 k1 k2 k3 k4 k5 k6 k7 k8 k9
 go_wp2
 refine bodyPost_ret (qas rfl _ _ (w.heap.size + 1 + 1) (w.heap.size + 1 + 1 + 1) _ _ _ _ _ _ _ _ rfl hrwa Tryz.underlying112 rfl qbd rfl hrwb Tryz.underlying50 rfl qap) rfl ⟨rfl, ?_⟩
 rw [HWS.out]
 have hTT : Turn (fun i => i = w.heap.size + 1 + 1 ∨ i = w.heap.size + 1 + 1 + 1) w8.drew wb := ((qak _ (Below.refl _ _)).trans htwa (fun i _ hi => Or.inl hi)).trans htwb (fun i _ hi => Or.inr hi)
 have e1 := hsz
 have hTw := ((qak X hB).trans (qak X (Below.refl _ _).drew) (fun _ _ h => h)).trans HT8.out (fun _ _ h => h)
 have hxw : x < w.heap.size := H0.out.ltX x (by obtain ⟨_, _, _, _, _, _, h⟩ := H0.out; exact h.cx)
 have hdx : ∀ W : World, x < W.heap.size → W.drew.heap[x]? = W.heap[x]? := fun W hx => (Below.refl W.heap.size W).drew.block x hx
 have hxx : wb.heap[x]? = w.heap[x]? := by
  have hxa : x < w8.heap.size := by have e : w8.drew.heap.size = w8.heap.size := rfl; have := hTw.size; omega
  have ea := hTT.block x hxa (fun c => by rcases c with c | c <;> omega)
  exact (ea.trans (hdx w8 hxa)).trans ((HX8.out.trans (hdx w3 (by have := hB.size; omega))).trans (hB.block x hxw))
 refine and_mid hxx ?_
 refine H0.out.fin HM8.out (Below.refl _ _).drew hTT (fun i hi => ?_) (fun i hi => ?_) hTw
 ·skip
  rcases hi with hi | hi
  ·exact Or.inl hi
  ·exact Or.inr (by have e : w3.drew.heap.size = w3.heap.size := rfl; omega)
 ·have h1 : w.heap.size ≤ i := by rcases hi with hi | hi <;> omega
  have h2 : i < w.heap.size + 1 + 1 + 1 + 1 := by rcases hi with hi | hi <;> omega
  refine ⟨h1, fun c => ?_⟩
  ·skip
   rcases c with c | c
   ·exact nX.out i h1 c
   ·have e : w3.drew.heap.size = w3.heap.size := rfl
    omega
theorem zP31x01 {Z : Prop} (z : Z := by
 intro wa hrwa htwa
 obtain ⟨k0, k1, k2, k3, k4⟩ := tc5 htwa k0 k1 k2 k3 k4
 obtain ⟨k5, k6, k7, k8, k9⟩ := tc5 htwa k5 k6 k7 k8 k9
 replace g3 := qae htwa (qaa (Below.refl _ w6).drew g3) (by omega)
 refine hK.out _ _ ⟨k0, k1, k2, k3, k4, k5, k6, k7, k8, k9⟩ (fun hHeldwa => ?_)
 clear hK
 try simp only [Act.put, sq]
 refine rd1 3 (h := fun K hK => ?_)
 refine qah rfl rfl 50 _ _ rfl (w.heap.size + 1 + 1 + 1) 0 _ #[.int .i64 f1, .int .i64 f2] rfl rfl rfl 50 _ g3 (show 0 + 2 ≤ 2 by decide) qap (by simp [Value.oneCell']) #[.int .i64 f1, .int .i64 f2] rfl ?_
 intro wb hrwb htwb
 obtain ⟨k0, k1, k2, k3, k4⟩ := tc5 htwb k0 k1 k2 k3 k4
 obtain ⟨k5, k6, k7, k8, k9⟩ := tc5 htwb k5 k6 k7 k8 k9
 replace hrwa := qae htwb hrwa (by omega)
 refine hK.out _ _ ⟨k0, k1, k2, k3, k4, k5, k6, k7, k8, k9⟩ (fun hHeldwb => ?_)
 clear hK
 try simp only [Act.put, sq]
 refine wpAnyH_done (by kernel_rfl) ?_ _
 refine NoPanic.normal ?_
 clear k0 k1 k2 k3 k4 k5 k6 k7 k8 k9
 go_wp2
 refine bodyPost_ret (qas rfl _ _ (w.heap.size + 1 + 1) (w.heap.size + 1 + 1 + 1) _ _ _ _ _ _ _ _ rfl hrwa Tryz.underlying112 rfl qbd rfl hrwb Tryz.underlying50 rfl qap) rfl ⟨rfl, ?_⟩
 rw [HWS.out]
 have hTT : Turn (fun i => i = w.heap.size + 1 + 1 ∨ i = w.heap.size + 1 + 1 + 1) w6.drew wb := ((qak _ (Below.refl _ _)).trans htwa (fun i _ hi => Or.inl hi)).trans htwb (fun i _ hi => Or.inr hi)
 have e1 := hsz
 have hT1 := (qak X HBD.out.1).trans HT6.out (fun _ _ h => h)
 have e2 := HBD.out.2
 have hTw := hT1
 have hxw : x < w.heap.size := H0.out.ltX x (by obtain ⟨_, _, _, _, _, _, h⟩ := H0.out; exact h.cx)
 have hdx : ∀ W : World, x < W.heap.size → W.drew.heap[x]? = W.heap[x]? := fun W hx => (Below.refl W.heap.size W).drew.block x hx
 have hxx : wb.heap[x]? = w.heap[x]? := by
  have hxa : x < w6.heap.size := by have e : w6.drew.heap.size = w6.heap.size := rfl; have := hTw.size; omega
  have ea := hTT.block x hxa (fun c => by rcases c with c | c <;> omega)
  exact (ea.trans (hdx w6 hxa)).trans ((HX6.out).trans (HBD.out.1.block x hxw))
 refine and_mid hxx ?_
 refine H0.out.fin HM6.out (Below.refl _ _).drew hTT (fun i hi => ?_) (fun i hi => ?_) hTw
 ·skip
  rcases hi with hi | hi
  ·exact Or.inl hi
  ·exact Or.inr (by have := HBD.out.1.size; omega)
 ·have h1 : w.heap.size ≤ i := by rcases hi with hi | hi <;> omega
  have h2 : i < w.heap.size + 1 + 1 + 1 + 1 := by rcases hi with hi | hi <;> omega
  refine ⟨h1, fun c => ?_⟩
  ·skip
   rcases c with c | c
   ·exact nX.out i h1 c
   ·omega) : Z := z
theorem zP31x04 {Z : Prop} (z : Z := by
 obtain ⟨XM, XB, XT, tb, tr, pv, h⟩ := H0.out.later hb
 refine (trace_any (stL s I va hn) (stT s R I va hn) va HT.out h.mem h.fld.t.d).mono ?_
 rintro e w' ⟨v, rfl, hp, hb⟩
 obtain ⟨p, cap, rfl, -⟩ := hp.form
 exact ⟨p, cap, rfl, hp, hb⟩) : Z := z
theorem walked_kn (h : Mch w0 w X x a n S most s) (R I va : Nat) (hR : R < 281474976710656) (hn : Hn) (hva : va < 18446744073709551616) (hk : hn.keep = true) (hf : hn.fill = false) :
  Calls Tryz.prog 61 #[.pointer (some ⟨x, 0, none⟩), bsV R I, .int .u64 va, hn.v] w fun r w' => r = .returned (.tuple #[.agg (lfR (wkO S s R I va hn).2).cs.toArray, .agg #[.int .i64 (ftR (wkO S s R I va hn).2).1, .int .i64 (ftR (wkO S s R I va hn).2).2]]) ∧ Mch w0 w' (Gr X w w') x a n S most (wdS S most s R I va hn) ∧ Turn X w w' ∧ w'.heap[x]? = w.heap[x]? := by
 have H0 := Hid.mk h
 have HST := Hid.mk (fun W (hb : Below w.heap.size w W) => start_c (H0.out.later hb) R I va hn hva)
 have HL := Hid.mk (stL_lv h.wfm I va hn)
 have HT := Hid.mk (qei h.wfm hR I va hn)
 have HFR : Hid (∀ W (_ : Below w.heap.size w W), Calls Tryz.prog 98 #[.pointer (some ⟨a, 0, none⟩), .int .i64 (stL s I va hn), .int .u64 (stT s R I va hn : Nat), .int .u64 va] W fun e w' => e = .returned (.tuple #[.agg (lfR (wkO S s R I va hn).2).cs.toArray, .agg #[.int .i64 (ftR (wkO S s R I va hn).2).1, .int .i64 (ftR (wkO S s R I va hn).2).2]]) ∧ Below W.heap.size W w') := fun W hb => by
  obtain ⟨XM, XB, XT, tb, tr, pv, h⟩ := H0.out.later hb
  exact zP31x03
 have HTR : Hid (∀ W (_ : Below w.heap.size w W), Calls Tryz.prog 82 #[.pointer (some ⟨a, 0, none⟩), .int .i64 (stL s I va hn), .int .u64 (stT s R I va hn : Nat), .int .u64 va] W fun e w' => ∃ p cap, e = .returned (.slice p (wkO S s R I va hn).1.length cap) ∧ Psl w' (fun g => W.heap.size ≤ g) (.slice p (wkO S s R I va hn).1.length cap) (wkO S s R I va hn).1 ∧ Below W.heap.size W w') := fun W hb => by
  exact zP31x04
 have HWK : Hid (∀ W XM XB XT tb tr pv (h : MchV w0 W X XM XB XT x a tb tr n S most s pv) (p : Option Addr) (cap : Nat), Psl W (fun g => ¬ X g) (.slice p (wkO S s R I va hn).1.length cap) (wkO S s R I va hn).1 →
  Calls Tryz.prog 99 #[.pointer (some ⟨tr, 0, none⟩), .int .i64 I, .int .u64 va, .int .i64 (stL s I va hn), .slice p (wkO S s R I va hn).1.length cap] W fun r w' => (∃ k : Int, r = .returned (.int .i64 k)) ∧ Mch w0 w' (Gr X W w') x a n S most { s with K := kK S most s R I va hn } ∧ Turn X W w' ∧ w'.heap[x]? = W.heap[x]?) := fun W XM XB XT tb tr pv h p cap hp => by
  have e : kK S most s R I va hn = TR.wdL most (I : Int) va (stL s I va hn) (fun j => (wkO S s R I va hn).1[j]!.2) s.K (tkn (stL s I va hn) (wkO S s R I va hn).1) := by unfold kK; rw [if_pos hk]
  rw [e]
  exact h.walked I va hva (stL s I va hn) HL.out.1 HL.out.2 (stT s R I va hn) p cap hp
 have HEE : Hid (kE S most s R I va hn = s.E) := by show _ = _; unfold kE; rw [if_neg (by rw [hf, Bool.false_and]; decide)]
 have HWS : Hid (wdS S most s R I va hn = { s with E := kE S most s R I va hn, K := kK S most s R I va hn }) := rfl
 clear h hva hR
 generalize wdS S most s R I va hn = s' at *
 rw [HEE.out] at HWS
 generalize kK S most s R I va hn = K' at *
 clear HEE
 generalize kE S most s R I va hn = E' at *
 generalize wkO S s R I va hn = wr at *
 generalize stL s I va hn = LV at *
 generalize stT s R I va hn = TV at *
 generalize lfR wr.2 = lf at *
 generalize ftR wr.2 = ft at *
 obtain ⟨L, r0⟩ := wr
 obtain ⟨l, k, o, u, r, y, q, t⟩ := lf
 obtain ⟨f1, f2⟩ := ft
 obtain ⟨hf', hl', hk'⟩ := hn
 simp only [Lf.cs] at *
 subst hk hf
 obtain ⟨W4, hW4, g0, g1, g2, g3, hB, hsz⟩ := hp4 w (.cells #[.int .u64 R, .int .i64 I] 106) (.cells #[.bool false, .bool hl', .bool true] 38) (.cells #[.int .i64 0, .int .i64 0, .int .u64 0, .bool false, .bool false, .bool false, .bool false, .int .i64 0] 112) (.cells #[.int .i64 0, .int .i64 0] 50)
 go_enter Tryz.func61, Tryz.ntmps61
 go_upto_region 1 with fail
 (try rw [hW4])
 clear hW4
 obtain ⟨c0, c1⟩ := TR.qaz g0
 obtain ⟨c2, c3, c4⟩ := qan g1
 go_wp2_with fail
 refine (HST.out _ hB).mono ?_
 rintro e w1 ⟨rfl, hb1⟩
 clear HST c0 c1 c2 c3 c4
 obtain ⟨g0, g1, g2, g3⟩ := bl4 hb1 g0 g1 g2 g3
 replace hB := qab hB hb1
 replace hsz : w.heap.size + 1 + 1 + 1 + 1 ≤ w1.heap.size := hsz ▸ hb1.size
 clear hb1
 obtain ⟨XM, XB, XT, tb, tr, pv, h1⟩ := H0.out.later hB
 obtain ⟨d0, d1, d2, -⟩ := row5 h1.row
 clear h1
 go_wp2_with fail
 refine (HFR.out _ hB).mono ?_
 rintro e w2 ⟨rfl, hb2⟩
 clear HFR d0 d1 d2
 obtain ⟨g0, g1, g2, g3⟩ := bl4 hb2 g0 g1 g2 g3
 replace hB := qab hB hb2
 replace hsz := Nat.le_trans hsz hb2.size
 clear hb2
 have g4 := qcf w2 (.cells #[.int .i64 l, .int .i64 k, .int .u64 o, .bool u, .bool r, .bool y, .bool q, .int .i64 t] 112) (.cells #[.int .i64 f1, .int .i64 f2] 50)
 have g5 := heap_alloc2_new w2 (.cells #[.int .i64 l, .int .i64 k, .int .u64 o, .bool u, .bool r, .bool y, .bool q, .int .i64 t] 112) (.cells #[.int .i64 f1, .int .i64 f2] 50)
 have hb3 := qbx w2 (.cells #[.int .i64 l, .int .i64 k, .int .u64 o, .bool u, .bool r, .bool y, .bool q, .int .i64 t] 112) (.cells #[.int .i64 f1, .int .i64 f2] 50)
 go_upto_region 3 with fail
 generalize (w2.alloc (.cells #[.int .i64 l, .int .i64 k, .int .u64 o, .bool u, .bool r, .bool y, .bool q, .int .i64 t] 112)).alloc (.cells #[.int .i64 f1, .int .i64 f2] 50) = w3 at *
 obtain ⟨g0, g1, g2, g3⟩ := bl4 hb3 g0 g1 g2 g3
 replace hB := qab hB hb3
 clear hb3
 generalize w2.heap.size = KL at *
 obtain ⟨h0, h2, h3⟩ := qan g1
 have hK5 := qag g5
 have nX : Hid (∀ i, w.heap.size ≤ i → ¬ X i) := fun i hi c => by have := H0.out.ltX i c; omega
 obtain ⟨XM, XB, XT, tb, tr, pv, hm⟩ := H0.out.later hB
 have HM := Hid.mk hm
 obtain ⟨k0, -, k1, -⟩ := row5 hm.row
 have k2 := (TR.qaz g0).2
 clear hm
 go_upto_region 4 with fail
 obtain ⟨k0, k1, k2⟩ := cl3 (Below.refl _ w3).drew k0 k1 k2
 refine hd3 k0 k1 k2 (h := fun hHeld => ?_)
 refine tk 0 35 (h := ?_)
 refine tk 1 36 (h := ?_)
 refine tk 2 37 (h := ?_)
 refine tk 3 38 (h := ?_)
 refine tk 4 39 (h := ?_)
 refine tk 5 40 (h := ?_)
 refine tk 6 41 (h := ?_)
 refine tk 7 42 (h := ?_)
 refine tk 8 43 (h := ?_)
 refine tk 9 44 (h := ?_)
 refine tk 10 45 (h := ?_)
 refine tk 11 46 (h := ?_)
 refine tk 12 47 (h := ?_)
 refine tk 13 48 (h := ?_)
 refine tk 14 49 (h := ?_)
 refine rd1 15 (h := fun K hK => ?_)
 go_simp
 refine (HTR.out _ hB.drew).mono ?_
 rintro e w5 ⟨p, cap, rfl, hp, hb5⟩
 go_wp2_with fail
 obtain ⟨k0, k1, k2⟩ := cl3 hb5 k0 k1 k2
 refine hK.out _ _ ⟨k0, k1, k2⟩ (fun hHeld1 => ?_)
 clear hK HTR
 try simp only [Act.put, sq]
 have hb35 := qab ((Below.refl _ w3).drew) hb5
 obtain ⟨g0, g1, g2⟩ := bl3 hb35 g0 g1 g2
 obtain ⟨g3, g4, g5⟩ := bl3 hb35 g3 g4 g5
 have HM5 := Hid.mk (HM.out.later hb35)
 have hB5 := qab hB hb35
 have hs35 := hb35.size
 have hp5 : Psl w5 (fun g => ¬ X g) (.slice p L.length cap) L := hp.mono (fun g hg c => by have := HM.out.lt g c; have e : w3.drew.heap.size = w3.heap.size := rfl; rw [e] at hg; omega)
 clear hb5 hp HM
 refine rd1 16 (h := fun K hK => ?_)
 go_simp
 refine (HWK.out _ _ _ _ _ _ _ HM5.out p cap hp5).mono ?_
 rintro e w6 ⟨⟨kk, rfl⟩, hM6, hT6, hx6⟩
 go_wp2_with fail
 replace k0 := (World.cell?_of_block (a := ⟨x, 0, none⟩) hx6).trans k0
 replace k1 := (World.cell?_of_block (a := ⟨x, 2, none⟩) hx6).trans k1
 replace k2 := TR.qam hT6 (nX.out _ (Nat.le_refl _)) k2
 refine hK.out _ _ ⟨k0, k1, k2⟩ (fun hHeld2 => ?_)
 have HX6 := Hid.mk hx6
 clear hK HWK k0 k1 k2 hx6
 try simp only [Act.put, sq]
 refine wpAnyH_done (by kernel_rfl) ?_ _
 refine NoPanic.normal ?_
 replace g0 := (hT6.block _ (qag g0) (nX.out _ (by omega))).trans g0
 replace g1 := (hT6.block _ (qag g1) (nX.out _ (by omega))).trans g1
 replace g2 := (hT6.block _ (qag g2) (nX.out _ (by omega))).trans g2
 replace g3 := (hT6.block _ (qag g3) (nX.out _ (by omega))).trans g3
 replace g4 := (hT6.block _ (qag g4) (nX.out _ (by omega))).trans g4
 replace g5 := (hT6.block _ (qag g5) (nX.out _ (by omega))).trans g5
 have HM6 := Hid.mk hM6
 have HT6 := Hid.mk hT6
 have HBD := Hid.mk (And.intro hB5 hs35)
 obtain ⟨h0, h2, h3⟩ := qan g1
 clear hM6 hT6 HM5 hB5 hB hp5
 have hs6 : w5.heap.size ≤ w6.heap.size := HT6.out.size
 obtain ⟨⟨k0, k1, k2, k3, k4, k5, k6, k7⟩, -⟩ := qec g4
 obtain ⟨k8, k9⟩ := TR.qaz g5
 go_upto_region 7 with fail
 obtain ⟨k0, k1, k2, k3, k4⟩ := cl5 (Below.refl _ w6).drew k0 k1 k2 k3 k4
 obtain ⟨k5, k6, k7, k8, k9⟩ := cl5 (Below.refl _ w6).drew k5 k6 k7 k8 k9
 refine hd10 k0 k1 k2 k3 k4 k5 k6 k7 k8 k9 (h := fun hHeld => ?_)
 refine tk 0 75 (h := ?_)
 refine tk 1 76 (h := ?_)
 refine rd1 2 (h := fun K hK => ?_)
 refine qah rfl rfl 112 _ _ rfl (w.heap.size + 1 + 1) 0 _ #[.int .i64 l, .int .i64 k, .int .u64 o, .bool u, .bool r, .bool y, .bool q, .int .i64 t] rfl rfl rfl 112 _ (qaa (Below.refl _ w6).drew g2) (show 0 + 8 ≤ 8 by decide) qbd (by simp [Value.oneCell']) #[.int .i64 l, .int .i64 k, .int .u64 o, .bool u, .bool r, .bool y, .bool q, .int .i64 t] rfl ?_
 exact zP31x01
theorem walked_kfn (h : Mch w0 w X x a n S most s) (R I va : Nat) (hR : R < 281474976710656) (hn : Hn) (hva : va < 18446744073709551616) (hk : hn.keep = true) (hf : hn.fill = true) (hu : (lfR (wkO S s R I va hn).2).s = false) :
  Calls Tryz.prog 61 #[.pointer (some ⟨x, 0, none⟩), bsV R I, .int .u64 va, hn.v] w fun r w' => r = .returned (.tuple #[.agg (lfR (wkO S s R I va hn).2).cs.toArray, .agg #[.int .i64 (ftR (wkO S s R I va hn).2).1, .int .i64 (ftR (wkO S s R I va hn).2).2]]) ∧ Mch w0 w' (Gr X w w') x a n S most (wdS S most s R I va hn) ∧ Turn X w w' ∧ w'.heap[x]? = w.heap[x]? := by
 have H0 := Hid.mk h
 have HST := Hid.mk (fun W (hb : Below w.heap.size w W) => start_c (H0.out.later hb) R I va hn hva)
 have HL := Hid.mk (stL_lv h.wfm I va hn)
 have HT := Hid.mk (qei h.wfm hR I va hn)
 have HFR : Hid (∀ W (_ : Below w.heap.size w W), Calls Tryz.prog 98 #[.pointer (some ⟨a, 0, none⟩), .int .i64 (stL s I va hn), .int .u64 (stT s R I va hn : Nat), .int .u64 va] W fun e w' => e = .returned (.tuple #[.agg (lfR (wkO S s R I va hn).2).cs.toArray, .agg #[.int .i64 (ftR (wkO S s R I va hn).2).1, .int .i64 (ftR (wkO S s R I va hn).2).2]]) ∧ Below W.heap.size W w') := fun W hb => by
  obtain ⟨XM, XB, XT, tb, tr, pv, h⟩ := H0.out.later hb
  exact zP31x03
 have HTR : Hid (∀ W (_ : Below w.heap.size w W), Calls Tryz.prog 82 #[.pointer (some ⟨a, 0, none⟩), .int .i64 (stL s I va hn), .int .u64 (stT s R I va hn : Nat), .int .u64 va] W fun e w' => ∃ p cap, e = .returned (.slice p (wkO S s R I va hn).1.length cap) ∧ Psl w' (fun g => W.heap.size ≤ g) (.slice p (wkO S s R I va hn).1.length cap) (wkO S s R I va hn).1 ∧ Below W.heap.size W w') := fun W hb => by
  exact zP31x04
 have HWK : Hid (∀ W XM XB XT tb tr pv (h : MchV w0 W X XM XB XT x a tb tr n S most s pv) (p : Option Addr) (cap : Nat), Psl W (fun g => ¬ X g) (.slice p (wkO S s R I va hn).1.length cap) (wkO S s R I va hn).1 →
  Calls Tryz.prog 99 #[.pointer (some ⟨tr, 0, none⟩), .int .i64 I, .int .u64 va, .int .i64 (stL s I va hn), .slice p (wkO S s R I va hn).1.length cap] W fun r w' => (∃ k : Int, r = .returned (.int .i64 k)) ∧ Mch w0 w' (Gr X W w') x a n S most { s with K := kK S most s R I va hn } ∧ Turn X W w' ∧ w'.heap[x]? = W.heap[x]?) := fun W XM XB XT tb tr pv h p cap hp => by
  have e : kK S most s R I va hn = TR.wdL most (I : Int) va (stL s I va hn) (fun j => (wkO S s R I va hn).1[j]!.2) s.K (tkn (stL s I va hn) (wkO S s R I va hn).1) := by unfold kK; rw [if_pos hk]
  rw [e]
  exact h.walked I va hva (stL s I va hn) HL.out.1 HL.out.2 (stT s R I va hn) p cap hp
 have HEE : Hid (kE S most s R I va hn = s.E) := by show _ = _; unfold kE; rw [if_neg (by rw [hf, hu]; decide)]
 have HWS : Hid (wdS S most s R I va hn = { s with E := kE S most s R I va hn, K := kK S most s R I va hn }) := rfl
 clear h hva hR
 generalize wdS S most s R I va hn = s' at *
 rw [HEE.out] at HWS
 generalize kK S most s R I va hn = K' at *
 clear HEE
 generalize kE S most s R I va hn = E' at *
 generalize wkO S s R I va hn = wr at *
 generalize stL s I va hn = LV at *
 generalize stT s R I va hn = TV at *
 generalize lfR wr.2 = lf at *
 generalize ftR wr.2 = ft at *
 obtain ⟨L, r0⟩ := wr
 obtain ⟨l, k, o, u, r, y, q, t⟩ := lf
 obtain ⟨f1, f2⟩ := ft
 obtain ⟨hf', hl', hk'⟩ := hn
 simp only [Lf.cs] at *
 subst hk hf hu
 obtain ⟨W4, hW4, g0, g1, g2, g3, hB, hsz⟩ := hp4 w (.cells #[.int .u64 R, .int .i64 I] 106) (.cells #[.bool true, .bool hl', .bool true] 38) (.cells #[.int .i64 0, .int .i64 0, .int .u64 0, .bool false, .bool false, .bool false, .bool false, .int .i64 0] 112) (.cells #[.int .i64 0, .int .i64 0] 50)
 go_enter Tryz.func61, Tryz.ntmps61
 go_upto_region 1 with fail
 (try rw [hW4])
 clear hW4
 obtain ⟨c0, c1⟩ := TR.qaz g0
 obtain ⟨c2, c3, c4⟩ := qan g1
 go_wp2_with fail
 refine (HST.out _ hB).mono ?_
 rintro e w1 ⟨rfl, hb1⟩
 clear HST c0 c1 c2 c3 c4
 obtain ⟨g0, g1, g2, g3⟩ := bl4 hb1 g0 g1 g2 g3
 replace hB := qab hB hb1
 replace hsz : w.heap.size + 1 + 1 + 1 + 1 ≤ w1.heap.size := hsz ▸ hb1.size
 clear hb1
 obtain ⟨XM, XB, XT, tb, tr, pv, h1⟩ := H0.out.later hB
 obtain ⟨d0, d1, d2, -⟩ := row5 h1.row
 clear h1
 go_wp2_with fail
 refine (HFR.out _ hB).mono ?_
 rintro e w2 ⟨rfl, hb2⟩
 clear HFR d0 d1 d2
 obtain ⟨g0, g1, g2, g3⟩ := bl4 hb2 g0 g1 g2 g3
 replace hB := qab hB hb2
 replace hsz := Nat.le_trans hsz hb2.size
 clear hb2
 have g4 := qcf w2 (.cells #[.int .i64 l, .int .i64 k, .int .u64 o, .bool u, .bool r, .bool y, .bool false, .int .i64 t] 112) (.cells #[.int .i64 f1, .int .i64 f2] 50)
 have g5 := heap_alloc2_new w2 (.cells #[.int .i64 l, .int .i64 k, .int .u64 o, .bool u, .bool r, .bool y, .bool false, .int .i64 t] 112) (.cells #[.int .i64 f1, .int .i64 f2] 50)
 have hb3 := qbx w2 (.cells #[.int .i64 l, .int .i64 k, .int .u64 o, .bool u, .bool r, .bool y, .bool false, .int .i64 t] 112) (.cells #[.int .i64 f1, .int .i64 f2] 50)
 go_upto_region 3 with fail
 generalize (w2.alloc (.cells #[.int .i64 l, .int .i64 k, .int .u64 o, .bool u, .bool r, .bool y, .bool false, .int .i64 t] 112)).alloc (.cells #[.int .i64 f1, .int .i64 f2] 50) = w3 at *
 obtain ⟨g0, g1, g2, g3⟩ := bl4 hb3 g0 g1 g2 g3
 replace hB := qab hB hb3
 clear hb3
 generalize w2.heap.size = KL at *
 obtain ⟨h0, h2, h3⟩ := qan g1
 have hK5 := qag g5
 have nX : Hid (∀ i, w.heap.size ≤ i → ¬ X i) := fun i hi c => by have := H0.out.ltX i c; omega
 obtain ⟨XM, XB, XT, tb, tr, pv, hm⟩ := H0.out.later hB
 have HM := Hid.mk hm
 obtain ⟨k0, -, k1, -⟩ := row5 hm.row
 have k2 := (TR.qaz g0).2
 clear hm
 go_upto_region 4 with fail
 obtain ⟨k0, k1, k2⟩ := cl3 (Below.refl _ w3).drew k0 k1 k2
 refine hd3 k0 k1 k2 (h := fun hHeld => ?_)
 refine tk 0 35 (h := ?_)
 refine tk 1 36 (h := ?_)
 refine tk 2 37 (h := ?_)
 refine tk 3 38 (h := ?_)
 refine tk 4 39 (h := ?_)
 refine tk 5 40 (h := ?_)
 refine tk 6 41 (h := ?_)
 refine tk 7 42 (h := ?_)
 refine tk 8 43 (h := ?_)
 refine tk 9 44 (h := ?_)
 refine tk 10 45 (h := ?_)
 refine tk 11 46 (h := ?_)
 refine tk 12 47 (h := ?_)
 refine tk 13 48 (h := ?_)
 refine tk 14 49 (h := ?_)
 refine rd1 15 (h := fun K hK => ?_)
 go_simp
 refine (HTR.out _ hB.drew).mono ?_
 rintro e w5 ⟨p, cap, rfl, hp, hb5⟩
 go_wp2_with fail
 obtain ⟨k0, k1, k2⟩ := cl3 hb5 k0 k1 k2
 refine hK.out _ _ ⟨k0, k1, k2⟩ (fun hHeld1 => ?_)
 clear hK HTR
 try simp only [Act.put, sq]
 have hb35 := qab ((Below.refl _ w3).drew) hb5
 obtain ⟨g0, g1, g2⟩ := bl3 hb35 g0 g1 g2
 obtain ⟨g3, g4, g5⟩ := bl3 hb35 g3 g4 g5
 have HM5 := Hid.mk (HM.out.later hb35)
 have hB5 := qab hB hb35
 have hs35 := hb35.size
 have hp5 : Psl w5 (fun g => ¬ X g) (.slice p L.length cap) L := hp.mono (fun g hg c => by have := HM.out.lt g c; have e : w3.drew.heap.size = w3.heap.size := rfl; rw [e] at hg; omega)
 clear hb5 hp HM
 refine rd1 16 (h := fun K hK => ?_)
 go_simp
 refine (HWK.out _ _ _ _ _ _ _ HM5.out p cap hp5).mono ?_
 rintro e w6 ⟨⟨kk, rfl⟩, hM6, hT6, hx6⟩
 go_wp2_with fail
 replace k0 := (World.cell?_of_block (a := ⟨x, 0, none⟩) hx6).trans k0
 replace k1 := (World.cell?_of_block (a := ⟨x, 2, none⟩) hx6).trans k1
 replace k2 := TR.qam hT6 (nX.out _ (Nat.le_refl _)) k2
 refine hK.out _ _ ⟨k0, k1, k2⟩ (fun hHeld2 => ?_)
 have HX6 := Hid.mk hx6
 clear hK HWK k0 k1 k2 hx6
 try simp only [Act.put, sq]
 refine wpAnyH_done (by kernel_rfl) ?_ _
 refine NoPanic.normal ?_
 replace g0 := (hT6.block _ (qag g0) (nX.out _ (by omega))).trans g0
 replace g1 := (hT6.block _ (qag g1) (nX.out _ (by omega))).trans g1
 replace g2 := (hT6.block _ (qag g2) (nX.out _ (by omega))).trans g2
 replace g3 := (hT6.block _ (qag g3) (nX.out _ (by omega))).trans g3
 replace g4 := (hT6.block _ (qag g4) (nX.out _ (by omega))).trans g4
 replace g5 := (hT6.block _ (qag g5) (nX.out _ (by omega))).trans g5
 have HM6 := Hid.mk hM6
 have HT6 := Hid.mk hT6
 have HBD := Hid.mk (And.intro hB5 hs35)
 obtain ⟨h0, h2, h3⟩ := qan g1
 clear hM6 hT6 HM5 hB5 hB hp5
 have hs6 : w5.heap.size ≤ w6.heap.size := HT6.out.size
 obtain ⟨⟨k0, k1, k2, k3, k4, k5, k6, k7⟩, -⟩ := qec g4
 obtain ⟨k8, k9⟩ := TR.qaz g5
 go_upto_region 7 with fail
 obtain ⟨k0, k1, k2, k3, k4⟩ := cl5 (Below.refl _ w6).drew k0 k1 k2 k3 k4
 obtain ⟨k5, k6, k7, k8, k9⟩ := cl5 (Below.refl _ w6).drew k5 k6 k7 k8 k9
 refine hd10 k0 k1 k2 k3 k4 k5 k6 k7 k8 k9 (h := fun hHeld => ?_)
 refine tk 0 75 (h := ?_)
 refine tk 1 76 (h := ?_)
 refine rd1 2 (h := fun K hK => ?_)
 refine qah rfl rfl 112 _ _ rfl (w.heap.size + 1 + 1) 0 _ #[.int .i64 l, .int .i64 k, .int .u64 o, .bool u, .bool r, .bool y, .bool false, .int .i64 t] rfl rfl rfl 112 _ (qaa (Below.refl _ w6).drew g2) (show 0 + 8 ≤ 8 by decide) qbd (by simp [Value.oneCell']) #[.int .i64 l, .int .i64 k, .int .u64 o, .bool u, .bool r, .bool y, .bool false, .int .i64 t] rfl ?_
 exact zP31x01
theorem walked_kfu (h : Mch w0 w X x a n S most s) (R I va : Nat) (hR : R < 281474976710656) (hn : Hn) (hva : va < 18446744073709551616) (hk : hn.keep = true) (hf : hn.fill = true) (hu : (lfR (wkO S s R I va hn).2).s = true) :
  Calls Tryz.prog 61 #[.pointer (some ⟨x, 0, none⟩), bsV R I, .int .u64 va, hn.v] w fun r w' => r = .returned (.tuple #[.agg (lfR (wkO S s R I va hn).2).cs.toArray, .agg #[.int .i64 (ftR (wkO S s R I va hn).2).1, .int .i64 (ftR (wkO S s R I va hn).2).2]]) ∧ Mch w0 w' (Gr X w w') x a n S most (wdS S most s R I va hn) ∧ Turn X w w' ∧ w'.heap[x]? = w.heap[x]? := by
 have H0 := Hid.mk h
 have HST := Hid.mk (fun W (hb : Below w.heap.size w W) => start_c (H0.out.later hb) R I va hn hva)
 have HL := Hid.mk (stL_lv h.wfm I va hn)
 have HT := Hid.mk (qei h.wfm hR I va hn)
 have HFR : Hid (∀ W (_ : Below w.heap.size w W), Calls Tryz.prog 98 #[.pointer (some ⟨a, 0, none⟩), .int .i64 (stL s I va hn), .int .u64 (stT s R I va hn : Nat), .int .u64 va] W fun e w' => e = .returned (.tuple #[.agg (lfR (wkO S s R I va hn).2).cs.toArray, .agg #[.int .i64 (ftR (wkO S s R I va hn).2).1, .int .i64 (ftR (wkO S s R I va hn).2).2]]) ∧ Below W.heap.size W w') := fun W hb => by
  obtain ⟨XM, XB, XT, tb, tr, pv, h⟩ := H0.out.later hb
  exact zP31x03
 have HTR : Hid (∀ W (_ : Below w.heap.size w W), Calls Tryz.prog 82 #[.pointer (some ⟨a, 0, none⟩), .int .i64 (stL s I va hn), .int .u64 (stT s R I va hn : Nat), .int .u64 va] W fun e w' => ∃ p cap, e = .returned (.slice p (wkO S s R I va hn).1.length cap) ∧ Psl w' (fun g => W.heap.size ≤ g) (.slice p (wkO S s R I va hn).1.length cap) (wkO S s R I va hn).1 ∧ Below W.heap.size W w') := fun W hb => by
  exact zP31x04
 have HWK : Hid (∀ W XM XB XT tb tr pv (h : MchV w0 W X XM XB XT x a tb tr n S most s pv) (p : Option Addr) (cap : Nat), Psl W (fun g => ¬ X g) (.slice p (wkO S s R I va hn).1.length cap) (wkO S s R I va hn).1 →
  Calls Tryz.prog 99 #[.pointer (some ⟨tr, 0, none⟩), .int .i64 I, .int .u64 va, .int .i64 (stL s I va hn), .slice p (wkO S s R I va hn).1.length cap] W fun r w' => (∃ k : Int, r = .returned (.int .i64 k)) ∧ Mch w0 w' (Gr X W w') x a n S most { s with K := kK S most s R I va hn } ∧ Turn X W w' ∧ w'.heap[x]? = W.heap[x]?) := fun W XM XB XT tb tr pv h p cap hp => by
  have e : kK S most s R I va hn = TR.wdL most (I : Int) va (stL s I va hn) (fun j => (wkO S s R I va hn).1[j]!.2) s.K (tkn (stL s I va hn) (wkO S s R I va hn).1) := by unfold kK; rw [if_pos hk]
  rw [e]
  exact h.walked I va hva (stL s I va hn) HL.out.1 HL.out.2 (stT s R I va hn) p cap hp
 have HEE : Hid (kE S most s R I va hn = TB.qbt s.E most ((lfR (wkO S s R I va hn).2).en I va)) := by show _ = _; unfold kE; rw [if_pos (by rw [hf, hu]; rfl)]
 have HEO := Hid.mk (en_ok (wkO S s R I va hn).2 I va)
 have HBA := Hid.mk (fun W => qfd va (lfR (wkO S s R I va hn).2).l hva W)
 have HWS : Hid (wdS S most s R I va hn = { s with E := kE S most s R I va hn, K := kK S most s R I va hn }) := rfl
 clear h hva hR
 generalize wdS S most s R I va hn = s' at *
 rw [HEE.out] at HWS
 generalize kK S most s R I va hn = K' at *
 clear HEE
 generalize kE S most s R I va hn = E' at *
 generalize wkO S s R I va hn = wr at *
 generalize stL s I va hn = LV at *
 generalize stT s R I va hn = TV at *
 generalize lfR wr.2 = lf at *
 generalize ftR wr.2 = ft at *
 obtain ⟨L, r0⟩ := wr
 obtain ⟨l, k, o, u, r, y, q, t⟩ := lf
 obtain ⟨f1, f2⟩ := ft
 obtain ⟨hf', hl', hk'⟩ := hn
 simp only [Lf.cs, Lf.en] at *
 subst hk hf hu
 obtain ⟨W4, hW4, g0, g1, g2, g3, hB, hsz⟩ := hp4 w (.cells #[.int .u64 R, .int .i64 I] 106) (.cells #[.bool true, .bool hl', .bool true] 38) (.cells #[.int .i64 0, .int .i64 0, .int .u64 0, .bool false, .bool false, .bool false, .bool false, .int .i64 0] 112) (.cells #[.int .i64 0, .int .i64 0] 50)
 go_enter Tryz.func61, Tryz.ntmps61
 go_upto_region 1 with fail
 (try rw [hW4])
 clear hW4
 obtain ⟨c0, c1⟩ := TR.qaz g0
 obtain ⟨c2, c3, c4⟩ := qan g1
 go_wp2_with fail
 refine (HST.out _ hB).mono ?_
 rintro e w1 ⟨rfl, hb1⟩
 clear HST c0 c1 c2 c3 c4
 obtain ⟨g0, g1, g2, g3⟩ := bl4 hb1 g0 g1 g2 g3
 replace hB := qab hB hb1
 replace hsz : w.heap.size + 1 + 1 + 1 + 1 ≤ w1.heap.size := hsz ▸ hb1.size
 clear hb1
 obtain ⟨XM, XB, XT, tb, tr, pv, h1⟩ := H0.out.later hB
 obtain ⟨d0, d1, d2, -⟩ := row5 h1.row
 clear h1
 go_wp2_with fail
 refine (HFR.out _ hB).mono ?_
 rintro e w2 ⟨rfl, hb2⟩
 clear HFR d0 d1 d2
 obtain ⟨g0, g1, g2, g3⟩ := bl4 hb2 g0 g1 g2 g3
 replace hB := qab hB hb2
 replace hsz := Nat.le_trans hsz hb2.size
 clear hb2
 have g4 := qcf w2 (.cells #[.int .i64 l, .int .i64 k, .int .u64 o, .bool u, .bool r, .bool y, .bool true, .int .i64 t] 112) (.cells #[.int .i64 f1, .int .i64 f2] 50)
 have g5 := heap_alloc2_new w2 (.cells #[.int .i64 l, .int .i64 k, .int .u64 o, .bool u, .bool r, .bool y, .bool true, .int .i64 t] 112) (.cells #[.int .i64 f1, .int .i64 f2] 50)
 have hb3 := qbx w2 (.cells #[.int .i64 l, .int .i64 k, .int .u64 o, .bool u, .bool r, .bool y, .bool true, .int .i64 t] 112) (.cells #[.int .i64 f1, .int .i64 f2] 50)
 go_upto_region 3 with fail
 generalize (w2.alloc (.cells #[.int .i64 l, .int .i64 k, .int .u64 o, .bool u, .bool r, .bool y, .bool true, .int .i64 t] 112)).alloc (.cells #[.int .i64 f1, .int .i64 f2] 50) = w3 at *
 obtain ⟨g0, g1, g2, g3⟩ := bl4 hb3 g0 g1 g2 g3
 replace hB := qab hB hb3
 clear hb3
 generalize w2.heap.size = KL at *
 obtain ⟨h0, h2, h3⟩ := qan g1
 have hK5 := qag g5
 have nX : Hid (∀ i, w.heap.size ≤ i → ¬ X i) := fun i hi c => by have := H0.out.ltX i c; omega
 obtain ⟨XM, XB, XT, tb, tr, pv, hm⟩ := H0.out.later hB
 have HM := Hid.mk hm
 obtain ⟨k0, -, k1, -⟩ := row5 hm.row
 have k2 := (TR.qaz g0).2
 clear hm
 go_upto_region 4 with fail
 obtain ⟨k0, k1, k2⟩ := cl3 (Below.refl _ w3).drew k0 k1 k2
 refine hd3 k0 k1 k2 (h := fun hHeld => ?_)
 refine tk 0 35 (h := ?_)
 refine tk 1 36 (h := ?_)
 refine tk 2 37 (h := ?_)
 refine tk 3 38 (h := ?_)
 refine tk 4 39 (h := ?_)
 refine tk 5 40 (h := ?_)
 refine tk 6 41 (h := ?_)
 refine tk 7 42 (h := ?_)
 refine tk 8 43 (h := ?_)
 refine tk 9 44 (h := ?_)
 refine tk 10 45 (h := ?_)
 refine tk 11 46 (h := ?_)
 refine tk 12 47 (h := ?_)
 refine tk 13 48 (h := ?_)
 refine tk 14 49 (h := ?_)
 refine rd1 15 (h := fun K hK => ?_)
 go_simp
 refine (HTR.out _ hB.drew).mono ?_
 rintro e w5 ⟨p, cap, rfl, hp, hb5⟩
 go_wp2_with fail
 obtain ⟨k0, k1, k2⟩ := cl3 hb5 k0 k1 k2
 refine hK.out _ _ ⟨k0, k1, k2⟩ (fun hHeld1 => ?_)
 clear hK HTR
 try simp only [Act.put, sq]
 have hb35 := qab ((Below.refl _ w3).drew) hb5
 obtain ⟨g0, g1, g2⟩ := bl3 hb35 g0 g1 g2
 obtain ⟨g3, g4, g5⟩ := bl3 hb35 g3 g4 g5
 have HM5 := Hid.mk (HM.out.later hb35)
 have hB5 := qab hB hb35
 have hs35 := hb35.size
 have hp5 : Psl w5 (fun g => ¬ X g) (.slice p L.length cap) L := hp.mono (fun g hg c => by have := HM.out.lt g c; have e : w3.drew.heap.size = w3.heap.size := rfl; rw [e] at hg; omega)
 clear hb5 hp HM
 refine rd1 16 (h := fun K hK => ?_)
 go_simp
 refine (HWK.out _ _ _ _ _ _ _ HM5.out p cap hp5).mono ?_
 rintro e w6 ⟨⟨kk, rfl⟩, hM6, hT6, hx6⟩
 go_wp2_with fail
 replace k0 := (World.cell?_of_block (a := ⟨x, 0, none⟩) hx6).trans k0
 replace k1 := (World.cell?_of_block (a := ⟨x, 2, none⟩) hx6).trans k1
 replace k2 := TR.qam hT6 (nX.out _ (Nat.le_refl _)) k2
 refine hK.out _ _ ⟨k0, k1, k2⟩ (fun hHeld2 => ?_)
 have HX6 := Hid.mk hx6
 clear hK HWK k0 k1 k2 hx6
 try simp only [Act.put, sq]
 refine wpAnyH_done (by kernel_rfl) ?_ _
 refine NoPanic.normal ?_
 replace g0 := (hT6.block _ (qag g0) (nX.out _ (by omega))).trans g0
 replace g1 := (hT6.block _ (qag g1) (nX.out _ (by omega))).trans g1
 replace g2 := (hT6.block _ (qag g2) (nX.out _ (by omega))).trans g2
 replace g3 := (hT6.block _ (qag g3) (nX.out _ (by omega))).trans g3
 replace g4 := (hT6.block _ (qag g4) (nX.out _ (by omega))).trans g4
 replace g5 := (hT6.block _ (qag g5) (nX.out _ (by omega))).trans g5
 have HM6 := Hid.mk hM6
 have HT6 := Hid.mk hT6
 have HBD := Hid.mk (And.intro hB5 hs35)
 obtain ⟨h0, h2, h3⟩ := qan g1
 clear hM6 hT6 HM5 hB5 hB hp5
 have hs6 : w5.heap.size ≤ w6.heap.size := HT6.out.size
 obtain ⟨XM, XB, XT, tb, tr, pv, hm⟩ := HM6.out
 have HM := Hid.mk hm
 obtain ⟨-, k0, -⟩ := row5 hm.row
 have k1 := (TR.qaz g0).2
 obtain ⟨⟨k2, k3, k4, k5, k6, k7, k8, k9⟩, -⟩ := qec g4
 clear hm
 go_upto_region 6 with fail
 obtain ⟨k0, k1, k2, k3, k4⟩ := cl5 (Below.refl _ w6).drew k0 k1 k2 k3 k4
 obtain ⟨k5, k6, k7, k8, k9⟩ := cl5 (Below.refl _ w6).drew k5 k6 k7 k8 k9
 refine hd10 k0 k1 k2 k3 k4 k5 k6 k7 k8 k9 (h := fun hHeld => ?_)
 refine tk 0 59 (h := ?_)
 refine tk 1 60 (h := ?_)
 refine tk 2 61 (h := ?_)
 refine tk 3 62 (h := ?_)
 refine tk 4 63 (h := ?_)
 refine tk 5 64 (h := ?_)
 refine tk 6 65 (h := ?_)
 refine tk 7 66 (h := ?_)
 refine tk 8 67 (h := ?_)
 refine tk 10 69 (h := ?_)
 refine tk 11 70 (h := ?_)
 refine tk 12 71 (h := ?_)
 refine tk 13 72 (h := ?_)
 refine rd1 9 (h := fun K hK => ?_)
 go_simp
 refine (HBA.out _).mono ?_
 rintro e w7 ⟨rfl, rfl⟩
 go_wp2_with fail
 refine hK.out _ _ ⟨k0, k1, k2, k3, k4, k5, k6, k7, k8, k9⟩ (fun hHeld1 => ?_)
 clear hK
 try simp only [Act.put, sq]
 refine tk 14 73 (h := ?_)
 have nX8 : Hid (∀ i, w.heap.size ≤ i → i < w5.heap.size → ¬ (Gr X w5 w6) i) := fun i hi hj c => by
  rcases c with c | c
  ·exact nX.out i hi c
  ·omega
 refine rd1 15 (h := fun K hK => ?_)
 go_simp
 refine ((HM.out.later (Below.refl _ w6).drew).fillE ⟨(I : Int), qbn va l, l, k, o, u, r, y, true, t⟩ HEO.out).mono ?_
 rintro e w8 ⟨⟨kk8, rfl⟩, hM8, hT8, hx8⟩
 go_wp2_with fail
 replace k0 := (World.cell?_of_block (a := ⟨x, 1, none⟩) hx8).trans k0
 replace k1 := TR.qam hT8 (nX8.out _ (by omega) (by omega)) k1
 replace k2 := TR.qam hT8 (nX8.out _ (by omega) (by omega)) k2
 replace k3 := TR.qam hT8 (nX8.out _ (by omega) (by omega)) k3
 replace k4 := TR.qam hT8 (nX8.out _ (by omega) (by omega)) k4
 replace k5 := TR.qam hT8 (nX8.out _ (by omega) (by omega)) k5
 replace k6 := TR.qam hT8 (nX8.out _ (by omega) (by omega)) k6
 replace k7 := TR.qam hT8 (nX8.out _ (by omega) (by omega)) k7
 replace k8 := TR.qam hT8 (nX8.out _ (by omega) (by omega)) k8
 replace k9 := TR.qam hT8 (nX8.out _ (by omega) (by omega)) k9
 refine hK.out _ _ ⟨k0, k1, k2, k3, k4, k5, k6, k7, k8, k9⟩ (fun hHeld2 => ?_)
 have HX8 := Hid.mk hx8
 clear hK k0 k1 k2 k3 k4 k5 k6 k7 k8 k9 hx8 HM
 try simp only [Act.put, sq]
 refine wpAnyH_done (by kernel_rfl) ?_ _
 refine NoPanic.normal ?_
 replace g0 := (hT8.block _ (qag g0) (nX8.out _ (by omega) (by omega))).trans g0
 replace g1 := (hT8.block _ (qag g1) (nX8.out _ (by omega) (by omega))).trans g1
 replace g2 := (hT8.block _ (qag g2) (nX8.out _ (by omega) (by omega))).trans g2
 replace g3 := (hT8.block _ (qag g3) (nX8.out _ (by omega) (by omega))).trans g3
 replace g4 := (hT8.block _ (qag g4) (nX8.out _ (by omega) (by omega))).trans g4
 replace g5 := (hT8.block _ (qag g5) (nX8.out _ (by omega) (by omega))).trans g5
 have HM8 := Hid.mk hM8
 have HT8 := Hid.mk hT8
 clear hM8 hT8
 obtain ⟨⟨k0, k1, k2, k3, k4, k5, k6, k7⟩, -⟩ := qec g4
 obtain ⟨k8, k9⟩ := TR.qaz g5
 go_upto_region 7 with fail
 obtain ⟨k0, k1, k2, k3, k4⟩ := cl5 (Below.refl _ w8).drew k0 k1 k2 k3 k4
 obtain ⟨k5, k6, k7, k8, k9⟩ := cl5 (Below.refl _ w8).drew k5 k6 k7 k8 k9
 refine hd10 k0 k1 k2 k3 k4 k5 k6 k7 k8 k9 (h := fun hHeld => ?_)
 refine tk 0 75 (h := ?_)
 refine tk 1 76 (h := ?_)
 refine rd1 2 (h := fun K hK => ?_)
 refine qah rfl rfl 112 _ _ rfl (w.heap.size + 1 + 1) 0 _ #[.int .i64 l, .int .i64 k, .int .u64 o, .bool u, .bool r, .bool y, .bool true, .int .i64 t] rfl rfl rfl 112 _ (qaa (Below.refl _ w8).drew g2) (show 0 + 8 ≤ 8 by decide) qbd (by simp [Value.oneCell']) #[.int .i64 l, .int .i64 k, .int .u64 o, .bool u, .bool r, .bool y, .bool true, .int .i64 t] rfl ?_
 intro wa hrwa htwa
 obtain ⟨k0, k1, k2, k3, k4⟩ := tc5 htwa k0 k1 k2 k3 k4
 obtain ⟨k5, k6, k7, k8, k9⟩ := tc5 htwa k5 k6 k7 k8 k9
 replace g3 := qae htwa (qaa (Below.refl _ w8).drew g3) (by omega)
 refine hK.out _ _ ⟨k0, k1, k2, k3, k4, k5, k6, k7, k8, k9⟩ (fun hHeldwa => ?_)
 clear hK
 try simp only [Act.put, sq]
 refine rd1 3 (h := fun K hK => ?_)
 refine qah rfl rfl 50 _ _ rfl (w.heap.size + 1 + 1 + 1) 0 _ #[.int .i64 f1, .int .i64 f2] rfl rfl rfl 50 _ g3 (show 0 + 2 ≤ 2 by decide) qap (by simp [Value.oneCell']) #[.int .i64 f1, .int .i64 f2] rfl ?_
 intro wb hrwb htwb
 obtain ⟨k0, k1, k2, k3, k4⟩ := tc5 htwb k0 k1 k2 k3 k4
 obtain ⟨k5, k6, k7, k8, k9⟩ := tc5 htwb k5 k6 k7 k8 k9
 replace hrwa := qae htwb hrwa (by omega)
 refine hK.out _ _ ⟨k0, k1, k2, k3, k4, k5, k6, k7, k8, k9⟩ (fun hHeldwb => ?_)
 clear hK
 try simp only [Act.put, sq]
 refine wpAnyH_done (by kernel_rfl) ?_ _
 refine NoPanic.normal ?_
 clear k0 k1 k2 k3 k4 k5 k6 k7 k8 k9
 go_wp2
 refine bodyPost_ret (qas rfl _ _ (w.heap.size + 1 + 1) (w.heap.size + 1 + 1 + 1) _ _ _ _ _ _ _ _ rfl hrwa Tryz.underlying112 rfl qbd rfl hrwb Tryz.underlying50 rfl qap) rfl ⟨rfl, ?_⟩
 rw [HWS.out]
 have hTT : Turn (fun i => i = w.heap.size + 1 + 1 ∨ i = w.heap.size + 1 + 1 + 1) w8.drew wb := ((qak _ (Below.refl _ _)).trans htwa (fun i _ hi => Or.inl hi)).trans htwb (fun i _ hi => Or.inr hi)
 have e1 := hsz
 have hT1 := (qak X HBD.out.1).trans HT6.out (fun _ _ h => h)
 have e2 := HBD.out.2
 have hTw := (hT1.trans (qak X (Below.refl _ _).drew) (fun _ _ h => h)).trans HT8.out (fun i hi hc => by
  rcases hc with hc | hc
  ·exact hc
  ·have := HBD.out.1.size; omega)
 have hxw : x < w.heap.size := H0.out.ltX x (by obtain ⟨_, _, _, _, _, _, h⟩ := H0.out; exact h.cx)
 have hdx : ∀ W : World, x < W.heap.size → W.drew.heap[x]? = W.heap[x]? := fun W hx => (Below.refl W.heap.size W).drew.block x hx
 have hxx : wb.heap[x]? = w.heap[x]? := by
  have hxa : x < w8.heap.size := by have e : w8.drew.heap.size = w8.heap.size := rfl; have := hTw.size; omega
  have ea := hTT.block x hxa (fun c => by rcases c with c | c <;> omega)
  exact (ea.trans (hdx w8 hxa)).trans (((HX8.out.trans (hdx w6 (by have := HBD.out.1.size; omega))).trans HX6.out).trans (HBD.out.1.block x hxw))
 refine and_mid hxx ?_
 refine H0.out.fin HM8.out (Below.refl _ _).drew hTT (fun i hi => ?_) (fun i hi => ?_) hTw
 ·skip
  rcases hi with (hi | hi) | hi
  ·exact Or.inl hi
  ·exact Or.inr (by have := HBD.out.1.size; omega)
  ·exact Or.inr (by have := HBD.out.1.size; have e : w6.drew.heap.size = w6.heap.size := rfl; omega)
 ·have h1 : w.heap.size ≤ i := by rcases hi with hi | hi <;> omega
  have h2 : i < w.heap.size + 1 + 1 + 1 + 1 := by rcases hi with hi | hi <;> omega
  refine ⟨h1, fun c => ?_⟩
  ·skip
   rcases c with (c | c) | c
   ·exact nX.out i h1 c
   ·omega
   ·have e : w6.drew.heap.size = w6.heap.size := rfl
    omega
theorem walked_c (h : Mch w0 w X x a n S most s) (R I va : Nat) (hR : R < 281474976710656) (hn : Hn) (hva : va < 18446744073709551616) :
  Calls Tryz.prog 61 #[.pointer (some ⟨x, 0, none⟩), bsV R I, .int .u64 va, hn.v] w fun r w' => r = .returned (.tuple #[.agg (lfR (wkO S s R I va hn).2).cs.toArray, .agg #[.int .i64 (ftR (wkO S s R I va hn).2).1, .int .i64 (ftR (wkO S s R I va hn).2).2]]) ∧ Mch w0 w' (Gr X w w') x a n S most (wdS S most s R I va hn) ∧ Turn X w w' ∧ w'.heap[x]? = w.heap[x]? := by
 cases hk : hn.keep
 ·cases hf : hn.fill
  ·exact walked_nn h R I va hR hn hva hk hf
  ·cases hu : (lfR (wkO S s R I va hn).2).s
   ·exact walked_nfn h R I va hR hn hva hk hf hu
   ·exact walked_nfu h R I va hR hn hva hk hf hu
 ·cases hf : hn.fill
  ·exact walked_kn h R I va hR hn hva hk hf
  ·cases hu : (lfR (wkO S s R I va hn).2).s
   ·exact walked_kfn h R I va hR hn hva hk hf hu
   ·exact walked_kfu h R I va hR hn hva hk hf hu
end
end Go.Proofs.YtfdbdeckohaneaaGreatDoor.MM
