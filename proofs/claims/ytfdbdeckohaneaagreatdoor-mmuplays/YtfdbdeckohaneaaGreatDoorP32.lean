/- P32 -/
import Derived.Test.YtfdbdeckohaneaaGreatDoorP31
set_option maxHeartbeats 16000000
set_option maxRecDepth 100000
namespace Go.Proofs.YtfdbdeckohaneaaGreatDoor.MM
open Go.RowKit Go.Maps
def lf0 : Lf := ⟨0, 0, 0, false, false, false, false, 0⟩
def enL (e : TB.En) : Lf := ⟨e.lv, e.k, e.o, e.u, e.r, e.x, e.s, e.a⟩
def fdE (s : St) (I va : Nat) : TB.En := TB.fndE (fun e => TB.mB e (I : Int) va) s.E
def fdN (s : St) (I va : Nat) : Nat := TB.cntE (fun e => TB.mB e (I : Int) va) s.E
def lfO (S : Nat) (s : St) (R I va : Nat) (h : Hn) : Lf × Int × Int := if fdN s I va = 0 then (lfR (wkO S s R I va h).2, ftR (wkO S s R I va h).2) else if fdN s I va = 1 then (enL (fdE s I va), 0, 0) else (lf0, 6, 0)
def lfS (S : Nat) (most : Int) (s : St) (R I va : Nat) (h : Hn) : St := if fdN s I va = 0 then wdS S most s R I va h else s
def qai (S : Nat) (s : St) (va : Nat) (h : Hn) : Lf × Int × Int := if qaq va 3 = false then (lf0, 5, 0) else match s.rg with | none => (lf0, 1, 0) | some (R, I) => lfO S s R I va h
def qba (S : Nat) (most : Int) (s : St) (va : Nat) (h : Hn) : St := if qaq va 3 = false then s else match s.rg with | none => s | some (R, I) => lfS S most s R I va h
abbrev tupV (q : Lf × Int × Int) : Value := .tuple #[.agg q.1.cs.toArray, .agg #[.int .i64 q.2.1, .int .i64 q.2.2]]
theorem heap3_0 (w : World) (a b c : Obj) : (((w.alloc a).alloc b).alloc c).heap[w.heap.size]? = some a := qaa (qac _ _) (qcf _ _ _)
theorem heap3_1 (w : World) (a b c : Obj) : (((w.alloc a).alloc b).alloc c).heap[w.heap.size + 1]? = some b := qaa (qac _ _) (heap_alloc2_new w a b)
theorem heap3_2 (w : World) (a b c : Obj) : (((w.alloc a).alloc b).alloc c).heap[w.heap.size + 1 + 1]? = some c := by
 have := heap_alloc2_new (w.alloc a) b c
 rw [show (w.alloc a).heap.size + 1 = w.heap.size + 1 + 1 by simp] at this
 exact this
theorem below3 (w : World) (a b c : Obj) : Below w.heap.size w (((w.alloc a).alloc b).alloc c) := qab (qbx _ _ _) (qac _ _)
theorem size3 (w : World) (a b c : Obj) : (((w.alloc a).alloc b).alloc c).heap.size = w.heap.size + 1 + 1 + 1 := by simp
section
variable {w0 w : World} {X : Nat → Prop} {x a n S : Nat} {most : Int} {s : St}
theorem Mch.fin2 {Z : Nat → Prop} {w1 w2 wa wb : World} {m g1 g2 : Nat} {s' : St} (h0 : Mch w0 w X x a n S most s) (h : Mch w0 w1 Z x a m S most s') (hb : Below w1.heap.size w1 w2) (ha : Turn (fun i => i = g1) w2 wa) (hbb : Turn (fun i => i = g2) wa wb) (hZ : ∀ i, Z i → X i ∨ w.heap.size ≤ i) (h1 : w.heap.size ≤ g1 ∧ ¬ Z g1) (h2 : w.heap.size ≤ g2 ∧ ¬ Z g2) (hT : Turn X w w1) : Mch w0 wb (Gr X w wb) x a m S most s' ∧ Turn X w wb :=
 h0.fin (Y := fun i => i = g1 ∨ i = g2) h hb (((qak _ (Below.refl _ _)).trans ha (fun i _ hi => Or.inl hi)).trans hbb (fun i _ hi => Or.inr hi)) hZ (fun i hi => by
  rcases hi with hi | hi
  ·rw [hi]; exact h1
  ·rw [hi]; exact h2) hT
theorem Mch.nX (h : Mch w0 w X x a n S most s) {i : Nat} (hi : w.heap.size ≤ i) : ¬ X i := fun c => by have := h.ltX i c; omega
theorem zP32x02 {Z : Prop} (z : Z := by
 refine bodyPost_ret (qas rfl _ _ (w.heap.size + 1) (w.heap.size + 1 + 1) _ _ _ _ _ _ _ _ rfl hra Tryz.underlying112 rfl qbd rfl hrb Tryz.underlying50 rfl qap) rfl ⟨rfl, ?_⟩
 first
 | exact H0.out.fin2 H0.out hB hta htb (fun i hi => Or.inl hi) ⟨by omega, H0.out.nX (by omega)⟩ ⟨by omega, H0.out.nX (by omega)⟩ (Turn.refl _ _)
 | exact H0.out.fin2 H0.out (qab hB hB2) hta htb (fun i hi => Or.inl hi) ⟨by omega, H0.out.nX (by omega)⟩ ⟨by omega, H0.out.nX (by omega)⟩ (Turn.refl _ _)) : Z := z
theorem leaf_un (h : Mch w0 w X x a n S most s) (va : Nat) (hva : va < 18446744073709551616) (hn : Hn) (hal : qaq va 3 = false) :
  Calls Tryz.prog 37 #[.pointer (some ⟨x, 0, none⟩), .int .u64 va, hn.v] w fun r w' => r = .returned (tupV (lf0, 5, 0)) ∧ Mch w0 w' (Gr X w w') x a n S most s ∧ Turn X w w' := by
 have H0 := Hid.mk h
 have HA := Hid.mk (fun W => qdt va 3 hva W)
 rw [hal] at HA
 obtain ⟨hf, hl, hk⟩ := hn
 simp only [Hn.v]
 have g0 := heap3_0 w (.cells #[.bool hf, .bool hl, .bool hk] 38) (.cells #[.int .i64 0, .int .i64 0, .int .u64 0, .bool false, .bool false, .bool false, .bool false, .int .i64 0] 112) (.cells #[.int .i64 0, .int .i64 0] 50)
 have g1 := heap3_1 w (.cells #[.bool hf, .bool hl, .bool hk] 38) (.cells #[.int .i64 0, .int .i64 0, .int .u64 0, .bool false, .bool false, .bool false, .bool false, .int .i64 0] 112) (.cells #[.int .i64 0, .int .i64 0] 50)
 have g2 := heap3_2 w (.cells #[.bool hf, .bool hl, .bool hk] 38) (.cells #[.int .i64 0, .int .i64 0, .int .u64 0, .bool false, .bool false, .bool false, .bool false, .int .i64 0] 112) (.cells #[.int .i64 0, .int .i64 0] 50)
 have hB := below3 w (.cells #[.bool hf, .bool hl, .bool hk] 38) (.cells #[.int .i64 0, .int .i64 0, .int .u64 0, .bool false, .bool false, .bool false, .bool false, .int .i64 0] 112) (.cells #[.int .i64 0, .int .i64 0] 50)
 have hsz := size3 w (.cells #[.bool hf, .bool hl, .bool hk] 38) (.cells #[.int .i64 0, .int .i64 0, .int .u64 0, .bool false, .bool false, .bool false, .bool false, .int .i64 0] 112) (.cells #[.int .i64 0, .int .i64 0] 50)
 clear h hva
 go_enter Tryz.func37, Tryz.ntmps37
 go_upto_region 1 with fail
 generalize ((w.alloc (.cells #[.bool hf, .bool hl, .bool hk] 38)).alloc (.cells #[.int .i64 0, .int .i64 0, .int .u64 0, .bool false, .bool false, .bool false, .bool false, .int .i64 0] 112)).alloc (.cells #[.int .i64 0, .int .i64 0] 50) = W at *
 go_wp2_with fail
 refine (HA.out W).mono ?_
 rintro e w1 ⟨rfl, e1⟩
 obtain rfl : W = w1 := e1.symm
 clear e1
 go_wp2_with
  first
  | (refine qad rfl 112 _ _ rfl rfl (w.heap.size + 1) 0 _ #[.int .i64 0, .int .i64 0, .int .u64 0, .bool false, .bool false, .bool false, .bool false, .int .i64 0] rfl rfl rfl 112 _ g1 (show 0 + 8 ≤ 8 by decide) qbd (by simp [Value.oneCell']) #[.int .i64 0, .int .i64 0, .int .u64 0, .bool false, .bool false, .bool false, .bool false, .int .i64 0] rfl ?_
     intro wa hra hta
     replace g2 := qae hta g2 (by omega))
  | (refine qad rfl 50 _ _ rfl rfl (w.heap.size + 1 + 1) 0 _ #[.int .i64 5, .int .i64 0] rfl rfl rfl 50 _ g2 (show 0 + 2 ≤ 2 by decide) qap (by simp [Value.oneCell']) #[.int .i64 5, .int .i64 0] rfl ?_
     intro wb hrb htb
     replace hra := qae htb hra (by omega))
  | fail
 exact zP32x02
theorem leaf_off (h : Mch w0 w X x a n S most s) (va : Nat) (hva : va < 18446744073709551616) (hn : Hn) (hal : qaq va 3 = true) (hg : s.rg = none) :
  Calls Tryz.prog 37 #[.pointer (some ⟨x, 0, none⟩), .int .u64 va, hn.v] w fun r w' => r = .returned (tupV (lf0, 1, 0)) ∧ Mch w0 w' (Gr X w w') x a n S most s ∧ Turn X w w' := by
 have H0 := Hid.mk h
 have HA := Hid.mk (fun W => qdt va 3 hva W)
 rw [hal] at HA
 obtain ⟨hf, hl, hk⟩ := hn
 simp only [Hn.v]
 have g0 := heap3_0 w (.cells #[.bool hf, .bool hl, .bool hk] 38) (.cells #[.int .i64 0, .int .i64 0, .int .u64 0, .bool false, .bool false, .bool false, .bool false, .int .i64 0] 112) (.cells #[.int .i64 0, .int .i64 0] 50)
 have g1 := heap3_1 w (.cells #[.bool hf, .bool hl, .bool hk] 38) (.cells #[.int .i64 0, .int .i64 0, .int .u64 0, .bool false, .bool false, .bool false, .bool false, .int .i64 0] 112) (.cells #[.int .i64 0, .int .i64 0] 50)
 have g2 := heap3_2 w (.cells #[.bool hf, .bool hl, .bool hk] 38) (.cells #[.int .i64 0, .int .i64 0, .int .u64 0, .bool false, .bool false, .bool false, .bool false, .int .i64 0] 112) (.cells #[.int .i64 0, .int .i64 0] 50)
 have hB := below3 w (.cells #[.bool hf, .bool hl, .bool hk] 38) (.cells #[.int .i64 0, .int .i64 0, .int .u64 0, .bool false, .bool false, .bool false, .bool false, .int .i64 0] 112) (.cells #[.int .i64 0, .int .i64 0] 50)
 have hsz := size3 w (.cells #[.bool hf, .bool hl, .bool hk] 38) (.cells #[.int .i64 0, .int .i64 0, .int .u64 0, .bool false, .bool false, .bool false, .bool false, .int .i64 0] 112) (.cells #[.int .i64 0, .int .i64 0] 50)
 clear h hva
 go_enter Tryz.func37, Tryz.ntmps37
 go_upto_region 1 with fail
 generalize ((w.alloc (.cells #[.bool hf, .bool hl, .bool hk] 38)).alloc (.cells #[.int .i64 0, .int .i64 0, .int .u64 0, .bool false, .bool false, .bool false, .bool false, .int .i64 0] 112)).alloc (.cells #[.int .i64 0, .int .i64 0] 50) = W at *
 go_wp2_with fail
 refine (HA.out W).mono ?_
 rintro e w1 ⟨rfl, e1⟩
 obtain rfl : W = w1 := e1.symm
 clear e1
 obtain ⟨XM, XB, XT, tb, tr, pv, h⟩ := H0.out.later hB
 obtain ⟨-, -, -, c3, -⟩ := row5 h.row
 rw [hg] at c3
 change W.cell? _ = some .nilIface at c3
 clear h
 have t0 := tA_none
 go_upto_region 4 with fail
 have hB2 := qac W (.cells #[.int .u64 0, .int .i64 0] 106)
 generalize W.alloc (.cells #[.int .u64 0, .int .i64 0] 106) = W2 at *
 obtain ⟨g0, g1, g2⟩ := bl3 hB2 g0 g1 g2
 clear c3 t0
 go_wp2_with
  first
  | (refine qad rfl 112 _ _ rfl rfl (w.heap.size + 1) 0 _ #[.int .i64 0, .int .i64 0, .int .u64 0, .bool false, .bool false, .bool false, .bool false, .int .i64 0] rfl rfl rfl 112 _ g1 (show 0 + 8 ≤ 8 by decide) qbd (by simp [Value.oneCell']) #[.int .i64 0, .int .i64 0, .int .u64 0, .bool false, .bool false, .bool false, .bool false, .int .i64 0] rfl ?_
     intro wa hra hta
     replace g2 := qae hta g2 (by omega))
  | (refine qad rfl 50 _ _ rfl rfl (w.heap.size + 1 + 1) 0 _ #[.int .i64 1, .int .i64 0] rfl rfl rfl 50 _ g2 (show 0 + 2 ≤ 2 by decide) qap (by simp [Value.oneCell']) #[.int .i64 1, .int .i64 0] rfl ?_
     intro wb hrb htb
     replace hra := qae htb hra (by omega))
  | fail
 exact zP32x02
theorem zP32x01 {Z : Prop} (z : Z := by
 refine rd1 12 (h := fun K hK => ?_)
 refine qah rfl rfl 91 _ _ rfl KA0 0 _ #[.int .i64 b0, .int .u64 b1, .int .i64 b2, .int .i64 b3, .int .u64 b4, .bool b5, .bool b6, .bool b7, .bool b8, .int .i64 b9] rfl rfl rfl 91 _ hr0 (show 0 + 10 ≤ 10 by decide) TB.info_en (by simp [Value.oneCell']) #[.int .i64 b0, .int .u64 b1, .int .i64 b2, .int .i64 b3, .int .u64 b4, .bool b5, .bool b6, .bool b7, .bool b8, .int .i64 b9] rfl ?_
 intro ws0 hrq htq
 replace k0 := TR.qam htq (fun c => by have := World.block_lt_of_cell? _ _ k0z; simp only at *; omega) k0
 replace k1 := TR.qam htq (fun c => by have := World.block_lt_of_cell? _ _ k1z; simp only at *; omega) k1
 replace hr0 := hrq
 replace HBz := HBz.trans (htq.below (lo := W2.heap.size) (fun i hi => by rw [hi]; exact hg0) HBz.size)
 clear hrq htq
 refine hK.out _ _ ⟨k0, k1⟩ (fun hHelds0 => ?_)
 clear hK
 try simp only [Act.put, sq]
 refine tk 13 11 (h := ?_)
 refine wpAnyH_done (by kernel_rfl) ?_ _
 refine NoPanic.normal ?_
 go_wp2_with fail
 go_meet
 exact ⟨_, rfl, rfl, HBz, hg0, hr0⟩) : Z := z
theorem leaf_on (h : Mch w0 w X x a n S most s) (va : Nat) (hva : va < 18446744073709551616) (hn : Hn) (hal : qaq va 3 = true) (R I : Nat) (hg : s.rg = some (R, I)) :
  Calls Tryz.prog 37 #[.pointer (some ⟨x, 0, none⟩), .int .u64 va, hn.v] w fun r w' => r = .returned (tupV (lfO S s R I va hn)) ∧ Mch w0 w' (Gr X w w') x a n S most (lfS S most s R I va hn) ∧ Turn X w w' := by
 have H0 := Hid.mk h
 have HA := Hid.mk (fun W => qdt va 3 hva W)
 rw [hal] at HA
 have HR := Hid.mk ((h.wfm.rr R I hg).1)
 have HWK := Hid.mk (fun W (hb : Below w.heap.size w W) => walked_c (H0.out.later hb) R I va HR.out hn hva)
 have HO := Hid.mk (And.intro (show lfO S s R I va hn = if fdN s I va = 0 then (lfR (wkO S s R I va hn).2, ftR (wkO S s R I va hn).2) else if fdN s I va = 1 then (enL (fdE s I va), 0, 0) else (lf0, 6, 0) from rfl) (show lfS S most s R I va hn = if fdN s I va = 0 then wdS S most s R I va hn else s from rfl))
 have HV := Hid.mk hva
 generalize lfO S s R I va hn = O at *
 generalize lfS S most s R I va hn = s' at *
 obtain ⟨hf, hl, hk⟩ := hn
 simp only [Hn.v]
 have g0 := heap3_0 w (.cells #[.bool hf, .bool hl, .bool hk] 38) (.cells #[.int .i64 0, .int .i64 0, .int .u64 0, .bool false, .bool false, .bool false, .bool false, .int .i64 0] 112) (.cells #[.int .i64 0, .int .i64 0] 50)
 have g1 := heap3_1 w (.cells #[.bool hf, .bool hl, .bool hk] 38) (.cells #[.int .i64 0, .int .i64 0, .int .u64 0, .bool false, .bool false, .bool false, .bool false, .int .i64 0] 112) (.cells #[.int .i64 0, .int .i64 0] 50)
 have g2 := heap3_2 w (.cells #[.bool hf, .bool hl, .bool hk] 38) (.cells #[.int .i64 0, .int .i64 0, .int .u64 0, .bool false, .bool false, .bool false, .bool false, .int .i64 0] 112) (.cells #[.int .i64 0, .int .i64 0] 50)
 have hB := below3 w (.cells #[.bool hf, .bool hl, .bool hk] 38) (.cells #[.int .i64 0, .int .i64 0, .int .u64 0, .bool false, .bool false, .bool false, .bool false, .int .i64 0] 112) (.cells #[.int .i64 0, .int .i64 0] 50)
 have hsz := size3 w (.cells #[.bool hf, .bool hl, .bool hk] 38) (.cells #[.int .i64 0, .int .i64 0, .int .u64 0, .bool false, .bool false, .bool false, .bool false, .int .i64 0] 112) (.cells #[.int .i64 0, .int .i64 0] 50)
 clear h hva
 go_enter Tryz.func37, Tryz.ntmps37
 go_upto_region 1 with fail
 generalize ((w.alloc (.cells #[.bool hf, .bool hl, .bool hk] 38)).alloc (.cells #[.int .i64 0, .int .i64 0, .int .u64 0, .bool false, .bool false, .bool false, .bool false, .int .i64 0] 112)).alloc (.cells #[.int .i64 0, .int .i64 0] 50) = W at *
 go_wp2_with fail
 refine (HA.out W).mono ?_
 rintro e w1 ⟨rfl, e1⟩
 obtain rfl : W = w1 := e1.symm
 clear e1
 obtain ⟨XM, XB, XT, tb, tr, pv, h⟩ := H0.out.later hB
 obtain ⟨-, c1, -, c3, -⟩ := row5 h.row
 rw [hg] at c3
 change W.cell? _ = some (.iface 106 (.agg #[.int .u64 R, .int .i64 I])) at c3
 have HC : Hid (∀ W1 (_ : Below W.heap.size W W1), Calls Tryz.prog 60 #[.pointer (some ⟨tb, 0, none⟩), .int .i64 I, .int .u64 va] W1 fun r w' => r = .returned (.tuple #[(fdE s I va).v, .int .i64 (fdN s I va : Nat)]) ∧ Below W1.heap.size W1 w') := fun W1 hb => TB.find_c (qfp h.buf (fun i hi => hb.block i (h.lt i (h.cb i hi))) hb.size) (by have := h.wf.el9; omega) (I : Int) va HV.out
 clear h
 generalize fdE s I va = b at *
 generalize fdN s I va = M at *
 have hM : ((M : Nat) : Int) = (M : Int) := rfl
 generalize hMi : ((M : Nat) : Int) = Mi at *
 obtain ⟨b0, b1, b2, b3, b4, b5, b6, b7, b8, b9⟩ := b
 simp only [TB.En.v] at HC
 have t1 := fun W => tA_some W (.agg #[.int .u64 R, .int .i64 I])
 go_upto_region 6 with fail
 have hB2 := qac W (.cells #[.int .u64 R, .int .i64 I] 106)
 have g3 := heap_alloc_new W (.cells #[.int .u64 R, .int .i64 I] 106)
 have hszB : w.heap.size + 1 + 1 + 1 ≤ W.heap.size := Nat.le_of_eq hsz.symm
 generalize W.alloc (.cells #[.int .u64 R, .int .i64 I] 106) = W2 at *
 obtain ⟨g0, g1, g2⟩ := bl3 hB2 g0 g1 g2
 have HBW := Hid.mk hB2
 replace hB := qab hB hB2
 have k0 := cell_later hB2 c1
 rw [hsz] at g3
 clear c1 hB2 hsz hszB
 have k1 := (TR.qaz g3).2
 have k0z := k0
 have k1z := k1
 clear c3 t1
 go_cut [10, 11] (fun s10 s11 wc => ∃ K, s10 = .pointer (some ⟨K, 0, none⟩) ∧ s11 = .int .i64 Mi ∧ Below W2.heap.size W2 wc ∧ W2.heap.size ≤ K ∧ wc.heap[K]? = some (.cells #[.int .i64 b0, .int .u64 b1, .int .i64 b2, .int .i64 b3, .int .u64 b4, .bool b5, .bool b6, .bool b7, .bool b8, .int .i64 b9] 91 (0, 0)))
 case first =>
  obtain ⟨k0, k1⟩ := cl2 (Below.refl _ W2).drew k0 k1
  refine hd2 k0 k1 (h := fun hHeld => ?_)
  refine tk 0 30 (h := ?_)
  refine tk 1 31 (h := ?_)
  refine tk 2 32 (h := ?_)
  refine tk 3 33 (h := ?_)
  refine tk 4 34 (h := ?_)
  refine tk 5 35 (h := ?_)
  refine tk 6 36 (h := ?_)
  have HBz : Below W2.heap.size W2 W2.drew := (Below.refl _ _).drew
  generalize W2.drew = Wd at *
  refine wpAnyH_ready (rs := [7, 11]) (by kernel_rfl) (by simp) ?_
  refine AllReadyH.cons rfl (fun K hK => ?_) (AllReadyH.cons rfl (fun K hK => ?_) AllReadyH.nil)
  ·go_simp
   refine (HC.out _ (qab HBW.out HBz)).mono ?_
   rintro e v0 ⟨rfl, hbm⟩
   go_wp2_with fail
   obtain ⟨k0, k1⟩ := cl2 hbm k0 k1
   replace HBz := qab HBz hbm
   clear hbm
   refine hK.out _ _ ⟨k0, k1⟩ (fun hHeldc0 => ?_)
   clear hK
   try simp only [Act.put, sq]
   refine tk 8 29 (h := ?_)
   refine tk 9 38 (h := ?_)
   refine tk 10 39 (h := ?_)
   refine rd1 11 (h := fun K hK => ?_)
   ·go_simp
    have hbm := qac (v0) (.cells #[.int .i64 0, .int .u64 0, .int .i64 0, .int .i64 0, .int .u64 0, .bool false, .bool false, .bool false, .bool false, .int .i64 0] 91)
    have hr0 := heap_alloc_new (v0) (.cells #[.int .i64 0, .int .u64 0, .int .i64 0, .int .i64 0, .int .u64 0, .bool false, .bool false, .bool false, .bool false, .int .i64 0] 91)
    have hg0 : W2.heap.size ≤ (v0).heap.size := HBz.size
    obtain ⟨k0, k1⟩ := cl2 hbm k0 k1
    replace HBz := qab HBz hbm
    clear hbm
    refine hK.out _ _ ⟨k0, k1⟩ (fun hHelda1 => ?_)
    clear hK
    try simp only [Act.put, sq]
    generalize hva1 : (v0).alloc (.cells #[.int .i64 0, .int .u64 0, .int .i64 0, .int .i64 0, .int .u64 0, .bool false, .bool false, .bool false, .bool false, .int .i64 0] 91) = va1 at *
    generalize hka1 : (v0).heap.size = KA0 at *
    exact zP32x01
  ·go_simp
   have hbm := qac (Wd) (.cells #[.int .i64 0, .int .u64 0, .int .i64 0, .int .i64 0, .int .u64 0, .bool false, .bool false, .bool false, .bool false, .int .i64 0] 91)
   have hr0 := heap_alloc_new (Wd) (.cells #[.int .i64 0, .int .u64 0, .int .i64 0, .int .i64 0, .int .u64 0, .bool false, .bool false, .bool false, .bool false, .int .i64 0] 91)
   have hg0 : W2.heap.size ≤ (Wd).heap.size := HBz.size
   obtain ⟨k0, k1⟩ := cl2 hbm k0 k1
   replace HBz := qab HBz hbm
   clear hbm
   refine hK.out _ _ ⟨k0, k1⟩ (fun hHelda0 => ?_)
   clear hK
   try simp only [Act.put, sq]
   generalize hva0 : (Wd).alloc (.cells #[.int .i64 0, .int .u64 0, .int .i64 0, .int .i64 0, .int .u64 0, .bool false, .bool false, .bool false, .bool false, .int .i64 0] 91) = va0 at *
   generalize hka0 : (Wd).heap.size = KA0 at *
   refine rd1 7 (h := fun K hK => ?_)
   ·go_simp
    refine (HC.out _ (qab HBW.out HBz)).mono ?_
    rintro e v1 ⟨rfl, hbm⟩
    go_wp2_with fail
    obtain ⟨k0, k1⟩ := cl2 hbm k0 k1
    replace hr0 := qaa hbm hr0
    replace HBz := qab HBz hbm
    clear hbm
    refine hK.out _ _ ⟨k0, k1⟩ (fun hHeldc1 => ?_)
    clear hK
    try simp only [Act.put, sq]
    refine tk 8 29 (h := ?_)
    refine tk 9 38 (h := ?_)
    refine tk 10 39 (h := ?_)
    exact zP32x01
 case rest =>
  obtain ⟨K, rfl, rfl, hBc, hge, hr⟩ := hcut
  clear k0 k1 k0z k1z HC
  obtain ⟨g0, g1, g2, g3⟩ := bl4 hBc g0 g1 g2 g3
  replace hB := qab hB hBc
  have HB3 := Hid.mk (Nat.le_of_lt (qag g3))
  obtain ⟨h0, h1, h2⟩ := qan g0
  obtain ⟨q0, q1⟩ := TR.qaz g3
  obtain ⟨c0, c1, c2, c3, c4, c5, c6, c7, c8, c9⟩ := TB.qck hr
  clear hBc hge
  obtain ⟨hO1, hO2⟩ := HO.out
  by_cases hz : Mi = 0
  ·have hz' : M = 0 := by omega
   rw [if_pos hz'] at hO1 hO2
   subst hz
   clear HO
   subst hO1 hO2
   clear c0 c1 c2 c3 c4 c5 c6 c7 c8 c9
   go_wp2_with fail
   refine (HWK.out _ hB).mono ?_
   rintro e w5 ⟨rfl, hM5, hT5, -⟩
   have HM5 := Hid.mk hM5
   have HT5 := Hid.mk hT5
   replace g1 := (hT5.block _ (qag g1) (H0.out.nX (by omega))).trans g1
   replace g2 := (hT5.block _ (qag g2) (H0.out.nX (by omega))).trans g2
   clear HWK hM5 hT5 h0 h1 h2 q0 q1 g0 g3 hr
   generalize hlf : (lfR (wkO S s R I va ⟨hf, hl, hk⟩).2) = lf at *
   generalize hft : (ftR (wkO S s R I va ⟨hf, hl, hk⟩).2) = ft at *
   obtain ⟨l, k, o, u, r, y, q, t⟩ := lf
   obtain ⟨f1, f2⟩ := ft
   have HLF := Hid.mk (And.intro hlf hft)
   clear hlf hft
   simp only [Lf.cs] at *
   go_wp2_with
    first
    | (refine qad rfl 112 _ _ rfl rfl (w.heap.size + 1) 0 _ #[.int .i64 l, .int .i64 k, .int .u64 o, .bool u, .bool r, .bool y, .bool q, .int .i64 t] rfl rfl rfl 112 _ g1 (show 0 + 8 ≤ 8 by decide) qbd (by simp [Value.oneCell']) #[.int .i64 l, .int .i64 k, .int .u64 o, .bool u, .bool r, .bool y, .bool q, .int .i64 t] rfl ?_
       intro wa hra hta
       replace g2 := qae hta g2 (by omega))
    | (refine qad rfl 50 _ _ rfl rfl (w.heap.size + 1 + 1) 0 _ #[.int .i64 f1, .int .i64 f2] rfl rfl rfl 50 _ g2 (show 0 + 2 ≤ 2 by decide) qap (by simp [Value.oneCell']) #[.int .i64 f1, .int .i64 f2] rfl ?_
       intro wb hrb htb
       replace hra := qae htb hra (by omega))
    | fail
   refine bodyPost_ret (qas rfl _ _ (w.heap.size + 1) (w.heap.size + 1 + 1) _ _ _ _ _ _ _ _ rfl hra Tryz.underlying112 rfl qbd rfl hrb Tryz.underlying50 rfl qap) rfl ⟨(by rw [HLF.out.1, HLF.out.2]; rfl), ?_⟩
   have hnZ : ∀ i, w.heap.size ≤ i → i < wc.heap.size → ¬ Gr X wc w5 i := fun i h1 h2 c => by
    rcases c with c | c
    ·exact H0.out.nX h1 c
    ·omega
   have hle := hB.size
   exact H0.out.fin2 HM5.out (Below.refl _ _) hta htb (fun i hi => by
    rcases hi with hi | hi
    ·exact Or.inl hi
    ·exact Or.inr (by omega)) ⟨by omega, hnZ _ (by omega) (by have := HB3.out; omega)⟩ ⟨by omega, hnZ _ (by omega) (by have := HB3.out; omega)⟩ ((qak X hB).trans HT5.out (fun _ _ h => h))
  ·have hz' : M ≠ 0 := by omega
   rw [if_neg hz'] at hO1 hO2
   by_cases ho : Mi = 1
   ·have ho' : M = 1 := by omega
    rw [if_pos ho'] at hO1
    subst ho
    clear HO
    subst hO1 hO2
    clear HWK h0 h1 h2 q0 q1 g0 g3
    go_wp2_with
     first
     | (refine qad rfl 112 _ _ rfl rfl (w.heap.size + 1) 0 _ #[.int .i64 b2, .int .i64 b3, .int .u64 b4, .bool b5, .bool b6, .bool b7, .bool b8, .int .i64 b9] rfl rfl rfl 112 _ g1 (show 0 + 8 ≤ 8 by decide) qbd (by simp [Value.oneCell']) #[.int .i64 b2, .int .i64 b3, .int .u64 b4, .bool b5, .bool b6, .bool b7, .bool b8, .int .i64 b9] rfl ?_
        intro wa hra hta
        replace g2 := qae hta g2 (by omega))
     | (refine qad rfl 50 _ _ rfl rfl (w.heap.size + 1 + 1) 0 _ #[.int .i64 0, .int .i64 0] rfl rfl rfl 50 _ g2 (show 0 + 2 ≤ 2 by decide) qap (by simp [Value.oneCell']) #[.int .i64 0, .int .i64 0] rfl ?_
        intro wb hrb htb
        replace hra := qae htb hra (by omega))
     | fail
    exact zP32x02
   ·have ho' : M ≠ 1 := by omega
    rw [if_neg ho'] at hO1
    clear HO
    subst hO1 hO2
    clear HWK h0 h1 h2 q0 q1 g0 g3 c0 c1 c2 c3 c4 c5 c6 c7 c8 c9 hr
    go_wp2_with
     first
     | (refine qad rfl 112 _ _ rfl rfl (w.heap.size + 1) 0 _ #[.int .i64 0, .int .i64 0, .int .u64 0, .bool false, .bool false, .bool false, .bool false, .int .i64 0] rfl rfl rfl 112 _ g1 (show 0 + 8 ≤ 8 by decide) qbd (by simp [Value.oneCell']) #[.int .i64 0, .int .i64 0, .int .u64 0, .bool false, .bool false, .bool false, .bool false, .int .i64 0] rfl ?_
        intro wa hra hta
        replace g2 := qae hta g2 (by omega))
     | (refine qad rfl 50 _ _ rfl rfl (w.heap.size + 1 + 1) 0 _ #[.int .i64 6, .int .i64 0] rfl rfl rfl 50 _ g2 (show 0 + 2 ≤ 2 by decide) qap (by simp [Value.oneCell']) #[.int .i64 6, .int .i64 0] rfl ?_
        intro wb hrb htb
        replace hra := qae htb hra (by omega))
     | fail
    exact zP32x02
theorem leaf_c (h : Mch w0 w X x a n S most s) (va : Nat) (hva : va < 18446744073709551616) (hn : Hn) :
  Calls Tryz.prog 37 #[.pointer (some ⟨x, 0, none⟩), .int .u64 va, hn.v] w fun r w' => r = .returned (tupV (qai S s va hn)) ∧ Mch w0 w' (Gr X w w') x a n S most (qba S most s va hn) ∧ Turn X w w' := by
 unfold qai qba
 cases hal : qaq va 3
 ·exact leaf_un h va hva hn hal
 ·cases hg : s.rg with
  | none => exact leaf_off h va hva hn hal hg
  | some q =>
   obtain ⟨R, I⟩ := q
   exact leaf_on h va hva hn hal R I hg
end
end Go.Proofs.YtfdbdeckohaneaaGreatDoor.MM
