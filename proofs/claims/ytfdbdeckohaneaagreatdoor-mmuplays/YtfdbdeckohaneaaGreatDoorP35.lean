/- P35 -/
import Derived.Test.YtfdbdeckohaneaaGreatDoorP32
set_option maxHeartbeats 16000000
set_option maxRecDepth 100000
namespace Go.Proofs.YtfdbdeckohaneaaGreatDoor.MM
open Go.RowKit Go.Maps
def guS (S : Nat) (most : Int) (s : St) (va : Nat) (h : Hn) : St := match s.rg with | none => s | some (R, I) => lfS S most s R I va h
section
variable {w0 w : World} {X : Nat → Prop} {x a n S : Nat} {most : Int} {s : St}
theorem guess_off (h : Mch w0 w X x a n S most s) (va : Nat) (hn : Hn) (hg : s.rg = none) :
  Calls Tryz.prog 18 #[.pointer (some ⟨x, 0, none⟩), .int .u64 va, hn.v] w fun r w' => r = .returned (.tuple #[]) ∧ Mch w0 w' (Gr X w w') x a n S most s ∧ Turn X w w' ∧ w'.heap[x]? = w.heap[x]? := by
 have H0 := Hid.mk h
 obtain ⟨XM, XB, XT, tb, tr, pv, h⟩ := h
 have hxw := h.lt x h.cx
 obtain ⟨-, -, -, c3, -⟩ := row5 h.row
 rw [hg] at c3
 change w.cell? _ = some .nilIface at c3
 clear h
 obtain ⟨hf, hl, hk⟩ := hn
 simp only [Hn.v]
 have t0 := tA_none
 have hB := qac w (.cells #[.bool hf, .bool hl, .bool hk] 38)
 go_enter Tryz.func18, Tryz.ntmps18
 go_upto_region 1 with fail
 generalize w.alloc (.cells #[.bool hf, .bool hl, .bool hk] 38) = W at *
 have k3 := cell_later hB c3
 clear c3
 go_wp2
 refine bodyPost_ret (results_none rfl _ _ _) rfl ?_
 have hb2 := qab hB (qac W (.cells #[.int .u64 0, .int .i64 0] 106))
 have hg0 := H0.out.gr0 hb2
 exact ⟨rfl, hg0.1, hg0.2, hb2.block x hxw⟩
theorem zP35x01 {Z : Prop} (z : Z := by
 refine rd1 12 (h := fun K hK => ?_)
 refine qah rfl rfl 91 _ _ rfl KA0 0 _ #[.int .i64 b0, .int .u64 b1, .int .i64 b2, .int .i64 b3, .int .u64 b4, .bool b5, .bool b6, .bool b7, .bool b8, .int .i64 b9] rfl rfl rfl 91 _ hr0 (show 0 + 10 ≤ 10 by decide) TB.info_en (by simp [Value.oneCell']) #[.int .i64 b0, .int .u64 b1, .int .i64 b2, .int .i64 b3, .int .u64 b4, .bool b5, .bool b6, .bool b7, .bool b8, .int .i64 b9] rfl ?_
 intro ws0 hrq htq
 replace k0 := TR.qam htq (fun c => by have := World.block_lt_of_cell? _ _ k0z; simp only at *; omega) k0
 replace k1 := TR.qam htq (fun c => by have := World.block_lt_of_cell? _ _ k1z; simp only at *; omega) k1
 replace hr0 := hrq
 replace HBz := HBz.trans (htq.below (lo := W2.heap.size) (fun i hi => by rw [hi]; exact hg0) HBz.size)
 clear hrq htq
 refine hK.out _ _ ⟨k0, k1⟩ (fun hHelds0 => ?_)
 clear hK
 try simp only [Act.put, sq]
 refine tk 13 9 (h := ?_)
 refine wpAnyH_done (by kernel_rfl) ?_ _
 refine NoPanic.normal ?_
 go_wp2_with fail
 go_meet
 exact ⟨rfl, HBz⟩) : Z := z
theorem guess_on (h : Mch w0 w X x a n S most s) (va : Nat) (hva : va < 18446744073709551616) (hn : Hn) (R I : Nat) (hg : s.rg = some (R, I)) :
  Calls Tryz.prog 18 #[.pointer (some ⟨x, 0, none⟩), .int .u64 va, hn.v] w fun r w' => r = .returned (.tuple #[]) ∧ Mch w0 w' (Gr X w w') x a n S most (lfS S most s R I va hn) ∧ Turn X w w' ∧ w'.heap[x]? = w.heap[x]? := by
 have H0 := Hid.mk h
 have HR := Hid.mk ((h.wfm.rr R I hg).1)
 have HWK := Hid.mk (fun W (hb : Below w.heap.size w W) => walked_c (H0.out.later hb) R I va HR.out hn hva)
 have HO := Hid.mk (show lfS S most s R I va hn = if fdN s I va = 0 then wdS S most s R I va hn else s from rfl)
 have HV := Hid.mk hva
 generalize lfS S most s R I va hn = s' at *
 obtain ⟨hf, hl, hk⟩ := hn
 simp only [Hn.v]
 have g0 := qcf w (.cells #[.bool hf, .bool hl, .bool hk] 38) (.cells #[.int .u64 R, .int .i64 I] 106)
 have g3 := heap_alloc2_new w (.cells #[.bool hf, .bool hl, .bool hk] 38) (.cells #[.int .u64 R, .int .i64 I] 106)
 have hB := qbx w (.cells #[.bool hf, .bool hl, .bool hk] 38) (.cells #[.int .u64 R, .int .i64 I] 106)
 obtain ⟨XM, XB, XT, tb, tr, pv, h⟩ := h
 obtain ⟨-, c1, -, c3, -⟩ := row5 (qaa (qac w (.cells #[.bool hf, .bool hl, .bool hk] 38)) h.row) 
 rw [hg] at c3
 change World.cell? _ _ = some (.iface 106 (.agg #[.int .u64 R, .int .i64 I])) at c3
 have HC : Hid (∀ W1 (_ : Below w.heap.size w W1), Calls Tryz.prog 60 #[.pointer (some ⟨tb, 0, none⟩), .int .i64 I, .int .u64 va] W1 fun r w' => r = .returned (.tuple #[(fdE s I va).v, .int .i64 (fdN s I va : Nat)]) ∧ Below W1.heap.size W1 w') := fun W1 hb => TB.find_c (qfp h.buf (fun i hi => hb.block i (h.lt i (h.cb i hi))) hb.size) (by have := h.wf.el9; omega) (I : Int) va HV.out
 have cx1 := cell_later hB (row5 h.row).2.1
 have HXW := Hid.mk (h.lt x h.cx)
 clear h hva c1
 generalize fdE s I va = b at *
 generalize fdN s I va = M at *
 have hM : ((M : Nat) : Int) = (M : Int) := rfl
 generalize hMi : ((M : Nat) : Int) = Mi at *
 obtain ⟨b0, b1, b2, b3, b4, b5, b6, b7, b8, b9⟩ := b
 simp only [TB.En.v] at HC
 have t1 := fun W => tA_some W (.agg #[.int .u64 R, .int .i64 I])
 go_enter Tryz.func18, Tryz.ntmps18
 go_upto_region 3 with fail
 generalize (w.alloc (.cells #[.bool hf, .bool hl, .bool hk] 38)).alloc (.cells #[.int .u64 R, .int .i64 I] 106) = W2 at *
 have HBW := Hid.mk hB
 have k0 := cx1
 have k1 := (TR.qaz g3).2
 have k0z := k0
 have k1z := k1
 clear c3 t1 cx1
 go_cut [9] (fun s9 wc => s9 = .int .i64 Mi ∧ Below W2.heap.size W2 wc)
 case first =>
  obtain ⟨k0, k1⟩ := cl2 (Below.refl _ W2).drew k0 k1
  refine hd2 k0 k1 (h := fun hHeld => ?_)
  refine tk 0 21 (h := ?_)
  refine tk 1 22 (h := ?_)
  refine tk 2 23 (h := ?_)
  refine tk 3 24 (h := ?_)
  refine tk 4 25 (h := ?_)
  refine tk 5 26 (h := ?_)
  refine tk 6 27 (h := ?_)
  have HBz : Below W2.heap.size W2 W2.drew := (Below.refl _ _).drew
  generalize W2.drew = Wd at *
  refine wpAnyH_ready (rs := [7, 11]) (by kernel_rfl) (by simp) ?_
  refine AllReadyH.cons rfl (fun K hK => ?_) (AllReadyH.cons rfl (fun K hK => ?_) AllReadyH.nil)
  ·go_simp
   refine (HC.out _ (qab HBW.out HBz)).mono ?_
   rintro e v0 ⟨rfl, hbm⟩
   go_wp2_with fail
   obtain ⟨k0, k1⟩ := cl2 hbm k0 k1
   replace HBz := qab HBz hbm
   clear hbm
   refine hK.out _ _ ⟨k0, k1⟩ (fun hHeldc0 => ?_)
   clear hK
   try simp only [Act.put, sq]
   refine tk 8 20 (h := ?_)
   refine tk 9 29 (h := ?_)
   refine tk 10 30 (h := ?_)
   refine rd1 11 (h := fun K hK => ?_)
   ·go_simp
    have hbm := qac (v0) (.cells #[.int .i64 0, .int .u64 0, .int .i64 0, .int .i64 0, .int .u64 0, .bool false, .bool false, .bool false, .bool false, .int .i64 0] 91)
    have hr0 := heap_alloc_new (v0) (.cells #[.int .i64 0, .int .u64 0, .int .i64 0, .int .i64 0, .int .u64 0, .bool false, .bool false, .bool false, .bool false, .int .i64 0] 91)
    have hg0 : W2.heap.size ≤ (v0).heap.size := HBz.size
    obtain ⟨k0, k1⟩ := cl2 hbm k0 k1
    replace HBz := qab HBz hbm
    clear hbm
    refine hK.out _ _ ⟨k0, k1⟩ (fun hHelda1 => ?_)
    clear hK
    try simp only [Act.put, sq]
    generalize hva1 : (v0).alloc (.cells #[.int .i64 0, .int .u64 0, .int .i64 0, .int .i64 0, .int .u64 0, .bool false, .bool false, .bool false, .bool false, .int .i64 0] 91) = va1 at *
    generalize hka1 : (v0).heap.size = KA0 at *
    exact zP35x01
  ·go_simp
   have hbm := qac (Wd) (.cells #[.int .i64 0, .int .u64 0, .int .i64 0, .int .i64 0, .int .u64 0, .bool false, .bool false, .bool false, .bool false, .int .i64 0] 91)
   have hr0 := heap_alloc_new (Wd) (.cells #[.int .i64 0, .int .u64 0, .int .i64 0, .int .i64 0, .int .u64 0, .bool false, .bool false, .bool false, .bool false, .int .i64 0] 91)
   have hg0 : W2.heap.size ≤ (Wd).heap.size := HBz.size
   obtain ⟨k0, k1⟩ := cl2 hbm k0 k1
   replace HBz := qab HBz hbm
   clear hbm
   refine hK.out _ _ ⟨k0, k1⟩ (fun hHelda0 => ?_)
   clear hK
   try simp only [Act.put, sq]
   generalize hva0 : (Wd).alloc (.cells #[.int .i64 0, .int .u64 0, .int .i64 0, .int .i64 0, .int .u64 0, .bool false, .bool false, .bool false, .bool false, .int .i64 0] 91) = va0 at *
   generalize hka0 : (Wd).heap.size = KA0 at *
   refine rd1 7 (h := fun K hK => ?_)
   ·go_simp
    refine (HC.out _ (qab HBW.out HBz)).mono ?_
    rintro e v1 ⟨rfl, hbm⟩
    go_wp2_with fail
    obtain ⟨k0, k1⟩ := cl2 hbm k0 k1
    replace hr0 := qaa hbm hr0
    replace HBz := qab HBz hbm
    clear hbm
    refine hK.out _ _ ⟨k0, k1⟩ (fun hHeldc1 => ?_)
    clear hK
    try simp only [Act.put, sq]
    refine tk 8 20 (h := ?_)
    refine tk 9 29 (h := ?_)
    refine tk 10 30 (h := ?_)
    exact zP35x01
 case rest =>
  obtain ⟨rfl, hBc⟩ := hcut
  clear k0 k1 k0z k1z HC
  obtain ⟨g0, g3⟩ := bl2 hBc g0 g3
  replace hB := qab hB hBc
  obtain ⟨h0, h1, h2⟩ := qan g0
  obtain ⟨q0, q1⟩ := TR.qaz g3
  clear hBc
  have hO2 := HO.out
  by_cases hz : Mi = 0
  ·have hz' : M = 0 := by omega
   rw [if_pos hz'] at hO2
   subst hz
   clear HO
   subst hO2
   go_wp2_with fail
   refine (HWK.out _ hB).mono ?_
   rintro e w5 ⟨rfl, hM5, hT5, hx5⟩
   have HX5 := Hid.mk (hx5.trans (hB.block x HXW.out))
   clear hx5
   have HM5 := Hid.mk hM5
   have HT5 := Hid.mk hT5
   clear HWK hM5 hT5 h0 h1 h2 q0 q1 g0 g3
   go_wp2
   go_end0
   have hg1 := H0.out.gr1 hB HT5.out (Below.refl _ _) HM5.out
   exact ⟨rfl, hg1.1, hg1.2, HX5.out⟩
  ·have hz' : M ≠ 0 := by omega
   rw [if_neg hz'] at hO2
   clear HO
   subst hO2
   clear HWK h0 h1 h2 q0 q1 g0 g3
   go_wp2
   go_end0
   have hg0 := H0.out.gr0 hB
   exact ⟨rfl, hg0.1, hg0.2, hB.block x HXW.out⟩
theorem guess_c (h : Mch w0 w X x a n S most s) (va : Nat) (hva : va < 18446744073709551616) (hn : Hn) :
  Calls Tryz.prog 18 #[.pointer (some ⟨x, 0, none⟩), .int .u64 va, hn.v] w fun r w' => r = .returned (.tuple #[]) ∧ Mch w0 w' (Gr X w w') x a n S most (guS S most s va hn) ∧ Turn X w w' ∧ w'.heap[x]? = w.heap[x]? := by
 unfold guS
 cases hg : s.rg with
 | none => exact guess_off h va hn hg
 | some q =>
  obtain ⟨R, I⟩ := q
  exact guess_on h va hva hn R I hg
end
end Go.Proofs.YtfdbdeckohaneaaGreatDoor.MM
