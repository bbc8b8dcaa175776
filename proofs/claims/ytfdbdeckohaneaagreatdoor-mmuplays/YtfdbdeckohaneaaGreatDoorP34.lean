/- P34 -/
import Derived.Test.YtfdbdeckohaneaaGreatDoorP33
set_option maxHeartbeats 16000000
set_option maxRecDepth 100000
namespace Go.Proofs.YtfdbdeckohaneaaGreatDoor.MM
open Go.RowKit Go.Maps
def eqF (p q : Lf) : Bool := p.l == q.l && (p.k == q.k && (p.o == q.o && (p.u == q.u && (p.r == q.r && (p.x == q.x && (p.s == q.s && p.a == q.a))))))
theorem eqF_iff {p q : Lf} : eqF p q = true ↔ p = q := by
 obtain ⟨a0, a1, a2, a3, a4, a5, a6, a7⟩ := p
 obtain ⟨b0, b1, b2, b3, b4, b5, b6, b7⟩ := q
 unfold eqF
 simp only [Bool.and_eq_true, beq_iff_eq, Lf.mk.injEq]
theorem eqL (p q : Lf) (w : World) : (binOp .eql 112 (.agg p.cs.toArray) (.agg q.cs.toArray)).run Tryz.prog w = .ok (.bool (eqF p q)) w := by
 obtain ⟨a0, a1, a2, a3, a4, a5, a6, a7⟩ := p
 obtain ⟨b0, b1, b2, b3, b4, b5, b6, b7⟩ := q
 simp only [Lf.cs, eqF]
 by_cases h0 : a0 = b0
 ·subst h0
  by_cases h1 : a1 = b1
  ·subst h1
   by_cases h2 : a2 = b2
   ·subst h2
    by_cases h3 : a3 = b3
    ·subst h3
     by_cases h4 : a4 = b4
     ·subst h4
      by_cases h5 : a5 = b5
      ·subst h5
       by_cases h6 : a6 = b6
       ·subst h6
        by_cases h7 : a7 = b7
        ·subst h7
         first | (go_simp; done) | (go_simp <;> simp_all)
        ·go_simp <;> (first | (simp_all; done) | (rw [if_neg (by omega), beq_eq_false_iff_ne.2 (by assumption)]; rfl))
       ·go_simp <;> (first | (simp_all; done) | (rw [if_neg (by omega), beq_eq_false_iff_ne.2 (by assumption)]; rfl))
      ·go_simp <;> (first | (simp_all; done) | (rw [if_neg (by omega), beq_eq_false_iff_ne.2 (by assumption)]; rfl))
     ·go_simp <;> (first | (simp_all; done) | (rw [if_neg (by omega), beq_eq_false_iff_ne.2 (by assumption)]; rfl))
    ·go_simp <;> (first | (simp_all; done) | (rw [if_neg (by omega), beq_eq_false_iff_ne.2 (by assumption)]; rfl))
   ·go_simp <;> (first | (simp_all; done) | (rw [if_neg (by omega), beq_eq_false_iff_ne.2 (by assumption)]; rfl))
  ·go_simp <;> (first | (simp_all; done) | (rw [if_neg (by omega), beq_eq_false_iff_ne.2 (by assumption)]; rfl))
 ·go_simp <;> (first | (simp_all; done) | (rw [if_neg (by omega), beq_eq_false_iff_ne.2 (by assumption)]; rfl))
def isTb (k : Int) (o : Nat) (u r x s : Bool) (a : Int) (tb : Nat) : Bool := k == 1 && (o == tb && (u == false && (r == false && (x == false && (s == false && a == 0)))))
theorem eqD (a0 : Int) (a1 : Nat) (a2 a3 a4 a5 : Bool) (a6 : Int) (tb : Nat) (w : World) : (binOp .eql 89 (dv a0 a1 a2 a3 a4 a5 a6) (dv 1 tb false false false false 0)).run Tryz.prog w = .ok (.bool (isTb a0 a1 a2 a3 a4 a5 a6 tb)) w := by
 unfold isTb dv
 by_cases h0 : a0 = 1
 ·subst h0
  by_cases h1 : a1 = tb
  ·subst h1
   cases a2 <;> cases a3 <;> cases a4 <;> cases a5 <;> by_cases h6 : a6 = 0 <;> (first | (go_simp; done) | (go_simp <;> simp_all))
  ·go_simp <;> (first | (simp_all; done) | (rw [if_neg (by omega), beq_eq_false_iff_ne.2 (by assumption)]; rfl))
 ·go_simp <;> simp_all
theorem tb_rd (l : Int) (x : Nat) (tb : Nat) : isTb (rdK l x) (rdO x) (rdU l x) (rdR l x) (rdX l x) (rdS l x) (rdA l x) tb = (decide (rdK l x = 1) && decide (rdO x = tb)) := by
 unfold isTb
 by_cases hk : rdK l x = 1
 ·have hq : leafQ l x = false := by
   unfold rdK at hk
   unfold leafQ
   split at hk
   ·cases hk
   ·split at hk
    ·rename_i h; rw [h]; simp
    ·split at hk <;> cases hk
  unfold rdU rdR rdX rdS rdA
  rw [hq, hk]
  simp
  rfl
 ·simp [hk]
def cmT (S : Nat) (f : Nat → Nat) (R : Nat) (e : TB.En) : Bool := eqF (lfR (wk0 S f 0 R e.va).2) (enL e)
def thB (S : Nat) (f : Nat → Nat) (R : Nat) (e : TR.En) : Bool := decide ((e.lv - 1).toNat < (wk0 S f 0 R e.va).1.length) && (TR.isT (e.lv - 1) (wk0 S f 0 R e.va).1[(e.lv - 1).toNat]!.2 && decide (rdO (wk0 S f 0 R e.va).1[(e.lv - 1).toNat]!.2 = e.tb))
section
variable {w0 w : World} {X : Nat → Prop} {x a n S : Nat} {most : Int} {s : St}
theorem zP34x01 {Z : Prop} (z : Z := by
 replace HBz := qab HBz hbm
 clear hbm
 refine hK.out _ _ ⟨k0, k1⟩ (fun hHeldc2 => ?_)
 clear hK
 try simp only [Act.put, sq]
 refine tk 8 9 (h := ?_)
 refine tk 9 18 (h := ?_)
 refine tk 10 19 (h := ?_)
 refine rd1 13 (h := fun K hK => ?_)
 refine qah rfl rfl 112 _ _ rfl KA0 0 _ #[.int .i64 l, .int .i64 k, .int .u64 o, .bool u, .bool r, .bool y, .bool q, .int .i64 t] rfl rfl rfl 112 _ hr0 (show 0 + 8 ≤ 8 by decide) qbd (by simp [Value.oneCell']) #[.int .i64 l, .int .i64 k, .int .u64 o, .bool u, .bool r, .bool y, .bool q, .int .i64 t] rfl ?_
 intro ws0 hrq htq
 replace k0 := TR.qam htq (fun c => by have := World.block_lt_of_cell? _ _ k0z; simp only at *; omega) k0
 replace k1 := TR.qam htq (fun c => by have := World.block_lt_of_cell? _ _ k1z; simp only at *; omega) k1
 replace hr1 := qae htq hr1 (by omega)
 replace hr0 := hrq
 replace HBz := HBz.trans (htq.below (lo := W.heap.size) (fun i hi => by rw [hi]; exact hg0) HBz.size)
 clear hrq htq
 refine hK.out _ _ ⟨k0, k1⟩ (fun hHelds0 => ?_)
 clear hK
 try simp only [Act.put, sq]
 refine rd1 14 (h := fun K hK => ?_)
 refine qah rfl rfl 50 _ _ rfl KA1 0 _ #[.int .i64 f1, .int .i64 f2] rfl rfl rfl 50 _ hr1 (show 0 + 2 ≤ 2 by decide) qap (by simp [Value.oneCell']) #[.int .i64 f1, .int .i64 f2] rfl ?_
 intro ws1 hrq htq
 replace k0 := TR.qam htq (fun c => by have := World.block_lt_of_cell? _ _ k0z; simp only at *; omega) k0
 replace k1 := TR.qam htq (fun c => by have := World.block_lt_of_cell? _ _ k1z; simp only at *; omega) k1
 replace hr0 := qae htq hr0 (by omega)
 replace hr1 := hrq
 replace HBz := HBz.trans (htq.below (lo := W.heap.size) (fun i hi => by rw [hi]; exact hg1) HBz.size)
 clear hrq htq
 refine hK.out _ _ ⟨k0, k1⟩ (fun hHelds1 => ?_)
 clear hK
 try simp only [Act.put, sq]
 refine wpAnyH_done (by kernel_rfl) ?_ _
 refine NoPanic.normal ?_
 go_wp2_with fail
 go_meet
 exact ⟨_, rfl, HBz, hr0⟩) : Z := z
theorem zP34x02 {Z : Prop} (z : Z := by
 refine rd1 13 (h := fun K hK => ?_)
 refine qah rfl rfl 112 _ _ rfl KA0 0 _ #[.int .i64 l, .int .i64 k, .int .u64 o, .bool u, .bool r, .bool y, .bool q, .int .i64 t] rfl rfl rfl 112 _ hr0 (show 0 + 8 ≤ 8 by decide) qbd (by simp [Value.oneCell']) #[.int .i64 l, .int .i64 k, .int .u64 o, .bool u, .bool r, .bool y, .bool q, .int .i64 t] rfl ?_
 intro ws0 hrq htq
 replace k0 := TR.qam htq (fun c => by have := World.block_lt_of_cell? _ _ k0z; simp only at *; omega) k0
 replace k1 := TR.qam htq (fun c => by have := World.block_lt_of_cell? _ _ k1z; simp only at *; omega) k1
 replace hr1 := qae htq hr1 (by omega)
 replace hr0 := hrq
 replace HBz := HBz.trans (htq.below (lo := W.heap.size) (fun i hi => by rw [hi]; exact hg0) HBz.size)
 clear hrq htq
 refine hK.out _ _ ⟨k0, k1⟩ (fun hHelds0 => ?_)
 clear hK
 try simp only [Act.put, sq]
 refine rd1 14 (h := fun K hK => ?_)
 refine qah rfl rfl 50 _ _ rfl KA1 0 _ #[.int .i64 f1, .int .i64 f2] rfl rfl rfl 50 _ hr1 (show 0 + 2 ≤ 2 by decide) qap (by simp [Value.oneCell']) #[.int .i64 f1, .int .i64 f2] rfl ?_
 intro ws1 hrq htq
 replace k0 := TR.qam htq (fun c => by have := World.block_lt_of_cell? _ _ k0z; simp only at *; omega) k0
 replace k1 := TR.qam htq (fun c => by have := World.block_lt_of_cell? _ _ k1z; simp only at *; omega) k1
 replace hr0 := qae htq hr0 (by omega)
 replace hr1 := hrq
 replace HBz := HBz.trans (htq.below (lo := W.heap.size) (fun i hi => by rw [hi]; exact hg1) HBz.size)
 clear hrq htq
 refine hK.out _ _ ⟨k0, k1⟩ (fun hHelds1 => ?_)
 clear hK
 try simp only [Act.put, sq]
 refine wpAnyH_done (by kernel_rfl) ?_ _
 refine NoPanic.normal ?_
 go_wp2_with fail
 go_meet
 exact ⟨_, rfl, HBz, hr0⟩) : Z := z
theorem comesTo_c (h : Mch w0 w X x a n S most s) (R : Nat) (hR : R < 281474976710656) (e : TB.En) :
  Calls Tryz.prog 46 #[.pointer (some ⟨x, 0, none⟩), .int .u64 R, e.v] w fun r w' => r = .returned (.bool (cmT S s.f R e)) ∧ Below w.heap.size w w' := by
 obtain ⟨XM, XB, XT, tb, tr, pv, h⟩ := h
 have c0 := (row5 h.row).1
 have HC : Hid (∀ W (_ : Below w.heap.size w W), Calls Tryz.prog 80 #[.pointer (some ⟨a, 0, none⟩), .int .u64 R, .int .u64 (e.va : Nat)] W fun r w' => r = .returned (.tuple #[.agg (lfR (wk0 S s.f 0 R e.va).2).cs.toArray, .agg #[.int .i64 (ftR (wk0 S s.f 0 R e.va).2).1, .int .i64 (ftR (wk0 S s.f 0 R e.va).2).2]]) ∧ Below W.heap.size W w') := fun W hb => by
  have := walk_any R e.va (by omega) (h.later hb).mem (h.later hb).fld.t.d
  rw [leafL_cs, faultL_cs] at this
  exact this
 have HQ := Hid.mk (fun W => eqL (lfR (wk0 S s.f 0 R e.va).2) (enL e) W)
 unfold cmT
 generalize eqF (lfR (wk0 S s.f 0 R e.va).2) (enL e) = D at *
 generalize lfR (wk0 S s.f 0 R e.va).2 = lf at *
 generalize ftR (wk0 S s.f 0 R e.va).2 = ft at *
 obtain ⟨l, k, o, u, r, y, q, t⟩ := lf
 obtain ⟨f1, f2⟩ := ft
 obtain ⟨b0, b1, b2, b3, b4, b5, b6, b7, b8, b9⟩ := e
 simp only [Lf.cs, enL, TB.En.v] at *
 clear h hR
 have hK := heap_alloc_new w (.cells #[.int .i64 b0, .int .u64 b1, .int .i64 b2, .int .i64 b3, .int .u64 b4, .bool b5, .bool b6, .bool b7, .bool b8, .int .i64 b9] 91)
 have HBW := Hid.mk (qac w (.cells #[.int .i64 b0, .int .u64 b1, .int .i64 b2, .int .i64 b3, .int .u64 b4, .bool b5, .bool b6, .bool b7, .bool b8, .int .i64 b9] 91))
 go_enter Tryz.func46, Tryz.ntmps46
 go_upto_region 1 with fail
 generalize w.alloc (.cells #[.int .i64 b0, .int .u64 b1, .int .i64 b2, .int .i64 b3, .int .u64 b4, .bool b5, .bool b6, .bool b7, .bool b8, .int .i64 b9] 91) = W at *
 have k0 := cell_later HBW.out c0
 obtain ⟨-, k1, -⟩ := TB.qck hK
 have k0z := k0
 have k1z := k1
 go_cut [7] (fun s7 wc => ∃ K, s7 = .pointer (some ⟨K, 0, none⟩) ∧ Below W.heap.size W wc ∧ wc.heap[K]? = some (.cells #[.int .i64 l, .int .i64 k, .int .u64 o, .bool u, .bool r, .bool y, .bool q, .int .i64 t] 112 (0, 0)))
 case first =>
  obtain ⟨k0, k1⟩ := cl2 (Below.refl _ W).drew k0 k1
  refine hd2 k0 k1 (h := fun hHeld => ?_)
  refine tk 0 10 (h := ?_)
  refine tk 1 11 (h := ?_)
  refine tk 2 12 (h := ?_)
  refine tk 3 13 (h := ?_)
  refine tk 4 14 (h := ?_)
  refine tk 5 15 (h := ?_)
  refine tk 6 16 (h := ?_)
  have HBz : Below W.heap.size W W.drew := (Below.refl _ _).drew
  generalize W.drew = Wd at *
  refine wpAnyH_ready (rs := [7, 11, 12]) (by kernel_rfl) (by simp) ?_
  refine AllReadyH.cons rfl (fun K hK => ?_) (AllReadyH.cons rfl (fun K hK => ?_) (AllReadyH.cons rfl (fun K hK => ?_) AllReadyH.nil))
  ·go_simp
   refine (HC.out _ (qab HBW.out HBz)).mono ?_
   rintro e v0 ⟨rfl, hbm⟩
   go_wp2_with fail
   obtain ⟨k0, k1⟩ := cl2 hbm k0 k1
   replace HBz := qab HBz hbm
   clear hbm
   refine hK.out _ _ ⟨k0, k1⟩ (fun hHeldc0 => ?_)
   clear hK
   try simp only [Act.put, sq]
   refine tk 8 9 (h := ?_)
   refine tk 9 18 (h := ?_)
   refine tk 10 19 (h := ?_)
   refine wpAnyH_ready (rs := [11, 12]) (by kernel_rfl) (by simp) ?_
   refine AllReadyH.cons rfl (fun K hK => ?_) (AllReadyH.cons rfl (fun K hK => ?_) AllReadyH.nil)
   ·go_simp
    have hbm := qac (v0) (.cells #[.int .i64 0, .int .i64 0, .int .u64 0, .bool false, .bool false, .bool false, .bool false, .int .i64 0] 112)
    have hr0 := heap_alloc_new (v0) (.cells #[.int .i64 0, .int .i64 0, .int .u64 0, .bool false, .bool false, .bool false, .bool false, .int .i64 0] 112)
    have hg0 : W.heap.size ≤ (v0).heap.size := HBz.size
    obtain ⟨k0, k1⟩ := cl2 hbm k0 k1
    replace HBz := qab HBz hbm
    clear hbm
    refine hK.out _ _ ⟨k0, k1⟩ (fun hHelda1 => ?_)
    clear hK
    try simp only [Act.put, sq]
    generalize hva1 : (v0).alloc (.cells #[.int .i64 0, .int .i64 0, .int .u64 0, .bool false, .bool false, .bool false, .bool false, .int .i64 0] 112) = va1 at *
    generalize hka1 : (v0).heap.size = KA0 at *
    refine rd1 12 (h := fun K hK => ?_)
    ·go_simp
     have hbm := qac (va1) (.cells #[.int .i64 0, .int .i64 0] 50)
     have hr1 := heap_alloc_new (va1) (.cells #[.int .i64 0, .int .i64 0] 50)
     have hg1 : W.heap.size ≤ (va1).heap.size := HBz.size
     have hne01 : KA0 < (va1).heap.size := qag hr0
     obtain ⟨k0, k1⟩ := cl2 hbm k0 k1
     replace hr0 := qaa hbm hr0
     replace HBz := qab HBz hbm
     clear hbm
     refine hK.out _ _ ⟨k0, k1⟩ (fun hHelda2 => ?_)
     clear hK
     try simp only [Act.put, sq]
     generalize hva2 : (va1).alloc (.cells #[.int .i64 0, .int .i64 0] 50) = va2 at *
     generalize hka2 : (va1).heap.size = KA1 at *
     exact zP34x02
   ·go_simp
    have hbm := qac (v0) (.cells #[.int .i64 0, .int .i64 0] 50)
    have hr1 := heap_alloc_new (v0) (.cells #[.int .i64 0, .int .i64 0] 50)
    have hg1 : W.heap.size ≤ (v0).heap.size := HBz.size
    obtain ⟨k0, k1⟩ := cl2 hbm k0 k1
    replace HBz := qab HBz hbm
    clear hbm
    refine hK.out _ _ ⟨k0, k1⟩ (fun hHelda1 => ?_)
    clear hK
    try simp only [Act.put, sq]
    generalize hva1 : (v0).alloc (.cells #[.int .i64 0, .int .i64 0] 50) = va1 at *
    generalize hka1 : (v0).heap.size = KA1 at *
    refine rd1 11 (h := fun K hK => ?_)
    ·go_simp
     have hbm := qac (va1) (.cells #[.int .i64 0, .int .i64 0, .int .u64 0, .bool false, .bool false, .bool false, .bool false, .int .i64 0] 112)
     have hr0 := heap_alloc_new (va1) (.cells #[.int .i64 0, .int .i64 0, .int .u64 0, .bool false, .bool false, .bool false, .bool false, .int .i64 0] 112)
     have hg0 : W.heap.size ≤ (va1).heap.size := HBz.size
     have hne10 : KA1 < (va1).heap.size := qag hr1
     obtain ⟨k0, k1⟩ := cl2 hbm k0 k1
     replace hr1 := qaa hbm hr1
     replace HBz := qab HBz hbm
     clear hbm
     refine hK.out _ _ ⟨k0, k1⟩ (fun hHelda2 => ?_)
     clear hK
     try simp only [Act.put, sq]
     generalize hva2 : (va1).alloc (.cells #[.int .i64 0, .int .i64 0, .int .u64 0, .bool false, .bool false, .bool false, .bool false, .int .i64 0] 112) = va2 at *
     generalize hka2 : (va1).heap.size = KA0 at *
     exact zP34x02
  ·go_simp
   have hbm := qac (Wd) (.cells #[.int .i64 0, .int .i64 0, .int .u64 0, .bool false, .bool false, .bool false, .bool false, .int .i64 0] 112)
   have hr0 := heap_alloc_new (Wd) (.cells #[.int .i64 0, .int .i64 0, .int .u64 0, .bool false, .bool false, .bool false, .bool false, .int .i64 0] 112)
   have hg0 : W.heap.size ≤ (Wd).heap.size := HBz.size
   obtain ⟨k0, k1⟩ := cl2 hbm k0 k1
   replace HBz := qab HBz hbm
   clear hbm
   refine hK.out _ _ ⟨k0, k1⟩ (fun hHelda0 => ?_)
   clear hK
   try simp only [Act.put, sq]
   generalize hva0 : (Wd).alloc (.cells #[.int .i64 0, .int .i64 0, .int .u64 0, .bool false, .bool false, .bool false, .bool false, .int .i64 0] 112) = va0 at *
   generalize hka0 : (Wd).heap.size = KA0 at *
   refine wpAnyH_ready (rs := [7, 12]) (by kernel_rfl) (by simp) ?_
   refine AllReadyH.cons rfl (fun K hK => ?_) (AllReadyH.cons rfl (fun K hK => ?_) AllReadyH.nil)
   ·go_simp
    refine (HC.out _ (qab HBW.out HBz)).mono ?_
    rintro e v1 ⟨rfl, hbm⟩
    go_wp2_with fail
    obtain ⟨k0, k1⟩ := cl2 hbm k0 k1
    replace hr0 := qaa hbm hr0
    replace HBz := qab HBz hbm
    clear hbm
    refine hK.out _ _ ⟨k0, k1⟩ (fun hHeldc1 => ?_)
    clear hK
    try simp only [Act.put, sq]
    refine tk 8 9 (h := ?_)
    refine tk 9 18 (h := ?_)
    refine tk 10 19 (h := ?_)
    refine rd1 12 (h := fun K hK => ?_)
    ·go_simp
     have hbm := qac (v1) (.cells #[.int .i64 0, .int .i64 0] 50)
     have hr1 := heap_alloc_new (v1) (.cells #[.int .i64 0, .int .i64 0] 50)
     have hg1 : W.heap.size ≤ (v1).heap.size := HBz.size
     have hne01 : KA0 < (v1).heap.size := qag hr0
     obtain ⟨k0, k1⟩ := cl2 hbm k0 k1
     replace hr0 := qaa hbm hr0
     replace HBz := qab HBz hbm
     clear hbm
     refine hK.out _ _ ⟨k0, k1⟩ (fun hHelda2 => ?_)
     clear hK
     try simp only [Act.put, sq]
     generalize hva2 : (v1).alloc (.cells #[.int .i64 0, .int .i64 0] 50) = va2 at *
     generalize hka2 : (v1).heap.size = KA1 at *
     exact zP34x02
   ·go_simp
    have hbm := qac (va0) (.cells #[.int .i64 0, .int .i64 0] 50)
    have hr1 := heap_alloc_new (va0) (.cells #[.int .i64 0, .int .i64 0] 50)
    have hg1 : W.heap.size ≤ (va0).heap.size := HBz.size
    have hne01 : KA0 < (va0).heap.size := qag hr0
    obtain ⟨k0, k1⟩ := cl2 hbm k0 k1
    replace hr0 := qaa hbm hr0
    replace HBz := qab HBz hbm
    clear hbm
    refine hK.out _ _ ⟨k0, k1⟩ (fun hHelda1 => ?_)
    clear hK
    try simp only [Act.put, sq]
    generalize hva1 : (va0).alloc (.cells #[.int .i64 0, .int .i64 0] 50) = va1 at *
    generalize hka1 : (va0).heap.size = KA1 at *
    refine rd1 7 (h := fun K hK => ?_)
    ·go_simp
     refine (HC.out _ (qab HBW.out HBz)).mono ?_
     rintro e v2 ⟨rfl, hbm⟩
     go_wp2_with fail
     obtain ⟨k0, k1⟩ := cl2 hbm k0 k1
     obtain ⟨hr0, hr1⟩ := bl2 hbm hr0 hr1
     exact zP34x01
  ·go_simp
   have hbm := qac (Wd) (.cells #[.int .i64 0, .int .i64 0] 50)
   have hr1 := heap_alloc_new (Wd) (.cells #[.int .i64 0, .int .i64 0] 50)
   have hg1 : W.heap.size ≤ (Wd).heap.size := HBz.size
   obtain ⟨k0, k1⟩ := cl2 hbm k0 k1
   replace HBz := qab HBz hbm
   clear hbm
   refine hK.out _ _ ⟨k0, k1⟩ (fun hHelda0 => ?_)
   clear hK
   try simp only [Act.put, sq]
   generalize hva0 : (Wd).alloc (.cells #[.int .i64 0, .int .i64 0] 50) = va0 at *
   generalize hka0 : (Wd).heap.size = KA1 at *
   refine wpAnyH_ready (rs := [7, 11]) (by kernel_rfl) (by simp) ?_
   refine AllReadyH.cons rfl (fun K hK => ?_) (AllReadyH.cons rfl (fun K hK => ?_) AllReadyH.nil)
   ·go_simp
    refine (HC.out _ (qab HBW.out HBz)).mono ?_
    rintro e v1 ⟨rfl, hbm⟩
    go_wp2_with fail
    obtain ⟨k0, k1⟩ := cl2 hbm k0 k1
    replace hr1 := qaa hbm hr1
    replace HBz := qab HBz hbm
    clear hbm
    refine hK.out _ _ ⟨k0, k1⟩ (fun hHeldc1 => ?_)
    clear hK
    try simp only [Act.put, sq]
    refine tk 8 9 (h := ?_)
    refine tk 9 18 (h := ?_)
    refine tk 10 19 (h := ?_)
    refine rd1 11 (h := fun K hK => ?_)
    ·go_simp
     have hbm := qac (v1) (.cells #[.int .i64 0, .int .i64 0, .int .u64 0, .bool false, .bool false, .bool false, .bool false, .int .i64 0] 112)
     have hr0 := heap_alloc_new (v1) (.cells #[.int .i64 0, .int .i64 0, .int .u64 0, .bool false, .bool false, .bool false, .bool false, .int .i64 0] 112)
     have hg0 : W.heap.size ≤ (v1).heap.size := HBz.size
     have hne10 : KA1 < (v1).heap.size := qag hr1
     obtain ⟨k0, k1⟩ := cl2 hbm k0 k1
     replace hr1 := qaa hbm hr1
     replace HBz := qab HBz hbm
     clear hbm
     refine hK.out _ _ ⟨k0, k1⟩ (fun hHelda2 => ?_)
     clear hK
     try simp only [Act.put, sq]
     generalize hva2 : (v1).alloc (.cells #[.int .i64 0, .int .i64 0, .int .u64 0, .bool false, .bool false, .bool false, .bool false, .int .i64 0] 112) = va2 at *
     generalize hka2 : (v1).heap.size = KA0 at *
     exact zP34x02
   ·go_simp
    have hbm := qac (va0) (.cells #[.int .i64 0, .int .i64 0, .int .u64 0, .bool false, .bool false, .bool false, .bool false, .int .i64 0] 112)
    have hr0 := heap_alloc_new (va0) (.cells #[.int .i64 0, .int .i64 0, .int .u64 0, .bool false, .bool false, .bool false, .bool false, .int .i64 0] 112)
    have hg0 : W.heap.size ≤ (va0).heap.size := HBz.size
    have hne10 : KA1 < (va0).heap.size := qag hr1
    obtain ⟨k0, k1⟩ := cl2 hbm k0 k1
    replace hr1 := qaa hbm hr1
    replace HBz := qab HBz hbm
    clear hbm
    refine hK.out _ _ ⟨k0, k1⟩ (fun hHelda1 => ?_)
    clear hK
    try simp only [Act.put, sq]
    generalize hva1 : (va0).alloc (.cells #[.int .i64 0, .int .i64 0, .int .u64 0, .bool false, .bool false, .bool false, .bool false, .int .i64 0] 112) = va1 at *
    generalize hka1 : (va0).heap.size = KA0 at *
    refine rd1 7 (h := fun K hK => ?_)
    ·go_simp
     refine (HC.out _ (qab HBW.out HBz)).mono ?_
     rintro e v2 ⟨rfl, hbm⟩
     go_wp2_with fail
     obtain ⟨k0, k1⟩ := cl2 hbm k0 k1
     obtain ⟨hr1, hr0⟩ := bl2 hbm hr1 hr0
     exact zP34x01
 case rest =>
  obtain ⟨K, rfl, hB, hr⟩ := hcut
  obtain ⟨⟨q0, q1, q2, q3, q4, q5, q6, q7⟩, -⟩ := qec hr
  obtain ⟨d0, d1, d2, d3, d4, d5, d6, d7, d8, d9⟩ := TB.qck (qaa hB hK)
  have hq := HQ.out
  have HB := Hid.mk (qab HBW.out hB)
  clear k0 k1 k0z k1z hK c0 hr hB HC HQ
  go_wp2
  go_ret
  exact ⟨rfl, HB.out⟩
end
section
variable {w0 w : World} {X : Nat → Prop} {x a n S : Nat} {most : Int} {s : St}
theorem zP34x03 {Z : Prop} (z : Z := by
 refine (trace_any 0 R b1 (by omega) (h.later hb).mem (h.later hb).fld.t.d).mono ?_
 rintro e w' ⟨v, rfl, hp, hb⟩
 obtain ⟨p, cap, rfl, -⟩ := hp.form
 exact ⟨p, cap, rfl, hp, hb⟩) : Z := z
theorem through_short (h : Mch w0 w X x a n S most s) (R : Nat) (hR : R < 281474976710656) (b0 : Int) (b1 i b3 : Nat) (hi : i ≤ 2) (hlen : (wk0 S s.f 0 R b1).1.length ≤ i) :
  Calls Tryz.prog 48 #[.pointer (some ⟨x, 0, none⟩), .int .u64 R, .agg #[.int .i64 b0, .int .u64 b1, .int .i64 ((i : Nat) + 1 : Int), .int .u64 b3]] w fun r w' => r = .returned (.bool false) ∧ Below w.heap.size w w' := by
 obtain ⟨XM, XB, XT, tb, tr, pv, h⟩ := h
 have c0 := (row5 h.row).1
 have HC : Hid (∀ W (_ : Below w.heap.size w W), Calls Tryz.prog 82 #[.pointer (some ⟨a, 0, none⟩), .int .i64 0, .int .u64 R, .int .u64 b1] W fun e w' => ∃ p cap, e = .returned (.slice p (wk0 S s.f 0 R b1).1.length cap) ∧ Psl w' (fun g => W.heap.size ≤ g) (.slice p (wk0 S s.f 0 R b1).1.length cap) (wk0 S s.f 0 R b1).1 ∧ Below W.heap.size W w') := fun W hb => by
  exact zP34x03
 have HF := Hid.mk h.fld
 have hL4 := wk0_len S s.f 0 R b1
 generalize (wk0 S s.f 0 R b1).1 = L at *
 clear h hR
 have hK := heap_alloc_new w (.cells #[.int .i64 b0, .int .u64 b1, .int .i64 ((i : Nat) + 1 : Int), .int .u64 b3] 96)
 have HBW := Hid.mk (qac w (.cells #[.int .i64 b0, .int .u64 b1, .int .i64 ((i : Nat) + 1 : Int), .int .u64 b3] 96))
 go_enter Tryz.func48, Tryz.ntmps48
 have hi3 : (i : Int) ≤ 2 := by omega
 have hwr : IntKind.i64.wrap ((i : Int) + 1 - 1) = (i : Int) := by rw [show (i : Int) + 1 - 1 = (i : Int) by omega]; rw [IntKind.wrap_i64]; omega
 go_upto_region 2 with fail
 generalize w.alloc (.cells #[.int .i64 b0, .int .u64 b1, .int .i64 ((i : Nat) + 1 : Int), .int .u64 b3] 96) = W at *
 have k0 := cell_later HBW.out c0
 obtain ⟨-, k1, -⟩ := TR.qca hK
 have hKz := hK
 clear hK
 obtain ⟨k0, k1⟩ := cl2 (Below.refl _ W).drew k0 k1
 refine hd2 k0 k1 (h := fun hHeld => ?_)
 refine tk 0 14 (h := ?_)
 refine tk 1 15 (h := ?_)
 refine tk 2 16 (h := ?_)
 refine tk 3 17 (h := ?_)
 refine tk 4 18 (h := ?_)
 refine tk 5 19 (h := ?_)
 refine tk 6 20 (h := ?_)
 refine rd1 7 (h := fun K hK => ?_)
 go_simp
 refine (HC.out _ (qab HBW.out (Below.refl _ _).drew)).mono ?_
 rintro e v0 ⟨p, cap, rfl, hp, hbm⟩
 go_wp2_with fail
 obtain ⟨k0, k1⟩ := cl2 hbm k0 k1
 have hb8 := qab (Below.refl _ W).drew hbm
 clear hbm
 refine hK.out _ _ ⟨k0, k1⟩ (fun hHeldc0 => ?_)
 clear hK HC
 try simp only [Act.put, sq]
 refine tk 8 8 (h := ?_)
 refine wpAnyH_done (by kernel_rfl) ?_ _
 refine NoPanic.normal ?_
 have HB := Hid.mk (qab HBW.out hb8)
 have hKv := qaa hb8 hKz
 clear k0 k1 hb8 c0
 have hlI : (L.length : Int) ≤ (i : Int) := by omega
 go_wp2
 go_ret
 exact ⟨rfl, HB.out⟩
theorem through_bad (h : Mch w0 w X x a n S most s) (R : Nat) (hR : R < 281474976710656) (b0 : Int) (b1 i b3 : Nat) (hi : i ≤ 2) (hlen : i < (wk0 S s.f 0 R b1).1.length) (hgd : qde (i : Int) (wk0 S s.f 0 R b1).1[i]!.2 = false) :
  Calls Tryz.prog 48 #[.pointer (some ⟨x, 0, none⟩), .int .u64 R, .agg #[.int .i64 b0, .int .u64 b1, .int .i64 ((i : Nat) + 1 : Int), .int .u64 b3]] w fun r w' => r = .returned (.bool false) ∧ Below w.heap.size w w' := by
 obtain ⟨XM, XB, XT, tb, tr, pv, h⟩ := h
 have c0 := (row5 h.row).1
 have HW := Hid.mk ((TR.wk0_lt (S := S) (f := s.f) (va := b1) (tb := R) (l := 0) (by obtain ⟨_, _, hm⟩ := h.mem; exact hm.fl) (by obtain ⟨_, _, hm⟩ := h.mem; exact hm.s0.2.1) i).2)
 have HC : Hid (∀ W (_ : Below w.heap.size w W), Calls Tryz.prog 82 #[.pointer (some ⟨a, 0, none⟩), .int .i64 0, .int .u64 R, .int .u64 b1] W fun e w' => ∃ p cap, e = .returned (.slice p (wk0 S s.f 0 R b1).1.length cap) ∧ Psl w' (fun g => W.heap.size ≤ g) (.slice p (wk0 S s.f 0 R b1).1.length cap) (wk0 S s.f 0 R b1).1 ∧ Below W.heap.size W w') := fun W hb => by
  exact zP34x03
 have HF := Hid.mk h.fld
 have hL4 := wk0_len S s.f 0 R b1
 generalize (wk0 S s.f 0 R b1).1 = L at *
 clear h hR
 have hK := heap_alloc_new w (.cells #[.int .i64 b0, .int .u64 b1, .int .i64 ((i : Nat) + 1 : Int), .int .u64 b3] 96)
 have HBW := Hid.mk (qac w (.cells #[.int .i64 b0, .int .u64 b1, .int .i64 ((i : Nat) + 1 : Int), .int .u64 b3] 96))
 go_enter Tryz.func48, Tryz.ntmps48
 have hi3 : (i : Int) ≤ 2 := by omega
 have hwr : IntKind.i64.wrap ((i : Int) + 1 - 1) = (i : Int) := by rw [show (i : Int) + 1 - 1 = (i : Int) by omega]; rw [IntKind.wrap_i64]; omega
 go_upto_region 2 with fail
 generalize w.alloc (.cells #[.int .i64 b0, .int .u64 b1, .int .i64 ((i : Nat) + 1 : Int), .int .u64 b3] 96) = W at *
 have k0 := cell_later HBW.out c0
 obtain ⟨-, k1, -⟩ := TR.qca hK
 have hKz := hK
 clear hK
 obtain ⟨k0, k1⟩ := cl2 (Below.refl _ W).drew k0 k1
 refine hd2 k0 k1 (h := fun hHeld => ?_)
 refine tk 0 14 (h := ?_)
 refine tk 1 15 (h := ?_)
 refine tk 2 16 (h := ?_)
 refine tk 3 17 (h := ?_)
 refine tk 4 18 (h := ?_)
 refine tk 5 19 (h := ?_)
 refine tk 6 20 (h := ?_)
 refine rd1 7 (h := fun K hK => ?_)
 go_simp
 refine (HC.out _ (qab HBW.out (Below.refl _ _).drew)).mono ?_
 rintro e v0 ⟨p, cap, rfl, hp, hbm⟩
 go_wp2_with fail
 obtain ⟨k0, k1⟩ := cl2 hbm k0 k1
 have hb8 := qab (Below.refl _ W).drew hbm
 clear hbm
 refine hK.out _ _ ⟨k0, k1⟩ (fun hHeldc0 => ?_)
 clear hK HC
 try simp only [Act.put, sq]
 refine tk 8 8 (h := ?_)
 refine wpAnyH_done (by kernel_rfl) ?_ _
 refine NoPanic.normal ?_
 have HB := Hid.mk (qab HBW.out hb8)
 have hKv := qaa hb8 hKz
 clear k0 k1 hb8 c0
 obtain ⟨p', cap', e', hc⟩ := hp.form
 cases e'
 obtain ⟨g, rfl, hg, q1, q2⟩ := hc i hlen
 obtain ⟨d0, d1, d2, d3⟩ := TR.qca hKv
 clear hp hc q1 hKv
 have hlI : (i : Int) < (L.length : Int) := by omega
 have hLI : (L.length : Int) ≤ 4 := by omega
 have HD := Hid.mk (fun W (hb : Below w.heap.size w W) => decode_fail (i : Int) L[i]!.2 (by unfold isLv; rw [decide_eq_true_eq]; omega) HW.out hgd W (HF.out.later hb).t.d)
 generalize L[i]!.2 = Y at *
 clear hlen hi hL4
 go_wp2_with fail
 refine (HD.out _ HB.out).mono ?_
 rintro e w5 ⟨rfl, hb5⟩
 clear HD
 have HB5 := Hid.mk (qab HB.out hb5)
 clear hb5 d0 d1 d2 d3 q2
 go_wp2
 go_ret
 exact ⟨rfl, qab HB5.out (qac _ _)⟩
theorem through_good (h : Mch w0 w X x a n S most s) (R : Nat) (hR : R < 281474976710656) (b0 : Int) (b1 i b3 : Nat) (hi : i ≤ 2) (hlen : i < (wk0 S s.f 0 R b1).1.length) (hgd : qde (i : Int) (wk0 S s.f 0 R b1).1[i]!.2 = true) :
  Calls Tryz.prog 48 #[.pointer (some ⟨x, 0, none⟩), .int .u64 R, .agg #[.int .i64 b0, .int .u64 b1, .int .i64 ((i : Nat) + 1 : Int), .int .u64 b3]] w fun r w' => r = .returned (.bool (decide (rdK (i : Int) (wk0 S s.f 0 R b1).1[i]!.2 = 1) && decide (rdO (wk0 S s.f 0 R b1).1[i]!.2 = b3))) ∧ Below w.heap.size w w' := by
 obtain ⟨XM, XB, XT, tb, tr, pv, h⟩ := h
 have c0 := (row5 h.row).1
 have HW := Hid.mk ((TR.wk0_lt (S := S) (f := s.f) (va := b1) (tb := R) (l := 0) (by obtain ⟨_, _, hm⟩ := h.mem; exact hm.fl) (by obtain ⟨_, _, hm⟩ := h.mem; exact hm.s0.2.1) i).2)
 have HC : Hid (∀ W (_ : Below w.heap.size w W), Calls Tryz.prog 82 #[.pointer (some ⟨a, 0, none⟩), .int .i64 0, .int .u64 R, .int .u64 b1] W fun e w' => ∃ p cap, e = .returned (.slice p (wk0 S s.f 0 R b1).1.length cap) ∧ Psl w' (fun g => W.heap.size ≤ g) (.slice p (wk0 S s.f 0 R b1).1.length cap) (wk0 S s.f 0 R b1).1 ∧ Below W.heap.size W w') := fun W hb => by
  exact zP34x03
 have HF := Hid.mk h.fld
 have hL4 := wk0_len S s.f 0 R b1
 generalize (wk0 S s.f 0 R b1).1 = L at *
 clear h hR
 have HD := Hid.mk (fun W (hb : Below w.heap.size w W) => qfo (i : Int) L[i]!.2 (by unfold isLv; rw [decide_eq_true_eq]; omega) HW.out hgd W (HF.out.later hb).t.d)
 have HQ := Hid.mk (fun W => eqD (rdK (i : Int) L[i]!.2) (rdO L[i]!.2) (rdU (i : Int) L[i]!.2) (rdR (i : Int) L[i]!.2) (rdX (i : Int) L[i]!.2) (rdS (i : Int) L[i]!.2) (rdA (i : Int) L[i]!.2) b3 W)
 have HE := Hid.mk (tb_rd (i : Int) L[i]!.2 b3)
 unfold rdV at HD
 generalize (decide (rdK (i : Int) L[i]!.2 = 1) && decide (rdO L[i]!.2 = b3)) = D at *
 generalize isTb (rdK (i : Int) L[i]!.2) (rdO L[i]!.2) (rdU (i : Int) L[i]!.2) (rdR (i : Int) L[i]!.2) (rdX (i : Int) L[i]!.2) (rdS (i : Int) L[i]!.2) (rdA (i : Int) L[i]!.2) b3 = D' at *
 obtain rfl : D' = D := HE.out
 clear HW hgd HE
 generalize rdK (i : Int) L[i]!.2 = r0 at *
 generalize rdO L[i]!.2 = r1 at *
 generalize rdU (i : Int) L[i]!.2 = r2 at *
 generalize rdR (i : Int) L[i]!.2 = r3 at *
 generalize rdX (i : Int) L[i]!.2 = r4 at *
 generalize rdS (i : Int) L[i]!.2 = r5 at *
 generalize rdA (i : Int) L[i]!.2 = r6 at *
 generalize hY : L[i]!.2 = Y at *
 have HY := Hid.mk hY
 clear hY
 have hK := heap_alloc_new w (.cells #[.int .i64 b0, .int .u64 b1, .int .i64 ((i : Nat) + 1 : Int), .int .u64 b3] 96)
 have HBW := Hid.mk (qac w (.cells #[.int .i64 b0, .int .u64 b1, .int .i64 ((i : Nat) + 1 : Int), .int .u64 b3] 96))
 go_enter Tryz.func48, Tryz.ntmps48
 have hi3 : (i : Int) ≤ 2 := by omega
 have hwr : IntKind.i64.wrap ((i : Int) + 1 - 1) = (i : Int) := by rw [show (i : Int) + 1 - 1 = (i : Int) by omega]; rw [IntKind.wrap_i64]; omega
 go_upto_region 2 with fail
 generalize w.alloc (.cells #[.int .i64 b0, .int .u64 b1, .int .i64 ((i : Nat) + 1 : Int), .int .u64 b3] 96) = W at *
 have k0 := cell_later HBW.out c0
 obtain ⟨-, k1, -⟩ := TR.qca hK
 have hKz := hK
 clear hK
 obtain ⟨k0, k1⟩ := cl2 (Below.refl _ W).drew k0 k1
 refine hd2 k0 k1 (h := fun hHeld => ?_)
 refine tk 0 14 (h := ?_)
 refine tk 1 15 (h := ?_)
 refine tk 2 16 (h := ?_)
 refine tk 3 17 (h := ?_)
 refine tk 4 18 (h := ?_)
 refine tk 5 19 (h := ?_)
 refine tk 6 20 (h := ?_)
 refine rd1 7 (h := fun K hK => ?_)
 go_simp
 refine (HC.out _ (qab HBW.out (Below.refl _ _).drew)).mono ?_
 rintro e v0 ⟨p, cap, rfl, hp, hbm⟩
 go_wp2_with fail
 obtain ⟨k0, k1⟩ := cl2 hbm k0 k1
 have hb8 := qab (Below.refl _ W).drew hbm
 clear hbm
 refine hK.out _ _ ⟨k0, k1⟩ (fun hHeldc0 => ?_)
 clear hK HC
 try simp only [Act.put, sq]
 refine tk 8 8 (h := ?_)
 refine wpAnyH_done (by kernel_rfl) ?_ _
 refine NoPanic.normal ?_
 have HB := Hid.mk (qab HBW.out hb8)
 have hKv := qaa hb8 hKz
 clear k0 k1 hb8 c0
 obtain ⟨p', cap', e', hc⟩ := hp.form
 cases e'
 obtain ⟨g, rfl, hg, q1, q2⟩ := hc i hlen
 obtain ⟨d0, d1, d2, d3⟩ := TR.qca hKv
 clear hp hc q1 hKv
 have hlI : (i : Int) < (L.length : Int) := by omega
 have hLI : (L.length : Int) ≤ 4 := by omega
 rw [HY.out] at q2
 clear hlen hi hL4
 go_wp2_with fail
 refine (HD.out _ HB.out).mono ?_
 rintro e w5 ⟨rfl, hb5⟩
 clear HD q2
 have HB5 := Hid.mk (qab HB.out hb5)
 obtain ⟨d0, d1, d2, d3⟩ := cl4 hb5 d0 d1 d2 d3
 clear hb5
 have hq := HQ.out
 unfold dv at hq
 clear HQ
 have hK6 := heap_alloc_new w5 (.cells #[.int .i64 r0, .int .u64 r1, .bool r2, .bool r3, .bool r4, .bool r5, .int .i64 r6] 89)
 have hb6 := qac w5 (.cells #[.int .i64 r0, .int .u64 r1, .bool r2, .bool r3, .bool r4, .bool r5, .int .i64 r6] 89)
 go_upto_region 6 with fail
 generalize w5.alloc (.cells #[.int .i64 r0, .int .u64 r1, .bool r2, .bool r3, .bool r4, .bool r5, .int .i64 r6] 89) = w6 at *
 replace d3 := cell_later hb6 d3
 have e0 : w6.cell? ⟨w5.heap.size, 0, none⟩ = some (.int .i64 r0) := by rw [cell_of_row _ _ _ _ _ _ hK6]; rfl
 have e1 : w6.cell? ⟨w5.heap.size, 1, none⟩ = some (.int .u64 r1) := by rw [cell_of_row _ _ _ _ _ _ hK6]; rfl
 have e2 : w6.cell? ⟨w5.heap.size, 2, none⟩ = some (.bool r2) := by rw [cell_of_row _ _ _ _ _ _ hK6]; rfl
 have e3 : w6.cell? ⟨w5.heap.size, 3, none⟩ = some (.bool r3) := by rw [cell_of_row _ _ _ _ _ _ hK6]; rfl
 have e4 : w6.cell? ⟨w5.heap.size, 4, none⟩ = some (.bool r4) := by rw [cell_of_row _ _ _ _ _ _ hK6]; rfl
 have e5 : w6.cell? ⟨w5.heap.size, 5, none⟩ = some (.bool r5) := by rw [cell_of_row _ _ _ _ _ _ hK6]; rfl
 have e6 : w6.cell? ⟨w5.heap.size, 6, none⟩ = some (.int .i64 r6) := by rw [cell_of_row _ _ _ _ _ _ hK6]; rfl
 clear d0 d1 d2 hK6
 go_wp2
 go_ret
 exact ⟨rfl, qab HB5.out hb6⟩
theorem comesThrough_c (h : Mch w0 w X x a n S most s) (R : Nat) (hR : R < 281474976710656) (e : TR.En) (h1 : 1 ≤ e.lv) (h3 : e.lv ≤ 3) :
  Calls Tryz.prog 48 #[.pointer (some ⟨x, 0, none⟩), .int .u64 R, e.v] w fun r w' => r = .returned (.bool (thB S s.f R e)) ∧ Below w.heap.size w w' := by
 obtain ⟨b0, b1, b2, b3⟩ := e
 obtain ⟨i, hi⟩ := Int.eq_ofNat_of_zero_le (show 0 ≤ b2 - 1 by have : 1 ≤ b2 := h1; omega)
 obtain rfl : b2 = (i : Int) + 1 := by omega
 have e1 : ((i : Int) + 1 - 1).toNat = i := by omega
 have e2 : (i : Int) + 1 - 1 = (i : Int) := by omega
 have hi2 : i ≤ 2 := by have : (i : Int) + 1 ≤ 3 := h3; omega
 unfold thB
 simp only [e1]
 simp only [e2]
 have hlv : isLv (i : Int) = true := by unfold isLv; rw [decide_eq_true_eq]; omega
 by_cases hlen : i < (wk0 S s.f 0 R b1).1.length
 ·rw [decide_eq_true hlen, Bool.true_and]
  unfold TR.isT
  rw [hlv, Bool.true_and]
  cases hg : qde (i : Int) (wk0 S s.f 0 R b1).1[i]!.2
  ·rw [Bool.false_and, Bool.false_and]
   exact through_bad h R hR b0 b1 i b3 hi2 hlen hg
  ·rw [Bool.true_and]
   exact through_good h R hR b0 b1 i b3 hi2 hlen hg
 ·rw [decide_eq_false hlen, Bool.false_and]
  exact through_short h R hR b0 b1 i b3 hi2 (by omega)
end
def sE (S : Nat) (f : Nat → Nat) (R I : Nat) (e : TB.En) : Bool := !decide (e.aid = (I : Int)) || cmT S f R e
def sK (S : Nat) (f : Nat → Nat) (R I : Nat) (e : TR.En) : Bool := !decide (e.aid = (I : Int)) || thB S f R e
def sndB (S : Nat) (s : St) : Bool := match s.rg with | none => true | some (R, I) => s.E.all (sE S s.f R I) && s.K.all (sK S s.f R I)
theorem allE_false {p : TB.En → Bool} {l : List TB.En} {i : Nat} (hi : i < l.length) (h : p (TB.gE l i) = false) : l.all p = false := by
 rw [List.all_eq_false]
 exact ⟨TB.gE l i, by rw [TB.qbp l i hi]; exact List.getElem_mem hi, by rw [h]; exact Bool.false_ne_true⟩
theorem allE_true {p : TB.En → Bool} {l : List TB.En} (h : ∀ i, i < l.length → p (TB.gE l i) = true) : l.all p = true := by
 rw [List.all_eq_true]
 intro e he
 obtain ⟨i, hi, rfl⟩ := List.getElem_of_mem he
 rw [← TB.qbp l i hi]
 exact h i hi
theorem allK_false {p : TR.En → Bool} {l : List TR.En} {i : Nat} (hi : i < l.length) (h : p (TR.gE l i) = false) : l.all p = false := by
 rw [List.all_eq_false]
 exact ⟨TR.gE l i, by rw [TR.qbp l i hi]; exact List.getElem_mem hi, by rw [h]; exact Bool.false_ne_true⟩
theorem allK_true {p : TR.En → Bool} {l : List TR.En} (h : ∀ i, i < l.length → p (TR.gE l i) = true) : l.all p = true := by
 rw [List.all_eq_true]
 intro e he
 obtain ⟨i, hi, rfl⟩ := List.getElem_of_mem he
 rw [← TR.qbp l i hi]
 exact h i hi
section
variable {w0 w : World} {X : Nat → Prop} {x a n S : Nat} {most : Int} {s : St}
theorem sound_off (h : Mch w0 w X x a n S most s) (hg : s.rg = none) :
  Calls Tryz.prog 12 #[.pointer (some ⟨x, 0, none⟩)] w fun r w' => r = .returned (.bool (sndB S s)) ∧ Below w.heap.size w w' := by
 obtain ⟨XM, XB, XT, tb, tr, pv, h⟩ := h
 obtain ⟨-, -, -, c3, -⟩ := row5 h.row
 have e : sndB S s = true := by unfold sndB; rw [hg]
 rw [hg] at c3
 change w.cell? _ = some .nilIface at c3
 rw [e]
 clear h e hg
 have t0 := tA_none
 go_enter Tryz.func12, Tryz.ntmps12
 go_wp2
 go_ret
 exact ⟨rfl, qac _ _⟩
theorem sound_on (h : Mch w0 w X x a n S most s) (R I : Nat) (hg : s.rg = some (R, I)) :
  Calls Tryz.prog 12 #[.pointer (some ⟨x, 0, none⟩)] w fun r w' => r = .returned (.bool (sndB S s)) ∧ Below w.heap.size w w' := by
 have hR := (h.wfm.rr R I hg).1
 have HCT := Hid.mk (fun W (hb : Below w.heap.size w W) (e : TB.En) => comesTo_c (h.later hb) R hR e)
 have HTH := Hid.mk (fun W (hb : Below w.heap.size w W) (e : TR.En) (h1 : 1 ≤ e.lv) (h3 : e.lv ≤ 3) => comesThrough_c (h.later hb) R hR e h1 h3)
 have HLV : Hid (∀ i, i < s.K.length → 1 ≤ (TR.gE s.K i).lv ∧ (TR.gE s.K i).lv ≤ 3) := fun i hi => TR.qej (h.wfm.kr _ (by rw [TR.qbp s.K i hi]; exact List.getElem_mem hi)).2
 have hD : sndB S s = (s.E.all (sE S s.f R I) && s.K.all (sK S s.f R I)) := by unfold sndB; rw [hg]
 have HD1 : Hid (∀ i, i < s.E.length → sE S s.f R I (TB.gE s.E i) = false → sndB S s = false) := fun i hi h => by rw [hD, allE_false hi h]; rfl
 have HD2 : Hid (∀ i, i < s.K.length → sK S s.f R I (TR.gE s.K i) = false → sndB S s = false) := fun i hi h => by rw [hD, allK_false hi h, Bool.and_false]
 have HD3 : Hid ((∀ i, i < s.E.length → sE S s.f R I (TB.gE s.E i) = true) → (∀ i, i < s.K.length → sK S s.f R I (TR.gE s.K i) = true) → sndB S s = true) := fun h1 h2 => by rw [hD, allE_true h1, allK_true h2]; rfl
 have HP : Hid (∀ e : TB.En, (e.aid ≠ (I : Int) → sE S s.f R I e = true) ∧ (e.aid = (I : Int) → sE S s.f R I e = cmT S s.f R e)) := fun e => ⟨fun h => by unfold sE; rw [decide_eq_false h]; rfl, fun h => by unfold sE; rw [decide_eq_true h]; rfl⟩
 have HQ : Hid (∀ e : TR.En, (e.aid ≠ (I : Int) → sK S s.f R I e = true) ∧ (e.aid = (I : Int) → sK S s.f R I e = thB S s.f R e)) := fun e => ⟨fun h => by unfold sK; rw [decide_eq_false h]; rfl, fun h => by unfold sK; rw [decide_eq_true h]; rfl⟩
 clear hD
 obtain ⟨XM, XB, XT, tb, tr, pv, h⟩ := h
 obtain ⟨-, c1, c2, c3, -⟩ := row5 h.row
 rw [hg] at c3
 change w.cell? _ = some (.iface 106 (.agg #[.int .u64 R, .int .i64 I])) at c3
 have hl := h.wf.el9
 have HLE := Hid.mk (fun W (hb : Below w.heap.size w W) => TB.list_c (qfp h.buf (fun i hi => hb.block i (h.lt i (h.cb i hi))) hb.size) (by omega))
 have HLK := Hid.mk (fun W (hb : Below w.heap.size w W) => TR.list_c (trl_keep h.trl (fun i hi => hb.block i (h.lt i (h.ct i hi))) hb.size) (by omega))
 have hlE : (s.E.length : Int) ≤ 64 := by omega
 have hlK : (s.K.length : Int) ≤ 64 := by omega
 clear h hg hR hl
 generalize sndB S s = D at *
 generalize sE S s.f R I = pE at *
 generalize sK S s.f R I = pK at *
 generalize s.E = E at *
 generalize s.K = K at *
 have t1 := fun W => tA_some W (.agg #[.int .u64 R, .int .i64 I])
 go_enter Tryz.func12, Tryz.ntmps12
 have gB := heap_alloc_new w (.cells #[.int .u64 R, .int .i64 I] 106)
 have hB := qac w (.cells #[.int .u64 R, .int .i64 I] 106)
 go_upto_region 4 with fail
 generalize w.alloc (.cells #[.int .u64 R, .int .i64 I] 106) = W1 at *
 clear t1 c3
 have k1 := cell_later hB c1
 go_wp2_with fail
 refine (HLE.out _ hB).mono ?_
 rintro r2 w2 ⟨ad, cap, rfl, hrd, -, hb2⟩
 have HRD := Hid.mk hrd
 have hB2 := qab hB hb2
 have gB2 := qaa hb2 gB
 have HB2 := Hid.mk hB2
 have HG2 := Hid.mk gB2
 clear HLE hrd k1 c1 hb2 gB hB hB2 gB2
 go_wp2
 go_loopw [6, 25] (fun _ s25 wr => ∃ i : Nat, i ≤ E.length ∧ s25 = .int .i64 i ∧ Below w2.heap.size w2 wr ∧ (∀ j, j < i → pE (TB.gE E j) = true)) (fun _ s25 _ => E.length - (RowKit.intOf s25).toNat)
 case atStart => exact ⟨0, by omega, rfl, Below.refl _ _, fun j hj => absurd hj (Nat.not_lt_zero _)⟩
 case round =>
  obtain ⟨i, hi, rfl, hb, hno⟩ := hrel
  have HB := Hid.mk hb
  have HNO := Hid.mk hno
  clear hno
  by_cases hlt : i < E.length
  ·have hlt2 : (i : Int) < E.length := by omega
   have HLT := Hid.mk hlt
   have hib : (i : Int) < 64 := by omega
   obtain ⟨g, oo, rfl, hg, hc⟩ := HRD.out i hlt
   have d0 := cell_later hb (hc 0 _ rfl)
   have d1 := cell_later hb (hc 1 _ rfl)
   have d2 := cell_later hb (hc 2 _ rfl)
   have d3 := cell_later hb (hc 3 _ rfl)
   have d4 := cell_later hb (hc 4 _ rfl)
   have d5 := cell_later hb (hc 5 _ rfl)
   have d6 := cell_later hb (hc 6 _ rfl)
   have d7 := cell_later hb (hc 7 _ rfl)
   have d8 := cell_later hb (hc 8 _ rfl)
   have d9 := cell_later hb (hc 9 _ rfl)
   rw [Nat.add_zero] at d0
   have hq0 := qaa hb HG2.out
   have hPy := HP.out (TB.gE E i)
   have HF := Hid.mk (HD1.out i hlt)
   have HCy := Hid.mk (fun W hb => HCT.out W hb (TB.gE E i))
   have HN : Hid (pE (TB.gE E i) = true → ∀ j, j < i + 1 → pE (TB.gE E j) = true) := fun h j hj => by
    by_cases hji : j = i
    ·rw [hji]; exact h
    ·exact HNO.out j (by omega)
   clear hc hi hlt hg
   by_cases hai : (TB.gE E i).aid = (I : Int)
   ·have hpe := hPy.2 hai
    rw [hpe] at HF HN
    clear hPy hpe
    generalize cmT S s.f R (TB.gE E i) = C at *
    generalize TB.gE E i = y at *
    obtain ⟨b0, b1, b2, b3, b4, b5, b6, b7, b8, b9⟩ := y
    simp only [TB.En.v] at *
    subst hai
    have hK6 := heap_alloc_new wr (.cells #[.int .i64 I, .int .u64 b1, .int .i64 b2, .int .i64 b3, .int .u64 b4, .bool b5, .bool b6, .bool b7, .bool b8, .int .i64 b9] 91)
    have hb6 := qac wr (.cells #[.int .i64 I, .int .u64 b1, .int .i64 b2, .int .i64 b3, .int .u64 b4, .bool b5, .bool b6, .bool b7, .bool b8, .int .i64 b9] 91)
    have hq1 := qaa hb6 hq0
    obtain ⟨q0, q1⟩ := TR.qaz hq1
    obtain ⟨v0, v1, v2, v3, v4, v5, v6, v7, v8, v9⟩ := TB.qck hK6
    have HB6 := Hid.mk (qab hb hb6)
    clear hq0 hq1 hK6 hb6 hb
    cases C
    ·go_upto_region 7 with fail
     generalize wr.alloc (.cells #[.int .i64 I, .int .u64 b1, .int .i64 b2, .int .i64 b3, .int .u64 b4, .bool b5, .bool b6, .bool b7, .bool b8, .int .i64 b9] 91) = w6 at *
     go_wp2_with fail
     refine (HCy.out _ (qab HB2.out HB6.out)).mono ?_
     rintro r7 w7 ⟨rfl, hb7⟩
     have HB7 := Hid.mk (qab HB6.out hb7)
     clear v0 v1 v2 v3 v4 v5 v6 v7 v8 v9 q0 q1 hb7 d0 d1 d2 d3 d4 d5 d6 d7 d8 d9
     go_wp2
     go_ret
     exact ⟨by rw [HF.out (by trivial)]; rfl, qab HB2.out HB7.out⟩
    ·go_upto_region 7 with fail
     generalize wr.alloc (.cells #[.int .i64 I, .int .u64 b1, .int .i64 b2, .int .i64 b3, .int .u64 b4, .bool b5, .bool b6, .bool b7, .bool b8, .int .i64 b9] 91) = w6 at *
     go_wp2_with fail
     refine (HCy.out _ (qab HB2.out HB6.out)).mono ?_
     rintro r7 w7 ⟨rfl, hb7⟩
     have HB7 := Hid.mk (qab HB6.out hb7)
     clear v0 v1 v2 v3 v4 v5 v6 v7 v8 v9 q0 q1 hb7 d0 d1 d2 d3 d4 d5 d6 d7 d8 d9
     go_wp2
     exact ⟨⟨i + 1, by have := HLT.out; omega, by go_num, HB7.out, HN.out (by trivial)⟩, by have := HLT.out; simp [RowKit.intOf]; omega⟩
   ·have hpe := hPy.1 hai
    have HN2 := Hid.mk (HN.out hpe)
    clear hPy hpe HN HF HCy
    generalize TB.gE E i = y at *
    obtain ⟨b0, b1, b2, b3, b4, b5, b6, b7, b8, b9⟩ := y
    simp only at *
    have hb6 := qac wr (.cells #[.int .i64 b0, .int .u64 b1, .int .i64 b2, .int .i64 b3, .int .u64 b4, .bool b5, .bool b6, .bool b7, .bool b8, .int .i64 b9] 91)
    have hq1 := qaa hb6 hq0
    obtain ⟨q0, q1⟩ := TR.qaz hq1
    obtain ⟨v0, v1, v2, v3, v4, v5, v6, v7, v8, v9⟩ := TB.qck (heap_alloc_new wr (.cells #[.int .i64 b0, .int .u64 b1, .int .i64 b2, .int .i64 b3, .int .u64 b4, .bool b5, .bool b6, .bool b7, .bool b8, .int .i64 b9] 91))
    have HB6 := Hid.mk (qab hb hb6)
    clear hq0 hq1 hb6 hb
    go_upto_region 7 with fail
    generalize wr.alloc (.cells #[.int .i64 b0, .int .u64 b1, .int .i64 b2, .int .i64 b3, .int .u64 b4, .bool b5, .bool b6, .bool b7, .bool b8, .int .i64 b9] 91) = w6 at *
    clear d0 d1 d2 d3 d4 d5 d6 d7 d8 d9
    go_wp2
    exact ⟨⟨i + 1, by have := HLT.out; omega, by go_num, HB6.out, HN2.out⟩, by have := HLT.out; simp [RowKit.intOf]; omega⟩
  ·have hlt2 : ¬ (i : Int) < E.length := by omega
   obtain rfl : i = E.length := by omega
   have k2 := cell_later (qab HB2.out hb) c2
   have hq0 := qaa hb HG2.out
   clear hlt hi
   go_wp2_with fail
   refine (HLK.out _ (qab HB2.out hb)).mono ?_
   rintro r3 w3 ⟨ad3, cap3, rfl, hrd3, -, hb3⟩
   have HRD3 := Hid.mk hrd3
   have HB3 := Hid.mk (qab (qab HB2.out hb) hb3)
   have HG3 := Hid.mk (qaa hb3 hq0)
   clear HLK hrd3 k2 c2 hb3 hq0 hb HB HRD HB2 HG2 HD1 HCT HP hlE
   go_wp2
   go_loopw [8, 49] (fun _ s49 wr => ∃ i : Nat, i ≤ K.length ∧ s49 = .int .i64 i ∧ Below w3.heap.size w3 wr ∧ (∀ j, j < i → pK (TR.gE K j) = true)) (fun _ s49 _ => K.length - (RowKit.intOf s49).toNat)
   case atStart => exact ⟨0, by omega, rfl, Below.refl _ _, fun j hj => absurd hj (Nat.not_lt_zero _)⟩
   case round =>
    obtain ⟨i, hi, rfl, hb, hno⟩ := hrel
    have HB := Hid.mk hb
    have HNO2 := Hid.mk hno
    clear hno
    by_cases hlt : i < K.length
    ·have hlt2 : (i : Int) < K.length := by omega
     have HLT := Hid.mk hlt
     have hib : (i : Int) < 64 := by omega
     obtain ⟨g, oo, rfl, hg, hc⟩ := HRD3.out i hlt
     have d0 := cell_later hb (hc 0 _ rfl)
     have d1 := cell_later hb (hc 1 _ rfl)
     have d2 := cell_later hb (hc 2 _ rfl)
     have d3 := cell_later hb (hc 3 _ rfl)
     rw [Nat.add_zero] at d0
     have hq0 := qaa hb HG3.out
     have hPy := HQ.out (TR.gE K i)
     have hlv := HLV.out i hlt
     have HF := Hid.mk (HD2.out i hlt)
     have HCy := Hid.mk (fun W hb => HTH.out W hb (TR.gE K i) hlv.1 hlv.2)
     have HN : Hid (pK (TR.gE K i) = true → ∀ j, j < i + 1 → pK (TR.gE K j) = true) := fun h j hj => by
      by_cases hji : j = i
      ·rw [hji]; exact h
      ·exact HNO2.out j (by omega)
     clear hc hi hlt hg hlv
     by_cases hai : (TR.gE K i).aid = (I : Int)
     ·have hpe := hPy.2 hai
      rw [hpe] at HF HN
      clear hPy hpe
      generalize thB S s.f R (TR.gE K i) = C at *
      generalize TR.gE K i = y at *
      obtain ⟨b0, b1, b2, b3⟩ := y
      simp only [TR.En.v] at *
      subst hai
      have hK6 := heap_alloc_new wr (.cells #[.int .i64 I, .int .u64 b1, .int .i64 b2, .int .u64 b3] 96)
      have hb6 := qac wr (.cells #[.int .i64 I, .int .u64 b1, .int .i64 b2, .int .u64 b3] 96)
      have hq1 := qaa hb6 hq0
      obtain ⟨q0, q1⟩ := TR.qaz hq1
      obtain ⟨v0, v1, v2, v3⟩ := TR.qca hK6
      have HB6 := Hid.mk (qab hb hb6)
      clear hq0 hq1 hK6 hb6 hb
      cases C
      ·go_upto_region 13 with fail
       generalize wr.alloc (.cells #[.int .i64 I, .int .u64 b1, .int .i64 b2, .int .u64 b3] 96) = w6 at *
       go_wp2_with fail
       refine (HCy.out _ (qab HB3.out HB6.out)).mono ?_
       rintro r7 w7 ⟨rfl, hb7⟩
       have HB7 := Hid.mk (qab HB6.out hb7)
       clear v0 v1 v2 v3 q0 q1 hb7 d0 d1 d2 d3
       go_wp2
       go_ret
       exact ⟨by rw [HF.out (by trivial)]; rfl, qab HB3.out HB7.out⟩
      ·go_upto_region 13 with fail
       generalize wr.alloc (.cells #[.int .i64 I, .int .u64 b1, .int .i64 b2, .int .u64 b3] 96) = w6 at *
       go_wp2_with fail
       refine (HCy.out _ (qab HB3.out HB6.out)).mono ?_
       rintro r7 w7 ⟨rfl, hb7⟩
       have HB7 := Hid.mk (qab HB6.out hb7)
       clear v0 v1 v2 v3 q0 q1 hb7 d0 d1 d2 d3
       go_wp2
       exact ⟨⟨i + 1, by have := HLT.out; omega, by go_num, HB7.out, HN.out (by trivial)⟩, by have := HLT.out; simp [RowKit.intOf]; omega⟩
     ·have hpe := hPy.1 hai
      have HN2 := Hid.mk (HN.out hpe)
      clear hPy hpe HN HF HCy
      generalize TR.gE K i = y at *
      obtain ⟨b0, b1, b2, b3⟩ := y
      simp only at *
      have hb6 := qac wr (.cells #[.int .i64 b0, .int .u64 b1, .int .i64 b2, .int .u64 b3] 96)
      have hq1 := qaa hb6 hq0
      obtain ⟨q0, q1⟩ := TR.qaz hq1
      obtain ⟨v0, v1, v2, v3⟩ := TR.qca (heap_alloc_new wr (.cells #[.int .i64 b0, .int .u64 b1, .int .i64 b2, .int .u64 b3] 96))
      have HB6 := Hid.mk (qab hb hb6)
      clear hq0 hq1 hb6 hb
      go_upto_region 13 with fail
      generalize wr.alloc (.cells #[.int .i64 b0, .int .u64 b1, .int .i64 b2, .int .u64 b3] 96) = w6 at *
      clear d0 d1 d2 d3
      go_wp2
      exact ⟨⟨i + 1, by have := HLT.out; omega, by go_num, HB6.out, HN2.out⟩, by have := HLT.out; simp [RowKit.intOf]; omega⟩
    ·have hlt2 : ¬ (i : Int) < K.length := by omega
     obtain rfl : i = K.length := by omega
     have HX := Hid.mk (HD3.out HNO.out HNO2.out)
     clear hlt hi hb
     go_wp2
     go_ret
     exact ⟨by rw [HX.out]; rfl, qab HB3.out HB.out⟩
theorem sound_c (h : Mch w0 w X x a n S most s) :
  Calls Tryz.prog 12 #[.pointer (some ⟨x, 0, none⟩)] w fun r w' => r = .returned (.bool (sndB S s)) ∧ Below w.heap.size w w' := by
 cases hg : s.rg with
 | none => exact sound_off h hg
 | some q => exact sound_on h q.1 q.2 hg
end
end Go.Proofs.YtfdbdeckohaneaaGreatDoor.MM
