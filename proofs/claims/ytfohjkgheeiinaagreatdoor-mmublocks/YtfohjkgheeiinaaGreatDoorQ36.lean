/- Texts: MmI -/
import Derived.Test.YtfohjkgheeiinaaGreatDoorQ35
set_option maxHeartbeats 16000000
set_option maxRecDepth 100000
namespace Go.Proofs.YtfohjkgheeiinaaGreatDoor.MM
open Go.RowKit Go.Maps
def eqF (p q : Lf) : Bool := p.l == q.l && (p.k == q.k && (p.o == q.o && (p.u == q.u && (p.r == q.r && (p.x == q.x && (p.s == q.s && p.a == q.a))))))
theorem eqF_iff {p q : Lf} : eqF p q = true ↔ p = q := by
 obtain ⟨a0, a1, a2, a3, a4, a5, a6, a7⟩ := p
 obtain ⟨b0, b1, b2, b3, b4, b5, b6, b7⟩ := q
 unfold eqF
 simp only [Bool.and_eq_true, beq_iff_eq, Lf.mk.injEq]
theorem eqL (p q : Lf) (w : World) : (binOp .eql 129 (.agg p.cs.toArray) (.agg q.cs.toArray)).run Tryz.prog w = .ok (.bool (eqF p q)) w := by
 obtain ⟨a0, a1, a2, a3, a4, a5, a6, a7⟩ := p
 obtain ⟨b0, b1, b2, b3, b4, b5, b6, b7⟩ := q
 simp only [Lf.cs, eqF]
 by_cases h0 : a0 = b0
 ·subst h0
  by_cases h1 : a1 = b1
  ·subst h1
   by_cases h2 : a2 = b2
   ·subst h2
    by_cases h3 : a3 = b3
    ·subst h3
     by_cases h4 : a4 = b4
     ·subst h4
      by_cases h5 : a5 = b5
      ·subst h5
       by_cases h6 : a6 = b6
       ·subst h6
        by_cases h7 : a7 = b7
        ·subst h7
         first | (go_simp; done) | (go_simp <;> simp_all)
        ·go_simp <;> (first | (simp_all; done) | (rw [if_neg (by omega), beq_eq_false_iff_ne.2 (by assumption)]; rfl))
       ·go_simp <;> (first | (simp_all; done) | (rw [if_neg (by omega), beq_eq_false_iff_ne.2 (by assumption)]; rfl))
      ·go_simp <;> (first | (simp_all; done) | (rw [if_neg (by omega), beq_eq_false_iff_ne.2 (by assumption)]; rfl))
     ·go_simp <;> (first | (simp_all; done) | (rw [if_neg (by omega), beq_eq_false_iff_ne.2 (by assumption)]; rfl))
    ·go_simp <;> (first | (simp_all; done) | (rw [if_neg (by omega), beq_eq_false_iff_ne.2 (by assumption)]; rfl))
   ·go_simp <;> (first | (simp_all; done) | (rw [if_neg (by omega), beq_eq_false_iff_ne.2 (by assumption)]; rfl))
  ·go_simp <;> (first | (simp_all; done) | (rw [if_neg (by omega), beq_eq_false_iff_ne.2 (by assumption)]; rfl))
 ·go_simp <;> (first | (simp_all; done) | (rw [if_neg (by omega), beq_eq_false_iff_ne.2 (by assumption)]; rfl))
def isTb (k : Int) (o : Nat) (u r x s : Bool) (a : Int) (tb : Nat) : Bool := k == 1 && (o == tb && (u == false && (r == false && (x == false && (s == false && a == 0)))))
theorem eqD (a0 : Int) (a1 : Nat) (a2 a3 a4 a5 : Bool) (a6 : Int) (tb : Nat) (w : World) : (binOp .eql 95 (dv a0 a1 a2 a3 a4 a5 a6) (dv 1 tb false false false false 0)).run Tryz.prog w = .ok (.bool (isTb a0 a1 a2 a3 a4 a5 a6 tb)) w := by
 unfold isTb dv
 by_cases h0 : a0 = 1
 ·subst h0
  by_cases h1 : a1 = tb
  ·subst h1
   cases a2 <;> cases a3 <;> cases a4 <;> cases a5 <;> by_cases h6 : a6 = 0 <;> (first | (go_simp; done) | (go_simp <;> simp_all))
  ·go_simp <;> (first | (simp_all; done) | (rw [if_neg (by omega), beq_eq_false_iff_ne.2 (by assumption)]; rfl))
 ·go_simp <;> simp_all
theorem tb_rd (l : Int) (x : Nat) (tb : Nat) : isTb (rdK l x) (rdO x) (rdU l x) (rdR l x) (rdX l x) (rdS l x) (rdA l x) tb = (decide (rdK l x = 1) && decide (rdO x = tb)) := by
 unfold isTb
 by_cases hk : rdK l x = 1
 ·have hq : leafQ l x = false := by
   unfold rdK at hk
   unfold leafQ
   split at hk
   ·cases hk
   ·split at hk
    ·rename_i h; rw [h]; simp
    ·split at hk <;> cases hk
  unfold rdU rdR rdX rdS rdA
  rw [hq, hk]
  simp
  rfl
 ·simp [hk]
def cmT (S : Nat) (f : Nat → Nat) (R : Nat) (e : TB.En) : Bool := eqF (lfR (wk0 S f 0 R e.va).2) (enL e)
def thB (S : Nat) (f : Nat → Nat) (R : Nat) (e : TR.En) : Bool := decide ((e.lv - 1).toNat < (wk0 S f 0 R e.va).1.length) && (TR.isT (e.lv - 1) (wk0 S f 0 R e.va).1[(e.lv - 1).toNat]!.2 && decide (rdO (wk0 S f 0 R e.va).1[(e.lv - 1).toNat]!.2 = e.tb))
section
variable {w0 w : World} {X : Nat → Prop} {x a n S : Nat} {most : Int} {s : St}
theorem comesTo_c (h : Mch w0 w X x a n S most s) (R : Nat) (hR : R < 281474976710656) (e : TB.En) :
  Calls Tryz.prog 54 #[.pointer (some ⟨x, 0, none⟩), .int .u64 R, e.v] w fun r w' => r = .returned (.bool (cmT S s.f R e)) ∧ Below w.heap.size w w' := by
 obtain ⟨XM, XB, XT, tb, tr, pv, h⟩ := h
 have c0 := (row5 h.row).1
 have HC : Hid (∀ W (_ : Below w.heap.size w W), Calls Tryz.prog 90 #[.pointer (some ⟨a, 0, none⟩), .int .u64 R, .int .u64 (e.va : Nat)] W fun r w' => r = .returned (.tuple #[.agg (lfR (wk0 S s.f 0 R e.va).2).cs.toArray, .agg #[.int .i64 (ftR (wk0 S s.f 0 R e.va).2).1, .int .i64 (ftR (wk0 S s.f 0 R e.va).2).2]]) ∧ Below W.heap.size W w') := fun W hb => by
  have := walk_any R e.va (by omega) (h.later hb).mem (h.later hb).fld.t.d
  rw [leafL_cs, faultL_cs] at this
  exact this
 have HQ := Hid.mk (fun W => eqL (lfR (wk0 S s.f 0 R e.va).2) (enL e) W)
 unfold cmT
 generalize eqF (lfR (wk0 S s.f 0 R e.va).2) (enL e) = D at *
 generalize lfR (wk0 S s.f 0 R e.va).2 = lf at *
 generalize ftR (wk0 S s.f 0 R e.va).2 = ft at *
 obtain ⟨l, k, o, u, r, y, q, t⟩ := lf
 obtain ⟨f1, f2⟩ := ft
 obtain ⟨b0, b1, b2, b3, b4, b5, b6, b7, b8, b9⟩ := e
 simp only [Lf.cs, enL, TB.En.v] at *
 clear h hR
 have hK := heap_alloc_new w (.cells #[.int .i64 b0, .int .u64 b1, .int .i64 b2, .int .i64 b3, .int .u64 b4, .bool b5, .bool b6, .bool b7, .bool b8, .int .i64 b9] 97)
 have HBW := Hid.mk (below_new w (.cells #[.int .i64 b0, .int .u64 b1, .int .i64 b2, .int .i64 b3, .int .u64 b4, .bool b5, .bool b6, .bool b7, .bool b8, .int .i64 b9] 97))
 go_enter Tryz.func54, Tryz.ntmps54
 go_upto_region 1 with fail
 generalize w.alloc (.cells #[.int .i64 b0, .int .u64 b1, .int .i64 b2, .int .i64 b3, .int .u64 b4, .bool b5, .bool b6, .bool b7, .bool b8, .int .i64 b9] 97) = W at *
 have k0 := cell_later HBW.out c0
 obtain ⟨-, k1, -⟩ := TB.cells10 hK
 have k0z := k0
 have k1z := k1
 go_cut [7] (fun s7 wc => ∃ K, s7 = .pointer (some ⟨K, 0, none⟩) ∧ Below W.heap.size W wc ∧ wc.heap[K]? = some (.cells #[.int .i64 l, .int .i64 k, .int .u64 o, .bool u, .bool r, .bool y, .bool q, .int .i64 t] 129 (0, 0)))
 case first =>
  obtain ⟨k0, k1⟩ := cl2 (Below.refl _ W).drew k0 k1
  refine wp_region_noPanic ?_
  refine wp_region_held_drew (S := (fun w' => w'.cell? ⟨x, 0, none⟩ = some (.pointer (some ⟨a, 0, none⟩)) ∧ w'.cell? ⟨w.heap.size, 1, none⟩ = some (.int .u64 b1))) (by kernel_rfl) ?_ (fun hHeld => ?_)
  ·exact ⟨k0, k1⟩
  refine tk 0 10 (h := ?_)
  refine tk 1 11 (h := ?_)
  refine tk 2 12 (h := ?_)
  refine tk 3 13 (h := ?_)
  refine tk 4 14 (h := ?_)
  refine tk 5 15 (h := ?_)
  refine tk 6 16 (h := ?_)
  have HBz : Below W.heap.size W W.drew := (Below.refl _ _).drew
  generalize W.drew = Wd at *
  refine wpAnyH_ready (rs := [7, 11, 12]) (by kernel_rfl) (by simp) ?_
  refine AllReadyH.cons rfl (fun K hK => ?_) (AllReadyH.cons rfl (fun K hK => ?_) (AllReadyH.cons rfl (fun K hK => ?_) AllReadyH.nil))
  ·go_simp
   refine (HC.out _ (below_tr HBW.out HBz)).mono ?_
   rintro e v0 ⟨rfl, hbm⟩
   go_wp2_with fail
   obtain ⟨k0, k1⟩ := cl2 hbm k0 k1
   replace HBz := below_tr HBz hbm
   clear hbm
   refine hK.out _ _ ⟨k0, k1⟩ (fun hHeldc0 => ?_)
   clear hK
   try simp only [Act.put, sq]
   refine tk 8 9 (h := ?_)
   refine tk 9 18 (h := ?_)
   refine tk 10 19 (h := ?_)
   refine wpAnyH_ready (rs := [11, 12]) (by kernel_rfl) (by simp) ?_
   refine AllReadyH.cons rfl (fun K hK => ?_) (AllReadyH.cons rfl (fun K hK => ?_) AllReadyH.nil)
   ·go_simp
    have hbm := below_new (v0) (.cells #[.int .i64 0, .int .i64 0, .int .u64 0, .bool false, .bool false, .bool false, .bool false, .int .i64 0] 129)
    have hr0 := heap_alloc_new (v0) (.cells #[.int .i64 0, .int .i64 0, .int .u64 0, .bool false, .bool false, .bool false, .bool false, .int .i64 0] 129)
    have hg0 : W.heap.size ≤ (v0).heap.size := HBz.size
    obtain ⟨k0, k1⟩ := cl2 hbm k0 k1
    replace HBz := below_tr HBz hbm
    clear hbm
    refine hK.out _ _ ⟨k0, k1⟩ (fun hHelda1 => ?_)
    clear hK
    try simp only [Act.put, sq]
    generalize hva1 : (v0).alloc (.cells #[.int .i64 0, .int .i64 0, .int .u64 0, .bool false, .bool false, .bool false, .bool false, .int .i64 0] 129) = va1 at *
    generalize hka1 : (v0).heap.size = KA0 at *
    refine rd1 12 (h := fun K hK => ?_)
    ·go_simp
     have hbm := below_new (va1) (.cells #[.int .i64 0, .int .i64 0] 50)
     have hr1 := heap_alloc_new (va1) (.cells #[.int .i64 0, .int .i64 0] 50)
     have hg1 : W.heap.size ≤ (va1).heap.size := HBz.size
     have hne01 : KA0 < (va1).heap.size := block_lt hr0
     obtain ⟨k0, k1⟩ := cl2 hbm k0 k1
     replace hr0 := block_later hbm hr0
     replace HBz := below_tr HBz hbm
     clear hbm
     refine hK.out _ _ ⟨k0, k1⟩ (fun hHelda2 => ?_)
     clear hK
     try simp only [Act.put, sq]
     generalize hva2 : (va1).alloc (.cells #[.int .i64 0, .int .i64 0] 50) = va2 at *
     generalize hka2 : (va1).heap.size = KA1 at *
     refine rd1 13 (h := fun K hK => ?_)
     refine step_store_seg rfl rfl 129 _ _ rfl KA0 0 _ #[.int .i64 l, .int .i64 k, .int .u64 o, .bool u, .bool r, .bool y, .bool q, .int .i64 t] rfl rfl rfl 129 _ hr0 (show 0 + 8 ≤ 8 by decide) info_leaf (by simp [Value.oneCell']) #[.int .i64 l, .int .i64 k, .int .u64 o, .bool u, .bool r, .bool y, .bool q, .int .i64 t] rfl ?_
     intro ws0 hrq htq
     replace k0 := TR.turn_cell htq (fun c => by have := World.block_lt_of_cell? _ _ k0z; simp only at *; omega) k0
     replace k1 := TR.turn_cell htq (fun c => by have := World.block_lt_of_cell? _ _ k1z; simp only at *; omega) k1
     replace hr1 := block_turn htq hr1 (by omega)
     replace hr0 := hrq
     replace HBz := HBz.trans (htq.below (lo := W.heap.size) (fun i hi => by rw [hi]; exact hg0) HBz.size)
     clear hrq htq
     refine hK.out _ _ ⟨k0, k1⟩ (fun hHelds0 => ?_)
     clear hK
     try simp only [Act.put, sq]
     refine rd1 14 (h := fun K hK => ?_)
     refine step_store_seg rfl rfl 50 _ _ rfl KA1 0 _ #[.int .i64 f1, .int .i64 f2] rfl rfl rfl 50 _ hr1 (show 0 + 2 ≤ 2 by decide) info_fault (by simp [Value.oneCell']) #[.int .i64 f1, .int .i64 f2] rfl ?_
     intro ws1 hrq htq
     replace k0 := TR.turn_cell htq (fun c => by have := World.block_lt_of_cell? _ _ k0z; simp only at *; omega) k0
     replace k1 := TR.turn_cell htq (fun c => by have := World.block_lt_of_cell? _ _ k1z; simp only at *; omega) k1
     replace hr0 := block_turn htq hr0 (by omega)
     replace hr1 := hrq
     replace HBz := HBz.trans (htq.below (lo := W.heap.size) (fun i hi => by rw [hi]; exact hg1) HBz.size)
     clear hrq htq
     refine hK.out _ _ ⟨k0, k1⟩ (fun hHelds1 => ?_)
     clear hK
     try simp only [Act.put, sq]
     refine wpAnyH_done (by kernel_rfl) ?_ _
     refine NoPanic.normal ?_
     go_wp2_with fail
     go_meet
     exact ⟨_, rfl, HBz, hr0⟩
   ·go_simp
    have hbm := below_new (v0) (.cells #[.int .i64 0, .int .i64 0] 50)
    have hr1 := heap_alloc_new (v0) (.cells #[.int .i64 0, .int .i64 0] 50)
    have hg1 : W.heap.size ≤ (v0).heap.size := HBz.size
    obtain ⟨k0, k1⟩ := cl2 hbm k0 k1
    replace HBz := below_tr HBz hbm
    clear hbm
    refine hK.out _ _ ⟨k0, k1⟩ (fun hHelda1 => ?_)
    clear hK
    try simp only [Act.put, sq]
    generalize hva1 : (v0).alloc (.cells #[.int .i64 0, .int .i64 0] 50) = va1 at *
    generalize hka1 : (v0).heap.size = KA1 at *
    refine rd1 11 (h := fun K hK => ?_)
    ·go_simp
     have hbm := below_new (va1) (.cells #[.int .i64 0, .int .i64 0, .int .u64 0, .bool false, .bool false, .bool false, .bool false, .int .i64 0] 129)
     have hr0 := heap_alloc_new (va1) (.cells #[.int .i64 0, .int .i64 0, .int .u64 0, .bool false, .bool false, .bool false, .bool false, .int .i64 0] 129)
     have hg0 : W.heap.size ≤ (va1).heap.size := HBz.size
     have hne10 : KA1 < (va1).heap.size := block_lt hr1
     obtain ⟨k0, k1⟩ := cl2 hbm k0 k1
     replace hr1 := block_later hbm hr1
     replace HBz := below_tr HBz hbm
     clear hbm
     refine hK.out _ _ ⟨k0, k1⟩ (fun hHelda2 => ?_)
     clear hK
     try simp only [Act.put, sq]
     generalize hva2 : (va1).alloc (.cells #[.int .i64 0, .int .i64 0, .int .u64 0, .bool false, .bool false, .bool false, .bool false, .int .i64 0] 129) = va2 at *
     generalize hka2 : (va1).heap.size = KA0 at *
     refine rd1 13 (h := fun K hK => ?_)
     refine step_store_seg rfl rfl 129 _ _ rfl KA0 0 _ #[.int .i64 l, .int .i64 k, .int .u64 o, .bool u, .bool r, .bool y, .bool q, .int .i64 t] rfl rfl rfl 129 _ hr0 (show 0 + 8 ≤ 8 by decide) info_leaf (by simp [Value.oneCell']) #[.int .i64 l, .int .i64 k, .int .u64 o, .bool u, .bool r, .bool y, .bool q, .int .i64 t] rfl ?_
     intro ws0 hrq htq
     replace k0 := TR.turn_cell htq (fun c => by have := World.block_lt_of_cell? _ _ k0z; simp only at *; omega) k0
     replace k1 := TR.turn_cell htq (fun c => by have := World.block_lt_of_cell? _ _ k1z; simp only at *; omega) k1
     replace hr1 := block_turn htq hr1 (by omega)
     replace hr0 := hrq
     replace HBz := HBz.trans (htq.below (lo := W.heap.size) (fun i hi => by rw [hi]; exact hg0) HBz.size)
     clear hrq htq
     refine hK.out _ _ ⟨k0, k1⟩ (fun hHelds0 => ?_)
     clear hK
     try simp only [Act.put, sq]
     refine rd1 14 (h := fun K hK => ?_)
     refine step_store_seg rfl rfl 50 _ _ rfl KA1 0 _ #[.int .i64 f1, .int .i64 f2] rfl rfl rfl 50 _ hr1 (show 0 + 2 ≤ 2 by decide) info_fault (by simp [Value.oneCell']) #[.int .i64 f1, .int .i64 f2] rfl ?_
     intro ws1 hrq htq
     replace k0 := TR.turn_cell htq (fun c => by have := World.block_lt_of_cell? _ _ k0z; simp only at *; omega) k0
     replace k1 := TR.turn_cell htq (fun c => by have := World.block_lt_of_cell? _ _ k1z; simp only at *; omega) k1
     replace hr0 := block_turn htq hr0 (by omega)
     replace hr1 := hrq
     replace HBz := HBz.trans (htq.below (lo := W.heap.size) (fun i hi => by rw [hi]; exact hg1) HBz.size)
     clear hrq htq
     refine hK.out _ _ ⟨k0, k1⟩ (fun hHelds1 => ?_)
     clear hK
     try simp only [Act.put, sq]
     refine wpAnyH_done (by kernel_rfl) ?_ _
     refine NoPanic.normal ?_
     go_wp2_with fail
     go_meet
     exact ⟨_, rfl, HBz, hr0⟩
  ·go_simp
   have hbm := below_new (Wd) (.cells #[.int .i64 0, .int .i64 0, .int .u64 0, .bool false, .bool false, .bool false, .bool false, .int .i64 0] 129)
   have hr0 := heap_alloc_new (Wd) (.cells #[.int .i64 0, .int .i64 0, .int .u64 0, .bool false, .bool false, .bool false, .bool false, .int .i64 0] 129)
   have hg0 : W.heap.size ≤ (Wd).heap.size := HBz.size
   obtain ⟨k0, k1⟩ := cl2 hbm k0 k1
   replace HBz := below_tr HBz hbm
   clear hbm
   refine hK.out _ _ ⟨k0, k1⟩ (fun hHelda0 => ?_)
   clear hK
   try simp only [Act.put, sq]
   generalize hva0 : (Wd).alloc (.cells #[.int .i64 0, .int .i64 0, .int .u64 0, .bool false, .bool false, .bool false, .bool false, .int .i64 0] 129) = va0 at *
   generalize hka0 : (Wd).heap.size = KA0 at *
   refine wpAnyH_ready (rs := [7, 12]) (by kernel_rfl) (by simp) ?_
   refine AllReadyH.cons rfl (fun K hK => ?_) (AllReadyH.cons rfl (fun K hK => ?_) AllReadyH.nil)
   ·go_simp
    refine (HC.out _ (below_tr HBW.out HBz)).mono ?_
    rintro e v1 ⟨rfl, hbm⟩
    go_wp2_with fail
    obtain ⟨k0, k1⟩ := cl2 hbm k0 k1
    replace hr0 := block_later hbm hr0
    replace HBz := below_tr HBz hbm
    clear hbm
    refine hK.out _ _ ⟨k0, k1⟩ (fun hHeldc1 => ?_)
    clear hK
    try simp only [Act.put, sq]
    refine tk 8 9 (h := ?_)
    refine tk 9 18 (h := ?_)
    refine tk 10 19 (h := ?_)
    refine rd1 12 (h := fun K hK => ?_)
    ·go_simp
     have hbm := below_new (v1) (.cells #[.int .i64 0, .int .i64 0] 50)
     have hr1 := heap_alloc_new (v1) (.cells #[.int .i64 0, .int .i64 0] 50)
     have hg1 : W.heap.size ≤ (v1).heap.size := HBz.size
     have hne01 : KA0 < (v1).heap.size := block_lt hr0
     obtain ⟨k0, k1⟩ := cl2 hbm k0 k1
     replace hr0 := block_later hbm hr0
     replace HBz := below_tr HBz hbm
     clear hbm
     refine hK.out _ _ ⟨k0, k1⟩ (fun hHelda2 => ?_)
     clear hK
     try simp only [Act.put, sq]
     generalize hva2 : (v1).alloc (.cells #[.int .i64 0, .int .i64 0] 50) = va2 at *
     generalize hka2 : (v1).heap.size = KA1 at *
     refine rd1 13 (h := fun K hK => ?_)
     refine step_store_seg rfl rfl 129 _ _ rfl KA0 0 _ #[.int .i64 l, .int .i64 k, .int .u64 o, .bool u, .bool r, .bool y, .bool q, .int .i64 t] rfl rfl rfl 129 _ hr0 (show 0 + 8 ≤ 8 by decide) info_leaf (by simp [Value.oneCell']) #[.int .i64 l, .int .i64 k, .int .u64 o, .bool u, .bool r, .bool y, .bool q, .int .i64 t] rfl ?_
     intro ws0 hrq htq
     replace k0 := TR.turn_cell htq (fun c => by have := World.block_lt_of_cell? _ _ k0z; simp only at *; omega) k0
     replace k1 := TR.turn_cell htq (fun c => by have := World.block_lt_of_cell? _ _ k1z; simp only at *; omega) k1
     replace hr1 := block_turn htq hr1 (by omega)
     replace hr0 := hrq
     replace HBz := HBz.trans (htq.below (lo := W.heap.size) (fun i hi => by rw [hi]; exact hg0) HBz.size)
     clear hrq htq
     refine hK.out _ _ ⟨k0, k1⟩ (fun hHelds0 => ?_)
     clear hK
     try simp only [Act.put, sq]
     refine rd1 14 (h := fun K hK => ?_)
     refine step_store_seg rfl rfl 50 _ _ rfl KA1 0 _ #[.int .i64 f1, .int .i64 f2] rfl rfl rfl 50 _ hr1 (show 0 + 2 ≤ 2 by decide) info_fault (by simp [Value.oneCell']) #[.int .i64 f1, .int .i64 f2] rfl ?_
     intro ws1 hrq htq
     replace k0 := TR.turn_cell htq (fun c => by have := World.block_lt_of_cell? _ _ k0z; simp only at *; omega) k0
     replace k1 := TR.turn_cell htq (fun c => by have := World.block_lt_of_cell? _ _ k1z; simp only at *; omega) k1
     replace hr0 := block_turn htq hr0 (by omega)
     replace hr1 := hrq
     replace HBz := HBz.trans (htq.below (lo := W.heap.size) (fun i hi => by rw [hi]; exact hg1) HBz.size)
     clear hrq htq
     refine hK.out _ _ ⟨k0, k1⟩ (fun hHelds1 => ?_)
     clear hK
     try simp only [Act.put, sq]
     refine wpAnyH_done (by kernel_rfl) ?_ _
     refine NoPanic.normal ?_
     go_wp2_with fail
     go_meet
     exact ⟨_, rfl, HBz, hr0⟩
   ·go_simp
    have hbm := below_new (va0) (.cells #[.int .i64 0, .int .i64 0] 50)
    have hr1 := heap_alloc_new (va0) (.cells #[.int .i64 0, .int .i64 0] 50)
    have hg1 : W.heap.size ≤ (va0).heap.size := HBz.size
    have hne01 : KA0 < (va0).heap.size := block_lt hr0
    obtain ⟨k0, k1⟩ := cl2 hbm k0 k1
    replace hr0 := block_later hbm hr0
    replace HBz := below_tr HBz hbm
    clear hbm
    refine hK.out _ _ ⟨k0, k1⟩ (fun hHelda1 => ?_)
    clear hK
    try simp only [Act.put, sq]
    generalize hva1 : (va0).alloc (.cells #[.int .i64 0, .int .i64 0] 50) = va1 at *
    generalize hka1 : (va0).heap.size = KA1 at *
    refine rd1 7 (h := fun K hK => ?_)
    ·go_simp
     refine (HC.out _ (below_tr HBW.out HBz)).mono ?_
     rintro e v2 ⟨rfl, hbm⟩
     go_wp2_with fail
     obtain ⟨k0, k1⟩ := cl2 hbm k0 k1
     obtain ⟨hr0, hr1⟩ := bl2 hbm hr0 hr1
     replace HBz := below_tr HBz hbm
     clear hbm
     refine hK.out _ _ ⟨k0, k1⟩ (fun hHeldc2 => ?_)
     clear hK
     try simp only [Act.put, sq]
     refine tk 8 9 (h := ?_)
     refine tk 9 18 (h := ?_)
     refine tk 10 19 (h := ?_)
     refine rd1 13 (h := fun K hK => ?_)
     refine step_store_seg rfl rfl 129 _ _ rfl KA0 0 _ #[.int .i64 l, .int .i64 k, .int .u64 o, .bool u, .bool r, .bool y, .bool q, .int .i64 t] rfl rfl rfl 129 _ hr0 (show 0 + 8 ≤ 8 by decide) info_leaf (by simp [Value.oneCell']) #[.int .i64 l, .int .i64 k, .int .u64 o, .bool u, .bool r, .bool y, .bool q, .int .i64 t] rfl ?_
     intro ws0 hrq htq
     replace k0 := TR.turn_cell htq (fun c => by have := World.block_lt_of_cell? _ _ k0z; simp only at *; omega) k0
     replace k1 := TR.turn_cell htq (fun c => by have := World.block_lt_of_cell? _ _ k1z; simp only at *; omega) k1
     replace hr1 := block_turn htq hr1 (by omega)
     replace hr0 := hrq
     replace HBz := HBz.trans (htq.below (lo := W.heap.size) (fun i hi => by rw [hi]; exact hg0) HBz.size)
     clear hrq htq
     refine hK.out _ _ ⟨k0, k1⟩ (fun hHelds0 => ?_)
     clear hK
     try simp only [Act.put, sq]
     refine rd1 14 (h := fun K hK => ?_)
     refine step_store_seg rfl rfl 50 _ _ rfl KA1 0 _ #[.int .i64 f1, .int .i64 f2] rfl rfl rfl 50 _ hr1 (show 0 + 2 ≤ 2 by decide) info_fault (by simp [Value.oneCell']) #[.int .i64 f1, .int .i64 f2] rfl ?_
     intro ws1 hrq htq
     replace k0 := TR.turn_cell htq (fun c => by have := World.block_lt_of_cell? _ _ k0z; simp only at *; omega) k0
     replace k1 := TR.turn_cell htq (fun c => by have := World.block_lt_of_cell? _ _ k1z; simp only at *; omega) k1
     replace hr0 := block_turn htq hr0 (by omega)
     replace hr1 := hrq
     replace HBz := HBz.trans (htq.below (lo := W.heap.size) (fun i hi => by rw [hi]; exact hg1) HBz.size)
     clear hrq htq
     refine hK.out _ _ ⟨k0, k1⟩ (fun hHelds1 => ?_)
     clear hK
     try simp only [Act.put, sq]
     refine wpAnyH_done (by kernel_rfl) ?_ _
     refine NoPanic.normal ?_
     go_wp2_with fail
     go_meet
     exact ⟨_, rfl, HBz, hr0⟩
  ·go_simp
   have hbm := below_new (Wd) (.cells #[.int .i64 0, .int .i64 0] 50)
   have hr1 := heap_alloc_new (Wd) (.cells #[.int .i64 0, .int .i64 0] 50)
   have hg1 : W.heap.size ≤ (Wd).heap.size := HBz.size
   obtain ⟨k0, k1⟩ := cl2 hbm k0 k1
   replace HBz := below_tr HBz hbm
   clear hbm
   refine hK.out _ _ ⟨k0, k1⟩ (fun hHelda0 => ?_)
   clear hK
   try simp only [Act.put, sq]
   generalize hva0 : (Wd).alloc (.cells #[.int .i64 0, .int .i64 0] 50) = va0 at *
   generalize hka0 : (Wd).heap.size = KA1 at *
   refine wpAnyH_ready (rs := [7, 11]) (by kernel_rfl) (by simp) ?_
   refine AllReadyH.cons rfl (fun K hK => ?_) (AllReadyH.cons rfl (fun K hK => ?_) AllReadyH.nil)
   ·go_simp
    refine (HC.out _ (below_tr HBW.out HBz)).mono ?_
    rintro e v1 ⟨rfl, hbm⟩
    go_wp2_with fail
    obtain ⟨k0, k1⟩ := cl2 hbm k0 k1
    replace hr1 := block_later hbm hr1
    replace HBz := below_tr HBz hbm
    clear hbm
    refine hK.out _ _ ⟨k0, k1⟩ (fun hHeldc1 => ?_)
    clear hK
    try simp only [Act.put, sq]
    refine tk 8 9 (h := ?_)
    refine tk 9 18 (h := ?_)
    refine tk 10 19 (h := ?_)
    refine rd1 11 (h := fun K hK => ?_)
    ·go_simp
     have hbm := below_new (v1) (.cells #[.int .i64 0, .int .i64 0, .int .u64 0, .bool false, .bool false, .bool false, .bool false, .int .i64 0] 129)
     have hr0 := heap_alloc_new (v1) (.cells #[.int .i64 0, .int .i64 0, .int .u64 0, .bool false, .bool false, .bool false, .bool false, .int .i64 0] 129)
     have hg0 : W.heap.size ≤ (v1).heap.size := HBz.size
     have hne10 : KA1 < (v1).heap.size := block_lt hr1
     obtain ⟨k0, k1⟩ := cl2 hbm k0 k1
     replace hr1 := block_later hbm hr1
     replace HBz := below_tr HBz hbm
     clear hbm
     refine hK.out _ _ ⟨k0, k1⟩ (fun hHelda2 => ?_)
     clear hK
     try simp only [Act.put, sq]
     generalize hva2 : (v1).alloc (.cells #[.int .i64 0, .int .i64 0, .int .u64 0, .bool false, .bool false, .bool false, .bool false, .int .i64 0] 129) = va2 at *
     generalize hka2 : (v1).heap.size = KA0 at *
     refine rd1 13 (h := fun K hK => ?_)
     refine step_store_seg rfl rfl 129 _ _ rfl KA0 0 _ #[.int .i64 l, .int .i64 k, .int .u64 o, .bool u, .bool r, .bool y, .bool q, .int .i64 t] rfl rfl rfl 129 _ hr0 (show 0 + 8 ≤ 8 by decide) info_leaf (by simp [Value.oneCell']) #[.int .i64 l, .int .i64 k, .int .u64 o, .bool u, .bool r, .bool y, .bool q, .int .i64 t] rfl ?_
     intro ws0 hrq htq
     replace k0 := TR.turn_cell htq (fun c => by have := World.block_lt_of_cell? _ _ k0z; simp only at *; omega) k0
     replace k1 := TR.turn_cell htq (fun c => by have := World.block_lt_of_cell? _ _ k1z; simp only at *; omega) k1
     replace hr1 := block_turn htq hr1 (by omega)
     replace hr0 := hrq
     replace HBz := HBz.trans (htq.below (lo := W.heap.size) (fun i hi => by rw [hi]; exact hg0) HBz.size)
     clear hrq htq
     refine hK.out _ _ ⟨k0, k1⟩ (fun hHelds0 => ?_)
     clear hK
     try simp only [Act.put, sq]
     refine rd1 14 (h := fun K hK => ?_)
     refine step_store_seg rfl rfl 50 _ _ rfl KA1 0 _ #[.int .i64 f1, .int .i64 f2] rfl rfl rfl 50 _ hr1 (show 0 + 2 ≤ 2 by decide) info_fault (by simp [Value.oneCell']) #[.int .i64 f1, .int .i64 f2] rfl ?_
     intro ws1 hrq htq
     replace k0 := TR.turn_cell htq (fun c => by have := World.block_lt_of_cell? _ _ k0z; simp only at *; omega) k0
     replace k1 := TR.turn_cell htq (fun c => by have := World.block_lt_of_cell? _ _ k1z; simp only at *; omega) k1
     replace hr0 := block_turn htq hr0 (by omega)
     replace hr1 := hrq
     replace HBz := HBz.trans (htq.below (lo := W.heap.size) (fun i hi => by rw [hi]; exact hg1) HBz.size)
     clear hrq htq
     refine hK.out _ _ ⟨k0, k1⟩ (fun hHelds1 => ?_)
     clear hK
     try simp only [Act.put, sq]
     refine wpAnyH_done (by kernel_rfl) ?_ _
     refine NoPanic.normal ?_
     go_wp2_with fail
     go_meet
     exact ⟨_, rfl, HBz, hr0⟩
   ·go_simp
    have hbm := below_new (va0) (.cells #[.int .i64 0, .int .i64 0, .int .u64 0, .bool false, .bool false, .bool false, .bool false, .int .i64 0] 129)
    have hr0 := heap_alloc_new (va0) (.cells #[.int .i64 0, .int .i64 0, .int .u64 0, .bool false, .bool false, .bool false, .bool false, .int .i64 0] 129)
    have hg0 : W.heap.size ≤ (va0).heap.size := HBz.size
    have hne10 : KA1 < (va0).heap.size := block_lt hr1
    obtain ⟨k0, k1⟩ := cl2 hbm k0 k1
    replace hr1 := block_later hbm hr1
    replace HBz := below_tr HBz hbm
    clear hbm
    refine hK.out _ _ ⟨k0, k1⟩ (fun hHelda1 => ?_)
    clear hK
    try simp only [Act.put, sq]
    generalize hva1 : (va0).alloc (.cells #[.int .i64 0, .int .i64 0, .int .u64 0, .bool false, .bool false, .bool false, .bool false, .int .i64 0] 129) = va1 at *
    generalize hka1 : (va0).heap.size = KA0 at *
    refine rd1 7 (h := fun K hK => ?_)
    ·go_simp
     refine (HC.out _ (below_tr HBW.out HBz)).mono ?_
     rintro e v2 ⟨rfl, hbm⟩
     go_wp2_with fail
     obtain ⟨k0, k1⟩ := cl2 hbm k0 k1
     obtain ⟨hr1, hr0⟩ := bl2 hbm hr1 hr0
     replace HBz := below_tr HBz hbm
     clear hbm
     refine hK.out _ _ ⟨k0, k1⟩ (fun hHeldc2 => ?_)
     clear hK
     try simp only [Act.put, sq]
     refine tk 8 9 (h := ?_)
     refine tk 9 18 (h := ?_)
     refine tk 10 19 (h := ?_)
     refine rd1 13 (h := fun K hK => ?_)
     refine step_store_seg rfl rfl 129 _ _ rfl KA0 0 _ #[.int .i64 l, .int .i64 k, .int .u64 o, .bool u, .bool r, .bool y, .bool q, .int .i64 t] rfl rfl rfl 129 _ hr0 (show 0 + 8 ≤ 8 by decide) info_leaf (by simp [Value.oneCell']) #[.int .i64 l, .int .i64 k, .int .u64 o, .bool u, .bool r, .bool y, .bool q, .int .i64 t] rfl ?_
     intro ws0 hrq htq
     replace k0 := TR.turn_cell htq (fun c => by have := World.block_lt_of_cell? _ _ k0z; simp only at *; omega) k0
     replace k1 := TR.turn_cell htq (fun c => by have := World.block_lt_of_cell? _ _ k1z; simp only at *; omega) k1
     replace hr1 := block_turn htq hr1 (by omega)
     replace hr0 := hrq
     replace HBz := HBz.trans (htq.below (lo := W.heap.size) (fun i hi => by rw [hi]; exact hg0) HBz.size)
     clear hrq htq
     refine hK.out _ _ ⟨k0, k1⟩ (fun hHelds0 => ?_)
     clear hK
     try simp only [Act.put, sq]
     refine rd1 14 (h := fun K hK => ?_)
     refine step_store_seg rfl rfl 50 _ _ rfl KA1 0 _ #[.int .i64 f1, .int .i64 f2] rfl rfl rfl 50 _ hr1 (show 0 + 2 ≤ 2 by decide) info_fault (by simp [Value.oneCell']) #[.int .i64 f1, .int .i64 f2] rfl ?_
     intro ws1 hrq htq
     replace k0 := TR.turn_cell htq (fun c => by have := World.block_lt_of_cell? _ _ k0z; simp only at *; omega) k0
     replace k1 := TR.turn_cell htq (fun c => by have := World.block_lt_of_cell? _ _ k1z; simp only at *; omega) k1
     replace hr0 := block_turn htq hr0 (by omega)
     replace hr1 := hrq
     replace HBz := HBz.trans (htq.below (lo := W.heap.size) (fun i hi => by rw [hi]; exact hg1) HBz.size)
     clear hrq htq
     refine hK.out _ _ ⟨k0, k1⟩ (fun hHelds1 => ?_)
     clear hK
     try simp only [Act.put, sq]
     refine wpAnyH_done (by kernel_rfl) ?_ _
     refine NoPanic.normal ?_
     go_wp2_with fail
     go_meet
     exact ⟨_, rfl, HBz, hr0⟩
 case rest =>
  obtain ⟨K, rfl, hB, hr⟩ := hcut
  obtain ⟨⟨q0, q1, q2, q3, q4, q5, q6, q7⟩, -⟩ := cells8 hr
  obtain ⟨d0, d1, d2, d3, d4, d5, d6, d7, d8, d9⟩ := TB.cells10 (block_later hB hK)
  have hq := HQ.out
  have HB := Hid.mk (below_tr HBW.out hB)
  clear k0 k1 k0z k1z hK c0 hr hB HC HQ
  go_wp2
  go_ret
  exact ⟨rfl, HB.out⟩
end
end Go.Proofs.YtfohjkgheeiinaaGreatDoor.MM
