/- What the rows of layer 9 need beside: steps of plays, and hints, as arguments. -/
import Derived.Test.YtndjhedoandinaaGreatDoorMmP2
import Derived.Test.YtndjhedoandinaaGreatDoorMmP3
import Derived.Test.YtndjhedoandinaaGreatDoorRefWriteW
import Derived.Test.YtndjhedoandinaaGreatDoorTrFrame
import Derived.Test.YtndjhedoandinaaGreatDoorStepOpen

/- Machines: guesses. -/
namespace Go.Proofs.YtndjhedoandinaaGreatDoor.MM
open Go.RowKit Go.Maps

def guS (S : Nat) (most : Int) (s : St) (va : Nat) (h : Hn) : St := match s.rg with | none => s | some (R, I) => lfS S most s R I va h

section
variable {w0 w : World} {X : Nat → Prop} {x a n S : Nat} {most : Int} {s : St}

set_option maxHeartbeats 2000000 in
set_option maxRecDepth 100000 in
theorem guess_off (h : Mch w0 w X x a n S most s) (va : Nat) (hn : Hn) (hg : s.rg = none) :
    Calls Tryz.prog 14 #[.pointer (some ⟨x, 0, none⟩), .int .u64 va, hn.v] w fun r w' => r = .returned (.tuple #[]) ∧ Mch w0 w' (Gr X w w') x a n S most s ∧ Turn X w w' ∧ w'.heap[x]? = w.heap[x]? := by
  have H0 := Hid.mk h
  obtain ⟨XM, XB, XT, tb, tr, pv, h⟩ := h
  have hxw := h.lt x h.cx
  obtain ⟨-, -, -, c3, -⟩ := row5 h.row
  rw [hg] at c3
  change w.cell? _ = some .nilIface at c3
  clear h
  obtain ⟨hf, hl, hk⟩ := hn
  simp only [Hn.v]
  have t0 := tA_none
  have hB := below_new w (.cells #[.bool hf, .bool hl, .bool hk] 38)
  go_enter Tryz.func14, Tryz.ntmps14
  go_upto_region 1 with fail
  generalize w.alloc (.cells #[.bool hf, .bool hl, .bool hk] 38) = W at *
  have k3 := cell_later hB c3
  clear c3
  go_wp2
  refine bodyPost_ret (results_none rfl _ _ _) rfl ?_
  have hb2 := below_tr hB (below_new W (.cells #[.int .u64 0, .int .i64 0] 120))
  have hg0 := H0.out.gr0 hb2
  exact ⟨rfl, hg0.1, hg0.2, hb2.block x hxw⟩

set_option maxHeartbeats 2000000 in
set_option maxRecDepth 100000 in
theorem guess_on (h : Mch w0 w X x a n S most s) (va : Nat) (hva : va < 18446744073709551616) (hn : Hn) (R I : Nat) (hg : s.rg = some (R, I)) :
    Calls Tryz.prog 14 #[.pointer (some ⟨x, 0, none⟩), .int .u64 va, hn.v] w fun r w' => r = .returned (.tuple #[]) ∧ Mch w0 w' (Gr X w w') x a n S most (lfS S most s R I va hn) ∧ Turn X w w' ∧ w'.heap[x]? = w.heap[x]? := by
  have H0 := Hid.mk h
  have HR := Hid.mk ((h.wfm.rr R I hg).1)
  have HWK := Hid.mk (fun W (hb : Below w.heap.size w W) => walked_c (H0.out.later hb) R I va HR.out hn hva)
  have HO := Hid.mk (show lfS S most s R I va hn = if fdN s I va = 0 then wdS S most s R I va hn else s from rfl)
  have HV := Hid.mk hva
  generalize lfS S most s R I va hn = s' at *
  obtain ⟨hf, hl, hk⟩ := hn
  simp only [Hn.v]
  have g0 := heap2_0 w (.cells #[.bool hf, .bool hl, .bool hk] 38) (.cells #[.int .u64 (R : Nat), .int .i64 (I : Nat)] 120)
  have g3 := heap_alloc2_new w (.cells #[.bool hf, .bool hl, .bool hk] 38) (.cells #[.int .u64 (R : Nat), .int .i64 (I : Nat)] 120)
  have hB := below2 w (.cells #[.bool hf, .bool hl, .bool hk] 38) (.cells #[.int .u64 (R : Nat), .int .i64 (I : Nat)] 120)
  obtain ⟨XM, XB, XT, tb, tr, pv, h⟩ := h
  obtain ⟨-, c1, -, c3, -⟩ := row5 (block_later (below_new w (.cells #[.bool hf, .bool hl, .bool hk] 38)) h.row) 
  rw [hg] at c3
  change World.cell? _ _ = some (.iface 120 (.agg #[.int .u64 (R : Nat), .int .i64 (I : Nat)])) at c3
  have HC : Hid (∀ W1 (_ : Below w.heap.size w W1), Calls Tryz.prog 51 #[.pointer (some ⟨tb, 0, none⟩), .int .i64 (I : Nat), .int .u64 va] W1 fun r w' => r = .returned (.tuple #[(fdE s I va).v, .int .i64 (fdN s I va : Nat)]) ∧ Below W1.heap.size W1 w') := fun W1 hb => TB.find_c (buf_keep h.buf (fun i hi => hb.block i (h.lt i (h.cb i hi))) hb.size) (by have := h.wf.el9; omega) (I : Int) va HV.out
  have cx1 := cell_later hB (row5 h.row).2.1
  have HXW := Hid.mk (h.lt x h.cx)
  clear h hva c1
  generalize fdE s I va = b at *
  generalize fdN s I va = M at *
  have hM : ((M : Nat) : Int) = (M : Int) := rfl
  generalize hMi : ((M : Nat) : Int) = Mi at *
  obtain ⟨b0, b1, b2, b3, b4, b5, b6, b7, b8, b9⟩ := b
  simp only [TB.En.v] at HC
  have t1 := fun W => tA_some W (.agg #[.int .u64 (R : Nat), .int .i64 (I : Nat)])
  go_enter Tryz.func14, Tryz.ntmps14
  go_upto_region 3 with fail
  generalize (w.alloc (.cells #[.bool hf, .bool hl, .bool hk] 38)).alloc (.cells #[.int .u64 (R : Nat), .int .i64 (I : Nat)] 120) = W2 at *
  have HBW := Hid.mk hB
  have k0 := cx1
  have k1 := (TR.row2c g3).2
  have k0z := k0
  have k1z := k1
  clear c3 t1 cx1
  go_cut [9] (fun s9 wc => s9 = .int .i64 Mi ∧ Below W2.heap.size W2 wc)
  case first =>
    refine wp_region_noPanic ?_
    refine wp_region_held_drew (S := (fun w' => w'.cell? ⟨x, 1, none⟩ = some (.pointer (some ⟨tb, 0, none⟩)) ∧ w'.cell? ⟨w.heap.size + 1, 1, none⟩ = some (.int .i64 (I : Nat)))) (by kernel_rfl) ?_ (fun hHeld => ?_)
    · exact ⟨cell_later (Below.refl _ _).drew k0, cell_later (Below.refl _ _).drew k1⟩
    replace k0 := cell_later (Below.refl _ W2).drew k0
    replace k1 := cell_later (Below.refl _ W2).drew k1
    refine TR.take_at (i := 0) (v := ?_) 21 rfl rfl (by kernel_rfl) (by kernel_rfl) (by kernel_rfl) (fun _ _ _ h => h) (Or.inl ⟨by rfl, ?_⟩) (by assumption) ?_
    rotate_left
    · (intro w' hSw; (try dsimp only at hSw); go_simp; all_goals with_reducible rfl)
    try simp only [Act.put, List.setIfInBounds_toArray, List.set_cons_zero, List.set_cons_succ]
    refine TR.take_at (i := 1) (v := ?_) 22 rfl rfl (by kernel_rfl) (by kernel_rfl) (by kernel_rfl) (fun _ _ _ h => h) (Or.inl ⟨by rfl, ?_⟩) (by assumption) ?_
    rotate_left
    · (intro w' hSw; (try dsimp only at hSw); go_simp; all_goals with_reducible rfl)
    try simp only [Act.put, List.setIfInBounds_toArray, List.set_cons_zero, List.set_cons_succ]
    refine TR.take_at (i := 2) (v := ?_) 23 rfl rfl (by kernel_rfl) (by kernel_rfl) (by kernel_rfl) (fun _ _ _ h => h) (Or.inl ⟨by rfl, ?_⟩) (by assumption) ?_
    rotate_left
    · (intro w' hSw; (try dsimp only at hSw); go_simp; all_goals with_reducible rfl)
    try simp only [Act.put, List.setIfInBounds_toArray, List.set_cons_zero, List.set_cons_succ]
    refine TR.take_at (i := 3) (v := ?_) 24 rfl rfl (by kernel_rfl) (by kernel_rfl) (by kernel_rfl) (fun _ _ _ h => h) (Or.inl ⟨by rfl, ?_⟩) (by assumption) ?_
    rotate_left
    · (intro w' hSw; (try dsimp only at hSw); go_simp; all_goals with_reducible rfl)
    try simp only [Act.put, List.setIfInBounds_toArray, List.set_cons_zero, List.set_cons_succ]
    refine TR.take_at (i := 4) (v := ?_) 25 rfl rfl (by kernel_rfl) (by kernel_rfl) (by kernel_rfl) (fun _ _ _ h => h) (Or.inl ⟨by rfl, ?_⟩) (by assumption) ?_
    rotate_left
    · (intro w' hSw; (try dsimp only at hSw); go_simp; all_goals with_reducible rfl)
    try simp only [Act.put, List.setIfInBounds_toArray, List.set_cons_zero, List.set_cons_succ]
    refine TR.take_at (i := 5) (v := ?_) 26 rfl rfl (by kernel_rfl) (by kernel_rfl) (by kernel_rfl) (fun _ _ _ h => h) (Or.inl ⟨by rfl, ?_⟩) (by assumption) ?_
    rotate_left
    · (intro w' hSw; (try dsimp only at hSw); go_simp; all_goals with_reducible rfl)
    try simp only [Act.put, List.setIfInBounds_toArray, List.set_cons_zero, List.set_cons_succ]
    refine TR.take_at (i := 6) (v := ?_) 27 rfl rfl (by kernel_rfl) (by kernel_rfl) (by kernel_rfl) (fun _ _ _ h => h) (Or.inl ⟨by rfl, ?_⟩) (by assumption) ?_
    rotate_left
    · (intro w' hSw; (try dsimp only at hSw); go_simp; all_goals with_reducible rfl)
    try simp only [Act.put, List.setIfInBounds_toArray, List.set_cons_zero, List.set_cons_succ]
    have HBz : Below W2.heap.size W2 W2.drew := (Below.refl _ _).drew
    generalize W2.drew = Wd at *
    refine wpAnyH_ready (rs := [7, 11]) (by kernel_rfl) (by simp) ?_
    refine AllReadyH.cons rfl (fun K hK => ?_) (AllReadyH.cons rfl (fun K hK => ?_) AllReadyH.nil)
    · go_simp
      refine (HC.out _ (below_tr HBW.out HBz)).mono ?_
      rintro e v0 ⟨rfl, hbm⟩
      go_wp2_with fail
      replace k0 := cell_later hbm k0
      replace k1 := cell_later hbm k1
      replace HBz := below_tr HBz hbm
      clear hbm
      refine hK.out _ _ ⟨k0, k1⟩ (fun hHeldc0 => ?_)
      clear hK
      try simp only [Act.put, List.setIfInBounds_toArray, List.set_cons_zero, List.set_cons_succ]
      refine TR.take_at (i := 8) (v := ?_) 20 rfl rfl (by kernel_rfl) (by kernel_rfl) (by kernel_rfl) (fun _ _ _ h => h) (Or.inl ⟨by rfl, ?_⟩) (by assumption) ?_
      rotate_left
      · (intro w' hSw; (try dsimp only at hSw); go_simp; all_goals with_reducible rfl)
      try simp only [Act.put, List.setIfInBounds_toArray, List.set_cons_zero, List.set_cons_succ]
      refine TR.take_at (i := 9) (v := ?_) 29 rfl rfl (by kernel_rfl) (by kernel_rfl) (by kernel_rfl) (fun _ _ _ h => h) (Or.inl ⟨by rfl, ?_⟩) (by assumption) ?_
      rotate_left
      · (intro w' hSw; (try dsimp only at hSw); go_simp; all_goals with_reducible rfl)
      try simp only [Act.put, List.setIfInBounds_toArray, List.set_cons_zero, List.set_cons_succ]
      refine TR.take_at (i := 10) (v := ?_) 30 rfl rfl (by kernel_rfl) (by kernel_rfl) (by kernel_rfl) (fun _ _ _ h => h) (Or.inl ⟨by rfl, ?_⟩) (by assumption) ?_
      rotate_left
      · (intro w' hSw; (try dsimp only at hSw); go_simp; all_goals with_reducible rfl)
      try simp only [Act.put, List.setIfInBounds_toArray, List.set_cons_zero, List.set_cons_succ]
      refine wpAnyH_ready (rs := [11]) (by kernel_rfl) (by simp) ?_
      refine AllReadyH.cons rfl (fun K hK => ?_) AllReadyH.nil
      · go_simp
        have hbm := below_new (v0) (.cells #[.int .i64 0, .int .u64 0, .int .i64 0, .int .i64 0, .int .u64 0, .bool false, .bool false, .bool false, .bool false, .int .i64 0] 107)
        have hr0 := heap_alloc_new (v0) (.cells #[.int .i64 0, .int .u64 0, .int .i64 0, .int .i64 0, .int .u64 0, .bool false, .bool false, .bool false, .bool false, .int .i64 0] 107)
        have hg0 : W2.heap.size ≤ (v0).heap.size := HBz.size
        replace k0 := cell_later hbm k0
        replace k1 := cell_later hbm k1
        replace HBz := below_tr HBz hbm
        clear hbm
        refine hK.out _ _ ⟨k0, k1⟩ (fun hHelda1 => ?_)
        clear hK
        try simp only [Act.put, List.setIfInBounds_toArray, List.set_cons_zero, List.set_cons_succ]
        generalize hva1 : (v0).alloc (.cells #[.int .i64 0, .int .u64 0, .int .i64 0, .int .i64 0, .int .u64 0, .bool false, .bool false, .bool false, .bool false, .int .i64 0] 107) = va1 at *
        generalize hka1 : (v0).heap.size = KA0 at *
        refine wpAnyH_ready (rs := [12]) (by kernel_rfl) (by simp) ?_
        refine AllReadyH.cons rfl (fun K hK => ?_) AllReadyH.nil
        refine step_store_seg rfl rfl 107 _ _ rfl KA0 0 _ #[.int .i64 b0, .int .u64 (b1 : Nat), .int .i64 b2, .int .i64 b3, .int .u64 (b4 : Nat), .bool b5, .bool b6, .bool b7, .bool b8, .int .i64 b9] rfl rfl rfl 107 _ hr0 (show 0 + 10 ≤ 10 by decide) TB.info_en (by simp [Value.oneCell']) #[.int .i64 b0, .int .u64 (b1 : Nat), .int .i64 b2, .int .i64 b3, .int .u64 (b4 : Nat), .bool b5, .bool b6, .bool b7, .bool b8, .int .i64 b9] rfl ?_
        intro ws0 hrq htq
        replace k0 := TR.turn_cell htq (fun c => by have := World.block_lt_of_cell? _ _ k0z; simp only at *; omega) k0
        replace k1 := TR.turn_cell htq (fun c => by have := World.block_lt_of_cell? _ _ k1z; simp only at *; omega) k1
        replace hr0 := hrq
        replace HBz := HBz.trans (htq.below (lo := W2.heap.size) (fun i hi => by rw [hi]; exact hg0) HBz.size)
        clear hrq htq
        refine hK.out _ _ ⟨k0, k1⟩ (fun hHelds0 => ?_)
        clear hK
        try simp only [Act.put, List.setIfInBounds_toArray, List.set_cons_zero, List.set_cons_succ]
        refine TR.take_at (i := 13) (v := ?_) 9 rfl rfl (by kernel_rfl) (by kernel_rfl) (by kernel_rfl) (fun _ _ _ h => h) (Or.inl ⟨by rfl, ?_⟩) (by assumption) ?_
        rotate_left
        · (intro w' hSw; (try dsimp only at hSw); go_simp; all_goals with_reducible rfl)
        try simp only [Act.put, List.setIfInBounds_toArray, List.set_cons_zero, List.set_cons_succ]
        refine wpAnyH_done (by kernel_rfl) ?_ _
        refine NoPanic.normal ?_
        go_wp2_with fail
        go_meet
        exact ⟨rfl, HBz⟩
    · go_simp
      have hbm := below_new (Wd) (.cells #[.int .i64 0, .int .u64 0, .int .i64 0, .int .i64 0, .int .u64 0, .bool false, .bool false, .bool false, .bool false, .int .i64 0] 107)
      have hr0 := heap_alloc_new (Wd) (.cells #[.int .i64 0, .int .u64 0, .int .i64 0, .int .i64 0, .int .u64 0, .bool false, .bool false, .bool false, .bool false, .int .i64 0] 107)
      have hg0 : W2.heap.size ≤ (Wd).heap.size := HBz.size
      replace k0 := cell_later hbm k0
      replace k1 := cell_later hbm k1
      replace HBz := below_tr HBz hbm
      clear hbm
      refine hK.out _ _ ⟨k0, k1⟩ (fun hHelda0 => ?_)
      clear hK
      try simp only [Act.put, List.setIfInBounds_toArray, List.set_cons_zero, List.set_cons_succ]
      generalize hva0 : (Wd).alloc (.cells #[.int .i64 0, .int .u64 0, .int .i64 0, .int .i64 0, .int .u64 0, .bool false, .bool false, .bool false, .bool false, .int .i64 0] 107) = va0 at *
      generalize hka0 : (Wd).heap.size = KA0 at *
      refine wpAnyH_ready (rs := [7]) (by kernel_rfl) (by simp) ?_
      refine AllReadyH.cons rfl (fun K hK => ?_) AllReadyH.nil
      · go_simp
        refine (HC.out _ (below_tr HBW.out HBz)).mono ?_
        rintro e v1 ⟨rfl, hbm⟩
        go_wp2_with fail
        replace k0 := cell_later hbm k0
        replace k1 := cell_later hbm k1
        replace hr0 := block_later hbm hr0
        replace HBz := below_tr HBz hbm
        clear hbm
        refine hK.out _ _ ⟨k0, k1⟩ (fun hHeldc1 => ?_)
        clear hK
        try simp only [Act.put, List.setIfInBounds_toArray, List.set_cons_zero, List.set_cons_succ]
        refine TR.take_at (i := 8) (v := ?_) 20 rfl rfl (by kernel_rfl) (by kernel_rfl) (by kernel_rfl) (fun _ _ _ h => h) (Or.inl ⟨by rfl, ?_⟩) (by assumption) ?_
        rotate_left
        · (intro w' hSw; (try dsimp only at hSw); go_simp; all_goals with_reducible rfl)
        try simp only [Act.put, List.setIfInBounds_toArray, List.set_cons_zero, List.set_cons_succ]
        refine TR.take_at (i := 9) (v := ?_) 29 rfl rfl (by kernel_rfl) (by kernel_rfl) (by kernel_rfl) (fun _ _ _ h => h) (Or.inl ⟨by rfl, ?_⟩) (by assumption) ?_
        rotate_left
        · (intro w' hSw; (try dsimp only at hSw); go_simp; all_goals with_reducible rfl)
        try simp only [Act.put, List.setIfInBounds_toArray, List.set_cons_zero, List.set_cons_succ]
        refine TR.take_at (i := 10) (v := ?_) 30 rfl rfl (by kernel_rfl) (by kernel_rfl) (by kernel_rfl) (fun _ _ _ h => h) (Or.inl ⟨by rfl, ?_⟩) (by assumption) ?_
        rotate_left
        · (intro w' hSw; (try dsimp only at hSw); go_simp; all_goals with_reducible rfl)
        try simp only [Act.put, List.setIfInBounds_toArray, List.set_cons_zero, List.set_cons_succ]
        refine wpAnyH_ready (rs := [12]) (by kernel_rfl) (by simp) ?_
        refine AllReadyH.cons rfl (fun K hK => ?_) AllReadyH.nil
        refine step_store_seg rfl rfl 107 _ _ rfl KA0 0 _ #[.int .i64 b0, .int .u64 (b1 : Nat), .int .i64 b2, .int .i64 b3, .int .u64 (b4 : Nat), .bool b5, .bool b6, .bool b7, .bool b8, .int .i64 b9] rfl rfl rfl 107 _ hr0 (show 0 + 10 ≤ 10 by decide) TB.info_en (by simp [Value.oneCell']) #[.int .i64 b0, .int .u64 (b1 : Nat), .int .i64 b2, .int .i64 b3, .int .u64 (b4 : Nat), .bool b5, .bool b6, .bool b7, .bool b8, .int .i64 b9] rfl ?_
        intro ws0 hrq htq
        replace k0 := TR.turn_cell htq (fun c => by have := World.block_lt_of_cell? _ _ k0z; simp only at *; omega) k0
        replace k1 := TR.turn_cell htq (fun c => by have := World.block_lt_of_cell? _ _ k1z; simp only at *; omega) k1
        replace hr0 := hrq
        replace HBz := HBz.trans (htq.below (lo := W2.heap.size) (fun i hi => by rw [hi]; exact hg0) HBz.size)
        clear hrq htq
        refine hK.out _ _ ⟨k0, k1⟩ (fun hHelds0 => ?_)
        clear hK
        try simp only [Act.put, List.setIfInBounds_toArray, List.set_cons_zero, List.set_cons_succ]
        refine TR.take_at (i := 13) (v := ?_) 9 rfl rfl (by kernel_rfl) (by kernel_rfl) (by kernel_rfl) (fun _ _ _ h => h) (Or.inl ⟨by rfl, ?_⟩) (by assumption) ?_
        rotate_left
        · (intro w' hSw; (try dsimp only at hSw); go_simp; all_goals with_reducible rfl)
        try simp only [Act.put, List.setIfInBounds_toArray, List.set_cons_zero, List.set_cons_succ]
        refine wpAnyH_done (by kernel_rfl) ?_ _
        refine NoPanic.normal ?_
        go_wp2_with fail
        go_meet
        exact ⟨rfl, HBz⟩
  case rest =>
    obtain ⟨rfl, hBc⟩ := hcut
    clear k0 k1 k0z k1z HC
    replace g0 := block_later hBc g0
    replace g3 := block_later hBc g3
    replace hB := below_tr hB hBc
    obtain ⟨h0, h1, h2⟩ := cells3 g0
    obtain ⟨q0, q1⟩ := TR.row2c g3
    clear hBc
    have hO2 := HO.out
    by_cases hz : Mi = 0
    · have hz' : M = 0 := by omega
      rw [if_pos hz'] at hO2
      subst hz
      clear HO
      subst hO2
      go_wp2_with fail
      refine (HWK.out _ hB).mono ?_
      rintro e w5 ⟨rfl, hM5, hT5, hx5⟩
      have HX5 := Hid.mk (hx5.trans (hB.block x HXW.out))
      clear hx5
      have HM5 := Hid.mk hM5
      have HT5 := Hid.mk hT5
      clear HWK hM5 hT5 h0 h1 h2 q0 q1 g0 g3
      go_wp2
      go_end0
      have hg1 := H0.out.gr1 hB HT5.out (Below.refl _ _) HM5.out
      exact ⟨rfl, hg1.1, hg1.2, HX5.out⟩
    · have hz' : M ≠ 0 := by omega
      rw [if_neg hz'] at hO2
      clear HO
      subst hO2
      clear HWK h0 h1 h2 q0 q1 g0 g3
      go_wp2
      go_end0
      have hg0 := H0.out.gr0 hB
      exact ⟨rfl, hg0.1, hg0.2, hB.block x HXW.out⟩

theorem guess_c (h : Mch w0 w X x a n S most s) (va : Nat) (hva : va < 18446744073709551616) (hn : Hn) :
    Calls Tryz.prog 14 #[.pointer (some ⟨x, 0, none⟩), .int .u64 va, hn.v] w fun r w' => r = .returned (.tuple #[]) ∧ Mch w0 w' (Gr X w w') x a n S most (guS S most s va hn) ∧ Turn X w w' ∧ w'.heap[x]? = w.heap[x]? := by
  unfold guS
  cases hg : s.rg with
  | none => exact guess_off h va hn hg
  | some q =>
    obtain ⟨R, I⟩ := q
    exact guess_on h va hva hn R I hg
end
end Go.Proofs.YtndjhedoandinaaGreatDoor.MM

/- Machines: as long as all that is remembered is what walks come to, an access tells what a walk from the root tells. -/
namespace Go.Proofs.YtndjhedoandinaaGreatDoor.MM
open Go.RowKit Go.Maps

theorem wk_tail1 {S : Nat} {f : Nat → Nat} {va : Nat} : ∀ {k tb i : Nat}, k ≤ 4 → i < (wk S f va k tb).1.length → goodD (4 - k + i) (wk S f va k tb).1[i]!.2 = true → rdK (4 - k + i) (wk S f va k tb).1[i]!.2 = 1 →
    (wk S f va (k - 1 - i) (rdO (wk S f va k tb).1[i]!.2)).1 = (wk S f va k tb).1.drop (i + 1)
  | 0, tb, i, _, h, _, _ => by unfold wk at h; cases h
  | k + 1, tb, i, hk, h, hg, hr => by
    by_cases he : errA S (tb + 8 * idxN va (3 - k)) = 0
    · by_cases hm : mf S (3 - k) (f (tb + 8 * idxN va (3 - k))) = 0
      · by_cases hq : rdK (3 - k) (f (tb + 8 * idxN va (3 - k))) = 1
        · rw [wk_table rfl rfl he hm hq] at h hg hr ⊢
          cases i with
          | zero => rfl
          | succ i =>
            have h' : i < (wk S f va k (rdO (f (tb + 8 * idxN va (3 - k))))).1.length := by simpa using h
            have el : (4 : Int) - ((k + 1 : Nat) : Int) + ((i + 1 : Nat) : Int) = 4 - (k : Int) + (i : Int) := by omega
            rw [el] at hg hr
            have ei : ∀ (q : Nat × Nat) (L : List (Nat × Nat)), (q :: L)[i + 1]! = L[i]! := fun q L => by simp
            simp only [ei] at hg hr ⊢
            have h2 := wk_tail1 (k := k) (by omega) h' hg hr
            rw [show k + 1 - 1 - (i + 1) = k - 1 - i by omega]
            rw [h2, List.drop_succ_cons]
        · rw [wk_leaf rfl rfl he hm hq] at h hg hr
          have hi : i = 0 := by simpa using h
          subst hi
          exfalso
          apply hq
          have el : (4 : Int) - ((k + 1 : Nat) : Int) + ((0 : Nat) : Int) = 3 - (k : Int) := by omega
          rw [el] at hr
          exact hr
      · rw [wk_fault rfl rfl he hm] at h hg hr
        have hi : i = 0 := by simpa using h
        subst hi
        exfalso
        apply hm
        have el : (4 : Int) - ((k + 1 : Nat) : Int) + ((0 : Nat) : Int) = 3 - (k : Int) := by omega
        rw [el] at hr hg
        have hr' : rdK (3 - (k : Int)) (f (tb + 8 * idxN va (3 - k))) = 1 := hr
        have hg' : goodD (3 - (k : Int)) (f (tb + 8 * idxN va (3 - k))) = true := hg
        unfold mf
        rw [if_neg (by rw [hg']; decide), if_neg (by rw [hr']; decide), if_neg (fun c => c.1 hr')]
    · rw [wk_err rfl rfl he] at h
      cases h
theorem wk0_in {S : Nat} {f : Nat → Nat} {root va i : Nat} (h : i < (wk0 S f 0 root va).1.length) : root % 4096 = 0 ∧ va < 281474976710656 ∧ wk0 S f 0 root va = wk S f va 4 root := by
  by_cases hc : isLv 0 = true ∧ root % 4096 = 0 ∧ va < 281474976710656
  · exact ⟨hc.2.1, hc.2.2, if_pos hc⟩
  · have e : wk0 S f 0 root va = ([], 1, 0, 0) := if_neg hc
    rw [e] at h; cases h
theorem roots_tail1 {S : Nat} {f : Nat → Nat} {va root i : Nat} (h : i < (wk0 S f 0 root va).1.length) (hg : goodD i (wk0 S f 0 root va).1[i]!.2 = true) (hr : rdK i (wk0 S f 0 root va).1[i]!.2 = 1) :
    (wk0 S f (i + 1) (rdO (wk0 S f 0 root va).1[i]!.2) va).1 = (wk0 S f 0 root va).1.drop (i + 1) := by
  obtain ⟨-, hv, e⟩ := wk0_in h
  rw [e] at h hg hr ⊢
  have q1 : goodD ((4 : Int) - ((4 : Nat) : Int) + (i : Int)) (wk S f va 4 root).1[i]!.2 = true := by rw [show (4 : Int) - ((4 : Nat) : Int) + (i : Int) = i by omega]; exact hg
  have q2 : rdK ((4 : Int) - ((4 : Nat) : Int) + (i : Int)) (wk S f va 4 root).1[i]!.2 = 1 := by rw [show (4 : Int) - ((4 : Nat) : Int) + (i : Int) = i by omega]; exact hr
  have h1 := (wk_tail (k := 4) (tb := root) (i := i) (by decide) h q1 q2).1
  have h2 := wk_tail1 (k := 4) (tb := root) (i := i) (by decide) h q1 q2
  have hm := rdO_mod' (wk S f va 4 root).1[i]!.2
  have e2 : wk0 S f (i + 1) (rdO (wk S f va 4 root).1[i]!.2) va = wk S f va (4 - ((i : Int) + 1)).toNat (rdO (wk S f va 4 root).1[i]!.2) := if_pos ⟨decide_eq_true (by omega), hm, hv⟩
  rw [e2, show (4 - ((i : Int) + 1)).toNat = 4 - 1 - i by omega]
  exact h2

/-- What is right of a mark, of an entry. -/
theorem rmark {e : TR.En} (h : TR.rightE e = true) : e.va < 281474976710656 ∧ baseV e.va (e.lv - 1) = e.va ∧ isLv (e.lv - 1) = true := by
  unfold TR.rightE at h
  rw [Bool.and_eq_true, Bool.and_eq_true] at h
  have h2 := h.2.2
  unfold TR.mB at h2
  rw [Bool.and_eq_true, Bool.and_eq_true] at h2
  have hl := h2.2.1
  have hb := h2.2.2
  unfold lowB at hl
  unfold TR.baseB at hb
  rw [Bool.and_eq_true, decide_eq_true_eq] at hb
  exact ⟨of_decide_eq_true hl, hb.2, hb.1⟩
theorem rentry {e : TB.En} (h : TB.rightE e = true) : e.va < 281474976710656 ∧ baseV e.va e.lv = e.va ∧ isLv e.lv = true ∧ e.s = true := by
  unfold TB.rightE at h
  rw [Bool.and_eq_true, Bool.and_eq_true, Bool.and_eq_true] at h
  have h2 := h.2.2.2
  unfold TB.mB at h2
  rw [Bool.and_eq_true, Bool.and_eq_true] at h2
  have hl := h2.2.1
  have hb := h2.2.2
  unfold lowB at hl
  unfold TB.baseB at hb
  rw [Bool.and_eq_true, decide_eq_true_eq] at hb
  exact ⟨of_decide_eq_true hl, hb.2, hb.1, h.2.2.1⟩
theorem mmark {e : TR.En} {I : Int} {va : Nat} (h : TR.mB e I va = true) : e.aid = I ∧ va < 281474976710656 ∧ baseV va (e.lv - 1) = e.va := by
  unfold TR.mB at h
  rw [Bool.and_eq_true, Bool.and_eq_true] at h
  have hl := h.2.1
  have hb := h.2.2
  unfold lowB at hl
  unfold TR.baseB at hb
  rw [Bool.and_eq_true, decide_eq_true_eq] at hb
  exact ⟨of_decide_eq_true h.1, of_decide_eq_true hl, hb.2⟩
theorem mentry {e : TB.En} {I : Int} {va : Nat} (h : TB.mB e I va = true) : e.aid = I ∧ va < 281474976710656 ∧ baseV va e.lv = e.va := by
  unfold TB.mB at h
  rw [Bool.and_eq_true, Bool.and_eq_true] at h
  have hl := h.2.1
  have hb := h.2.2
  unfold lowB at hl
  unfold TB.baseB at hb
  rw [Bool.and_eq_true, decide_eq_true_eq] at hb
  exact ⟨of_decide_eq_true h.1, of_decide_eq_true hl, hb.2⟩

section
variable {S : Nat} {f : Nat → Nat} {R : Nat}

/-- Two addresses of one stretch: the same word is read at its level. -/
theorem same_word {va x i : Nat} (hl : isLv (i : Int) = true) (hv : va < 281474976710656) (hb : baseV va (i : Int) = baseV x (i : Int)) (h : i < (wk0 S f 0 R x).1.length) : i < (wk0 S f 0 R va).1.length ∧ (wk0 S f 0 R va).1[i]! = (wk0 S f 0 R x).1[i]! := by
  obtain ⟨hm, hx, ex⟩ := wk0_in h
  have ev : wk0 S f 0 R va = wk S f va 4 R := if_pos ⟨rfl, hm, hv⟩
  have hd := TR.base_div hl hv hx hb
  rw [ex] at h
  rw [ex, ev]
  exact TR.wk_word (S := S) (f := f) (va := va) (x := x) (k := 4) (tb := R) (i := i) (by decide) (fun l' h0 h1 => idx_of_div hl h0 (by omega) hd.symm) h

theorem mark_at {e : TR.En} {va : Nat} (hs : thB S f R e = true) (hr : TR.rightE e = true) (hva : va < 281474976710656) (hb : baseV va (e.lv - 1) = e.va) :
    ∃ i : Nat, e.lv = (i : Int) + 1 ∧ i < (wk0 S f 0 R va).1.length ∧ TR.isT (i : Int) (wk0 S f 0 R va).1[i]!.2 = true ∧ rdO (wk0 S f 0 R va).1[i]!.2 = e.tb := by
  have hlv := TR.right_lv hr
  obtain ⟨hx, hbx, hl⟩ := rmark hr
  obtain ⟨i, hi⟩ := Int.eq_ofNat_of_zero_le (show 0 ≤ e.lv - 1 by omega)
  have hi2 : (e.lv - 1).toNat = i := by omega
  unfold thB at hs
  rw [hi2, hi, Bool.and_eq_true, Bool.and_eq_true, decide_eq_true_eq, decide_eq_true_eq] at hs
  rw [hi] at hb hbx hl
  obtain ⟨q1, q2⟩ := same_word (S := S) (f := f) (R := R) hl hva (hb.trans hbx.symm) hs.1
  refine ⟨i, by omega, q1, ?_, ?_⟩
  · rw [q2]; exact hs.2.1
  · rw [q2]; exact hs.2.2
theorem mark_leads {e : TR.En} {va : Nat} (hs : thB S f R e = true) (hr : TR.rightE e = true) (hva : va < 281474976710656) (hb : baseV va (e.lv - 1) = e.va) :
    wk0 S f e.lv e.tb va = ((wk0 S f 0 R va).1.drop e.lv.toNat, (wk0 S f 0 R va).2) := by
  obtain ⟨i, h1, h2, h3, h4⟩ := mark_at hs hr hva hb
  unfold TR.isT at h3
  rw [Bool.and_eq_true, Bool.and_eq_true, decide_eq_true_eq] at h3
  have e1 := roots_tail h2 h3.2.1 h3.2.2
  have e2 := roots_tail1 h2 h3.2.1 h3.2.2
  rw [h4] at e1 e2
  rw [h1, show ((i : Int) + 1).toNat = i + 1 by omega]
  exact Prod.ext e2 e1

/-- Of the marks a walk leaves. -/
theorem tkn_is : ∀ {L : WL} {lv : Int} {j : Nat}, j < tkn lv L → j < L.length ∧ TR.isT (lv + j) L[j]!.2 = true
  | [], lv, j, h => by unfold tkn at h; cases h
  | p :: L, lv, j, h => by
    unfold tkn at h
    split at h
    · rename_i ht
      cases j with
      | zero => exact ⟨Nat.succ_pos _, by simpa using ht⟩
      | succ j =>
        obtain ⟨q1, q2⟩ := tkn_is (L := L) (lv := lv + 1) (j := j) (by omega)
        refine ⟨by simpa using q1, ?_⟩
        rw [show lv + ((j + 1 : Nat) : Int) = lv + 1 + (j : Int) by omega]
        simpa using q2
    · cases h
theorem drop_get {L : WL} {d j : Nat} : (L.drop d)[j]! = L[d + j]! := by
  by_cases h : d + j < L.length
  · rw [getElem!_pos _ j (by rw [List.length_drop]; omega), getElem!_pos L (d + j) h, List.getElem_drop]
  · rw [getElem!_neg _ j (by rw [List.length_drop]; omega), getElem!_neg L (d + j) h]
theorem mark_new {va d j : Nat} {I : Int} {y : TR.En} (hy : y = TR.wdE I va (d : Int) (fun j => ((wk0 S f 0 R va).1.drop d)[j]!.2) j) (hr : TR.rightE y = true) (hj : j < ((wk0 S f 0 R va).1.drop d).length)
    (ht : TR.isT ((d : Int) + j) ((wk0 S f 0 R va).1.drop d)[j]!.2 = true) : thB S f R y = true := by
  rw [drop_get] at ht
  rw [List.length_drop] at hj
  obtain ⟨hx, hbx, hl⟩ := rmark hr
  have e1 : y.lv - 1 = ((d + j : Nat) : Int) := by rw [hy]; show (d : Int) + (j : Int) + 1 - 1 = _; omega
  have e2 : y.va = baseV va ((d + j : Nat) : Int) := by rw [hy]; show baseV va ((d : Int) + (j : Int)) = _; rw [show (d : Int) + (j : Int) = ((d + j : Nat) : Int) by omega]
  have e3 : y.tb = rdO (wk0 S f 0 R va).1[d + j]!.2 := by rw [hy]; show rdO ((wk0 S f 0 R va).1.drop d)[j]!.2 = _; rw [drop_get]
  rw [e1] at hbx hl
  obtain ⟨q1, q2⟩ := same_word (S := S) (f := f) (R := R) (va := y.va) (x := va) hl hx (hbx.trans e2) (by omega)
  unfold thB
  rw [e1, show (((d + j : Nat) : Int)).toNat = d + j by omega, q2, decide_eq_true q1, Bool.true_and, e3, decide_eq_true rfl, Bool.and_true]
  rw [show ((d + j : Nat) : Int) = (d : Int) + (j : Int) by omega]
  exact ht

/-- An entry that is sound tells what the walk tells. -/
theorem lfR_s {r : Int × Int × Nat} (h : (lfR r).s = true) : r.1 = 0 ∧ (lfR r).l = r.2.1 ∧ ftR r = (0, 0) := by
  unfold lfR at h ⊢
  unfold ftR
  by_cases hr : r.1 = 0
  · rw [if_pos hr, if_pos hr]; exact ⟨hr, rfl, rfl⟩
  · rw [if_neg hr] at h; cases h
theorem ent_walk {e : TB.En} {I : Int} {va : Nat} (hs : cmT S f R e = true) (hr : TB.rightE e = true) (hm : TB.mB e I va = true) : lfR (wk0 S f 0 R va).2 = enL e ∧ ftR (wk0 S f 0 R va).2 = (0, 0) := by
  unfold cmT at hs
  have hq := eqF_iff.1 hs
  obtain ⟨hx, hbx, hl, hse⟩ := rentry hr
  obtain ⟨-, hva, hb⟩ := mentry hm
  have hss : (lfR (wk0 S f 0 R e.va).2).s = true := by rw [hq]; exact hse
  obtain ⟨r1, r2, r3⟩ := lfR_s hss
  have hlv : (wk0 S f 0 R e.va).2.2.1 = e.lv := by rw [← r2, hq]; rfl
  have hw : (wk0 S f 0 R e.va).2 = (0, e.lv, (wk0 S f 0 R e.va).2.2.2) := Prod.ext r1 (Prod.ext hlv rfl)
  have hd := TR.base_div hl hva hx (hb.trans hbx.symm)
  have hst := stretch_same hw hd hva
  rw [hst]
  exact ⟨hq, r3⟩
theorem ent_new {I va : Nat} (hr : TB.rightE ((lfR (wk0 S f 0 R va).2).en I va) = true) : cmT S f R ((lfR (wk0 S f 0 R va).2).en I va) = true := by
  obtain ⟨hx, hbx, hl, hse⟩ := rentry hr
  have hss : (lfR (wk0 S f 0 R va).2).s = true := hse
  obtain ⟨r1, r2, r3⟩ := lfR_s hss
  have hw : (wk0 S f 0 R va).2 = (0, (lfR (wk0 S f 0 R va).2).l, (wk0 S f 0 R va).2.2.2) := Prod.ext r1 (Prod.ext r2.symm rfl)
  have hv := (wk0_leaf hw).2.2.1
  have hb : baseV (baseV va (lfR (wk0 S f 0 R va).2).l) (lfR (wk0 S f 0 R va).2).l = baseV va (lfR (wk0 S f 0 R va).2).l := hbx
  have hd := TR.base_div (show isLv (lfR (wk0 S f 0 R va).2).l = true from hl) hx hv hb
  have hst := stretch_same hw hd hx
  unfold cmT
  rw [eqF_iff]
  rw [hst]
  rfl
end

/-- Sound, said of each. -/
theorem snd_iff {S : Nat} {s : St} {R I : Nat} (hg : s.rg = some (R, I)) : sndB S s = true ↔ (∀ e ∈ s.E, e.aid = (I : Int) → cmT S s.f R e = true) ∧ (∀ e ∈ s.K, e.aid = (I : Int) → thB S s.f R e = true) := by
  unfold sndB
  rw [hg]
  show (s.E.all (sE S s.f R I) && s.K.all (sK S s.f R I)) = true ↔ _
  rw [Bool.and_eq_true, List.all_eq_true, List.all_eq_true]
  have h1 : ∀ e : TB.En, sE S s.f R I e = true ↔ (e.aid = (I : Int) → cmT S s.f R e = true) := fun e => by
    unfold sE
    by_cases h : e.aid = (I : Int)
    · rw [decide_eq_true h]; simp [h]
    · rw [decide_eq_false h]; simp [h]
  have h2 : ∀ e : TR.En, sK S s.f R I e = true ↔ (e.aid = (I : Int) → thB S s.f R e = true) := fun e => by
    unfold sK
    by_cases h : e.aid = (I : Int)
    · rw [decide_eq_true h]; simp [h]
    · rw [decide_eq_false h]; simp [h]
  exact ⟨fun h => ⟨fun e he => (h1 e).1 (h.1 e he), fun e he => (h2 e).1 (h.2 e he)⟩, fun h => ⟨fun e he => (h1 e).2 (h.1 e he), fun e he => (h2 e).2 (h.2 e he)⟩⟩

section
variable {S : Nat} {most : Int} {s : St} {R I : Nat}

theorem lead_walk (hw : Wf most s) (hg : s.rg = some (R, I)) (hs : sndB S s = true) (va : Nat) (hn : Hn) : ∃ d : Nat, stL s I va hn = (d : Int) ∧ wkO S s R I va hn = ((wk0 S s.f 0 R va).1.drop d, (wk0 S s.f 0 R va).2) := by
  have hK := ((snd_iff hg).1 hs).2
  unfold wkO stL stT
  cases hl : isLed s I va hn
  · exact ⟨0, rfl, rfl⟩
  · rw [if_pos rfl, if_pos rfl]
    unfold isLed at hl
    rw [Bool.and_eq_true, decide_eq_true_eq] at hl
    rcases bst_ok s I va with e | ⟨e1, e2⟩
    · rw [e] at hl; exact absurd hl.2 (by decide)
    · obtain ⟨m1, m2, m3⟩ := mmark e2
      exact ⟨(bst s I va).lv.toNat, by omega, mark_leads (hK _ e1 m1) (hw.kr _ e1).2 m2 m3⟩
theorem kK_sound (hw : Wf most s) (hg : s.rg = some (R, I)) (hs : sndB S s = true) (va : Nat) (hn : Hn) : ∀ y ∈ kK S most s R I va hn, y.aid = (I : Int) → thB S s.f R y = true := by
  intro y hy ha
  obtain ⟨d, h1, h2⟩ := lead_walk hw hg hs va hn
  unfold kK at hy
  rw [h1, h2] at hy
  split at hy
  · rcases wdL_mem _ hy with h3 | ⟨j, hj, h3, h4, h5⟩
    · exact ((snd_iff hg).1 hs).2 y h3 ha
    · obtain ⟨q1, q2⟩ := tkn_is hj
      exact mark_new h3 h4 q1 q2
  · exact ((snd_iff hg).1 hs).2 y hy ha
theorem kE_sound (hw : Wf most s) (hg : s.rg = some (R, I)) (hs : sndB S s = true) (va : Nat) (hn : Hn) : ∀ y ∈ kE S most s R I va hn, y.aid = (I : Int) → cmT S s.f R y = true := by
  intro y hy ha
  obtain ⟨d, h1, h2⟩ := lead_walk hw hg hs va hn
  unfold kE at hy
  rw [h2] at hy
  split at hy
  · rcases memV_fill hy with h3 | ⟨h3, h4⟩
    · exact ((snd_iff hg).1 hs).1 y h3 ha
    · rw [h3]
      exact ent_new h4
  · exact ((snd_iff hg).1 hs).1 y hy ha
theorem snd_wdS (hw : Wf most s) (hg : s.rg = some (R, I)) (hs : sndB S s = true) (va : Nat) (hn : Hn) : sndB S (wdS S most s R I va hn) = true :=
  (snd_iff (show (wdS S most s R I va hn).rg = some (R, I) from hg)).2 ⟨kE_sound hw hg hs va hn, kK_sound hw hg hs va hn⟩

/-- What a walk from the root tells. -/
def rootO (S : Nat) (f : Nat → Nat) (R va : Nat) : Lf × Int × Int := if alignedB va 3 = false then (lf0, 5, 0) else (lfR (wk0 S f 0 R va).2, ftR (wk0 S f 0 R va).2)

theorem ent_uniq {e e' : TB.En} {f : Nat → Nat} {i : Int} {va : Nat} (hs : cmT S f R e = true) (hs' : cmT S f R e' = true) (hr : TB.rightE e = true) (hr' : TB.rightE e' = true) (hm : TB.mB e i va = true) (hm' : TB.mB e' i va = true) : e = e' := by
  have h1 := (ent_walk hs hr hm).1
  have h2 := (ent_walk hs' hr' hm').1
  obtain ⟨a1, -, b1⟩ := mentry hm
  obtain ⟨a2, -, b2⟩ := mentry hm'
  have h3 : enL e = enL e' := h1.symm.trans h2
  have hl : e.lv = e'.lv := congrArg Lf.l h3
  have hv : e.va = e'.va := by rw [← b1, ← b2, hl]
  have ha : e.aid = e'.aid := a1.trans a2.symm
  obtain ⟨e0, e1, e2, e3, e4, e5, e6, e7, e8, e9⟩ := e
  obtain ⟨d0, d1, d2, d3, d4, d5, d6, d7, d8, d9⟩ := e'
  simp only [enL, Lf.mk.injEq] at h3
  simp only at hv ha
  obtain ⟨r0, r1, r2, r3, r4, r5, r6, r7⟩ := h3
  subst hv ha r0 r1 r2 r3 r4 r5 r6 r7
  rfl

theorem leaf_root (hw : Wf most s) (hg : s.rg = some (R, I)) (hs : sndB S s = true) (va : Nat) (hn : Hn) : leafO S s va hn = rootO S s.f R va := by
  unfold leafO rootO
  split
  · rfl
  · rw [hg]
    show lfO S s R I va hn = _
    have hE := ((snd_iff hg).1 hs).1
    obtain ⟨d, h1, h2⟩ := lead_walk hw hg hs va hn
    unfold lfO
    rw [h2]
    have hin : ∀ e ∈ s.E.filter (fun e => TB.mB e (I : Int) va), e ∈ s.E ∧ TB.mB e (I : Int) va = true := fun e he => List.mem_filter.1 he
    have hnd := hw.nd.sublist (List.filter_sublist (p := fun e => TB.mB e (I : Int) va))
    have en : fdN s I va = (s.E.filter (fun e => TB.mB e (I : Int) va)).length := rfl
    have ee : fdE s I va = (s.E.filter (fun e => TB.mB e (I : Int) va)).headD TB.e0 := rfl
    rw [en, ee]
    generalize s.E.filter (fun e => TB.mB e (I : Int) va) = L at *
    match L, hin, hnd with
    | [], _, _ => rfl
    | [y], hin, _ =>
      obtain ⟨q1, q2⟩ := hin y List.mem_cons_self
      obtain ⟨w1, w2⟩ := ent_walk (hE y q1 (mentry q2).1) (hw.er y q1) q2
      show (enL y, (0 : Int), (0 : Int)) = _
      rw [w1, w2]
    | y :: z :: L', hin, hnd =>
      obtain ⟨q1, q2⟩ := hin y List.mem_cons_self
      obtain ⟨q3, q4⟩ := hin z (List.mem_cons_of_mem _ List.mem_cons_self)
      have := ent_uniq (hE y q1 (mentry q2).1) (hE z q3 (mentry q4).1) (hw.er y q1) (hw.er z q3) q2 q4
      subst this
      exact absurd List.mem_cons_self (List.nodup_cons.1 hnd).1

theorem leafS_rg (va : Nat) (hn : Hn) : (leafS S most s va hn).rg = s.rg := by
  unfold leafS
  split
  · rfl
  · split
    · rfl
    · unfold lfS
      split
      · rfl
      · rfl
theorem snd_leafS (hw : Wf most s) (hg : s.rg = some (R, I)) (hs : sndB S s = true) (va : Nat) (hn : Hn) : sndB S (leafS S most s va hn) = true := by
  unfold leafS
  split
  · exact hs
  · rw [hg]
    show sndB S (lfS S most s R I va hn) = true
    unfold lfS
    split
    · exact snd_wdS hw hg hs va hn
    · exact hs
theorem snd_guS (hw : Wf most s) (hg : s.rg = some (R, I)) (hs : sndB S s = true) (va : Nat) (hn : Hn) : sndB S (guS S most s va hn) = true ∧ (guS S most s va hn).f = s.f ∧ (guS S most s va hn).rg = s.rg := by
  unfold guS
  rw [hg]
  show sndB S (lfS S most s R I va hn) = true ∧ (lfS S most s R I va hn).f = s.f ∧ (lfS S most s R I va hn).rg = _
  unfold lfS
  split
  · exact ⟨snd_wdS hw hg hs va hn, rfl, hg⟩
  · exact ⟨hs, rfl, hg⟩
theorem snd_sub (hg : s.rg = some (R, I)) (hs : sndB S s = true) {E' : List TB.En} {K' : List TR.En} (h1 : E'.Sublist s.E) (h2 : K'.Sublist s.K) : sndB S { s with E := E', K := K' } = true :=
  (snd_iff (s := { s with E := E', K := K' }) hg).2 ⟨fun e he => ((snd_iff hg).1 hs).1 e (h1.subset he), fun e he => ((snd_iff hg).1 hs).2 e (h2.subset he)⟩
theorem snd_nil (hg : s.rg = some (R, I)) (h1 : s.E = []) (h2 : s.K = []) : sndB S s = true :=
  (snd_iff hg).2 ⟨(fun e he => by rw [h1] at he; exact absurd he List.not_mem_nil), (fun e he => by rw [h2] at he; exact absurd he List.not_mem_nil)⟩
end
end Go.Proofs.YtndjhedoandinaaGreatDoor.MM

/- A memory and the document's beside it, both new since w. -/
namespace Go.Proofs.YtndjhedoandinaaGreatDoor
open Go.RowKit Go.Maps

/-- The memory at a and the document's (in the block xb: its list is v, of the words L), both new since w, with nothing in common. -/
structure PlayX (w wr : World) (xb a S n : Nat) (f : Nat → Nat) (v : Value) (L : WL) (X B : Nat → Prop) : Prop where
  mem : MemAt wr X a S n f
  lst : Psl wr B v L
  xlo : ∀ i, X i → w.heap.size ≤ i ∧ i ≠ xb
  blo : ∀ i, B i → w.heap.size ≤ i ∧ i < wr.heap.size ∧ ¬ X i ∧ i ≠ xb
  row : wr.heap[xb]? = some (.cells #[.int .u64 (S : Nat), v] 29)
  xb0 : w.heap.size ≤ xb
  bel : Below w.heap.size w wr
def PlayS (w wr : World) (xb a S n : Nat) (f : Nat → Nat) (v : Value) (L : WL) : Prop := ∃ X B, PlayX w wr xb a S n f v L X B

theorem turn_set2 (w : World) (xb : Nat) (u0 u1 : Value) : Turn (fun i => i = xb) w ((w.setCell ⟨xb, 0, none⟩ u0).setCell ⟨xb, 1, none⟩ u1) := by
  have hB : Below 0 w ((w.setCell ⟨xb, 0, none⟩ u0).setCell ⟨xb, 1, none⟩ u1) := ((Below.refl 0 w).setCell (Nat.zero_le _) _).setCell (Nat.zero_le _) _
  refine ⟨hB.os, hB.tape, hB.output, hB.size, fun i _ hne => ?_⟩
  rw [heap_setCell_other _ _ _ _ hne, heap_setCell_other _ _ _ _ hne]

section
variable {w wr w' : World} {xb a S n : Nat} {f : Nat → Nat} {v : Value} {L : WL}
theorem PlayS.bel (h : PlayS w wr xb a S n f v L) : Below w.heap.size w wr := by obtain ⟨X, B, h⟩ := h; exact h.bel
theorem PlayS.row (h : PlayS w wr xb a S n f v L) : wr.heap[xb]? = some (.cells #[.int .u64 (S : Nat), v] 29) := by obtain ⟨X, B, h⟩ := h; exact h.row
theorem PlayS.xb0 (h : PlayS w wr xb a S n f v L) : w.heap.size ≤ xb := by obtain ⟨X, B, h⟩ := h; exact h.xb0
theorem PlayS.later (h : PlayS w wr xb a S n f v L) (hb : Below wr.heap.size wr w') : PlayS w w' xb a S n f v L := by
  obtain ⟨X, B, h⟩ := h
  have hx : xb < wr.heap.size := (Array.getElem?_eq_some_iff.1 h.row).1
  exact ⟨X, B, h.mem.below hb, h.lst.below hb, h.xlo, fun i hi => ⟨(h.blo i hi).1, Nat.lt_of_lt_of_le (h.blo i hi).2.1 hb.size, (h.blo i hi).2.2⟩, (hb.block xb hx).trans h.row, h.xb0, below_tr h.bel hb⟩

/-- .. behind a new list for the document's. -/
theorem PlayS.put {X B : Nat → Prop} {w1 : World} {v' : Value} {L' : WL} (h : PlayX w wr xb a S n f v L X B) (hb : Below wr.heap.size wr w1) (hp1 : Psl w1 (fun g => B g ∨ wr.heap.size ≤ g) v' L') (w2 : World) (hr : w2.heap[xb]? = some (.cells #[.int .u64 (S : Nat), v'] 29)) (ht : Turn (fun i => i = xb) w1 w2) :
    PlayS w w2 xb a S n f v' L' := by
  have hp2 : Psl w1 (fun g => (B g ∨ wr.heap.size ≤ g) ∧ g < w1.heap.size) v' L' := by
    rcases hp1 with h | ⟨g, cap, q1, q2, q3, q4⟩
    · exact Or.inl h
    · exact Or.inr ⟨g, cap, q1, ⟨q2, q3⟩, q3, q4⟩
  have hx : xb < wr.heap.size := (Array.getElem?_eq_some_iff.1 h.row).1
  have hB : ∀ i, ((B i ∨ wr.heap.size ≤ i) ∧ i < w1.heap.size) → w.heap.size ≤ i ∧ i < w1.heap.size ∧ ¬ X i ∧ i ≠ xb := fun i hi => by
    rcases hi.1 with q | q
    · exact ⟨(h.blo i q).1, hi.2, (h.blo i q).2.2⟩
    · exact ⟨Nat.le_trans h.bel.size q, hi.2, fun c => by have := h.mem.lt i c; omega, by omega⟩
  exact ⟨X, _, (h.mem.below hb).turn ht (fun i hi c => (h.xlo i hi).2 c), hp2.turn ht (fun i hi => (hB i hi).2.2.2), h.xlo, fun i hi => ⟨(hB i hi).1, Nat.lt_of_lt_of_le (hB i hi).2.1 ht.size, (hB i hi).2.2⟩, hr, h.xb0, (below_tr h.bel hb).trans (ht.below (fun i (hi : i = xb) => by subst hi; exact h.xb0) (below_tr h.bel hb).size)⟩

theorem PlayS.rwrite (h : PlayS w wr xb a S n f v L) (hlen : L.length < 1000000) (x d : Nat) :
    Calls Tryz.prog 31 #[.agg #[.int .u64 (S : Nat), v], .int .u64 (x : Nat), .int .u64 (d : Nat)] wr fun e w1 => ∃ v', e = .returned (.tuple #[.agg #[.int .u64 (S : Nat), v'], .int .i64 (errA S x)]) ∧ v'.oneCell' = true ∧ Below wr.heap.size wr w1 ∧
      ∀ w2, w2.heap[xb]? = some (.cells #[.int .u64 (S : Nat), v'] 29) → Turn (fun i => i = xb) w1 w2 → PlayS w w2 xb a S n f v' (if errA S x = 0 then outW x d L else L) := by
  obtain ⟨X, B, h⟩ := h
  refine (rwrite_c h.lst hlen x d).mono fun e w1 hh => ?_
  obtain ⟨v', q1, q2, q3⟩ := hh
  exact ⟨v', q1, by obtain ⟨p, c, rfl, _⟩ := q2.form; rfl, q3, fun w2 hr ht => PlayS.put h q3 q2 w2 hr ht⟩

theorem PlayS.write (h : PlayS w wr xb a S n f v L) (hn : n < 100000000) (x d : Nat) (hx : x < 18446744073709551616) (hd : d < 18446744073709551616) :
    Calls Tryz.prog 29 #[.pointer (some ⟨a, 0, none⟩), .int .u64 x, .int .u64 d] wr fun e w' => e = .returned (.int .i64 (errA S x)) ∧ PlayS w w' xb a S (n + 1) (wrF f S x d) v L ∧ ∃ X, Turn X wr w' ∧ ∀ i, X i → w.heap.size ≤ i ∧ i ≠ xb := by
  obtain ⟨X, B, h⟩ := h
  refine (write_c h.mem hn x d hx hd).mono fun e w' hh => ⟨hh.1, ?_, X, hh.2.2, h.xlo⟩
  have ht := hh.2.2
  have hxl : xb < wr.heap.size := (Array.getElem?_eq_some_iff.1 h.row).1
  have hxX : ¬ X xb := fun c => (h.xlo xb c).2 rfl
  refine ⟨Gr X wr w', B, hh.2.1, h.lst.turn ht (fun i hi => (h.blo i hi).2.2.1), fun i hi => ?_, fun i hi => ⟨(h.blo i hi).1, Nat.lt_of_lt_of_le (h.blo i hi).2.1 ht.size, fun c => ?_, (h.blo i hi).2.2.2⟩, (ht.block xb hxl hxX).trans h.row, h.xb0, h.bel.trans (ht.below (fun i hi => (h.xlo i hi).1) h.bel.size)⟩
  · rcases hi with hi | hi
    · exact h.xlo i hi
    · exact ⟨Nat.le_trans h.bel.size hi.1, by have := hi.1; omega⟩
  · rcases c with c | c
    · exact (h.blo i hi).2.2.1 c
    · have := (h.blo i hi).2.1; have := c.1; omega
theorem PlayS.write_box (h : PlayS w wr xb a S n f v L) (hn : n < 100000000) (x d : Nat) (hx : x < 18446744073709551616) (hd : d < 18446744073709551616) (o : Obj) :
    Calls Tryz.prog 29 #[.pointer (some ⟨a, 0, none⟩), .int .u64 x, .int .u64 d] (wr.alloc o) fun e w' => e = .returned (.int .i64 (errA S x)) ∧ PlayS w w' xb a S (n + 1) (wrF f S x d) v L ∧ w'.heap[wr.heap.size]? = some o := by
  obtain ⟨X, B, h⟩ := h
  have hal : Below wr.heap.size wr (wr.alloc o) := (Below.refl _ _).alloc (Nat.le_refl _) _
  have hxl : xb < wr.heap.size := (Array.getElem?_eq_some_iff.1 h.row).1
  have hsz : (wr.alloc o).heap.size = wr.heap.size + 1 := by simp
  have h' : PlayX w (wr.alloc o) xb a S n f v L X B := ⟨h.mem.below hal, h.lst.below hal, h.xlo, fun i hi => ⟨(h.blo i hi).1, Nat.lt_of_lt_of_le (h.blo i hi).2.1 hal.size, (h.blo i hi).2.2⟩, (hal.block xb hxl).trans h.row, h.xb0, below_tr h.bel hal⟩
  have hnew : (wr.alloc o).heap[wr.heap.size]? = some o := heap_alloc_new _ _
  have hlt := h.mem.lt
  clear h hal
  refine (write_c h'.mem hn x d hx hd).mono fun e w' hh => ⟨hh.1, ?_, (hh.2.2.block _ (by omega) (fun c => by have := hlt _ c; omega)).trans hnew⟩
  have ht := hh.2.2
  have hxl : xb < (wr.alloc o).heap.size := (Array.getElem?_eq_some_iff.1 h'.row).1
  have hxX : ¬ X xb := fun c => (h'.xlo xb c).2 rfl
  refine ⟨Gr X (wr.alloc o) w', B, hh.2.1, h'.lst.turn ht (fun i hi => (h'.blo i hi).2.2.1), fun i hi => ?_, fun i hi => ⟨(h'.blo i hi).1, Nat.lt_of_lt_of_le (h'.blo i hi).2.1 ht.size, fun c => ?_, (h'.blo i hi).2.2.2⟩, (ht.block xb hxl hxX).trans h'.row, h'.xb0, h'.bel.trans (ht.below (fun i hi => (h'.xlo i hi).1) h'.bel.size)⟩
  · rcases hi with hi | hi
    · exact h'.xlo i hi
    · exact ⟨Nat.le_trans h'.bel.size hi.1, by have := hi.1; omega⟩
  · rcases c with c | c
    · exact (h'.blo i hi).2.2.1 c
    · have := (h'.blo i hi).2.1; have := c.1; omega
end

theorem err_zero {S x : Nat} (he : errA S x ≠ 0) : x % 8 ≠ 0 ∨ S ≤ x := by
  unfold errA at he
  by_cases q : x % 8 = 0
  · rw [if_neg (by omega)] at he
    by_cases q2 : S ≤ x
    · exact Or.inr q2
    · rw [if_neg q2] at he; exact absurd rfl he
  · exact Or.inl q
theorem MemAt.outs {w : World} {X : Nat → Prop} {a S n : Nat} {f : Nat → Nat} (h : MemAt w X a S n f) {x : Nat} (he : errA S x ≠ 0) : f x = 0 := by
  obtain ⟨mb, pg, h⟩ := h
  exact h.out x (err_zero he)
end Go.Proofs.YtndjhedoandinaaGreatDoor

/- Machines: a memory, and the document's machine beside it, both new since w. -/
namespace Go.Proofs.YtndjhedoandinaaGreatDoor.MM
open Go.RowKit Go.Maps

abbrev yR (most : Int) (v : Value) : Array Value := #[.int .u64 1048576, v, .int .i64 most, .slice none 0 0, .slice none 0 0, .bool false, .int .u64 0, .int .i64 0, .slice none 0 0]
theorem info_X : (Tryz.prog.info? 34).map (·.size) = some 9 := by kernel_rfl
theorem info_M : (Tryz.prog.info? 29).map (·.size) = some 2 := by kernel_rfl
theorem cells9 {w : World} {g t : Nat} {c0 c1 c2 c3 c4 c5 c6 c7 c8 : Value} (hh : w.heap[g]? = some (.cells #[c0, c1, c2, c3, c4, c5, c6, c7, c8] t (0, 0))) : w.cell? ⟨g, 0, none⟩ = some c0 ∧ w.cell? ⟨g, 1, none⟩ = some c1 ∧ w.cell? ⟨g, 2, none⟩ = some c2 ∧ w.cell? ⟨g, 3, none⟩ = some c3 ∧ w.cell? ⟨g, 4, none⟩ = some c4 ∧ w.cell? ⟨g, 5, none⟩ = some c5 ∧ w.cell? ⟨g, 6, none⟩ = some c6 ∧ w.cell? ⟨g, 7, none⟩ = some c7 ∧ w.cell? ⟨g, 8, none⟩ = some c8 := by
  refine ⟨?_, ?_, ?_, ?_, ?_, ?_, ?_, ?_, ?_⟩
  all_goals (rw [cell_of_row _ _ _ _ _ _ hh]; rfl)
theorem results_tmp_cell_tmp {fn : Func} {p u q : Tmp} {ty : TypeId} (h : fn.results = #[.tmp u, .cell p ty, .tmp q]) (tmps : Array Value) (P : Program) (w : World) :
    (results fn tmps).run P w =
      ((asAddr (tmps.getD p undef)).run P w).andThen fun a w₁ => ((loadVar ty a).run P w₁).andThen fun v w₂ => .ok (.tuple #[tmps.getD u undef, v, tmps.getD q undef]) w₂ := by
  simp only [results, h]
  simp [Sem.run_bind, Result.andThen]
theorem results_tmp_row_tmp {P : Program} {fn : Func} {p u q : Tmp} {ty : TypeId} (h : fn.results = #[.tmp u, .cell p ty, .tmp q]) (tmps : Array Value) (w : World) (g : Nat) (t : TypeId) (cs : Array Value) (fr : Nat × Nat) (d : TypeDesc)
    (hp : tmps.getD p undef = .pointer (some ⟨g, 0, none⟩)) (hg : w.heap[g]? = some (.cells cs t fr))
    (hu : P.underlying ty = some d) (hd : (match d with | .struct _ | .array _ _ => true | _ => false) = true) (hi : (P.info? ty).map (·.size) = some cs.size) :
    (results fn tmps).run P w = .ok (.tuple #[tmps.getD u undef, .agg cs, tmps.getD q undef]) w := by
  rw [results_tmp_cell_tmp h, hp]
  simp [asAddr, run_loadVar_row w g t ty cs fr d hg hu hd hi, Result.andThen]

/-- The memory at a and the document's (in the block xb: its list is v, of the words L), both new since w, with nothing in common. -/
structure PlayX (w wr : World) (most : Int) (xb a S n : Nat) (f : Nat → Nat) (v : Value) (L : WL) (X B : Nat → Prop) : Prop where
  mem : MemAt wr X a S n f
  lst : Psl wr B v L
  xlo : ∀ i, X i → w.heap.size ≤ i ∧ i ≠ xb
  blo : ∀ i, B i → w.heap.size ≤ i ∧ i < wr.heap.size ∧ ¬ X i ∧ i ≠ xb
  row : wr.heap[xb]? = some (.cells (yR most v) 34)
  xb0 : w.heap.size ≤ xb
  bel : Below w.heap.size w wr
def PlayS (w wr : World) (most : Int) (xb a S n : Nat) (f : Nat → Nat) (v : Value) (L : WL) : Prop := ∃ X B, PlayX w wr most xb a S n f v L X B

section
variable {w wr w' : World} {most : Int} {xb a S n : Nat} {f : Nat → Nat} {v : Value} {L : WL}
theorem PlayS.bel (h : PlayS w wr most xb a S n f v L) : Below w.heap.size w wr := by obtain ⟨X, B, h⟩ := h; exact h.bel
theorem PlayS.row (h : PlayS w wr most xb a S n f v L) : wr.heap[xb]? = some (.cells (yR most v) 34) := by obtain ⟨X, B, h⟩ := h; exact h.row
theorem PlayS.xb0 (h : PlayS w wr most xb a S n f v L) : w.heap.size ≤ xb := by obtain ⟨X, B, h⟩ := h; exact h.xb0
theorem PlayS.later (h : PlayS w wr most xb a S n f v L) (hb : Below wr.heap.size wr w') : PlayS w w' most xb a S n f v L := by
  obtain ⟨X, B, h⟩ := h
  have hx : xb < wr.heap.size := (Array.getElem?_eq_some_iff.1 h.row).1
  exact ⟨X, B, h.mem.below hb, h.lst.below hb, h.xlo, fun i hi => ⟨(h.blo i hi).1, Nat.lt_of_lt_of_le (h.blo i hi).2.1 hb.size, (h.blo i hi).2.2⟩, (hb.block xb hx).trans h.row, h.xb0, below_tr h.bel hb⟩

/-- .. behind a new list for the document's. -/
theorem PlayS.put {X B : Nat → Prop} {w1 : World} {v' : Value} {L' : WL} (h : PlayX w wr most xb a S n f v L X B) (hb : Below wr.heap.size wr w1) (hp1 : Psl w1 (fun g => B g ∨ wr.heap.size ≤ g) v' L') (w2 : World) (hr : w2.heap[xb]? = some (.cells (yR most v') 34)) (ht : Turn (fun i => i = xb) w1 w2) :
    PlayS w w2 most xb a S n f v' L' := by
  have hp2 : Psl w1 (fun g => (B g ∨ wr.heap.size ≤ g) ∧ g < w1.heap.size) v' L' := by
    rcases hp1 with h | ⟨g, cap, q1, q2, q3, q4⟩
    · exact Or.inl h
    · exact Or.inr ⟨g, cap, q1, ⟨q2, q3⟩, q3, q4⟩
  have hx : xb < wr.heap.size := (Array.getElem?_eq_some_iff.1 h.row).1
  have hB : ∀ i, ((B i ∨ wr.heap.size ≤ i) ∧ i < w1.heap.size) → w.heap.size ≤ i ∧ i < w1.heap.size ∧ ¬ X i ∧ i ≠ xb := fun i hi => by
    rcases hi.1 with q | q
    · exact ⟨(h.blo i q).1, hi.2, (h.blo i q).2.2⟩
    · exact ⟨Nat.le_trans h.bel.size q, hi.2, fun c => by have := h.mem.lt i c; omega, by omega⟩
  exact ⟨X, _, (h.mem.below hb).turn ht (fun i hi c => (h.xlo i hi).2 c), hp2.turn ht (fun i hi => (hB i hi).2.2.2), h.xlo, fun i hi => ⟨(hB i hi).1, Nat.lt_of_lt_of_le (hB i hi).2.1 ht.size, (hB i hi).2.2⟩, hr, h.xb0, (below_tr h.bel hb).trans (ht.below (fun i (hi : i = xb) => by subst hi; exact h.xb0) (below_tr h.bel hb).size)⟩

theorem PlayS.rwrite (h : PlayS w wr most xb a S n f v L) (hlen : L.length < 1000000) (x d : Nat) :
    Calls Tryz.prog 31 #[.agg #[.int .u64 (S : Nat), v], .int .u64 (x : Nat), .int .u64 (d : Nat)] wr fun e w1 => ∃ v', e = .returned (.tuple #[.agg #[.int .u64 (S : Nat), v'], .int .i64 (errA S x)]) ∧ v'.oneCell' = true ∧ Below wr.heap.size wr w1 ∧
      ∀ w2, w2.heap[xb]? = some (.cells (yR most v') 34) → Turn (fun i => i = xb) w1 w2 → PlayS w w2 most xb a S n f v' (if errA S x = 0 then outW x d L else L) := by
  obtain ⟨X, B, h⟩ := h
  refine (rwrite_c h.lst hlen x d).mono fun e w1 hh => ?_
  obtain ⟨v', q1, q2, q3⟩ := hh
  exact ⟨v', q1, by obtain ⟨p, c, rfl, _⟩ := q2.form; rfl, q3, fun w2 hr ht => PlayS.put h q3 q2 w2 hr ht⟩

theorem PlayS.write (h : PlayS w wr most xb a S n f v L) (hn : n < 100000000) (x d : Nat) (hx : x < 18446744073709551616) (hd : d < 18446744073709551616) :
    Calls Tryz.prog 29 #[.pointer (some ⟨a, 0, none⟩), .int .u64 x, .int .u64 d] wr fun e w' => e = .returned (.int .i64 (errA S x)) ∧ PlayS w w' most xb a S (n + 1) (wrF f S x d) v L ∧ ∃ X, Turn X wr w' ∧ ∀ i, X i → w.heap.size ≤ i ∧ i ≠ xb := by
  obtain ⟨X, B, h⟩ := h
  refine (write_c h.mem hn x d hx hd).mono fun e w' hh => ⟨hh.1, ?_, X, hh.2.2, h.xlo⟩
  have ht := hh.2.2
  have hxl : xb < wr.heap.size := (Array.getElem?_eq_some_iff.1 h.row).1
  have hxX : ¬ X xb := fun c => (h.xlo xb c).2 rfl
  refine ⟨Gr X wr w', B, hh.2.1, h.lst.turn ht (fun i hi => (h.blo i hi).2.2.1), fun i hi => ?_, fun i hi => ⟨(h.blo i hi).1, Nat.lt_of_lt_of_le (h.blo i hi).2.1 ht.size, fun c => ?_, (h.blo i hi).2.2.2⟩, (ht.block xb hxl hxX).trans h.row, h.xb0, h.bel.trans (ht.below (fun i hi => (h.xlo i hi).1) h.bel.size)⟩
  · rcases hi with hi | hi
    · exact h.xlo i hi
    · exact ⟨Nat.le_trans h.bel.size hi.1, by have := hi.1; omega⟩
  · rcases c with c | c
    · exact (h.blo i hi).2.2.1 c
    · have := (h.blo i hi).2.1; have := c.1; omega
theorem PlayS.write_box (h : PlayS w wr most xb a S n f v L) (hn : n < 100000000) (x d : Nat) (hx : x < 18446744073709551616) (hd : d < 18446744073709551616) (o : Obj) :
    Calls Tryz.prog 29 #[.pointer (some ⟨a, 0, none⟩), .int .u64 x, .int .u64 d] (wr.alloc o) fun e w' => e = .returned (.int .i64 (errA S x)) ∧ PlayS w w' most xb a S (n + 1) (wrF f S x d) v L ∧ w'.heap[wr.heap.size]? = some o := by
  obtain ⟨X, B, h⟩ := h
  have hal : Below wr.heap.size wr (wr.alloc o) := (Below.refl _ _).alloc (Nat.le_refl _) _
  have hxl : xb < wr.heap.size := (Array.getElem?_eq_some_iff.1 h.row).1
  have hsz : (wr.alloc o).heap.size = wr.heap.size + 1 := by simp
  have h' : PlayX w (wr.alloc o) most xb a S n f v L X B := ⟨h.mem.below hal, h.lst.below hal, h.xlo, fun i hi => ⟨(h.blo i hi).1, Nat.lt_of_lt_of_le (h.blo i hi).2.1 hal.size, (h.blo i hi).2.2⟩, (hal.block xb hxl).trans h.row, h.xb0, below_tr h.bel hal⟩
  have hnew : (wr.alloc o).heap[wr.heap.size]? = some o := heap_alloc_new _ _
  have hlt := h.mem.lt
  clear h hal
  refine (write_c h'.mem hn x d hx hd).mono fun e w' hh => ⟨hh.1, ?_, (hh.2.2.block _ (by omega) (fun c => by have := hlt _ c; omega)).trans hnew⟩
  have ht := hh.2.2
  have hxl : xb < (wr.alloc o).heap.size := (Array.getElem?_eq_some_iff.1 h'.row).1
  have hxX : ¬ X xb := fun c => (h'.xlo xb c).2 rfl
  refine ⟨Gr X (wr.alloc o) w', B, hh.2.1, h'.lst.turn ht (fun i hi => (h'.blo i hi).2.2.1), fun i hi => ?_, fun i hi => ⟨(h'.blo i hi).1, Nat.lt_of_lt_of_le (h'.blo i hi).2.1 ht.size, fun c => ?_, (h'.blo i hi).2.2.2⟩, (ht.block xb hxl hxX).trans h'.row, h'.xb0, h'.bel.trans (ht.below (fun i hi => (h'.xlo i hi).1) h'.bel.size)⟩
  · rcases hi with hi | hi
    · exact h'.xlo i hi
    · exact ⟨Nat.le_trans h'.bel.size hi.1, by have := hi.1; omega⟩
  · rcases c with c | c
    · exact (h'.blo i hi).2.2.1 c
    · have := (h'.blo i hi).2.1; have := c.1; omega
end

/-- What opened leaves. -/
structure OpenOK (w w' : World) (x a : Nat) (most : Int) (f : Nat → Nat) (v : Value) : Prop where
  mch : ∃ X, Mch w w' X x a 61 1048576 most ⟨f, [], [], none, []⟩ ∧ ∃ L, Psl w' (fun g => w.heap.size ≤ g ∧ ¬ X g) v L ∧ Ref L f ∧ L.length ≤ 60
  bel : Below w.heap.size w w'
end Go.Proofs.YtndjhedoandinaaGreatDoor.MM

/- Machines: the law's opened. -/
namespace Go.Proofs.YtndjhedoandinaaGreatDoor.MM
open Go.RowKit Go.Maps

set_option maxHeartbeats 4000000 in
set_option maxRecDepth 100000 in
theorem opened_many (n cap : Nat) (ad : Option Addr) (most : Int) (hn : 60 < n) (w : World) :
    Calls Tryz.prog 8 #[.slice ad n cap, .int .i64 most] w fun e w' => e = .returned (.tuple #[.pointer none, .agg #[.int .u64 1048576, .slice none 0 0, .int .i64 most, .slice none 0 0, .slice none 0 0, .bool false, .int .u64 0, .int .i64 0, .slice none 0 0], .bool false]) ∧ Below w.heap.size w w' := by
  have hn2 : (60 : Int) < n := by omega
  have h5 := heap_alloc_new w (.cells #[.int .u64 0, .slice none 0 0, .int .i64 0, .slice none 0 0, .slice none 0 0, .bool false, .int .u64 0, .int .i64 0, .slice none 0 0] 34)
  have hB := below_new w (.cells #[.int .u64 0, .slice none 0 0, .int .i64 0, .slice none 0 0, .slice none 0 0, .bool false, .int .u64 0, .int .i64 0, .slice none 0 0] 34)
  go_enter Tryz.func8, Tryz.ntmps8
  go_upto_region 1 with fail
  generalize w.alloc (.cells #[.int .u64 0, .slice none 0 0, .int .i64 0, .slice none 0 0, .slice none 0 0, .bool false, .int .u64 0, .int .i64 0, .slice none 0 0] 34) = w0 at *
  go_wp2_with fail
  refine (_root_.Go.Proofs.YtndjhedoandinaaGreatDoor.new_ok 1048576 (by decide) _).mono ?_
  rintro e w1 ⟨a, rfl, -, hb⟩
  have h5b := block_later hb h5
  have hB1 := below_tr hB hb
  clear h5 hB hb hn
  have k9 := heap_alloc_new w1 (.cells #[.int .u64 1048576, .slice none 0 0, .int .i64 most, .slice none 0 0, .slice none 0 0, .bool false, .int .u64 0, .int .i64 0, .slice none 0 0] 34)
  have hb2 := below_new w1 (.cells #[.int .u64 1048576, .slice none 0 0, .int .i64 most, .slice none 0 0, .slice none 0 0, .bool false, .int .u64 0, .int .i64 0, .slice none 0 0] 34)
  go_upto_region 4 with fail
  generalize w1.alloc (.cells #[.int .u64 1048576, .slice none 0 0, .int .i64 most, .slice none 0 0, .slice none 0 0, .bool false, .int .u64 0, .int .i64 0, .slice none 0 0] 34) = w2 at *
  have h5c := block_later hb2 h5b
  have hKY : ¬ w1.heap.size = w.heap.size := by have := block_lt h5b; omega
  have hB2 := below_tr hB1 hb2
  clear h5b hB1 hb2
  generalize w1.heap.size = KY at *
  have h5d := block_later (Below.refl _ w2).drew h5c
  obtain ⟨k0, k1, k2, k3, k4, k5, k6, k7, k8⟩ := cells9 k9
  clear k9 h5c
  refine wp_region_noPanic ?_
  refine wp_region_held_drew (S := (fun w' => w'.cell? ⟨KY, 0, none⟩ = some (.int .u64 1048576) ∧ w'.cell? ⟨KY, 1, none⟩ = some (.slice none 0 0) ∧ w'.cell? ⟨KY, 2, none⟩ = some (.int .i64 most) ∧ w'.cell? ⟨KY, 3, none⟩ = some (.slice none 0 0) ∧ w'.cell? ⟨KY, 4, none⟩ = some (.slice none 0 0) ∧ w'.cell? ⟨KY, 5, none⟩ = some (.bool false) ∧ w'.cell? ⟨KY, 6, none⟩ = some (.int .u64 0) ∧ w'.cell? ⟨KY, 7, none⟩ = some (.int .i64 0) ∧ w'.cell? ⟨KY, 8, none⟩ = some (.slice none 0 0))) (by kernel_rfl) ?_ (fun hHeld => ?_)
  · exact ⟨cell_later (Below.refl _ _).drew k0, cell_later (Below.refl _ _).drew k1, cell_later (Below.refl _ _).drew k2, cell_later (Below.refl _ _).drew k3, cell_later (Below.refl _ _).drew k4, cell_later (Below.refl _ _).drew k5, cell_later (Below.refl _ _).drew k6, cell_later (Below.refl _ _).drew k7, cell_later (Below.refl _ _).drew k8⟩
  replace k0 := cell_later (Below.refl _ w2).drew k0
  replace k1 := cell_later (Below.refl _ w2).drew k1
  replace k2 := cell_later (Below.refl _ w2).drew k2
  replace k3 := cell_later (Below.refl _ w2).drew k3
  replace k4 := cell_later (Below.refl _ w2).drew k4
  replace k5 := cell_later (Below.refl _ w2).drew k5
  replace k6 := cell_later (Below.refl _ w2).drew k6
  replace k7 := cell_later (Below.refl _ w2).drew k7
  replace k8 := cell_later (Below.refl _ w2).drew k8
  refine TR.take_at (i := 0) (v := ?_) 32 rfl rfl (by kernel_rfl) (by kernel_rfl) (by kernel_rfl) (fun _ _ _ h => h) (Or.inl ⟨by rfl, ?_⟩) (by assumption) ?_
  rotate_left
  · (intro w' hSw; (try dsimp only at hSw); go_simp; all_goals with_reducible rfl)
  try simp only [Act.put, List.setIfInBounds_toArray, List.set_cons_zero, List.set_cons_succ]
  refine TR.take_at (i := 1) (v := ?_) 4 rfl rfl (by kernel_rfl) (by kernel_rfl) (by kernel_rfl) (fun _ _ _ h => h) (Or.inl ⟨by rfl, ?_⟩) (by assumption) ?_
  rotate_left
  · (intro w' hSw; (try dsimp only at hSw); go_simp; all_goals with_reducible rfl)
  try simp only [Act.put, List.setIfInBounds_toArray, List.set_cons_zero, List.set_cons_succ]
  refine wpAnyH_ready (rs := [2]) (by kernel_rfl) (by simp) ?_
  refine AllReadyH.cons rfl (fun K hK => ?_) AllReadyH.nil
  refine step_store_seg rfl rfl 34 _ _ rfl w.heap.size 0 _ #[.int .u64 1048576, .slice none 0 0, .int .i64 most, .slice none 0 0, .slice none 0 0, .bool false, .int .u64 0, .int .i64 0, .slice none 0 0] rfl rfl rfl 34 _ h5d (show 0 + 9 ≤ 9 by decide) info_X (by simp [Value.oneCell']) #[.int .u64 1048576, .slice none 0 0, .int .i64 most, .slice none 0 0, .slice none 0 0, .bool false, .int .u64 0, .int .i64 0, .slice none 0 0] rfl ?_
  intro wq hr5 htq
  replace k0 := TR.turn_cell htq hKY k0
  replace k1 := TR.turn_cell htq hKY k1
  replace k2 := TR.turn_cell htq hKY k2
  replace k3 := TR.turn_cell htq hKY k3
  replace k4 := TR.turn_cell htq hKY k4
  replace k5 := TR.turn_cell htq hKY k5
  replace k6 := TR.turn_cell htq hKY k6
  replace k7 := TR.turn_cell htq hKY k7
  replace k8 := TR.turn_cell htq hKY k8
  refine hK.out _ _ ⟨k0, k1, k2, k3, k4, k5, k6, k7, k8⟩ (fun hHeld5 => ?_)
  clear hK k0 k1 k2 k3 k4 k5 k6 k7 k8
  try simp only [Act.put, List.setIfInBounds_toArray, List.set_cons_zero, List.set_cons_succ]
  refine TR.take_at (i := 3) (v := ?_) 6 rfl rfl (by kernel_rfl) (by kernel_rfl) (by kernel_rfl) (fun _ _ _ h => h) (Or.inl ⟨by rfl, ?_⟩) (by assumption) ?_
  rotate_left
  · (intro w' hSw; (try dsimp only at hSw); go_simp; all_goals with_reducible rfl)
  try simp only [Act.put, List.setIfInBounds_toArray, List.set_cons_zero, List.set_cons_succ]
  refine wpAnyH_done (by kernel_rfl) ?_ _
  refine NoPanic.normal ?_
  go_wp2_with fail
  refine bodyPost_ret (v := .tuple #[.pointer none, .agg #[.int .u64 1048576, .slice none 0 0, .int .i64 most, .slice none 0 0, .slice none 0 0, .bool false, .int .u64 0, .int .i64 0, .slice none 0 0], .bool false]) ?_ rfl ⟨rfl, below_turn hB2.drew htq (Nat.le_refl _)⟩
  exact results_tmp_row_tmp (p := 5) (u := 4) (q := 6) rfl _ _ w.heap.size 34 _ (0, 0) _ rfl hr5 Tryz.underlying34 rfl info_X

set_option maxHeartbeats 4000000 in
set_option maxRecDepth 100000 in
theorem opened_ok (n cap : Nat) (ad : Option Addr) (A V : Nat → Nat) (most : Int) (hn : n ≤ 60) (m1 : 1 ≤ most) (m64 : most ≤ 64) (w : World) (hst : StepsAt w ad n A V) (hF : FA w) :
    Calls Tryz.prog 8 #[.slice ad n cap, .int .i64 most] w fun e w' => ∃ x a v, e = .returned (.tuple #[.pointer (some ⟨x, 0, none⟩), .agg #[.int .u64 1048576, v, .int .i64 most, .slice none 0 0, .slice none 0 0, .bool false, .int .u64 0, .int .i64 0, .slice none 0 0], .bool true]) ∧ OpenOK w w' x a most (fW 1048576 A V n) v := by
  have hn2 : ¬ (60 : Int) < n := by omega
  have HST := Hid.mk hst
  have HF := Hid.mk hF
  have HMM := Hid.mk (And.intro m1 m64)
  clear m1 m64 hF
  clear hst
  have h5 := heap_alloc_new w (.cells #[.int .u64 0, .slice none 0 0, .int .i64 0, .slice none 0 0, .slice none 0 0, .bool false, .int .u64 0, .int .i64 0, .slice none 0 0] 34)
  have hBw := below_new w (.cells #[.int .u64 0, .slice none 0 0, .int .i64 0, .slice none 0 0, .slice none 0 0, .bool false, .int .u64 0, .int .i64 0, .slice none 0 0] 34)
  have hs0 : (w.alloc (.cells #[.int .u64 0, .slice none 0 0, .int .i64 0, .slice none 0 0, .slice none 0 0, .bool false, .int .u64 0, .int .i64 0, .slice none 0 0] 34)).heap.size = w.heap.size + 1 := by simp
  go_enter Tryz.func8, Tryz.ntmps8
  go_upto_region 1 with fail
  generalize w.alloc (.cells #[.int .u64 0, .slice none 0 0, .int .i64 0, .slice none 0 0, .slice none 0 0, .bool false, .int .u64 0, .int .i64 0, .slice none 0 0] 34) = w0 at *
  go_wp2_with fail
  refine (_root_.Go.Proofs.YtndjhedoandinaaGreatDoor.new_ok 1048576 (by decide) _).mono ?_
  rintro e w1 ⟨a, rfl, hM, hb⟩
  have H5 := Hid.mk h5
  have HBw := Hid.mk hBw
  have HS0 := Hid.mk hs0
  have k9 := heap_alloc_new w1 (.cells #[.int .u64 1048576, .slice none 0 0, .int .i64 most, .slice none 0 0, .slice none 0 0, .bool false, .int .u64 0, .int .i64 0, .slice none 0 0] 34)
  have hb2 := below_new w1 (.cells #[.int .u64 1048576, .slice none 0 0, .int .i64 most, .slice none 0 0, .slice none 0 0, .bool false, .int .u64 0, .int .i64 0, .slice none 0 0] 34)
  have hP0 : PlayS w0 (w1.alloc (.cells #[.int .u64 1048576, .slice none 0 0, .int .i64 most, .slice none 0 0, .slice none 0 0, .bool false, .int .u64 0, .int .i64 0, .slice none 0 0] 34)) most w1.heap.size a 1048576 0 (fun _ => 0) (.slice none 0 0) [] := by
    refine ⟨_, fun _ => False, hM.below (below_new _ _), Or.inl ⟨rfl, rfl⟩, fun i hi => ⟨hi.1, by have := hi.2; omega⟩, fun i hi => hi.elim, heap_alloc_new _ _, hb.size, below_tr hb (below_new _ _)⟩
  have hk1 := hb.size
  go_upto_region 5 with fail
  generalize w1.alloc (.cells #[.int .u64 1048576, .slice none 0 0, .int .i64 most, .slice none 0 0, .slice none 0 0, .bool false, .int .u64 0, .int .i64 0, .slice none 0 0] 34) = w2 at *
  have HP0 := Hid.mk hP0
  have HK1 := Hid.mk hk1
  clear h5 hBw hs0 hM hb hb2 k9 hP0 hk1
  generalize w1.heap.size = KY at *
  go_wp2
  go_loopw [11, 35] (fun _ s35 wr => ∃ (i : Nat) (v : Value) (L : WL), i ≤ n ∧ s35 = .int .i64 (i : Nat) ∧ Ref L (fW 1048576 A V i) ∧ L.length ≤ i ∧ PlayS w0 wr most KY a 1048576 i (fW 1048576 A V i) v L) (fun _ s35 _ => n - (intOf s35).toNat)
  case atStart => exact ⟨0, _, [], by omega, rfl, Ref.nil, Nat.le_refl _, HP0.out⟩
  case round =>
    clear HP0
    obtain ⟨i, v, L, hi, rfl, hR, hl, hP⟩ := hrel
    have hrow := hP.row
    have HP := Hid.mk hP
    have HR := Hid.mk hR
    have hxb := hP.xb0
    have hsz := hP.bel.size
    by_cases hlt : i < n
    · have hlt2 : (i : Int) < n := by omega
      obtain ⟨g, oo, rfl, hg, q1, q2⟩ := HST.out.cells i hlt
      have hA := HST.out.al i
      have hV := HST.out.vl i
      have HBA := Hid.mk (below_tr HBw.out hP.bel)
      have d1 := cell_later HBA.out q1
      have d2 := cell_later HBA.out q2
      clear q1 q2 hP hR hrow
      go_wp2_with fail
      refine (HP.out.write_box (by omega) (A i) (V i) hA hV _).mono ?_
      rintro e w2 ⟨rfl, hP2, hbox⟩
      obtain ⟨b0, b1, bf0, bf1⟩ := row2_facts hbox
      have hrow2 := hP2.row
      obtain ⟨k0, k1, -⟩ := cells9 hrow2
      have HP2 := Hid.mk hP2
      clear HP hP2 hbox hrow2 d1 d2 HBA
      go_wp2_with fail
      refine (HP2.out.rwrite (by omega) (A i) (V i)).mono ?_
      rintro e w3 ⟨v', rfl, hv1, hb3, hput⟩
      have hrow3 := block_later hb3 HP2.out.row
      have HPUT := Hid.mk hput
      clear hput hb3 HP2 b0 b1 bf0 bf1 k0 k1
      have hone : (#[.int .u64 1048576, v'] : Array Value).all (·.oneCell') = true := all_oneCell_toArray (fun u hu => by
        simp only [List.mem_cons, List.not_mem_nil, or_false] at hu
        rcases hu with rfl | rfl
        · rfl
        · exact hv1)
      go_wp2_with (refine wpList_store_seg rfl 29 _ _ rfl KY 0 _ #[.int .u64 1048576, v'] rfl rfl rfl 34 _ hrow3 (show 0 + 2 ≤ 9 by decide) info_M hone #[.int .u64 1048576, v', .int .i64 most, .slice none 0 0, .slice none 0 0, .bool false, .int .u64 0, .int .i64 0, .slice none 0 0] rfl ?_
                   intro w4 hrow4 ht4)
      refine ⟨⟨i + 1, v', _, by omega, by go_num, ?_, ?_, HPUT.out w4 hrow4 ht4⟩, by simp [intOf]; omega⟩
      · rw [fW_succ]
        unfold wrF
        by_cases he : errA 1048576 (A i) = 0
        · rw [if_pos he, if_pos he]; exact HR.out.write _ _
        · rw [if_neg he, if_neg he]; exact HR.out
      · by_cases he : errA 1048576 (A i) = 0
        · rw [if_pos he]
          have := outW_len (A i) (V i) L
          omega
        · rw [if_neg he]; omega
    · obtain rfl : i = n := by omega
      have h5b : wr.heap[w.heap.size]? = some (.cells #[.int .u64 0, .slice none 0 0, .int .i64 0, .slice none 0 0, .slice none 0 0, .bool false, .int .u64 0, .int .i64 0, .slice none 0 0] 34) := (hP.bel.block _ (by have := HS0.out; omega)).trans H5.out
      have hKY : ¬ KY = w.heap.size := by have := HS0.out; omega
      obtain ⟨X, B, hPX⟩ := hP
      obtain ⟨p, c, rfl, -⟩ := hPX.lst.form
      have HPX := Hid.mk hPX
      have hlen := hl
      generalize hLN : L.length = N at *
      clear HP HR HST hlt hi
      have HR := Hid.mk hR
      clear hR
      have hlo : ∀ i, X i → w.heap.size ≤ i := fun i hi => by have := (HPX.out.xlo i hi).1; have := HS0.out; omega
      go_wp2_with fail
      refine (new_ok HPX.out.mem hlo (below_tr HBw.out HPX.out.bel) HF.out HMM.out.1 HMM.out.2).mono ?_
      rintro e w5 ⟨x, rfl, hM5, hb5⟩
      have HM5 := Hid.mk hM5
      have hwr : w.heap.size < wr.heap.size := block_lt h5b
      have h5c := block_later hb5 h5b
      have hr9 := block_later hb5 HPX.out.row
      have HPS := Hid.mk (HPX.out.lst.below hb5)
      have HB5 := Hid.mk (below_tr (below_tr HBw.out HPX.out.bel) hb5)
      have HSZ := Hid.mk (And.intro hwr hb5.size)
      clear hM5 hb5 h5b hlo hwr
      go_upto_region 12 with fail
      have h5d := block_later (Below.refl _ w5).drew h5c
      obtain ⟨k0, k1, k2, k3, k4, k5, k6, k7, k8⟩ := cells9 hr9
      clear hr9 h5c hxb hsz hrow hPX
      refine wp_region_noPanic ?_
      refine wp_region_held_drew (S := (fun w' => w'.cell? ⟨KY, 0, none⟩ = some (.int .u64 1048576) ∧ w'.cell? ⟨KY, 1, none⟩ = some (.slice p N c) ∧ w'.cell? ⟨KY, 2, none⟩ = some (.int .i64 most) ∧ w'.cell? ⟨KY, 3, none⟩ = some (.slice none 0 0) ∧ w'.cell? ⟨KY, 4, none⟩ = some (.slice none 0 0) ∧ w'.cell? ⟨KY, 5, none⟩ = some (.bool false) ∧ w'.cell? ⟨KY, 6, none⟩ = some (.int .u64 0) ∧ w'.cell? ⟨KY, 7, none⟩ = some (.int .i64 0) ∧ w'.cell? ⟨KY, 8, none⟩ = some (.slice none 0 0))) (by kernel_rfl) ?_ (fun hHeld => ?_)
      · exact ⟨cell_later (Below.refl _ _).drew k0, cell_later (Below.refl _ _).drew k1, cell_later (Below.refl _ _).drew k2, cell_later (Below.refl _ _).drew k3, cell_later (Below.refl _ _).drew k4, cell_later (Below.refl _ _).drew k5, cell_later (Below.refl _ _).drew k6, cell_later (Below.refl _ _).drew k7, cell_later (Below.refl _ _).drew k8⟩
      replace k0 := cell_later (Below.refl _ w5).drew k0
      replace k1 := cell_later (Below.refl _ w5).drew k1
      replace k2 := cell_later (Below.refl _ w5).drew k2
      replace k3 := cell_later (Below.refl _ w5).drew k3
      replace k4 := cell_later (Below.refl _ w5).drew k4
      replace k5 := cell_later (Below.refl _ w5).drew k5
      replace k6 := cell_later (Below.refl _ w5).drew k6
      replace k7 := cell_later (Below.refl _ w5).drew k7
      replace k8 := cell_later (Below.refl _ w5).drew k8
      refine TR.take_at (i := 0) (v := ?_) 63 rfl rfl (by kernel_rfl) (by kernel_rfl) (by kernel_rfl) (fun _ _ _ h => h) (Or.inl ⟨by rfl, ?_⟩) (by assumption) ?_
      rotate_left
      · (intro w' hSw; (try dsimp only at hSw); go_simp; all_goals with_reducible rfl)
      try simp only [Act.put, List.setIfInBounds_toArray, List.set_cons_zero, List.set_cons_succ]
      refine TR.take_at (i := 1) (v := ?_) 64 rfl rfl (by kernel_rfl) (by kernel_rfl) (by kernel_rfl) (fun _ _ _ h => h) (Or.inl ⟨by rfl, ?_⟩) (by assumption) ?_
      rotate_left
      · (intro w' hSw; (try dsimp only at hSw); go_simp; all_goals with_reducible rfl)
      try simp only [Act.put, List.setIfInBounds_toArray, List.set_cons_zero, List.set_cons_succ]
      refine TR.take_at (i := 2) (v := ?_) 65 rfl rfl (by kernel_rfl) (by kernel_rfl) (by kernel_rfl) (fun _ _ _ h => h) (Or.inl ⟨by rfl, ?_⟩) (by assumption) ?_
      rotate_left
      · (intro w' hSw; (try dsimp only at hSw); go_simp; all_goals with_reducible rfl)
      try simp only [Act.put, List.setIfInBounds_toArray, List.set_cons_zero, List.set_cons_succ]
      refine TR.take_at (i := 3) (v := ?_) 66 rfl rfl (by kernel_rfl) (by kernel_rfl) (by kernel_rfl) (fun _ _ _ h => h) (Or.inl ⟨by rfl, ?_⟩) (by assumption) ?_
      rotate_left
      · (intro w' hSw; (try dsimp only at hSw); go_simp; all_goals with_reducible rfl)
      try simp only [Act.put, List.setIfInBounds_toArray, List.set_cons_zero, List.set_cons_succ]
      refine TR.take_at (i := 4) (v := ?_) 67 rfl rfl (by kernel_rfl) (by kernel_rfl) (by kernel_rfl) (fun _ _ _ h => h) (Or.inl ⟨by rfl, ?_⟩) (by assumption) ?_
      rotate_left
      · (intro w' hSw; (try dsimp only at hSw); go_simp; all_goals with_reducible rfl)
      try simp only [Act.put, List.setIfInBounds_toArray, List.set_cons_zero, List.set_cons_succ]
      refine TR.take_at (i := 5) (v := ?_) 68 rfl rfl (by kernel_rfl) (by kernel_rfl) (by kernel_rfl) (fun _ _ _ h => h) (Or.inl ⟨by rfl, ?_⟩) (by assumption) ?_
      rotate_left
      · (intro w' hSw; (try dsimp only at hSw); go_simp; all_goals with_reducible rfl)
      try simp only [Act.put, List.setIfInBounds_toArray, List.set_cons_zero, List.set_cons_succ]
      refine TR.take_at (i := 6) (v := ?_) 69 rfl rfl (by kernel_rfl) (by kernel_rfl) (by kernel_rfl) (fun _ _ _ h => h) (Or.inl ⟨by rfl, ?_⟩) (by assumption) ?_
      rotate_left
      · (intro w' hSw; (try dsimp only at hSw); go_simp; all_goals with_reducible rfl)
      try simp only [Act.put, List.setIfInBounds_toArray, List.set_cons_zero, List.set_cons_succ]
      refine TR.take_at (i := 7) (v := ?_) 70 rfl rfl (by kernel_rfl) (by kernel_rfl) (by kernel_rfl) (fun _ _ _ h => h) (Or.inl ⟨by rfl, ?_⟩) (by assumption) ?_
      rotate_left
      · (intro w' hSw; (try dsimp only at hSw); go_simp; all_goals with_reducible rfl)
      try simp only [Act.put, List.setIfInBounds_toArray, List.set_cons_zero, List.set_cons_succ]
      refine TR.take_at (i := 8) (v := ?_) 4 rfl rfl (by kernel_rfl) (by kernel_rfl) (by kernel_rfl) (fun _ _ _ h => h) (Or.inl ⟨by rfl, ?_⟩) (by assumption) ?_
      rotate_left
      · (intro w' hSw; (try dsimp only at hSw); go_simp; all_goals with_reducible rfl)
      try simp only [Act.put, List.setIfInBounds_toArray, List.set_cons_zero, List.set_cons_succ]
      refine wpAnyH_ready (rs := [9]) (by kernel_rfl) (by simp) ?_
      refine AllReadyH.cons rfl (fun K hK => ?_) AllReadyH.nil
      refine step_store_seg rfl rfl 34 _ _ rfl w.heap.size 0 _ #[.int .u64 1048576, .slice p N c, .int .i64 most, .slice none 0 0, .slice none 0 0, .bool false, .int .u64 0, .int .i64 0, .slice none 0 0] rfl rfl rfl 34 _ h5d (show 0 + 9 ≤ 9 by decide) info_X (by simp [Value.oneCell']) #[.int .u64 1048576, .slice p N c, .int .i64 most, .slice none 0 0, .slice none 0 0, .bool false, .int .u64 0, .int .i64 0, .slice none 0 0] rfl ?_
      intro wq hr5 htq
      replace k0 := TR.turn_cell htq hKY k0
      replace k1 := TR.turn_cell htq hKY k1
      replace k2 := TR.turn_cell htq hKY k2
      replace k3 := TR.turn_cell htq hKY k3
      replace k4 := TR.turn_cell htq hKY k4
      replace k5 := TR.turn_cell htq hKY k5
      replace k6 := TR.turn_cell htq hKY k6
      replace k7 := TR.turn_cell htq hKY k7
      replace k8 := TR.turn_cell htq hKY k8
      refine hK.out _ _ ⟨k0, k1, k2, k3, k4, k5, k6, k7, k8⟩ (fun hHeld5 => ?_)
      clear hK k0 k1 k2 k3 k4 k5 k6 k7 k8
      try simp only [Act.put, List.setIfInBounds_toArray, List.set_cons_zero, List.set_cons_succ]
      refine TR.take_at (i := 10) (v := ?_) 6 rfl rfl (by kernel_rfl) (by kernel_rfl) (by kernel_rfl) (fun _ _ _ h => h) (Or.inl ⟨by rfl, ?_⟩) (by assumption) ?_
      rotate_left
      · (intro w' hSw; (try dsimp only at hSw); go_simp; all_goals with_reducible rfl)
      try simp only [Act.put, List.setIfInBounds_toArray, List.set_cons_zero, List.set_cons_succ]
      refine wpAnyH_done (by kernel_rfl) ?_ _
      refine NoPanic.normal ?_
      go_wp2_with fail
      have htd : Turn (fun i => i = w.heap.size) w5 wq := (turn_of_below _ (Below.refl _ w5).drew).trans htq (fun _ _ h => h)
      have hd : ∀ i, Gr X wr w5 i → ¬ i = w.heap.size := fun i hi c => by
        rcases hi with hi | hi
        · have := (HPX.out.xlo i hi).1; have := HS0.out; omega
        · have := HSZ.out.1; omega
      subst hLN
      refine bodyPost_ret (v := .tuple #[.pointer (some ⟨x, 0, none⟩), .agg #[.int .u64 1048576, .slice p L.length c, .int .i64 most, .slice none 0 0, .slice none 0 0, .bool false, .int .u64 0, .int .i64 0, .slice none 0 0], .bool true]) ?_ rfl ⟨x, a, _, rfl, ⟨⟨Gr X wr w5, (HM5.out.mono (by omega)).turn htd hd (fun i hi => Nat.le_of_eq hi.symm), L, (HPS.out.turn htd (fun i hi => by have := (HPX.out.blo i hi).1; have := HS0.out; omega)).mono (fun g hg => ⟨by have := (HPX.out.blo g hg).1; have := HS0.out; omega, fun c => by
        rcases c with c | c
        · exact (HPX.out.blo g hg).2.2.1 c
        · have := (HPX.out.blo g hg).2.1; omega⟩), HR.out, by omega⟩, below_turn HB5.out htd (Nat.le_refl _)⟩⟩
      exact results_tmp_row_tmp (p := 5) (u := 4) (q := 6) rfl _ _ w.heap.size 34 _ (0, 0) _ rfl hr5 Tryz.underlying34 rfl info_X

set_option maxHeartbeats 4000000 in
set_option maxRecDepth 100000 in
theorem opened_bad (n cap : Nat) (ad : Option Addr) (A V : Nat → Nat) (most : Int) (hn : n ≤ 60) (hbad : most < 1 ∨ 64 < most) (w : World) (hst : StepsAt w ad n A V) :
    Calls Tryz.prog 8 #[.slice ad n cap, .int .i64 most] w fun e w' => ∃ p N c, e = .returned (.tuple #[.pointer none, .agg #[.int .u64 1048576, .slice p N c, .int .i64 most, .slice none 0 0, .slice none 0 0, .bool false, .int .u64 0, .int .i64 0, .slice none 0 0], .bool false]) ∧ Below w.heap.size w w' := by
  have hn2 : ¬ (60 : Int) < n := by omega
  have HST := Hid.mk hst
  clear hst
  have h5 := heap_alloc_new w (.cells #[.int .u64 0, .slice none 0 0, .int .i64 0, .slice none 0 0, .slice none 0 0, .bool false, .int .u64 0, .int .i64 0, .slice none 0 0] 34)
  have hBw := below_new w (.cells #[.int .u64 0, .slice none 0 0, .int .i64 0, .slice none 0 0, .slice none 0 0, .bool false, .int .u64 0, .int .i64 0, .slice none 0 0] 34)
  have hs0 : (w.alloc (.cells #[.int .u64 0, .slice none 0 0, .int .i64 0, .slice none 0 0, .slice none 0 0, .bool false, .int .u64 0, .int .i64 0, .slice none 0 0] 34)).heap.size = w.heap.size + 1 := by simp
  go_enter Tryz.func8, Tryz.ntmps8
  go_upto_region 1 with fail
  generalize w.alloc (.cells #[.int .u64 0, .slice none 0 0, .int .i64 0, .slice none 0 0, .slice none 0 0, .bool false, .int .u64 0, .int .i64 0, .slice none 0 0] 34) = w0 at *
  go_wp2_with fail
  refine (_root_.Go.Proofs.YtndjhedoandinaaGreatDoor.new_ok 1048576 (by decide) _).mono ?_
  rintro e w1 ⟨a, rfl, hM, hb⟩
  have H5 := Hid.mk h5
  have HBw := Hid.mk hBw
  have HS0 := Hid.mk hs0
  have k9 := heap_alloc_new w1 (.cells #[.int .u64 1048576, .slice none 0 0, .int .i64 most, .slice none 0 0, .slice none 0 0, .bool false, .int .u64 0, .int .i64 0, .slice none 0 0] 34)
  have hb2 := below_new w1 (.cells #[.int .u64 1048576, .slice none 0 0, .int .i64 most, .slice none 0 0, .slice none 0 0, .bool false, .int .u64 0, .int .i64 0, .slice none 0 0] 34)
  have hP0 : PlayS w0 (w1.alloc (.cells #[.int .u64 1048576, .slice none 0 0, .int .i64 most, .slice none 0 0, .slice none 0 0, .bool false, .int .u64 0, .int .i64 0, .slice none 0 0] 34)) most w1.heap.size a 1048576 0 (fun _ => 0) (.slice none 0 0) [] := by
    refine ⟨_, fun _ => False, hM.below (below_new _ _), Or.inl ⟨rfl, rfl⟩, fun i hi => ⟨hi.1, by have := hi.2; omega⟩, fun i hi => hi.elim, heap_alloc_new _ _, hb.size, below_tr hb (below_new _ _)⟩
  have hk1 := hb.size
  go_upto_region 5 with fail
  generalize w1.alloc (.cells #[.int .u64 1048576, .slice none 0 0, .int .i64 most, .slice none 0 0, .slice none 0 0, .bool false, .int .u64 0, .int .i64 0, .slice none 0 0] 34) = w2 at *
  have HP0 := Hid.mk hP0
  have HK1 := Hid.mk hk1
  clear h5 hBw hs0 hM hb hb2 k9 hP0 hk1
  generalize w1.heap.size = KY at *
  go_wp2
  go_loopw [11, 35] (fun _ s35 wr => ∃ (i : Nat) (v : Value) (L : WL), i ≤ n ∧ s35 = .int .i64 (i : Nat) ∧ Ref L (fW 1048576 A V i) ∧ L.length ≤ i ∧ PlayS w0 wr most KY a 1048576 i (fW 1048576 A V i) v L) (fun _ s35 _ => n - (intOf s35).toNat)
  case atStart => exact ⟨0, _, [], by omega, rfl, Ref.nil, Nat.le_refl _, HP0.out⟩
  case round =>
    clear HP0
    obtain ⟨i, v, L, hi, rfl, hR, hl, hP⟩ := hrel
    have hrow := hP.row
    have HP := Hid.mk hP
    have HR := Hid.mk hR
    have hxb := hP.xb0
    have hsz := hP.bel.size
    by_cases hlt : i < n
    · have hlt2 : (i : Int) < n := by omega
      obtain ⟨g, oo, rfl, hg, q1, q2⟩ := HST.out.cells i hlt
      have hA := HST.out.al i
      have hV := HST.out.vl i
      have HBA := Hid.mk (below_tr HBw.out hP.bel)
      have d1 := cell_later HBA.out q1
      have d2 := cell_later HBA.out q2
      clear q1 q2 hP hR hrow
      go_wp2_with fail
      refine (HP.out.write_box (by omega) (A i) (V i) hA hV _).mono ?_
      rintro e w2 ⟨rfl, hP2, hbox⟩
      obtain ⟨b0, b1, bf0, bf1⟩ := row2_facts hbox
      have hrow2 := hP2.row
      obtain ⟨k0, k1, -⟩ := cells9 hrow2
      have HP2 := Hid.mk hP2
      clear HP hP2 hbox hrow2 d1 d2 HBA
      go_wp2_with fail
      refine (HP2.out.rwrite (by omega) (A i) (V i)).mono ?_
      rintro e w3 ⟨v', rfl, hv1, hb3, hput⟩
      have hrow3 := block_later hb3 HP2.out.row
      have HPUT := Hid.mk hput
      clear hput hb3 HP2 b0 b1 bf0 bf1 k0 k1
      have hone : (#[.int .u64 1048576, v'] : Array Value).all (·.oneCell') = true := all_oneCell_toArray (fun u hu => by
        simp only [List.mem_cons, List.not_mem_nil, or_false] at hu
        rcases hu with rfl | rfl
        · rfl
        · exact hv1)
      go_wp2_with (refine wpList_store_seg rfl 29 _ _ rfl KY 0 _ #[.int .u64 1048576, v'] rfl rfl rfl 34 _ hrow3 (show 0 + 2 ≤ 9 by decide) info_M hone #[.int .u64 1048576, v', .int .i64 most, .slice none 0 0, .slice none 0 0, .bool false, .int .u64 0, .int .i64 0, .slice none 0 0] rfl ?_
                   intro w4 hrow4 ht4)
      refine ⟨⟨i + 1, v', _, by omega, by go_num, ?_, ?_, HPUT.out w4 hrow4 ht4⟩, by simp [intOf]; omega⟩
      · rw [fW_succ]
        unfold wrF
        by_cases he : errA 1048576 (A i) = 0
        · rw [if_pos he, if_pos he]; exact HR.out.write _ _
        · rw [if_neg he, if_neg he]; exact HR.out
      · by_cases he : errA 1048576 (A i) = 0
        · rw [if_pos he]
          have := outW_len (A i) (V i) L
          omega
        · rw [if_neg he]; omega
    · obtain rfl : i = n := by omega
      have h5b : wr.heap[w.heap.size]? = some (.cells #[.int .u64 0, .slice none 0 0, .int .i64 0, .slice none 0 0, .slice none 0 0, .bool false, .int .u64 0, .int .i64 0, .slice none 0 0] 34) := (hP.bel.block _ (by have := HS0.out; omega)).trans H5.out
      have hKY : ¬ KY = w.heap.size := by have := HS0.out; omega
      obtain ⟨X, B, hPX⟩ := hP
      obtain ⟨p, c, rfl, -⟩ := hPX.lst.form
      have HPX := Hid.mk hPX
      have hlen := hl
      generalize hLN : L.length = N at *
      clear HP HR HST hlt hi
      go_wp2_with fail
      refine (new_bad hbad a).mono ?_
      rintro e w5 ⟨rfl, e5⟩
      obtain rfl : wr = w5 := e5
      have h5c := h5b
      have hr9 := HPX.out.row
      have HB5 := Hid.mk (below_tr HBw.out HPX.out.bel)
      clear h5b hbad
      go_upto_region 12 with fail
      have h5d := block_later (Below.refl _ wr).drew h5c
      obtain ⟨k0, k1, k2, k3, k4, k5, k6, k7, k8⟩ := cells9 hr9
      clear hr9 h5c hxb hsz hrow hPX hR
      refine wp_region_noPanic ?_
      refine wp_region_held_drew (S := (fun w' => w'.cell? ⟨KY, 0, none⟩ = some (.int .u64 1048576) ∧ w'.cell? ⟨KY, 1, none⟩ = some (.slice p N c) ∧ w'.cell? ⟨KY, 2, none⟩ = some (.int .i64 most) ∧ w'.cell? ⟨KY, 3, none⟩ = some (.slice none 0 0) ∧ w'.cell? ⟨KY, 4, none⟩ = some (.slice none 0 0) ∧ w'.cell? ⟨KY, 5, none⟩ = some (.bool false) ∧ w'.cell? ⟨KY, 6, none⟩ = some (.int .u64 0) ∧ w'.cell? ⟨KY, 7, none⟩ = some (.int .i64 0) ∧ w'.cell? ⟨KY, 8, none⟩ = some (.slice none 0 0))) (by kernel_rfl) ?_ (fun hHeld => ?_)
      · exact ⟨cell_later (Below.refl _ _).drew k0, cell_later (Below.refl _ _).drew k1, cell_later (Below.refl _ _).drew k2, cell_later (Below.refl _ _).drew k3, cell_later (Below.refl _ _).drew k4, cell_later (Below.refl _ _).drew k5, cell_later (Below.refl _ _).drew k6, cell_later (Below.refl _ _).drew k7, cell_later (Below.refl _ _).drew k8⟩
      replace k0 := cell_later (Below.refl _ wr).drew k0
      replace k1 := cell_later (Below.refl _ wr).drew k1
      replace k2 := cell_later (Below.refl _ wr).drew k2
      replace k3 := cell_later (Below.refl _ wr).drew k3
      replace k4 := cell_later (Below.refl _ wr).drew k4
      replace k5 := cell_later (Below.refl _ wr).drew k5
      replace k6 := cell_later (Below.refl _ wr).drew k6
      replace k7 := cell_later (Below.refl _ wr).drew k7
      replace k8 := cell_later (Below.refl _ wr).drew k8
      refine TR.take_at (i := 0) (v := ?_) 63 rfl rfl (by kernel_rfl) (by kernel_rfl) (by kernel_rfl) (fun _ _ _ h => h) (Or.inl ⟨by rfl, ?_⟩) (by assumption) ?_
      rotate_left
      · (intro w' hSw; (try dsimp only at hSw); go_simp; all_goals with_reducible rfl)
      try simp only [Act.put, List.setIfInBounds_toArray, List.set_cons_zero, List.set_cons_succ]
      refine TR.take_at (i := 1) (v := ?_) 64 rfl rfl (by kernel_rfl) (by kernel_rfl) (by kernel_rfl) (fun _ _ _ h => h) (Or.inl ⟨by rfl, ?_⟩) (by assumption) ?_
      rotate_left
      · (intro w' hSw; (try dsimp only at hSw); go_simp; all_goals with_reducible rfl)
      try simp only [Act.put, List.setIfInBounds_toArray, List.set_cons_zero, List.set_cons_succ]
      refine TR.take_at (i := 2) (v := ?_) 65 rfl rfl (by kernel_rfl) (by kernel_rfl) (by kernel_rfl) (fun _ _ _ h => h) (Or.inl ⟨by rfl, ?_⟩) (by assumption) ?_
      rotate_left
      · (intro w' hSw; (try dsimp only at hSw); go_simp; all_goals with_reducible rfl)
      try simp only [Act.put, List.setIfInBounds_toArray, List.set_cons_zero, List.set_cons_succ]
      refine TR.take_at (i := 3) (v := ?_) 66 rfl rfl (by kernel_rfl) (by kernel_rfl) (by kernel_rfl) (fun _ _ _ h => h) (Or.inl ⟨by rfl, ?_⟩) (by assumption) ?_
      rotate_left
      · (intro w' hSw; (try dsimp only at hSw); go_simp; all_goals with_reducible rfl)
      try simp only [Act.put, List.setIfInBounds_toArray, List.set_cons_zero, List.set_cons_succ]
      refine TR.take_at (i := 4) (v := ?_) 67 rfl rfl (by kernel_rfl) (by kernel_rfl) (by kernel_rfl) (fun _ _ _ h => h) (Or.inl ⟨by rfl, ?_⟩) (by assumption) ?_
      rotate_left
      · (intro w' hSw; (try dsimp only at hSw); go_simp; all_goals with_reducible rfl)
      try simp only [Act.put, List.setIfInBounds_toArray, List.set_cons_zero, List.set_cons_succ]
      refine TR.take_at (i := 5) (v := undef) 68 rfl rfl (by kernel_rfl) (by kernel_rfl) (by kernel_rfl) (fun _ _ _ h => h) (Or.inr ⟨by rfl, rfl⟩) (by assumption) ?_
      try simp only [Act.put, List.setIfInBounds_toArray, List.set_cons_zero, List.set_cons_succ]
      refine TR.take_at (i := 6) (v := undef) 69 rfl rfl (by kernel_rfl) (by kernel_rfl) (by kernel_rfl) (fun _ _ _ h => h) (Or.inr ⟨by rfl, rfl⟩) (by assumption) ?_
      try simp only [Act.put, List.setIfInBounds_toArray, List.set_cons_zero, List.set_cons_succ]
      refine TR.take_at (i := 7) (v := ?_) 70 rfl rfl (by kernel_rfl) (by kernel_rfl) (by kernel_rfl) (fun _ _ _ h => h) (Or.inl ⟨by rfl, ?_⟩) (by assumption) ?_
      rotate_left
      · (intro w' hSw; (try dsimp only at hSw); go_simp; all_goals with_reducible rfl)
      try simp only [Act.put, List.setIfInBounds_toArray, List.set_cons_zero, List.set_cons_succ]
      refine TR.take_at (i := 8) (v := ?_) 4 rfl rfl (by kernel_rfl) (by kernel_rfl) (by kernel_rfl) (fun _ _ _ h => h) (Or.inl ⟨by rfl, ?_⟩) (by assumption) ?_
      rotate_left
      · (intro w' hSw; (try dsimp only at hSw); go_simp; all_goals with_reducible rfl)
      try simp only [Act.put, List.setIfInBounds_toArray, List.set_cons_zero, List.set_cons_succ]
      refine wpAnyH_ready (rs := [9]) (by kernel_rfl) (by simp) ?_
      refine AllReadyH.cons rfl (fun K hK => ?_) AllReadyH.nil
      refine step_store_seg rfl rfl 34 _ _ rfl w.heap.size 0 _ #[.int .u64 1048576, .slice p N c, .int .i64 most, .slice none 0 0, .slice none 0 0, .bool false, .int .u64 0, .int .i64 0, .slice none 0 0] rfl rfl rfl 34 _ h5d (show 0 + 9 ≤ 9 by decide) info_X (by simp [Value.oneCell']) #[.int .u64 1048576, .slice p N c, .int .i64 most, .slice none 0 0, .slice none 0 0, .bool false, .int .u64 0, .int .i64 0, .slice none 0 0] rfl ?_
      intro wq hr5 htq
      replace k0 := TR.turn_cell htq hKY k0
      replace k1 := TR.turn_cell htq hKY k1
      replace k2 := TR.turn_cell htq hKY k2
      replace k3 := TR.turn_cell htq hKY k3
      replace k4 := TR.turn_cell htq hKY k4
      replace k5 := TR.turn_cell htq hKY k5
      replace k6 := TR.turn_cell htq hKY k6
      replace k7 := TR.turn_cell htq hKY k7
      replace k8 := TR.turn_cell htq hKY k8
      refine hK.out _ _ ⟨k0, k1, k2, k3, k4, k5, k6, k7, k8⟩ (fun hHeld5 => ?_)
      clear hK k0 k1 k2 k3 k4 k5 k6 k7 k8
      try simp only [Act.put, List.setIfInBounds_toArray, List.set_cons_zero, List.set_cons_succ]
      refine TR.take_at (i := 10) (v := ?_) 6 rfl rfl (by kernel_rfl) (by kernel_rfl) (by kernel_rfl) (fun _ _ _ h => h) (Or.inl ⟨by rfl, ?_⟩) (by assumption) ?_
      rotate_left
      · (intro w' hSw; (try dsimp only at hSw); go_simp; all_goals with_reducible rfl)
      try simp only [Act.put, List.setIfInBounds_toArray, List.set_cons_zero, List.set_cons_succ]
      refine wpAnyH_done (by kernel_rfl) ?_ _
      refine NoPanic.normal ?_
      go_wp2_with fail
      refine bodyPost_ret (v := .tuple #[.pointer none, .agg #[.int .u64 1048576, .slice p N c, .int .i64 most, .slice none 0 0, .slice none 0 0, .bool false, .int .u64 0, .int .i64 0, .slice none 0 0], .bool false]) ?_ rfl ⟨p, N, c, rfl, below_turn HB5.out.drew htq (Nat.le_refl _)⟩
      exact results_tmp_row_tmp (p := 5) (u := 4) (q := 6) rfl _ _ w.heap.size 34 _ (0, 0) _ rfl hr5 Tryz.underlying34 rfl info_X
end Go.Proofs.YtndjhedoandinaaGreatDoor.MM

/- Machines: one, and two beside one another, with blocks of ours that they leave alone. -/
namespace Go.Proofs.YtndjhedoandinaaGreatDoor.MM
open Go.RowKit Go.Maps

/-- Our blocks are as they were. -/
def Kp (l : List Nat) (w w' : World) : Prop := w.heap.size ≤ w'.heap.size ∧ ∀ g ∈ l, w'.heap[g]? = w.heap[g]?
theorem Kp.refl (l : List Nat) (w : World) : Kp l w w := ⟨Nat.le_refl _, fun _ _ => rfl⟩
theorem Kp.trans {l : List Nat} {w1 w2 w3 : World} (h : Kp l w1 w2) (k : Kp l w2 w3) : Kp l w1 w3 := ⟨Nat.le_trans h.1 k.1, fun g hg => (k.2 g hg).trans (h.2 g hg)⟩
theorem Kp.cell {l : List Nat} {w w' : World} (h : Kp l w w') {g i : Nat} {v : Value} (hg : g ∈ l) (hc : w.cell? ⟨g, i, none⟩ = some v) : w'.cell? ⟨g, i, none⟩ = some v := (World.cell?_of_block (a := ⟨g, i, none⟩) (h.2 g hg)).trans hc
theorem Kp.row {l : List Nat} {w w' : World} (h : Kp l w w') {g : Nat} {o : Obj} (hg : g ∈ l) (hc : w.heap[g]? = some o) : w'.heap[g]? = some o := (h.2 g hg).trans hc

def One (w0 w : World) (l : List Nat) (x a n S : Nat) (most : Int) (s : St) : Prop := ∃ X, Mch w0 w X x a n S most s ∧ ∀ g ∈ l, g < w.heap.size ∧ ¬ X g

section
variable {w0 w w' : World} {l : List Nat} {x a n n' S : Nat} {most : Int} {s s' : St}
theorem One.bl (h : One w0 w l x a n S most s) : Below w0.heap.size w0 w := by
  obtain ⟨X, h, -⟩ := h
  exact h.bl
theorem One.wfm (h : One w0 w l x a n S most s) : Wf most s := by
  obtain ⟨X, h, -⟩ := h
  exact h.wfm
theorem One.later (h : One w0 w l x a n S most s) (hb : Below w.heap.size w w') : One w0 w' l x a n S most s := by
  obtain ⟨X, h, hl⟩ := h
  exact ⟨X, h.later hb, fun g hg => ⟨Nat.lt_of_lt_of_le (hl g hg).1 hb.size, (hl g hg).2⟩⟩
theorem One.keeps (h : One w0 w l x a n S most s) (hb : Below w.heap.size w w') : Kp l w w' := by
  obtain ⟨X, h, hl⟩ := h
  exact ⟨hb.size, fun g hg => hb.block g (hl g hg).1⟩
theorem One.own (h : One w0 w l x a n S most s) (o : Obj) : One w0 (w.alloc o) (w.heap.size :: l) x a n S most s := by
  obtain ⟨X, h, hl⟩ := h
  refine ⟨X, h.later (below_new _ _), fun g hg => ?_⟩
  rcases List.mem_cons.1 hg with rfl | hg
  · exact ⟨by simp, h.nX (Nat.le_refl _)⟩
  · exact ⟨by have := (hl g hg).1; simp; omega, (hl g hg).2⟩
theorem One.less {l' : List Nat} (h : One w0 w l x a n S most s) (hl : ∀ g ∈ l', g ∈ l) : One w0 w l' x a n S most s := by
  obtain ⟨X, h, hX⟩ := h
  exact ⟨X, h, fun g hg => hX g (hl g hg)⟩
theorem One.mono {m : Nat} (h : One w0 w l x a n S most s) (hn : n ≤ m) : One w0 w l x a m S most s := by
  obtain ⟨X, h, hX⟩ := h
  exact ⟨X, h.mono hn, hX⟩
theorem One.put {Y : Nat → Prop} (h : One w0 w l x a n S most s) (ht : Turn Y w w') (hY : ∀ i, Y i → i ∈ l ∧ w0.heap.size ≤ i) : One w0 w' l x a n S most s := by
  obtain ⟨X, h, hX⟩ := h
  exact ⟨X, h.turn ht (fun i hi hy => (hX i (hY i hy).1).2 hi) (fun i hy => (hY i hy).2), fun g hg => ⟨Nat.lt_of_lt_of_le (hX g hg).1 ht.size, (hX g hg).2⟩⟩
/-- What a machine does. -/
theorem One.does {P : Program} {f : FuncId} {args : Array Value} {R : Ending → Prop} (h : One w0 w l x a n S most s)
    (hc : ∀ X, Mch w0 w X x a n S most s → Calls P f args w fun r w' => R r ∧ Mch w0 w' (Gr X w w') x a n' S most s' ∧ Turn X w w') :
    Calls P f args w fun r w' => R r ∧ One w0 w' l x a n' S most s' ∧ Kp l w w' := by
  obtain ⟨X, h, hl⟩ := h
  refine (hc X h).mono ?_
  rintro r w' ⟨hr, hM, hT⟩
  refine ⟨hr, ⟨Gr X w w', hM, fun g hg => ⟨Nat.lt_of_lt_of_le (hl g hg).1 hT.size, fun c => ?_⟩⟩, hT.size, fun g hg => hT.block g (hl g hg).1 (hl g hg).2⟩
  rcases c with c | c
  · exact (hl g hg).2 c
  · have := (hl g hg).1; omega
/-- The kernel's own write into a machine's memory. -/
theorem One.write (h : One w0 w l x a n S most s) (hn : n < 100000000) (y v : Nat) (hy : y < 18446744073709551616) (hv : v < 18446744073709551616) :
    Calls Tryz.prog 29 #[.pointer (some ⟨a, 0, none⟩), .int .u64 y, .int .u64 v] w fun r w' => r = .returned (.int .i64 (errA S y)) ∧ One w0 w' l x a (n + 1) S most { s with f := wrF s.f S y v } ∧ Kp l w w' :=
  h.does (fun X hM => by
    obtain ⟨XM, XB, XT, tb, tr, pv, h⟩ := hM
    refine (h.write hn y v hy hv).mono ?_
    rintro r w' ⟨h1, h2, h3, -⟩
    exact ⟨h1, h2, h3⟩)
end

def Two (w0 w : World) (l : List Nat) (S x a n : Nat) (most : Int) (s : St) (z b m : Nat) (s2 : St) : Prop :=
  ∃ X Y, Mch w0 w X x a n S most s ∧ Mch w0 w Y z b m S 1 s2 ∧ (∀ i, X i → ¬ Y i) ∧ ∀ g ∈ l, g < w.heap.size ∧ ¬ X g ∧ ¬ Y g
section
variable {w0 w w' : World} {l : List Nat} {S x a n n' z b m m' : Nat} {most : Int} {s s' s2 s2' : St}
theorem Two.bl (h : Two w0 w l S x a n most s z b m s2) : Below w0.heap.size w0 w := by
  obtain ⟨X, Y, h, -⟩ := h
  exact h.bl
theorem Two.wfm (h : Two w0 w l S x a n most s z b m s2) : Wf most s := by
  obtain ⟨X, Y, h, -⟩ := h
  exact h.wfm
theorem Two.wfm2 (h : Two w0 w l S x a n most s z b m s2) : Wf 1 s2 := by
  obtain ⟨X, Y, -, h, -⟩ := h
  exact h.wfm
theorem Two.later (h : Two w0 w l S x a n most s z b m s2) (hb : Below w.heap.size w w') : Two w0 w' l S x a n most s z b m s2 := by
  obtain ⟨X, Y, h, k, hd, hl⟩ := h
  exact ⟨X, Y, h.later hb, k.later hb, hd, fun g hg => ⟨Nat.lt_of_lt_of_le (hl g hg).1 hb.size, (hl g hg).2⟩⟩
theorem Two.keeps (h : Two w0 w l S x a n most s z b m s2) (hb : Below w.heap.size w w') : Kp l w w' := by
  obtain ⟨X, Y, h, k, hd, hl⟩ := h
  exact ⟨hb.size, fun g hg => hb.block g (hl g hg).1⟩
theorem Two.own (h : Two w0 w l S x a n most s z b m s2) (o : Obj) : Two w0 (w.alloc o) (w.heap.size :: l) S x a n most s z b m s2 := by
  obtain ⟨X, Y, h, k, hd, hl⟩ := h
  refine ⟨X, Y, h.later (below_new _ _), k.later (below_new _ _), hd, fun g hg => ?_⟩
  rcases List.mem_cons.1 hg with rfl | hg
  · exact ⟨by simp, h.nX (Nat.le_refl _), k.nX (Nat.le_refl _)⟩
  · exact ⟨by have := (hl g hg).1; simp; omega, (hl g hg).2⟩
theorem Two.less {l' : List Nat} (h : Two w0 w l S x a n most s z b m s2) (hl : ∀ g ∈ l', g ∈ l) : Two w0 w l' S x a n most s z b m s2 := by
  obtain ⟨X, Y, h, k, hd, hX⟩ := h
  exact ⟨X, Y, h, k, hd, fun g hg => hX g (hl g hg)⟩
theorem Two.mono {n' m' : Nat} (h : Two w0 w l S x a n most s z b m s2) (hn : n ≤ n') (hm : m ≤ m') : Two w0 w l S x a n' most s z b m' s2 := by
  obtain ⟨X, Y, h, k, hX⟩ := h
  exact ⟨X, Y, h.mono hn, k.mono hm, hX⟩
theorem Two.put {Z : Nat → Prop} (h : Two w0 w l S x a n most s z b m s2) (ht : Turn Z w w') (hY : ∀ i, Z i → i ∈ l ∧ w0.heap.size ≤ i) : Two w0 w' l S x a n most s z b m s2 := by
  obtain ⟨X, Y, h, k, hd, hX⟩ := h
  exact ⟨X, Y, h.turn ht (fun i hi hy => (hX i (hY i hy).1).2.1 hi) (fun i hy => (hY i hy).2), k.turn ht (fun i hi hy => (hX i (hY i hy).1).2.2 hi) (fun i hy => (hY i hy).2), hd, fun g hg => ⟨Nat.lt_of_lt_of_le (hX g hg).1 ht.size, (hX g hg).2⟩⟩
theorem Two.left {P : Program} {f : FuncId} {args : Array Value} {R : Ending → Prop} (h : Two w0 w l S x a n most s z b m s2)
    (hc : ∀ X, Mch w0 w X x a n S most s → Calls P f args w fun r w' => R r ∧ Mch w0 w' (Gr X w w') x a n' S most s' ∧ Turn X w w') :
    Calls P f args w fun r w' => R r ∧ Two w0 w' l S x a n' most s' z b m s2 ∧ Kp l w w' := by
  obtain ⟨X, Y, h, k, hd, hl⟩ := h
  refine (hc X h).mono ?_
  rintro r w' ⟨hr, hM, hT⟩
  refine ⟨hr, ⟨Gr X w w', Y, hM, k.turn hT (fun i hi hx => hd i hx hi) (fun i hx => h.loX i hx), fun i hi hy => ?_, fun g hg => ⟨Nat.lt_of_lt_of_le (hl g hg).1 hT.size, fun c => ?_, (hl g hg).2.2⟩⟩, hT.size, fun g hg => hT.block g (hl g hg).1 (hl g hg).2.1⟩
  · rcases hi with hi | hi
    · exact hd i hi hy
    · have := k.ltX i hy; omega
  · rcases c with c | c
    · exact (hl g hg).2.1 c
    · have := (hl g hg).1; omega
theorem Two.right {P : Program} {f : FuncId} {args : Array Value} {R : Ending → Prop} (h : Two w0 w l S x a n most s z b m s2)
    (hc : ∀ X, Mch w0 w X z b m S 1 s2 → Calls P f args w fun r w' => R r ∧ Mch w0 w' (Gr X w w') z b m' S 1 s2' ∧ Turn X w w') :
    Calls P f args w fun r w' => R r ∧ Two w0 w' l S x a n most s z b m' s2' ∧ Kp l w w' := by
  obtain ⟨X, Y, h, k, hd, hl⟩ := h
  refine (hc Y k).mono ?_
  rintro r w' ⟨hr, hM, hT⟩
  refine ⟨hr, ⟨X, Gr Y w w', h.turn hT (fun i hi hy => hd i hi hy) (fun i hx => k.loX i hx), hM, fun i hi hy => ?_, fun g hg => ⟨Nat.lt_of_lt_of_le (hl g hg).1 hT.size, (hl g hg).2.1, fun c => ?_⟩⟩, hT.size, fun g hg => hT.block g (hl g hg).1 (hl g hg).2.2⟩
  · rcases hy with hy | hy
    · exact hd i hi hy
    · have := h.ltX i hi; omega
  · rcases c with c | c
    · exact (hl g hg).2.2 c
    · have := (hl g hg).1; omega
/-- Out of two that were opened one behind the other. -/
theorem Mch.base {wa : World} {X : Nat → Prop} (h : Mch wa w X x a n S most s) (hb : Below w0.heap.size w0 wa) (hF : FA w0) : Mch w0 w X x a n S most s := by
  obtain ⟨XM, XB, XT, tb, tr, pv, h⟩ := h
  exact ⟨XM, XB, XT, tb, tr, pv, h.row, h.mem, h.buf, h.trl, h.pln, h.dmb, h.dmt, h.dbt, h.dm, h.db, h.dt, h.cm, h.cb, h.ct, h.cx, h.lt, fun i hi => Nat.le_trans hb.size (h.lo i hi), below_tr hb h.bel, hF, h.wf⟩
end
end Go.Proofs.YtndjhedoandinaaGreatDoor.MM

/- Machines: the anchor: a page that is filled in, and then taken out of its table. -/
namespace Go.Proofs.YtndjhedoandinaaGreatDoor.MM
open Go.RowKit Go.Maps

def anA (i : Nat) : Nat := if i = 0 then 4096 else if i = 1 then 8192 else if i = 2 then 12288 else if i = 3 then 16392 else if i = 4 then 20496 else 0
def anV (i : Nat) : Nat := if i = 0 then 8195 else if i = 1 then 12291 else if i = 2 then 16387 else if i = 3 then 27021597764247363 else if i = 4 then 77 else 0
theorem an_lt : (∀ i, anA i < 18446744073709551616) ∧ ∀ i, anV i < 18446744073709551616 := by
  constructor
  · intro i; unfold anA; repeat' split
    all_goals decide
  · intro i; unfold anV; repeat' split
    all_goals decide
def aH : Hn := ⟨true, false, false⟩
def aN : Hn := ⟨false, false, false⟩
def aS0 : St := ⟨fW 1048576 anA anV 5, [], [], none, []⟩
def aS1 : St := setRg aS0 281474976714752
def aS2 : St := accS 1048576 4 aS1 1 4112 0 aH
def aS3 : St := { aS2 with f := wrF aS2.f 1048576 16392 0 }
def aS4 : St := accS 1048576 4 aS3 1 4112 0 aN
def aS5 : St := flVa aS4 1 4096
def aS6 : St := accS 1048576 4 aS5 1 4112 0 aN
theorem aE0 : setN 281474976714752 = 0 := by decide +kernel
theorem aE1 : accF (leafO 1048576 aS1 4112 aH) 1 = (0, 0) ∧ accW aS1.f (leafO 1048576 aS1 4112 aH) 1 4112 = 77 := by decide +kernel
theorem aE2 : errA 1048576 16392 = 0 := by decide +kernel
theorem aE3 : accF (leafO 1048576 aS3 4112 aN) 1 = (0, 0) ∧ accW aS3.f (leafO 1048576 aS3 4112 aN) 1 4112 = 77 := by decide +kernel
theorem aE4 : sndB 1048576 aS4 = false := by decide +kernel
theorem aE5 : accF (leafO 1048576 aS5 4112 aN) 1 = (1, 3) ∧ accW aS5.f (leafO 1048576 aS5 4112 aN) 1 4112 = 0 := by decide +kernel
theorem aE6 : sndB 1048576 aS6 = true := by decide +kernel

section
variable {w0 w : World} {l : List Nat} {x a n : Nat}
theorem an_set (h : One w0 w l x a n 1048576 4 aS0) : Calls Tryz.prog 11 #[.pointer (some ⟨x, 0, none⟩), .int .u64 281474976714752] w fun r w' => r = .returned (.int .i64 0) ∧ One w0 w' l x a n 1048576 4 aS1 ∧ Kp l w w' :=
  h.does (fun X h => by
    have := set_c h 281474976714752 (by decide)
    rw [aE0] at this
    exact this)
theorem an_acc1 (h : One w0 w l x a n 1048576 4 aS1) (hn : n < 100000000) : Calls Tryz.prog 12 #[.pointer (some ⟨x, 0, none⟩), .int .i64 1, .int .u64 4112, .int .u64 0, .agg #[.bool true, .bool false, .bool false]] w fun r w' => r = .returned (.agg #[.int .i64 0, .int .i64 0, .int .u64 77]) ∧ One w0 w' l x a (n + 1) 1048576 4 aS2 ∧ Kp l w w' :=
  h.does (fun X h => by
    have := access_c h hn 1 4112 0 (by decide) (by decide) aH
    rw [aE1.1, aE1.2] at this
    exact this)
theorem an_acc2 (h : One w0 w l x a n 1048576 4 aS3) (hn : n < 100000000) : Calls Tryz.prog 12 #[.pointer (some ⟨x, 0, none⟩), .int .i64 1, .int .u64 4112, .int .u64 0, .agg #[.bool false, .bool false, .bool false]] w fun r w' => r = .returned (.agg #[.int .i64 0, .int .i64 0, .int .u64 77]) ∧ One w0 w' l x a (n + 1) 1048576 4 aS4 ∧ Kp l w w' :=
  h.does (fun X h => by
    have := access_c h hn 1 4112 0 (by decide) (by decide) aN
    rw [aE3.1, aE3.2] at this
    exact this)
theorem an_acc3 (h : One w0 w l x a n 1048576 4 aS5) (hn : n < 100000000) : Calls Tryz.prog 12 #[.pointer (some ⟨x, 0, none⟩), .int .i64 1, .int .u64 4112, .int .u64 0, .agg #[.bool false, .bool false, .bool false]] w fun r w' => r = .returned (.agg #[.int .i64 1, .int .i64 3, .int .u64 0]) ∧ One w0 w' l x a (n + 1) 1048576 4 aS6 ∧ Kp l w w' :=
  h.does (fun X h => by
    have := access_c h hn 1 4112 0 (by decide) (by decide) aN
    rw [aE5.1, aE5.2] at this
    exact this)
theorem one_mem {S : Nat} {most : Int} {s : St} (h : One w0 w l x a n S most s) : Calls Tryz.prog 18 #[.pointer (some ⟨x, 0, none⟩)] w fun r w' => r = .returned (.pointer (some ⟨a, 0, none⟩)) ∧ w = w' := by
  obtain ⟨X, h, -⟩ := h
  exact memory_c h
theorem one_sound {S : Nat} {most : Int} {s : St} (h : One w0 w l x a n S most s) : Calls Tryz.prog 13 #[.pointer (some ⟨x, 0, none⟩)] w fun r w' => r = .returned (.bool (sndB S s)) ∧ Below w.heap.size w w' := by
  obtain ⟨X, h, -⟩ := h
  exact sound_c h
theorem an_wr (h : One w0 w l x a n 1048576 4 aS2) (hn : n < 100000000) : Calls Tryz.prog 29 #[.pointer (some ⟨a, 0, none⟩), .int .u64 16392, .int .u64 0] w fun r w' => r = .returned (.int .i64 0) ∧ One w0 w' l x a (n + 1) 1048576 4 aS3 ∧ Kp l w w' := by
  have := h.write hn 16392 0 (by decide) (by decide)
  rw [aE2] at this
  exact this
theorem an_fl (h : One w0 w l x a n 1048576 4 aS4) : Calls Tryz.prog 17 #[.pointer (some ⟨x, 0, none⟩), .int .i64 1, .int .u64 4096] w fun r w' => r = .returned (.tuple #[]) ∧ One w0 w' l x a n 1048576 4 aS5 ∧ Kp l w w' :=
  h.does (fun X h => flushVa_c h 1 4096 (by decide))
end

set_option maxHeartbeats 4000000 in
set_option maxRecDepth 100000 in
theorem anchor_any (w : World) (hF : FA w) :
    Calls Tryz.prog 7 #[] w fun e w' => e = .returned (.bool true) ∧ Below w.heap.size w w' := by
  have HF := Hid.mk hF
  clear hF
  go_enter Tryz.func7, Tryz.ntmps7
  go_wp2_with fail
  refine (opened_ok 5 5 (some ⟨w.heap.size, 0, none⟩) anA anV 4 (by decide) (by decide) (by decide) _ ⟨fun i hi => ⟨w.heap.size, 0, rfl, by simp, ?_⟩, an_lt.1, an_lt.2⟩ (HF.out.later (below_new _ _))).mono ?_
  · have h4 : i = 0 ∨ i = 1 ∨ i = 2 ∨ i = 3 ∨ i = 4 := by omega
    rcases h4 with rfl | rfl | rfl | rfl | rfl
    all_goals (constructor <;> simp [anA, anV])
  rintro e w1 ⟨x, a, v, rfl, hO⟩
  have hB0 := below_new w (.cells #[.int .u64 4096, .int .u64 8195, .int .u64 8192, .int .u64 12291, .int .u64 12288, .int .u64 16387, .int .u64 16392, .int .u64 27021597764247363, .int .u64 20496, .int .u64 77] 81)
  obtain ⟨X, hM, L, hp, -⟩ := hO.mch
  have h1 : One _ w1 [] x a 61 1048576 4 aS0 := ⟨X, hM, fun g hg => absurd hg List.not_mem_nil⟩
  obtain ⟨p, c, rfl, -⟩ := hp.form
  have H1 := Hid.mk h1
  clear hO hM hp h1
  generalize L.length = N at *
  generalize hw9 : w.alloc _ = wC at *
  clear hw9
  go_wp2_with fail
  refine (an_set (H1.out.later (below_new _ _))).mono ?_
  rintro e w2 ⟨rfl, h2, -⟩
  have H2 := Hid.mk h2
  clear h2 H1
  go_wp2_with fail
  refine (an_acc1 H2.out (by decide)).mono ?_
  rintro e w3 ⟨rfl, h3, -⟩
  have H3 := Hid.mk (h3.own (.cells #[.int .i64 0, .int .i64 0, .int .u64 77] 50))
  have g4 := heap_alloc_new w3 (.cells #[.int .i64 0, .int .i64 0, .int .u64 77] 50)
  clear h3 H2
  go_upto_region 5 with fail
  generalize w3.alloc (.cells #[.int .i64 0, .int .i64 0, .int .u64 77] 50) = w4 at *
  generalize w3.heap.size = B4 at *
  go_wp2_with fail
  refine (one_mem H3.out).mono ?_
  rintro e w5 ⟨rfl, e5⟩
  obtain rfl : w4 = w5 := e5
  go_wp2_with fail
  refine (an_wr H3.out (by decide)).mono ?_
  rintro e w5 ⟨rfl, h5, hk⟩
  have H5 := Hid.mk h5
  replace g4 := hk.row (by simp) g4
  clear h5 hk H3
  go_wp2_with fail
  refine (an_acc2 H5.out (by decide)).mono ?_
  rintro e w6 ⟨rfl, h6, hk⟩
  replace g4 := hk.row (by simp) g4
  have H6 := Hid.mk (h6.own (.cells #[.int .i64 0, .int .i64 0, .int .u64 77] 50))
  have g5 := heap_alloc_new w6 (.cells #[.int .i64 0, .int .i64 0, .int .u64 77] 50)
  have hb6 := below_new w6 (.cells #[.int .i64 0, .int .i64 0, .int .u64 77] 50)
  clear h6 hk H5
  go_upto_region 7 with fail
  generalize w6.alloc (.cells #[.int .i64 0, .int .i64 0, .int .u64 77] 50) = w7 at *
  replace g4 := block_later hb6 g4
  clear hb6
  generalize w6.heap.size = B5 at *
  go_wp2_with fail
  refine (one_sound H6.out).mono ?_
  rintro e w8 ⟨rfl, hb8⟩
  rw [aE4]
  have H8 := Hid.mk (H6.out.later hb8)
  replace g4 := block_later hb8 g4
  replace g5 := block_later hb8 g5
  clear hb8 H6
  go_wp2_with fail
  refine (an_fl H8.out).mono ?_
  rintro e w9 ⟨rfl, h9, hk⟩
  replace g4 := hk.row (by simp) g4
  replace g5 := hk.row (by simp) g5
  have H9 := Hid.mk h9
  clear h9 hk H8
  go_wp2_with fail
  refine (an_acc3 H9.out (by decide)).mono ?_
  rintro e w10 ⟨rfl, h10, hk⟩
  replace g4 := hk.row (by simp) g4
  replace g5 := hk.row (by simp) g5
  have H10 := Hid.mk (h10.own (.cells #[.int .i64 1, .int .i64 3, .int .u64 0] 50))
  have g7 := heap_alloc_new w10 (.cells #[.int .i64 1, .int .i64 3, .int .u64 0] 50)
  have hb10 := below_new w10 (.cells #[.int .i64 1, .int .i64 3, .int .u64 0] 50)
  clear h10 hk H9
  go_upto_region 10 with fail
  generalize w10.alloc (.cells #[.int .i64 1, .int .i64 3, .int .u64 0] 50) = w11 at *
  replace g4 := block_later hb10 g4
  replace g5 := block_later hb10 g5
  clear hb10
  generalize w10.heap.size = B7 at *
  obtain ⟨k0, k1, k2⟩ := cells3 g4
  obtain ⟨m0, m1, m2⟩ := cells3 g5
  obtain ⟨n0, n1, n2⟩ := cells3 g7
  go_wp2_with fail
  refine (one_sound H10.out).mono ?_
  rintro e w12 ⟨rfl, hb12⟩
  rw [aE6]
  have HB := Hid.mk (below_tr (below_tr hB0 H10.out.bl) hb12)
  clear k0 k1 k2 m0 m1 m2 n0 n1 n2 hb12 g4 g5 g7
  go_wp2
  go_ret
  exact ⟨rfl, HB.out⟩
end Go.Proofs.YtndjhedoandinaaGreatDoor.MM

namespace Go.Proofs.YtndjhedoandinaaGreatDoor.MM
open Go.RowKit Go.Lib Go.ChangeShapes Go.WideShapes Go.ChangeAt Go.Joins Go.Deep

/-- A step of a play. -/
structure Mo where
  kd : Int
  so : Int
  nn : Int
  va : Nat
  wd : Nat
  h : Hn
def Mo.cs (q : Mo) : List Value := [.int .i64 q.kd, .int .i64 q.so, .int .i64 q.nn, .int .u64 (q.va : Int), .int .u64 (q.wd : Int), .bool q.h.fill, .bool q.h.led, .bool q.h.keep]
def Mo.ok (q : Mo) : Prop := q.va < 18446744073709551616 ∧ q.wd < 18446744073709551616
def mo0 : Mo := ⟨0, 0, 0, 0, 0, ⟨false, false, false⟩⟩
def gM (l : List Mo) (i : Nat) : Mo := l.getD i mo0
theorem gM_pos (l : List Mo) (i : Nat) (h : i < l.length) : gM l i = l[i] := by
  unfold gM
  rw [List.getD_eq_getElem?_getD, List.getElem?_eq_getElem h]; rfl
def MoRd (w : World) (ad : Option Addr) (l : List Mo) : Prop :=
  ∀ i, i < l.length → ∃ g o, ad = some ⟨g, o, none⟩ ∧ g < w.heap.size ∧ ∀ j u, (gM l i).cs[j]? = some u → w.cell? ⟨g, o + i * 8 + j, none⟩ = some u

theorem list3 {α : Type} {l : List α} (h : l.length = 3) : ∃ c0 c1 c2, l = [c0, c1, c2] := by
  match l, h with
  | [c0, c1, c2], _ => exact ⟨c0, c1, c2, rfl⟩
theorem list8 {α : Type} {l : List α} (h : l.length = 8) : ∃ c0 c1 c2 c3 c4 c5 c6 c7, l = [c0, c1, c2, c3, c4, c5, c6, c7] := by
  match l, h with
  | [c0, c1, c2, c3, c4, c5, c6, c7], _ => exact ⟨c0, c1, c2, c3, c4, c5, c6, c7, rfl⟩
section
variable {H : Type} {enc : TypeId × Value → H} {w : World} {base : Nat} {spare : Nat → Bool} {held : Bool}
set_option maxRecDepth 100000 in
theorem hint_cells {fuel : Nat} {cs : List Value} {x : DataW H × List MemPlace} (hf : DataW.trod enc Tryz.prog w base spare held fuel 38 cs = some x) : ∃ h : Hn, cs = [.bool h.fill, .bool h.led, .bool h.keep] := by
  have hc : Tryz.prog.cellsOf 38 = 3 := by kernel_rfl
  have cb : Tryz.prog.cellsOf 4 = 1 := by kernel_rfl
  obtain ⟨xs, n, _, _, hsz, hlen, hx⟩ := DataW.trod_struct Tryz.underlying38 hf
  obtain ⟨c0, c1, c2, rfl⟩ := list3 (hsz.trans hc)
  have hsome : ∀ i, i < 3 → ∃ y, xs[i]? = some y := fun i hi => ⟨xs[i]'(by rw [hlen]; exact hi), by simp⟩
  obtain ⟨y0, q0⟩ := hsome 0 (by omega)
  obtain ⟨y1, q1⟩ := hsome 1 (by omega)
  obtain ⟨y2, q2⟩ := hsome 2 (by omega)
  have h0 := (hx 0 _ rfl).trans q0
  have h1 := (hx 1 _ rfl).trans q1
  have h2 := (hx 2 _ rfl).trans q2
  obtain ⟨u, e0, _⟩ := DataW.trod_bool Tryz.underlying4 h0
  obtain ⟨r, e1, _⟩ := DataW.trod_bool Tryz.underlying4 h1
  obtain ⟨k, e2, _⟩ := DataW.trod_bool Tryz.underlying4 h2
  simp [cb] at e0 e1 e2
  subst e0 e1 e2
  exact ⟨⟨u, r, k⟩, rfl⟩
set_option maxRecDepth 100000 in
theorem op_cells {fuel : Nat} {cs : List Value} {x : DataW H × List MemPlace} (hf : DataW.trod enc Tryz.prog w base spare held fuel 40 cs = some x) : ∃ q : Mo, cs = q.cs ∧ q.ok := by
  have hc : Tryz.prog.cellsOf 40 = 8 := by kernel_rfl
  have ci : Tryz.prog.cellsOf 3 = 1 := by kernel_rfl
  have cu : Tryz.prog.cellsOf 26 = 1 := by kernel_rfl
  have ch : Tryz.prog.cellsOf 38 = 3 := by kernel_rfl
  obtain ⟨xs, n, _, _, hsz, hlen, hx⟩ := DataW.trod_struct Tryz.underlying40 hf
  obtain ⟨c0, c1, c2, c3, c4, c5, c6, c7, rfl⟩ := list8 (hsz.trans hc)
  have hsome : ∀ i, i < 6 → ∃ y, xs[i]? = some y := fun i hi => ⟨xs[i]'(by rw [hlen]; exact hi), by simp⟩
  obtain ⟨y0, q0⟩ := hsome 0 (by omega)
  obtain ⟨y1, q1⟩ := hsome 1 (by omega)
  obtain ⟨y2, q2⟩ := hsome 2 (by omega)
  obtain ⟨y3, q3⟩ := hsome 3 (by omega)
  obtain ⟨y4, q4⟩ := hsome 4 (by omega)
  obtain ⟨y5, q5⟩ := hsome 5 (by omega)
  have h0 := (hx 0 _ rfl).trans q0
  have h1 := (hx 1 _ rfl).trans q1
  have h2 := (hx 2 _ rfl).trans q2
  have h3 := (hx 3 _ rfl).trans q3
  have h4 := (hx 4 _ rfl).trans q4
  have h5 := (hx 5 _ rfl).trans q5
  obtain ⟨z0, e0, _, _⟩ := DataW.trod_int Tryz.underlying3 h0
  obtain ⟨z1, e1, _, _⟩ := DataW.trod_int Tryz.underlying3 h1
  obtain ⟨z2, e2, _, _⟩ := DataW.trod_int Tryz.underlying3 h2
  obtain ⟨z3, e3, _, w3⟩ := DataW.trod_int Tryz.underlying26 h3
  obtain ⟨z4, e4, _, w4⟩ := DataW.trod_int Tryz.underlying26 h4
  obtain ⟨h, e5⟩ := hint_cells h5
  simp [ci, cu, ch] at e0 e1 e2 e3 e4 e5
  obtain ⟨rfl, rfl, rfl⟩ := e5
  subst e0 e1 e2 e3 e4
  obtain ⟨z3, rfl⟩ := Int.eq_ofNat_of_zero_le (bounds_u64 w3).1
  obtain ⟨z4, rfl⟩ := Int.eq_ofNat_of_zero_le (bounds_u64 w4).1
  exact ⟨⟨z0, z1, z2, z3, z4, h⟩, rfl, by have := (bounds_u64 w3).2; show z3 < _; omega, by have := (bounds_u64 w4).2; show z4 < _; omega⟩
set_option maxRecDepth 100000 in
theorem open_hint {r : Reach} {b0 : Nat} {v : Value} {d : DataW H} {p : List MemPlace} (hv : Value.okWide Tryz.prog w r b0 38 v) (h : DataW.Trod enc Tryz.prog w base spare held 38 v d p) : ∃ h : Hn, v = h.v := by
  obtain ⟨cs, rfl, hsz⟩ := okWide_struct Tryz.underlying38 hv
  obtain ⟨fuel, hf⟩ := h
  obtain ⟨h, he⟩ := hint_cells hf
  refine ⟨h, ?_⟩
  have h2 : cs.toList = [.bool h.fill, .bool h.led, .bool h.keep] := he
  show Value.agg cs = _
  rw [show cs = cs.toList.toArray from rfl, h2]
end
set_option maxRecDepth 100000 in
theorem open_mops {H : Type} {enc : TypeId × Value → H} {W : World} {base : Nat} {v : Value} {d : DataW H} {p : List MemPlace} (hok : Value.okWide Tryz.prog W .any base 23 v)
    (h : DataW.Trod enc Tryz.prog W 0 (fun _ => true) true 23 v d p) : ∃ ad cap, ∃ l : List Mo, v = .slice ad l.length cap ∧ l.length ≤ maxLen ∧ MoRd W ad l ∧ ∀ q ∈ l, q.ok := by
  obtain ⟨ad, n, cap, rfl, hn, hel⟩ := TR.open_elems (c := 8) Tryz.underlying23 (by kernel_rfl) (by decide) hok h
  have each : ∀ i, ∃ q : Mo, q.ok ∧ (i < n → ∃ g o, ad = some ⟨g, o, none⟩ ∧ g < W.heap.size ∧ ∀ j u, q.cs[j]? = some u → W.cell? ⟨g, o + i * 8 + j, none⟩ = some u) := fun i => by
    by_cases hi : i < n
    · obtain ⟨g, o, cs, fuel, x, e1, hg, hc, ht⟩ := hel i hi
      obtain ⟨q, rfl, he⟩ := op_cells ht
      exact ⟨q, he, fun _ => ⟨g, o, e1, hg, hc⟩⟩
    · exact ⟨mo0, ⟨by decide, by decide⟩, fun h => absurd h hi⟩
  obtain ⟨f, hf⟩ : ∃ f : Nat → Mo, ∀ i, (f i).ok ∧ (i < n → ∃ g o, ad = some ⟨g, o, none⟩ ∧ g < W.heap.size ∧ ∀ j u, (f i).cs[j]? = some u → W.cell? ⟨g, o + i * 8 + j, none⟩ = some u) := ⟨fun i => (each i).choose, fun i => (each i).choose_spec⟩
  have hl : ((List.range n).map f).length = n := by simp
  refine ⟨ad, cap, (List.range n).map f, by rw [hl], by rw [hl]; exact hn, fun i hi => ?_, fun e he => ?_⟩
  · have hi' : i < n := by rw [← hl]; exact hi
    have e1 : gM ((List.range n).map f) i = f i := by rw [gM_pos _ i hi]; simp
    rw [e1]
    exact (hf i).2 hi'
  · obtain ⟨i, _, rfl⟩ := List.mem_map.1 he
    exact (hf i).1
end Go.Proofs.YtndjhedoandinaaGreatDoor.MM
