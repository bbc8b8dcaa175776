/- Machines: the law's step, with the document's machine of noughts: kinds 11n. -/
import Derived.Test.YtndjhedoandinaaGreatDoorMmUa
namespace Go.Proofs.YtndjhedoandinaaGreatDoor.MM
open Go.RowKit Go.Maps

set_option maxHeartbeats 4000000 in
set_option maxRecDepth 100000 in
theorem step_11n {w0 w : World} {l : List Nat} {x a n S : Nat} {most : Int} {s : St} (h : One w0 w l x a n S most s) (so nn : Int) (va wd : Nat) (hf hl hk : Bool) (vq : Nat) (hvq : vq = (va + wd) % 18446744073709551616) (hN : nn < 0) :
    Calls Tryz.prog 9 #[.pointer (some ⟨x, 0, none⟩), .agg yZ, .agg #[.int .i64 11, .int .i64 so, .int .i64 nn, .int .u64 (va : Nat), .int .u64 (wd : Nat), .bool hf, .bool hl, .bool hk]] w fun r w' => (∃ c b, r = .returned (.tuple #[.agg c, .bool b])) ∧ StO w0 w l x a (n + 1) S most w' := by
  have H0 := Hid.mk h
  have HW := Hid.mk (h.own4 (.cells #[.int .u64 0, .slice none 0 0, .int .i64 0, .slice none 0 0, .slice none 0 0, .bool false, .int .u64 0, .int .i64 0, .slice none 0 0] 34) (.cells #[.int .i64 11, .int .i64 so, .int .i64 nn, .int .u64 (va : Nat), .int .u64 (wd : Nat), .bool hf, .bool hl, .bool hk] 40) (.cells #[.int .u64 0, .slice none 0 0, .int .i64 0, .slice none 0 0, .slice none 0 0, .bool false, .int .u64 0, .int .i64 0, .slice none 0 0] 34) (.cells #[.bool hf, .bool hl, .bool hk] 71))
  have gY := heap4_0 w (.cells #[.int .u64 0, .slice none 0 0, .int .i64 0, .slice none 0 0, .slice none 0 0, .bool false, .int .u64 0, .int .i64 0, .slice none 0 0] 34) (.cells #[.int .i64 11, .int .i64 so, .int .i64 nn, .int .u64 (va : Nat), .int .u64 (wd : Nat), .bool hf, .bool hl, .bool hk] 40) (.cells #[.int .u64 0, .slice none 0 0, .int .i64 0, .slice none 0 0, .slice none 0 0, .bool false, .int .u64 0, .int .i64 0, .slice none 0 0] 34) (.cells #[.bool hf, .bool hl, .bool hk] 71)
  have gO := heap4_1 w (.cells #[.int .u64 0, .slice none 0 0, .int .i64 0, .slice none 0 0, .slice none 0 0, .bool false, .int .u64 0, .int .i64 0, .slice none 0 0] 34) (.cells #[.int .i64 11, .int .i64 so, .int .i64 nn, .int .u64 (va : Nat), .int .u64 (wd : Nat), .bool hf, .bool hl, .bool hk] 40) (.cells #[.int .u64 0, .slice none 0 0, .int .i64 0, .slice none 0 0, .slice none 0 0, .bool false, .int .u64 0, .int .i64 0, .slice none 0 0] 34) (.cells #[.bool hf, .bool hl, .bool hk] 71)
  have gR := heap4_2 w (.cells #[.int .u64 0, .slice none 0 0, .int .i64 0, .slice none 0 0, .slice none 0 0, .bool false, .int .u64 0, .int .i64 0, .slice none 0 0] 34) (.cells #[.int .i64 11, .int .i64 so, .int .i64 nn, .int .u64 (va : Nat), .int .u64 (wd : Nat), .bool hf, .bool hl, .bool hk] 40) (.cells #[.int .u64 0, .slice none 0 0, .int .i64 0, .slice none 0 0, .slice none 0 0, .bool false, .int .u64 0, .int .i64 0, .slice none 0 0] 34) (.cells #[.bool hf, .bool hl, .bool hk] 71)
  have gH := heap4_3 w (.cells #[.int .u64 0, .slice none 0 0, .int .i64 0, .slice none 0 0, .slice none 0 0, .bool false, .int .u64 0, .int .i64 0, .slice none 0 0] 34) (.cells #[.int .i64 11, .int .i64 so, .int .i64 nn, .int .u64 (va : Nat), .int .u64 (wd : Nat), .bool hf, .bool hl, .bool hk] 40) (.cells #[.int .u64 0, .slice none 0 0, .int .i64 0, .slice none 0 0, .slice none 0 0, .bool false, .int .u64 0, .int .i64 0, .slice none 0 0] 34) (.cells #[.bool hf, .bool hl, .bool hk] 71)
  have hB := below4 w (.cells #[.int .u64 0, .slice none 0 0, .int .i64 0, .slice none 0 0, .slice none 0 0, .bool false, .int .u64 0, .int .i64 0, .slice none 0 0] 34) (.cells #[.int .i64 11, .int .i64 so, .int .i64 nn, .int .u64 (va : Nat), .int .u64 (wd : Nat), .bool hf, .bool hl, .bool hk] 40) (.cells #[.int .u64 0, .slice none 0 0, .int .i64 0, .slice none 0 0, .slice none 0 0, .bool false, .int .u64 0, .int .i64 0, .slice none 0 0] 34) (.cells #[.bool hf, .bool hl, .bool hk] 71)
  clear h
  go_enter Tryz.func9, Tryz.ntmps9
  go_upto_region 2 with fail
  generalize (((w.alloc (.cells #[.int .u64 0, .slice none 0 0, .int .i64 0, .slice none 0 0, .slice none 0 0, .bool false, .int .u64 0, .int .i64 0, .slice none 0 0] 34)).alloc (.cells #[.int .i64 11, .int .i64 so, .int .i64 nn, .int .u64 (va : Nat), .int .u64 (wd : Nat), .bool hf, .bool hl, .bool hk] 40)).alloc (.cells #[.int .u64 0, .slice none 0 0, .int .i64 0, .slice none 0 0, .slice none 0 0, .bool false, .int .u64 0, .int .i64 0, .slice none 0 0] 34)).alloc (.cells #[.bool hf, .bool hl, .bool hk] 71) = W at *
  have HB := Hid.mk hB
  clear hB
  obtain ⟨o0, o1, o2, o3, o4, o5, o6, o7⟩ := cells8p gO
  obtain ⟨c0, c1, c2, c3, c4, c5, c6, c7, c8⟩ := cells9 gY
  obtain ⟨t0, t1, t2⟩ := cells3 gH
  have hwr : IntKind.u64.wrap ((va : Int) + (wd : Int)) = ((vq : Nat) : Int) := by rw [hvq]; show IntKind.u64.wrap _ = _; simp only [IntKind.wrap, IntKind.bits, IntKind.signed]; simp
  have HVQ := Hid.mk (show vq < 18446744073709551616 by omega)
  clear hvq
  have hb1 := below_new W (.cells #[.int .u64 (va : Nat), .bool hf, .bool hl, .bool hk, .int .u64 (vq : Nat), .bool hf, .bool hl, .bool hk] 94)
  have gP := heap_alloc_new W (.cells #[.int .u64 (va : Nat), .bool hf, .bool hl, .bool hk, .int .u64 (vq : Nat), .bool hf, .bool hl, .bool hk] 94)
  have hK1 : (w.heap.size + 1 + 1 + 1) < W.heap.size := block_lt gH
  have HW1 := Hid.mk (HW.out.own (.cells #[.int .u64 (va : Nat), .bool hf, .bool hl, .bool hk, .int .u64 (vq : Nat), .bool hf, .bool hl, .bool hk] 94))
  go_upto_region 40 with fail
  generalize W.alloc (.cells #[.int .u64 (va : Nat), .bool hf, .bool hl, .bool hk, .int .u64 (vq : Nat), .bool hf, .bool hl, .bool hk] 94) = W1 at *
  replace gY := block_later hb1 gY
  replace gO := block_later hb1 gO
  replace gR := block_later hb1 gR
  replace gH := block_later hb1 gH
  have hK2 : W.heap.size < W1.heap.size := block_lt gP
  clear o0 o1 o2 o3 o4 o5 o6 o7 c0 c1 c2 c3 c4 c5 c6 c7 c8 t0 t1 t2
  obtain ⟨o0, o1, o2, o3, o4, o5, o6, o7⟩ := cells8p gO
  obtain ⟨t0, t1, t2⟩ := cells3 gH
  have hb2 := below_new W1 (.cells #[.int .u64 (va : Nat), .bool hf, .bool hl, .bool hk, .int .u64 (vq : Nat), .bool hf, .bool hl, .bool hk] 97)
  have HB2 := Hid.mk (below_tr (below_tr HB.out hb1) hb2)
  have HW2 := Hid.mk (HW1.out.later hb2)
  have gY2 := block_later hb2 gY
  have gR2 := block_later hb2 gR
  have gO2 := block_later hb2 gO
  have gP2 := block_later hb2 gP
  clear HW HW1 gY gR gO gP gH hb1 hb2
  generalize hKK1 : W.heap.size = K1 at *
  generalize hKK2 : W1.heap.size = K2 at *
  go_upto_region 41 with
    first
    | (refine wpList_store_segTo rfl 32 _ _ rfl rfl w.heap.size 8 _ #[.slice (some ⟨K2, 0, none⟩) 2 2] rfl rfl rfl 34 _ gY2 (show 8 + 1 ≤ 9 by decide) info_ps (by simp [Value.oneCell']) #[.int .u64 0, .slice none 0 0, .int .i64 0, .slice none 0 0, .slice none 0 0, .bool false, .int .u64 0, .int .i64 0, .slice (some ⟨K2, 0, none⟩) 2 2] rfl ?_
       intro wy hry hty)
    | fail
  have HW3 := Hid.mk (HW2.out.put hty (fun i hi => ⟨by rw [hi]; simp, by rw [hi]; exact H0.out.bl.size⟩))
  have HB3 := Hid.mk (below_turn HB2.out hty (Nat.le_refl _))
  replace gR2 := block_turn hty gR2 (by omega)
  replace gO2 := block_turn hty gO2 (by omega)
  replace gP2 := block_turn hty gP2 (by omega)
  clear o0 o1 o2 o3 o4 o5 o6 o7 t0 t1 t2 HW2 HB2 gY2 hty
  obtain ⟨-, -, o2, -⟩ := cells8p gO2
  go_upto_region 43 with
    first
    | (refine wpList_store_segTo rfl 32 _ _ rfl rfl w.heap.size 8 _ #[.slice none 0 0] rfl rfl rfl 34 _ hry (show 8 + 1 ≤ 9 by decide) info_ps (by simp [Value.oneCell']) #[.int .u64 0, .slice none 0 0, .int .i64 0, .slice none 0 0, .slice none 0 0, .bool false, .int .u64 0, .int .i64 0, .slice none 0 0] rfl ?_
       intro wx hrx htx)
    | fail
  replace HW3 := Hid.mk (HW3.out.put htx (fun i hi => ⟨by rw [hi]; simp, by rw [hi]; exact H0.out.bl.size⟩))
  replace HB3 := Hid.mk (below_turn HB3.out htx (Nat.le_refl _))
  replace gR2 := block_turn htx gR2 (by omega)
  replace gP2 := block_turn htx gP2 (by omega)
  clear o2 gO2 hry htx
  obtain ⟨k0, k1, k2, k3, k4, k5, k6, k7, k8⟩ := cells9 hrx
  clear hrx
  refine wp_region_noPanic ?_
  refine wp_region_held_drew (S := (fun w' => w'.cell? ⟨w.heap.size, 0, none⟩ = some (.int .u64 0) ∧ w'.cell? ⟨w.heap.size, 1, none⟩ = some (.slice none 0 0) ∧ w'.cell? ⟨w.heap.size, 2, none⟩ = some (.int .i64 0) ∧ w'.cell? ⟨w.heap.size, 3, none⟩ = some (.slice none 0 0) ∧ w'.cell? ⟨w.heap.size, 4, none⟩ = some (.slice none 0 0) ∧ w'.cell? ⟨w.heap.size, 5, none⟩ = some (.bool false) ∧ w'.cell? ⟨w.heap.size, 6, none⟩ = some (.int .u64 0) ∧ w'.cell? ⟨w.heap.size, 7, none⟩ = some (.int .i64 0) ∧ w'.cell? ⟨w.heap.size, 8, none⟩ = some (.slice none 0 0))) (by kernel_rfl) ?_ (fun hHeld => ?_)
  · exact ⟨cell_later (Below.refl _ _).drew k0, cell_later (Below.refl _ _).drew k1, cell_later (Below.refl _ _).drew k2, cell_later (Below.refl _ _).drew k3, cell_later (Below.refl _ _).drew k4, cell_later (Below.refl _ _).drew k5, cell_later (Below.refl _ _).drew k6, cell_later (Below.refl _ _).drew k7, cell_later (Below.refl _ _).drew k8⟩
  replace k0 := cell_later (Below.refl _ wx).drew k0
  replace k1 := cell_later (Below.refl _ wx).drew k1
  replace k2 := cell_later (Below.refl _ wx).drew k2
  replace k3 := cell_later (Below.refl _ wx).drew k3
  replace k4 := cell_later (Below.refl _ wx).drew k4
  replace k5 := cell_later (Below.refl _ wx).drew k5
  replace k6 := cell_later (Below.refl _ wx).drew k6
  replace k7 := cell_later (Below.refl _ wx).drew k7
  replace k8 := cell_later (Below.refl _ wx).drew k8
  refine TR.take_at (i := 0) (v := ?_) 253 rfl rfl (by kernel_rfl) (by kernel_rfl) (by kernel_rfl) (fun _ _ _ h => h) (Or.inl ⟨by rfl, ?_⟩) (by assumption) ?_
  rotate_left
  · (intro w' hSw; (try dsimp only at hSw); go_simp; all_goals with_reducible rfl)
  try simp only [Act.put, List.setIfInBounds_toArray, List.set_cons_zero, List.set_cons_succ]
  refine TR.take_at (i := 1) (v := ?_) 254 rfl rfl (by kernel_rfl) (by kernel_rfl) (by kernel_rfl) (fun _ _ _ h => h) (Or.inl ⟨by rfl, ?_⟩) (by assumption) ?_
  rotate_left
  · (intro w' hSw; (try dsimp only at hSw); go_simp; all_goals with_reducible rfl)
  try simp only [Act.put, List.setIfInBounds_toArray, List.set_cons_zero, List.set_cons_succ]
  refine TR.take_at (i := 2) (v := ?_) 255 rfl rfl (by kernel_rfl) (by kernel_rfl) (by kernel_rfl) (fun _ _ _ h => h) (Or.inl ⟨by rfl, ?_⟩) (by assumption) ?_
  rotate_left
  · (intro w' hSw; (try dsimp only at hSw); go_simp; all_goals with_reducible rfl)
  try simp only [Act.put, List.setIfInBounds_toArray, List.set_cons_zero, List.set_cons_succ]
  replace HW3 := Hid.mk (HW3.out.later (Below.refl _ wx).drew)
  replace HB3 := Hid.mk (HB3.out.drew)
  replace gR2 := block_later (Below.refl _ wx).drew gR2
  replace gP2 := block_later (Below.refl _ wx).drew gP2
  generalize wx.drew = Wd at *
  refine wpAnyH_ready (rs := [3]) (by kernel_rfl) (by simp) ?_
  refine AllReadyH.cons rfl (fun K hK => ?_) AllReadyH.nil
  go_simp
  refine (HW3.out.does (fun X hM => plan_few hM [] 0 none (by simp) (Or.inl rfl) (PL.RdA.nil _ _) (fun p hp => absurd hp List.not_mem_nil))).mono ?_
  rintro e w5 ⟨rfl, h5, hk5⟩
  go_wp2_with fail
  replace k0 := hk5.cell (by simp) k0
  replace k1 := hk5.cell (by simp) k1
  replace k2 := hk5.cell (by simp) k2
  replace k3 := hk5.cell (by simp) k3
  replace k4 := hk5.cell (by simp) k4
  replace k5 := hk5.cell (by simp) k5
  replace k6 := hk5.cell (by simp) k6
  replace k7 := hk5.cell (by simp) k7
  replace k8 := hk5.cell (by simp) k8
  replace gR2 := hk5.row (by simp) gR2
  have H5 := Hid.mk (And.intro h5 hk5)
  clear h5 hk5
  refine hK.out _ _ ⟨k0, k1, k2, k3, k4, k5, k6, k7, k8⟩ (fun hHeldc0 => ?_)
  clear hK
  try simp only [Act.put, List.setIfInBounds_toArray, List.set_cons_zero, List.set_cons_succ]
  refine TR.take_at (i := 4) (v := ?_) 257 rfl rfl (by kernel_rfl) (by kernel_rfl) (by kernel_rfl) (fun _ _ _ h => h) (Or.inl ⟨by rfl, ?_⟩) (by assumption) ?_
  rotate_left
  · (intro w' hSw; (try dsimp only at hSw); go_simp; all_goals with_reducible rfl)
  try simp only [Act.put, List.setIfInBounds_toArray, List.set_cons_zero, List.set_cons_succ]
  refine TR.take_at (i := 5) (v := ?_) 258 rfl rfl (by kernel_rfl) (by kernel_rfl) (by kernel_rfl) (fun _ _ _ h => h) (Or.inl ⟨by rfl, ?_⟩) (by assumption) ?_
  rotate_left
  · (intro w' hSw; (try dsimp only at hSw); go_simp; all_goals with_reducible rfl)
  try simp only [Act.put, List.setIfInBounds_toArray, List.set_cons_zero, List.set_cons_succ]
  refine TR.take_at (i := 6) (v := ?_) 259 rfl rfl (by kernel_rfl) (by kernel_rfl) (by kernel_rfl) (fun _ _ _ h => h) (Or.inl ⟨by rfl, ?_⟩) (by assumption) ?_
  rotate_left
  · (intro w' hSw; (try dsimp only at hSw); go_simp; all_goals with_reducible rfl)
  try simp only [Act.put, List.setIfInBounds_toArray, List.set_cons_zero, List.set_cons_succ]
  refine wpAnyH_ready (rs := [7]) (by kernel_rfl) (by simp) ?_
  refine AllReadyH.cons rfl (fun K hK => ?_) AllReadyH.nil
  go_simp
  obtain ⟨arr, hmk⟩ := mk9 w5
  rw [hmk]
  have hbm := below_new w5 (.cells arr 94)
  have HO6 := Hid.mk (H5.out.1.later hbm)
  have HK6 := Hid.mk (((Kp.below H0.out (Kp.refl l w) HB3.out).trans (H5.out.2.less (fun g hg => by simp [hg]))).below H0.out hbm)
  replace gR2 := block_later hbm gR2
  replace k0 := cell_later hbm k0
  replace k1 := cell_later hbm k1
  replace k2 := cell_later hbm k2
  replace k3 := cell_later hbm k3
  replace k4 := cell_later hbm k4
  replace k5 := cell_later hbm k5
  replace k6 := cell_later hbm k6
  replace k7 := cell_later hbm k7
  replace k8 := cell_later hbm k8
  clear hmk hbm
  generalize w5.alloc (.cells arr 94) = w6 at *
  generalize w5.heap.size = KM at *
  go_simp
  refine hK.out _ _ ⟨k0, k1, k2, k3, k4, k5, k6, k7, k8⟩ (fun hHeldc1 => ?_)
  clear hK
  try simp only [Act.put, List.setIfInBounds_toArray, List.set_cons_zero, List.set_cons_succ]
  refine wpAnyH_ready (rs := [8]) (by kernel_rfl) (by simp) ?_
  refine AllReadyH.cons rfl (fun K hK => ?_) AllReadyH.nil
  go_simp
  refine (plan_many 9 9 (some ⟨KM, 0, none⟩) (by decide)).mono ?_
  rintro e w7 ⟨rfl, e7⟩
  obtain rfl : w6 = w7 := e7
  go_wp2_with fail
  refine hK.out _ _ ⟨k0, k1, k2, k3, k4, k5, k6, k7, k8⟩ (fun hHeldc2 => ?_)
  clear hK
  try simp only [Act.put, List.setIfInBounds_toArray, List.set_cons_zero, List.set_cons_succ]
  refine TR.take_at (i := 9) (v := ?_) 262 rfl rfl (by kernel_rfl) (by kernel_rfl) (by kernel_rfl) (fun _ _ _ h => h) (Or.inl ⟨by rfl, ?_⟩) (by assumption) ?_
  rotate_left
  · (intro w' hSw; (try dsimp only at hSw); go_simp; all_goals with_reducible rfl)
  try simp only [Act.put, List.setIfInBounds_toArray, List.set_cons_zero, List.set_cons_succ]
  refine TR.take_at (i := 10) (v := ?_) 263 rfl rfl (by kernel_rfl) (by kernel_rfl) (by kernel_rfl) (fun _ _ _ h => h) (Or.inl ⟨by rfl, ?_⟩) (by assumption) ?_
  rotate_left
  · (intro w' hSw; (try dsimp only at hSw); go_simp; all_goals with_reducible rfl)
  try simp only [Act.put, List.setIfInBounds_toArray, List.set_cons_zero, List.set_cons_succ]
  have hne0 : ¬ w.heap.size = (w.heap.size + 1 + 1) := by omega
  have hne1 : ¬ w.heap.size = (w.heap.size + 1 + 1) := by omega
  have hne2 : ¬ w.heap.size = (w.heap.size + 1 + 1) := by omega
  have hne3 : ¬ w.heap.size = (w.heap.size + 1 + 1) := by omega
  have hne4 : ¬ w.heap.size = (w.heap.size + 1 + 1) := by omega
  have hne5 : ¬ w.heap.size = (w.heap.size + 1 + 1) := by omega
  have hne6 : ¬ w.heap.size = (w.heap.size + 1 + 1) := by omega
  have hne7 : ¬ w.heap.size = (w.heap.size + 1 + 1) := by omega
  have hne8 : ¬ w.heap.size = (w.heap.size + 1 + 1) := by omega
  refine wpAnyH_ready (rs := [11]) (by kernel_rfl) (by simp) ?_
  refine AllReadyH.cons rfl (fun K hK => ?_) AllReadyH.nil
  refine step_store_seg rfl rfl 34 _ _ rfl (w.heap.size + 1 + 1) 0 _ #[.int .u64 0, .slice none 0 0, .int .i64 0, .slice none 0 0, .slice none 0 0, .bool false, .int .u64 0, .int .i64 0, .slice none 0 0] rfl rfl rfl 34 _ gR2 (show 0 + 9 ≤ 9 by decide) info_X9 (by simp [Value.oneCell']) #[.int .u64 0, .slice none 0 0, .int .i64 0, .slice none 0 0, .slice none 0 0, .bool false, .int .u64 0, .int .i64 0, .slice none 0 0] rfl ?_
  intro wz hrz htz
  replace k0 := TR.turn_cell htz hne0 k0
  replace k1 := TR.turn_cell htz hne1 k1
  replace k2 := TR.turn_cell htz hne2 k2
  replace k3 := TR.turn_cell htz hne3 k3
  replace k4 := TR.turn_cell htz hne4 k4
  replace k5 := TR.turn_cell htz hne5 k5
  replace k6 := TR.turn_cell htz hne6 k6
  replace k7 := TR.turn_cell htz hne7 k7
  replace k8 := TR.turn_cell htz hne8 k8
  refine hK.out _ _ ⟨k0, k1, k2, k3, k4, k5, k6, k7, k8⟩ (fun hHeldz => ?_)
  clear hK
  try simp only [Act.put, List.setIfInBounds_toArray, List.set_cons_zero, List.set_cons_succ]
  clear k0 k1 k2 k3 k4 k5 k6 k7 k8
  refine TR.take_at (i := 12) (v := ?_) 7 rfl rfl (by kernel_rfl) (by kernel_rfl) (by kernel_rfl) (fun _ _ _ h => h) (Or.inl ⟨by rfl, ?_⟩) (by assumption) ?_
  rotate_left
  · (intro w' hSw; (try dsimp only at hSw); go_simp; all_goals with_reducible rfl)
  try simp only [Act.put, List.setIfInBounds_toArray, List.set_cons_zero, List.set_cons_succ]
  refine wpAnyH_done (by kernel_rfl) ?_ _
  refine NoPanic.normal ?_
  go_wp2_with fail
  refine bodyPost_ret (TR.res_row_tmp (p := 6) (u := 7) rfl _ _ (w.heap.size + 1 + 1) 34 _ _ _ rfl hrz Tryz.underlying34 rfl info_X9) rfl ⟨⟨_, _, rfl⟩, ?_⟩
  exact H0.out.fin3 HK6.out (HO6.out.mono (Nat.le_succ n)) htz (fun g hg => by simp [hg]) (by simp) (Nat.le_trans (Nat.le_succ _) (Nat.le_succ _))
end Go.Proofs.YtndjhedoandinaaGreatDoor.MM
