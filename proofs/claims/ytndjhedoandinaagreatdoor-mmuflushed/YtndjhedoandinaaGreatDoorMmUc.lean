/- Machines: the law's step, with the document's machine of noughts: kinds 11y. -/
import Derived.Test.YtndjhedoandinaaGreatDoorMmUa

/- Machines: the law's step, with the document's machine of noughts: kinds 1e, 1n. -/
namespace Go.Proofs.YtndjhedoandinaaGreatDoor.MM
open Go.RowKit Go.Maps

set_option maxHeartbeats 4000000 in
set_option maxRecDepth 100000 in
theorem step_1e {w0 w : World} {l : List Nat} {x a n S : Nat} {most : Int} {s : St} (h : One w0 w l x a n S most s) (so nn : Int) (va wd : Nat) (hf hl hk : Bool) (hva : va < 18446744073709551616) (hwd : wd < 18446744073709551616) (hn : n < 100000000) (kz : Int) (HZ : Hid (∀ W, Calls Tryz.prog 27 #[.agg yZ, .int .i64 so, .int .u64 va, .int .u64 wd, .agg #[.bool hf, .bool hl, .bool hk]] W fun r w' => r = .returned (.tuple #[.agg yZ, .agg #[.int .i64 kz, .int .i64 0], .int .u64 0]) ∧ Below W.heap.size W w')) (hq : (decide ((accF (leafO S s va ⟨hf, hl, hk⟩) so).1 = kz) && decide ((accF (leafO S s va ⟨hf, hl, hk⟩) so).2 = 0)) = true) :
    Calls Tryz.prog 9 #[.pointer (some ⟨x, 0, none⟩), .agg yZ, .agg #[.int .i64 1, .int .i64 so, .int .i64 nn, .int .u64 (va : Nat), .int .u64 (wd : Nat), .bool hf, .bool hl, .bool hk]] w fun r w' => (∃ c b, r = .returned (.tuple #[.agg c, .bool b])) ∧ StO w0 w l x a (n + 1) S most w' := by
  have H0 := Hid.mk h
  have HW := Hid.mk (h.own4 (.cells #[.int .u64 0, .slice none 0 0, .int .i64 0, .slice none 0 0, .slice none 0 0, .bool false, .int .u64 0, .int .i64 0, .slice none 0 0] 34) (.cells #[.int .i64 1, .int .i64 so, .int .i64 nn, .int .u64 (va : Nat), .int .u64 (wd : Nat), .bool hf, .bool hl, .bool hk] 40) (.cells #[.int .u64 0, .slice none 0 0, .int .i64 0, .slice none 0 0, .slice none 0 0, .bool false, .int .u64 0, .int .i64 0, .slice none 0 0] 34) (.cells #[.bool hf, .bool hl, .bool hk] 71))
  have gY := heap4_0 w (.cells #[.int .u64 0, .slice none 0 0, .int .i64 0, .slice none 0 0, .slice none 0 0, .bool false, .int .u64 0, .int .i64 0, .slice none 0 0] 34) (.cells #[.int .i64 1, .int .i64 so, .int .i64 nn, .int .u64 (va : Nat), .int .u64 (wd : Nat), .bool hf, .bool hl, .bool hk] 40) (.cells #[.int .u64 0, .slice none 0 0, .int .i64 0, .slice none 0 0, .slice none 0 0, .bool false, .int .u64 0, .int .i64 0, .slice none 0 0] 34) (.cells #[.bool hf, .bool hl, .bool hk] 71)
  have gO := heap4_1 w (.cells #[.int .u64 0, .slice none 0 0, .int .i64 0, .slice none 0 0, .slice none 0 0, .bool false, .int .u64 0, .int .i64 0, .slice none 0 0] 34) (.cells #[.int .i64 1, .int .i64 so, .int .i64 nn, .int .u64 (va : Nat), .int .u64 (wd : Nat), .bool hf, .bool hl, .bool hk] 40) (.cells #[.int .u64 0, .slice none 0 0, .int .i64 0, .slice none 0 0, .slice none 0 0, .bool false, .int .u64 0, .int .i64 0, .slice none 0 0] 34) (.cells #[.bool hf, .bool hl, .bool hk] 71)
  have gR := heap4_2 w (.cells #[.int .u64 0, .slice none 0 0, .int .i64 0, .slice none 0 0, .slice none 0 0, .bool false, .int .u64 0, .int .i64 0, .slice none 0 0] 34) (.cells #[.int .i64 1, .int .i64 so, .int .i64 nn, .int .u64 (va : Nat), .int .u64 (wd : Nat), .bool hf, .bool hl, .bool hk] 40) (.cells #[.int .u64 0, .slice none 0 0, .int .i64 0, .slice none 0 0, .slice none 0 0, .bool false, .int .u64 0, .int .i64 0, .slice none 0 0] 34) (.cells #[.bool hf, .bool hl, .bool hk] 71)
  have gH := heap4_3 w (.cells #[.int .u64 0, .slice none 0 0, .int .i64 0, .slice none 0 0, .slice none 0 0, .bool false, .int .u64 0, .int .i64 0, .slice none 0 0] 34) (.cells #[.int .i64 1, .int .i64 so, .int .i64 nn, .int .u64 (va : Nat), .int .u64 (wd : Nat), .bool hf, .bool hl, .bool hk] 40) (.cells #[.int .u64 0, .slice none 0 0, .int .i64 0, .slice none 0 0, .slice none 0 0, .bool false, .int .u64 0, .int .i64 0, .slice none 0 0] 34) (.cells #[.bool hf, .bool hl, .bool hk] 71)
  have hB := below4 w (.cells #[.int .u64 0, .slice none 0 0, .int .i64 0, .slice none 0 0, .slice none 0 0, .bool false, .int .u64 0, .int .i64 0, .slice none 0 0] 34) (.cells #[.int .i64 1, .int .i64 so, .int .i64 nn, .int .u64 (va : Nat), .int .u64 (wd : Nat), .bool hf, .bool hl, .bool hk] 40) (.cells #[.int .u64 0, .slice none 0 0, .int .i64 0, .slice none 0 0, .slice none 0 0, .bool false, .int .u64 0, .int .i64 0, .slice none 0 0] 34) (.cells #[.bool hf, .bool hl, .bool hk] 71)
  clear h
  have HAC := Hid.mk (fun X W (hM : Mch w0 W X x a n S most s) => access_c hM hn so va wd hva hwd ⟨hf, hl, hk⟩)
  generalize accF (leafO S s va ⟨hf, hl, hk⟩) so = F at *
  generalize accW s.f (leafO S s va ⟨hf, hl, hk⟩) so va = vw at *
  obtain ⟨f1, f2⟩ := F
  simp only [resV] at HAC
  have hqq := fun W => eqF2 f1 f2 kz 0 W
  simp only at hq
  rw [hq] at hqq
  clear hq
  go_enter Tryz.func9, Tryz.ntmps9
  go_upto_region 2 with fail
  generalize (((w.alloc (.cells #[.int .u64 0, .slice none 0 0, .int .i64 0, .slice none 0 0, .slice none 0 0, .bool false, .int .u64 0, .int .i64 0, .slice none 0 0] 34)).alloc (.cells #[.int .i64 1, .int .i64 so, .int .i64 nn, .int .u64 (va : Nat), .int .u64 (wd : Nat), .bool hf, .bool hl, .bool hk] 40)).alloc (.cells #[.int .u64 0, .slice none 0 0, .int .i64 0, .slice none 0 0, .slice none 0 0, .bool false, .int .u64 0, .int .i64 0, .slice none 0 0] 34)).alloc (.cells #[.bool hf, .bool hl, .bool hk] 71) = W at *
  have HB := Hid.mk hB
  clear hB
  obtain ⟨o0, o1, o2, o3, o4, o5, o6, o7⟩ := cells8p gO
  obtain ⟨c0, c1, c2, c3, c4, c5, c6, c7, c8⟩ := cells9 gY
  obtain ⟨t0, t1, t2⟩ := cells3 gH
  go_wp2_with fail
  refine (HW.out.does (fun X hM => HAC.out X W hM)).mono ?_
  rintro e w5 ⟨rfl, h5, hk5⟩
  replace gY := hk5.row (by simp) gY
  replace gO := hk5.row (by simp) gO
  replace gR := hk5.row (by simp) gR
  replace gH := hk5.row (by simp) gH
  have H5 := Hid.mk (And.intro h5 hk5)
  clear h5 hk5 HW o0 o1 o2 o3 o4 o5 o6 o7 c0 c1 c2 c3 c4 c5 c6 c7 c8 t0 t1 t2
  obtain ⟨o0, o1, o2, o3, o4, o5, o6, o7⟩ := cells8p gO
  obtain ⟨c0, c1, c2, c3, c4, c5, c6, c7, c8⟩ := cells9 gY
  obtain ⟨t0, t1, t2⟩ := cells3 gH
  have hbA := below_new w5 (.cells #[.int .i64 f1, .int .i64 f2, .int .u64 (vw : Nat)] 50)
  have gA := heap_alloc_new w5 (.cells #[.int .i64 f1, .int .i64 f2, .int .u64 (vw : Nat)] 50)
  clear o0 o1 o2 o3 o4 o5 o6 o7 c0 c1 c2 c3 c4 c5 c6 c7 c8 t0 t1 t2
  go_upto_region 5 with fail
  generalize w5.alloc (.cells #[.int .i64 f1, .int .i64 f2, .int .u64 (vw : Nat)] 50) = w5b at *
  replace gY := block_later hbA gY
  replace gO := block_later hbA gO
  replace gR := block_later hbA gR
  replace gH := block_later hbA gH
  obtain ⟨o0, o1, o2, o3, o4, o5, o6, o7⟩ := cells8p gO
  obtain ⟨c0, c1, c2, c3, c4, c5, c6, c7, c8⟩ := cells9 gY
  obtain ⟨t0, t1, t2⟩ := cells3 gH
  go_wp2_with fail
  refine (HZ.out w5b).mono ?_
  rintro e w6 ⟨rfl, hb6⟩
  have hk2 : w5.heap.size < w6.heap.size := Nat.lt_of_lt_of_le (block_lt gA) hb6.size
  have hbT := below2 w6 (.cells #[.int .u64 0, .slice none 0 0, .int .i64 0, .slice none 0 0, .slice none 0 0, .bool false, .int .u64 0, .int .i64 0, .slice none 0 0] 34) (.cells #[.int .i64 kz, .int .i64 0] 74)
  have gT := heap2_0 w6 (.cells #[.int .u64 0, .slice none 0 0, .int .i64 0, .slice none 0 0, .slice none 0 0, .bool false, .int .u64 0, .int .i64 0, .slice none 0 0] 34) (.cells #[.int .i64 kz, .int .i64 0] 74)
  have gU := heap_alloc2_new w6 (.cells #[.int .u64 0, .slice none 0 0, .int .i64 0, .slice none 0 0, .slice none 0 0, .bool false, .int .u64 0, .int .i64 0, .slice none 0 0] 34) (.cells #[.int .i64 kz, .int .i64 0] 74)
  clear o0 o1 o2 o3 o4 o5 o6 o7 c0 c1 c2 c3 c4 c5 c6 c7 c8 t0 t1 t2
  go_upto_region 6 with fail
  generalize (w6.alloc (.cells #[.int .u64 0, .slice none 0 0, .int .i64 0, .slice none 0 0, .slice none 0 0, .bool false, .int .u64 0, .int .i64 0, .slice none 0 0] 34)).alloc (.cells #[.int .i64 kz, .int .i64 0] 74) = w7 at *
  replace gA := block_later hbT (block_later hb6 gA)
  replace gR := block_later hbT (block_later hb6 gR)
  have HOn := Hid.mk (H5.out.1.later (below_tr (below_tr hbA hb6) hbT))
  have HKp := Hid.mk (((Kp.below H0.out (Kp.refl l w) HB.out).trans (H5.out.2.less (fun g hg => by simp [hg]))).below H0.out (below_tr (below_tr hbA hb6) hbT))
  have hr5 : (w.heap.size + 1 + 1) < w5.heap.size := by obtain ⟨_, _, hx⟩ := H5.out.1; exact (hx _ (by simp)).1
  clear hbA hb6 hbT gY gO gH
  generalize w6.heap.size = K2 at *
  generalize w5.heap.size = K1 at *
  obtain ⟨k0, k1, k2, k3, k4, k5, k6, k7, k8⟩ := cells9 gT
  obtain ⟨k9, k10, k11⟩ := cells3 gA
  obtain ⟨k12, k13⟩ := TR.row2c gU
  clear gT gA gU
  refine wp_region_noPanic ?_
  refine wp_region_held_drew (S := (fun w' => w'.cell? ⟨K2, 0, none⟩ = some (.int .u64 0) ∧ w'.cell? ⟨K2, 1, none⟩ = some (.slice none 0 0) ∧ w'.cell? ⟨K2, 2, none⟩ = some (.int .i64 0) ∧ w'.cell? ⟨K2, 3, none⟩ = some (.slice none 0 0) ∧ w'.cell? ⟨K2, 4, none⟩ = some (.slice none 0 0) ∧ w'.cell? ⟨K2, 5, none⟩ = some (.bool false) ∧ w'.cell? ⟨K2, 6, none⟩ = some (.int .u64 0) ∧ w'.cell? ⟨K2, 7, none⟩ = some (.int .i64 0) ∧ w'.cell? ⟨K2, 8, none⟩ = some (.slice none 0 0) ∧ w'.cell? ⟨K1, 0, none⟩ = some (.int .i64 f1) ∧ w'.cell? ⟨K1, 1, none⟩ = some (.int .i64 f2) ∧ w'.cell? ⟨K1, 2, none⟩ = some (.int .u64 (vw : Nat)) ∧ w'.cell? ⟨K2 + 1, 0, none⟩ = some (.int .i64 kz) ∧ w'.cell? ⟨K2 + 1, 1, none⟩ = some (.int .i64 0))) (by kernel_rfl) ?_ (fun hHeld => ?_)
  · exact ⟨cell_later (Below.refl _ _).drew k0, cell_later (Below.refl _ _).drew k1, cell_later (Below.refl _ _).drew k2, cell_later (Below.refl _ _).drew k3, cell_later (Below.refl _ _).drew k4, cell_later (Below.refl _ _).drew k5, cell_later (Below.refl _ _).drew k6, cell_later (Below.refl _ _).drew k7, cell_later (Below.refl _ _).drew k8, cell_later (Below.refl _ _).drew k9, cell_later (Below.refl _ _).drew k10, cell_later (Below.refl _ _).drew k11, cell_later (Below.refl _ _).drew k12, cell_later (Below.refl _ _).drew k13⟩
  replace k0 := cell_later (Below.refl _ w7).drew k0
  replace k1 := cell_later (Below.refl _ w7).drew k1
  replace k2 := cell_later (Below.refl _ w7).drew k2
  replace k3 := cell_later (Below.refl _ w7).drew k3
  replace k4 := cell_later (Below.refl _ w7).drew k4
  replace k5 := cell_later (Below.refl _ w7).drew k5
  replace k6 := cell_later (Below.refl _ w7).drew k6
  replace k7 := cell_later (Below.refl _ w7).drew k7
  replace k8 := cell_later (Below.refl _ w7).drew k8
  replace k9 := cell_later (Below.refl _ w7).drew k9
  replace k10 := cell_later (Below.refl _ w7).drew k10
  replace k11 := cell_later (Below.refl _ w7).drew k11
  replace k12 := cell_later (Below.refl _ w7).drew k12
  replace k13 := cell_later (Below.refl _ w7).drew k13
  replace gR := block_later (Below.refl _ w7).drew gR
  refine TR.take_at (i := 0) (v := ?_) 49 rfl rfl (by kernel_rfl) (by kernel_rfl) (by kernel_rfl) (fun _ _ _ h => h) (Or.inl ⟨by rfl, ?_⟩) (by assumption) ?_
  rotate_left
  · (intro w' hSw; (try dsimp only at hSw); go_simp; all_goals with_reducible rfl)
  try simp only [Act.put, List.setIfInBounds_toArray, List.set_cons_zero, List.set_cons_succ]
  refine TR.take_at (i := 1) (v := ?_) 50 rfl rfl (by kernel_rfl) (by kernel_rfl) (by kernel_rfl) (fun _ _ _ h => h) (Or.inl ⟨by rfl, ?_⟩) (by assumption) ?_
  rotate_left
  · (intro w' hSw; (try dsimp only at hSw); go_simp; all_goals with_reducible rfl)
  try simp only [Act.put, List.setIfInBounds_toArray, List.set_cons_zero, List.set_cons_succ]
  refine TR.take_at (i := 2) (v := ?_) 51 rfl rfl (by kernel_rfl) (by kernel_rfl) (by kernel_rfl) (fun _ _ _ h => h) (Or.inl ⟨by rfl, ?_⟩) (by assumption) ?_
  rotate_left
  · (intro w' hSw; (try dsimp only at hSw); go_simp; all_goals with_reducible rfl)
  try simp only [Act.put, List.setIfInBounds_toArray, List.set_cons_zero, List.set_cons_succ]
  refine TR.take_at (i := 3) (v := ?_) 52 rfl rfl (by kernel_rfl) (by kernel_rfl) (by kernel_rfl) (fun _ _ _ h => h) (Or.inl ⟨by rfl, ?_⟩) (by assumption) ?_
  rotate_left
  · (intro w' hSw; (try dsimp only at hSw); go_simp; all_goals with_reducible rfl)
  try simp only [Act.put, List.setIfInBounds_toArray, List.set_cons_zero, List.set_cons_succ]
  refine TR.take_at (i := 4) (v := ?_) 53 rfl rfl (by kernel_rfl) (by kernel_rfl) (by kernel_rfl) (fun _ _ _ h => h) (Or.inl ⟨by rfl, ?_⟩) (by assumption) ?_
  rotate_left
  · (intro w' hSw; (try dsimp only at hSw); go_simp; all_goals with_reducible rfl)
  try simp only [Act.put, List.setIfInBounds_toArray, List.set_cons_zero, List.set_cons_succ]
  refine TR.take_at (i := 5) (v := ?_) 54 rfl rfl (by kernel_rfl) (by kernel_rfl) (by kernel_rfl) (fun _ _ _ h => h) (Or.inl ⟨by rfl, ?_⟩) (by assumption) ?_
  rotate_left
  · (intro w' hSw; (try dsimp only at hSw); go_simp; all_goals with_reducible rfl)
  try simp only [Act.put, List.setIfInBounds_toArray, List.set_cons_zero, List.set_cons_succ]
  refine TR.take_at (i := 6) (v := ?_) 55 rfl rfl (by kernel_rfl) (by kernel_rfl) (by kernel_rfl) (fun _ _ _ h => h) (Or.inl ⟨by rfl, ?_⟩) (by assumption) ?_
  rotate_left
  · (intro w' hSw; (try dsimp only at hSw); go_simp; all_goals with_reducible rfl)
  try simp only [Act.put, List.setIfInBounds_toArray, List.set_cons_zero, List.set_cons_succ]
  refine TR.take_at (i := 7) (v := ?_) 56 rfl rfl (by kernel_rfl) (by kernel_rfl) (by kernel_rfl) (fun _ _ _ h => h) (Or.inl ⟨by rfl, ?_⟩) (by assumption) ?_
  rotate_left
  · (intro w' hSw; (try dsimp only at hSw); go_simp; all_goals with_reducible rfl)
  try simp only [Act.put, List.setIfInBounds_toArray, List.set_cons_zero, List.set_cons_succ]
  refine TR.take_at (i := 8) (v := ?_) 57 rfl rfl (by kernel_rfl) (by kernel_rfl) (by kernel_rfl) (fun _ _ _ h => h) (Or.inl ⟨by rfl, ?_⟩) (by assumption) ?_
  rotate_left
  · (intro w' hSw; (try dsimp only at hSw); go_simp; all_goals with_reducible rfl)
  try simp only [Act.put, List.setIfInBounds_toArray, List.set_cons_zero, List.set_cons_succ]
  refine TR.take_at (i := 9) (v := ?_) 58 rfl rfl (by kernel_rfl) (by kernel_rfl) (by kernel_rfl) (fun _ _ _ h => h) (Or.inl ⟨by rfl, ?_⟩) (by assumption) ?_
  rotate_left
  · (intro w' hSw; (try dsimp only at hSw); go_simp; all_goals with_reducible rfl)
  try simp only [Act.put, List.setIfInBounds_toArray, List.set_cons_zero, List.set_cons_succ]
  refine TR.take_at (i := 10) (v := ?_) 59 rfl rfl (by kernel_rfl) (by kernel_rfl) (by kernel_rfl) (fun _ _ _ h => h) (Or.inl ⟨by rfl, ?_⟩) (by assumption) ?_
  rotate_left
  · (intro w' hSw; (try dsimp only at hSw); go_simp; all_goals with_reducible rfl)
  try simp only [Act.put, List.setIfInBounds_toArray, List.set_cons_zero, List.set_cons_succ]
  have hne0 : ¬ K2 = (w.heap.size + 1 + 1) := by omega
  have hne1 : ¬ K2 = (w.heap.size + 1 + 1) := by omega
  have hne2 : ¬ K2 = (w.heap.size + 1 + 1) := by omega
  have hne3 : ¬ K2 = (w.heap.size + 1 + 1) := by omega
  have hne4 : ¬ K2 = (w.heap.size + 1 + 1) := by omega
  have hne5 : ¬ K2 = (w.heap.size + 1 + 1) := by omega
  have hne6 : ¬ K2 = (w.heap.size + 1 + 1) := by omega
  have hne7 : ¬ K2 = (w.heap.size + 1 + 1) := by omega
  have hne8 : ¬ K2 = (w.heap.size + 1 + 1) := by omega
  have hne9 : ¬ K1 = (w.heap.size + 1 + 1) := by omega
  have hne10 : ¬ K1 = (w.heap.size + 1 + 1) := by omega
  have hne11 : ¬ K1 = (w.heap.size + 1 + 1) := by omega
  have hne12 : ¬ (K2 + 1) = (w.heap.size + 1 + 1) := by omega
  have hne13 : ¬ (K2 + 1) = (w.heap.size + 1 + 1) := by omega
  refine wpAnyH_ready (rs := [11]) (by kernel_rfl) (by simp) ?_
  refine AllReadyH.cons rfl (fun K hK => ?_) AllReadyH.nil
  refine step_store_seg rfl rfl 34 _ _ rfl (w.heap.size + 1 + 1) 0 _ #[.int .u64 0, .slice none 0 0, .int .i64 0, .slice none 0 0, .slice none 0 0, .bool false, .int .u64 0, .int .i64 0, .slice none 0 0] rfl rfl rfl 34 _ gR (show 0 + 9 ≤ 9 by decide) info_X9 (by simp [Value.oneCell']) #[.int .u64 0, .slice none 0 0, .int .i64 0, .slice none 0 0, .slice none 0 0, .bool false, .int .u64 0, .int .i64 0, .slice none 0 0] rfl ?_
  intro wz hrz htz
  replace k0 := TR.turn_cell htz hne0 k0
  replace k1 := TR.turn_cell htz hne1 k1
  replace k2 := TR.turn_cell htz hne2 k2
  replace k3 := TR.turn_cell htz hne3 k3
  replace k4 := TR.turn_cell htz hne4 k4
  replace k5 := TR.turn_cell htz hne5 k5
  replace k6 := TR.turn_cell htz hne6 k6
  replace k7 := TR.turn_cell htz hne7 k7
  replace k8 := TR.turn_cell htz hne8 k8
  replace k9 := TR.turn_cell htz hne9 k9
  replace k10 := TR.turn_cell htz hne10 k10
  replace k11 := TR.turn_cell htz hne11 k11
  replace k12 := TR.turn_cell htz hne12 k12
  replace k13 := TR.turn_cell htz hne13 k13
  refine hK.out _ _ ⟨k0, k1, k2, k3, k4, k5, k6, k7, k8, k9, k10, k11, k12, k13⟩ (fun hHeldz => ?_)
  clear hK
  try simp only [Act.put, List.setIfInBounds_toArray, List.set_cons_zero, List.set_cons_succ]
  clear k0 k1 k2 k3 k4 k5 k6 k7 k8 k9 k10 k11 k12 k13
  refine TR.take_at (i := 12) (v := ?_) 7 rfl rfl (by kernel_rfl) (by kernel_rfl) (by kernel_rfl) (fun _ _ _ h => h) (Or.inl ⟨by rfl, ?_⟩) (by assumption) ?_
  rotate_left
  · (intro w' hSw; (try dsimp only at hSw); go_simp; all_goals with_reducible rfl)
  try simp only [Act.put, List.setIfInBounds_toArray, List.set_cons_zero, List.set_cons_succ]
  refine wpAnyH_done (by kernel_rfl) ?_ _
  refine NoPanic.normal ?_
  go_wp2_with fail
  refine bodyPost_ret (TR.res_row_tmp (p := 6) (u := 7) rfl _ _ (w.heap.size + 1 + 1) 34 _ _ _ rfl hrz Tryz.underlying34 rfl info_X9) rfl ⟨⟨_, _, rfl⟩, ?_⟩
  exact H0.out.fin3 (HKp.out.below H0.out (Below.refl _ _).drew) (HOn.out.later (Below.refl _ _).drew) htz (fun g hg => by simp [hg]) (by simp) (by omega)

set_option maxHeartbeats 4000000 in
set_option maxRecDepth 100000 in
theorem step_1n {w0 w : World} {l : List Nat} {x a n S : Nat} {most : Int} {s : St} (h : One w0 w l x a n S most s) (so nn : Int) (va wd : Nat) (hf hl hk : Bool) (hva : va < 18446744073709551616) (hwd : wd < 18446744073709551616) (hn : n < 100000000) (kz : Int) (HZ : Hid (∀ W, Calls Tryz.prog 27 #[.agg yZ, .int .i64 so, .int .u64 va, .int .u64 wd, .agg #[.bool hf, .bool hl, .bool hk]] W fun r w' => r = .returned (.tuple #[.agg yZ, .agg #[.int .i64 kz, .int .i64 0], .int .u64 0]) ∧ Below W.heap.size W w')) (hq : (decide ((accF (leafO S s va ⟨hf, hl, hk⟩) so).1 = kz) && decide ((accF (leafO S s va ⟨hf, hl, hk⟩) so).2 = 0)) = false) :
    Calls Tryz.prog 9 #[.pointer (some ⟨x, 0, none⟩), .agg yZ, .agg #[.int .i64 1, .int .i64 so, .int .i64 nn, .int .u64 (va : Nat), .int .u64 (wd : Nat), .bool hf, .bool hl, .bool hk]] w fun r w' => (∃ c b, r = .returned (.tuple #[.agg c, .bool b])) ∧ StO w0 w l x a (n + 1) S most w' := by
  have H0 := Hid.mk h
  have HW := Hid.mk (h.own4 (.cells #[.int .u64 0, .slice none 0 0, .int .i64 0, .slice none 0 0, .slice none 0 0, .bool false, .int .u64 0, .int .i64 0, .slice none 0 0] 34) (.cells #[.int .i64 1, .int .i64 so, .int .i64 nn, .int .u64 (va : Nat), .int .u64 (wd : Nat), .bool hf, .bool hl, .bool hk] 40) (.cells #[.int .u64 0, .slice none 0 0, .int .i64 0, .slice none 0 0, .slice none 0 0, .bool false, .int .u64 0, .int .i64 0, .slice none 0 0] 34) (.cells #[.bool hf, .bool hl, .bool hk] 71))
  have gY := heap4_0 w (.cells #[.int .u64 0, .slice none 0 0, .int .i64 0, .slice none 0 0, .slice none 0 0, .bool false, .int .u64 0, .int .i64 0, .slice none 0 0] 34) (.cells #[.int .i64 1, .int .i64 so, .int .i64 nn, .int .u64 (va : Nat), .int .u64 (wd : Nat), .bool hf, .bool hl, .bool hk] 40) (.cells #[.int .u64 0, .slice none 0 0, .int .i64 0, .slice none 0 0, .slice none 0 0, .bool false, .int .u64 0, .int .i64 0, .slice none 0 0] 34) (.cells #[.bool hf, .bool hl, .bool hk] 71)
  have gO := heap4_1 w (.cells #[.int .u64 0, .slice none 0 0, .int .i64 0, .slice none 0 0, .slice none 0 0, .bool false, .int .u64 0, .int .i64 0, .slice none 0 0] 34) (.cells #[.int .i64 1, .int .i64 so, .int .i64 nn, .int .u64 (va : Nat), .int .u64 (wd : Nat), .bool hf, .bool hl, .bool hk] 40) (.cells #[.int .u64 0, .slice none 0 0, .int .i64 0, .slice none 0 0, .slice none 0 0, .bool false, .int .u64 0, .int .i64 0, .slice none 0 0] 34) (.cells #[.bool hf, .bool hl, .bool hk] 71)
  have gR := heap4_2 w (.cells #[.int .u64 0, .slice none 0 0, .int .i64 0, .slice none 0 0, .slice none 0 0, .bool false, .int .u64 0, .int .i64 0, .slice none 0 0] 34) (.cells #[.int .i64 1, .int .i64 so, .int .i64 nn, .int .u64 (va : Nat), .int .u64 (wd : Nat), .bool hf, .bool hl, .bool hk] 40) (.cells #[.int .u64 0, .slice none 0 0, .int .i64 0, .slice none 0 0, .slice none 0 0, .bool false, .int .u64 0, .int .i64 0, .slice none 0 0] 34) (.cells #[.bool hf, .bool hl, .bool hk] 71)
  have gH := heap4_3 w (.cells #[.int .u64 0, .slice none 0 0, .int .i64 0, .slice none 0 0, .slice none 0 0, .bool false, .int .u64 0, .int .i64 0, .slice none 0 0] 34) (.cells #[.int .i64 1, .int .i64 so, .int .i64 nn, .int .u64 (va : Nat), .int .u64 (wd : Nat), .bool hf, .bool hl, .bool hk] 40) (.cells #[.int .u64 0, .slice none 0 0, .int .i64 0, .slice none 0 0, .slice none 0 0, .bool false, .int .u64 0, .int .i64 0, .slice none 0 0] 34) (.cells #[.bool hf, .bool hl, .bool hk] 71)
  have hB := below4 w (.cells #[.int .u64 0, .slice none 0 0, .int .i64 0, .slice none 0 0, .slice none 0 0, .bool false, .int .u64 0, .int .i64 0, .slice none 0 0] 34) (.cells #[.int .i64 1, .int .i64 so, .int .i64 nn, .int .u64 (va : Nat), .int .u64 (wd : Nat), .bool hf, .bool hl, .bool hk] 40) (.cells #[.int .u64 0, .slice none 0 0, .int .i64 0, .slice none 0 0, .slice none 0 0, .bool false, .int .u64 0, .int .i64 0, .slice none 0 0] 34) (.cells #[.bool hf, .bool hl, .bool hk] 71)
  clear h
  have HAC := Hid.mk (fun X W (hM : Mch w0 W X x a n S most s) => access_c hM hn so va wd hva hwd ⟨hf, hl, hk⟩)
  generalize accF (leafO S s va ⟨hf, hl, hk⟩) so = F at *
  generalize accW s.f (leafO S s va ⟨hf, hl, hk⟩) so va = vw at *
  obtain ⟨f1, f2⟩ := F
  simp only [resV] at HAC
  have hqq := fun W => eqF2 f1 f2 kz 0 W
  simp only at hq
  rw [hq] at hqq
  clear hq
  go_enter Tryz.func9, Tryz.ntmps9
  go_upto_region 2 with fail
  generalize (((w.alloc (.cells #[.int .u64 0, .slice none 0 0, .int .i64 0, .slice none 0 0, .slice none 0 0, .bool false, .int .u64 0, .int .i64 0, .slice none 0 0] 34)).alloc (.cells #[.int .i64 1, .int .i64 so, .int .i64 nn, .int .u64 (va : Nat), .int .u64 (wd : Nat), .bool hf, .bool hl, .bool hk] 40)).alloc (.cells #[.int .u64 0, .slice none 0 0, .int .i64 0, .slice none 0 0, .slice none 0 0, .bool false, .int .u64 0, .int .i64 0, .slice none 0 0] 34)).alloc (.cells #[.bool hf, .bool hl, .bool hk] 71) = W at *
  have HB := Hid.mk hB
  clear hB
  obtain ⟨o0, o1, o2, o3, o4, o5, o6, o7⟩ := cells8p gO
  obtain ⟨c0, c1, c2, c3, c4, c5, c6, c7, c8⟩ := cells9 gY
  obtain ⟨t0, t1, t2⟩ := cells3 gH
  go_wp2_with fail
  refine (HW.out.does (fun X hM => HAC.out X W hM)).mono ?_
  rintro e w5 ⟨rfl, h5, hk5⟩
  replace gY := hk5.row (by simp) gY
  replace gO := hk5.row (by simp) gO
  replace gR := hk5.row (by simp) gR
  replace gH := hk5.row (by simp) gH
  have H5 := Hid.mk (And.intro h5 hk5)
  clear h5 hk5 HW o0 o1 o2 o3 o4 o5 o6 o7 c0 c1 c2 c3 c4 c5 c6 c7 c8 t0 t1 t2
  obtain ⟨o0, o1, o2, o3, o4, o5, o6, o7⟩ := cells8p gO
  obtain ⟨c0, c1, c2, c3, c4, c5, c6, c7, c8⟩ := cells9 gY
  obtain ⟨t0, t1, t2⟩ := cells3 gH
  have hbA := below_new w5 (.cells #[.int .i64 f1, .int .i64 f2, .int .u64 (vw : Nat)] 50)
  have gA := heap_alloc_new w5 (.cells #[.int .i64 f1, .int .i64 f2, .int .u64 (vw : Nat)] 50)
  clear o0 o1 o2 o3 o4 o5 o6 o7 c0 c1 c2 c3 c4 c5 c6 c7 c8 t0 t1 t2
  go_upto_region 5 with fail
  generalize w5.alloc (.cells #[.int .i64 f1, .int .i64 f2, .int .u64 (vw : Nat)] 50) = w5b at *
  replace gY := block_later hbA gY
  replace gO := block_later hbA gO
  replace gR := block_later hbA gR
  replace gH := block_later hbA gH
  obtain ⟨o0, o1, o2, o3, o4, o5, o6, o7⟩ := cells8p gO
  obtain ⟨c0, c1, c2, c3, c4, c5, c6, c7, c8⟩ := cells9 gY
  obtain ⟨t0, t1, t2⟩ := cells3 gH
  go_wp2_with fail
  refine (HZ.out w5b).mono ?_
  rintro e w6 ⟨rfl, hb6⟩
  have hk2 : w5.heap.size < w6.heap.size := Nat.lt_of_lt_of_le (block_lt gA) hb6.size
  have hbT := below2 w6 (.cells #[.int .u64 0, .slice none 0 0, .int .i64 0, .slice none 0 0, .slice none 0 0, .bool false, .int .u64 0, .int .i64 0, .slice none 0 0] 34) (.cells #[.int .i64 kz, .int .i64 0] 74)
  have gT := heap2_0 w6 (.cells #[.int .u64 0, .slice none 0 0, .int .i64 0, .slice none 0 0, .slice none 0 0, .bool false, .int .u64 0, .int .i64 0, .slice none 0 0] 34) (.cells #[.int .i64 kz, .int .i64 0] 74)
  have gU := heap_alloc2_new w6 (.cells #[.int .u64 0, .slice none 0 0, .int .i64 0, .slice none 0 0, .slice none 0 0, .bool false, .int .u64 0, .int .i64 0, .slice none 0 0] 34) (.cells #[.int .i64 kz, .int .i64 0] 74)
  clear o0 o1 o2 o3 o4 o5 o6 o7 c0 c1 c2 c3 c4 c5 c6 c7 c8 t0 t1 t2
  go_upto_region 6 with fail
  generalize (w6.alloc (.cells #[.int .u64 0, .slice none 0 0, .int .i64 0, .slice none 0 0, .slice none 0 0, .bool false, .int .u64 0, .int .i64 0, .slice none 0 0] 34)).alloc (.cells #[.int .i64 kz, .int .i64 0] 74) = w7 at *
  replace gA := block_later hbT (block_later hb6 gA)
  replace gR := block_later hbT (block_later hb6 gR)
  have HOn := Hid.mk (H5.out.1.later (below_tr (below_tr hbA hb6) hbT))
  have HKp := Hid.mk (((Kp.below H0.out (Kp.refl l w) HB.out).trans (H5.out.2.less (fun g hg => by simp [hg]))).below H0.out (below_tr (below_tr hbA hb6) hbT))
  have hr5 : (w.heap.size + 1 + 1) < w5.heap.size := by obtain ⟨_, _, hx⟩ := H5.out.1; exact (hx _ (by simp)).1
  clear hbA hb6 hbT gY gO gH
  generalize w6.heap.size = K2 at *
  generalize w5.heap.size = K1 at *
  obtain ⟨k0, k1, k2, k3, k4, k5, k6, k7, k8⟩ := cells9 gT
  obtain ⟨k9, k10, k11⟩ := cells3 gA
  obtain ⟨k12, k13⟩ := TR.row2c gU
  clear gT gA gU
  refine wp_region_noPanic ?_
  refine wp_region_held_drew (S := (fun w' => w'.cell? ⟨K2, 0, none⟩ = some (.int .u64 0) ∧ w'.cell? ⟨K2, 1, none⟩ = some (.slice none 0 0) ∧ w'.cell? ⟨K2, 2, none⟩ = some (.int .i64 0) ∧ w'.cell? ⟨K2, 3, none⟩ = some (.slice none 0 0) ∧ w'.cell? ⟨K2, 4, none⟩ = some (.slice none 0 0) ∧ w'.cell? ⟨K2, 5, none⟩ = some (.bool false) ∧ w'.cell? ⟨K2, 6, none⟩ = some (.int .u64 0) ∧ w'.cell? ⟨K2, 7, none⟩ = some (.int .i64 0) ∧ w'.cell? ⟨K2, 8, none⟩ = some (.slice none 0 0) ∧ w'.cell? ⟨K1, 0, none⟩ = some (.int .i64 f1) ∧ w'.cell? ⟨K1, 1, none⟩ = some (.int .i64 f2) ∧ w'.cell? ⟨K1, 2, none⟩ = some (.int .u64 (vw : Nat)) ∧ w'.cell? ⟨K2 + 1, 0, none⟩ = some (.int .i64 kz) ∧ w'.cell? ⟨K2 + 1, 1, none⟩ = some (.int .i64 0))) (by kernel_rfl) ?_ (fun hHeld => ?_)
  · exact ⟨cell_later (Below.refl _ _).drew k0, cell_later (Below.refl _ _).drew k1, cell_later (Below.refl _ _).drew k2, cell_later (Below.refl _ _).drew k3, cell_later (Below.refl _ _).drew k4, cell_later (Below.refl _ _).drew k5, cell_later (Below.refl _ _).drew k6, cell_later (Below.refl _ _).drew k7, cell_later (Below.refl _ _).drew k8, cell_later (Below.refl _ _).drew k9, cell_later (Below.refl _ _).drew k10, cell_later (Below.refl _ _).drew k11, cell_later (Below.refl _ _).drew k12, cell_later (Below.refl _ _).drew k13⟩
  replace k0 := cell_later (Below.refl _ w7).drew k0
  replace k1 := cell_later (Below.refl _ w7).drew k1
  replace k2 := cell_later (Below.refl _ w7).drew k2
  replace k3 := cell_later (Below.refl _ w7).drew k3
  replace k4 := cell_later (Below.refl _ w7).drew k4
  replace k5 := cell_later (Below.refl _ w7).drew k5
  replace k6 := cell_later (Below.refl _ w7).drew k6
  replace k7 := cell_later (Below.refl _ w7).drew k7
  replace k8 := cell_later (Below.refl _ w7).drew k8
  replace k9 := cell_later (Below.refl _ w7).drew k9
  replace k10 := cell_later (Below.refl _ w7).drew k10
  replace k11 := cell_later (Below.refl _ w7).drew k11
  replace k12 := cell_later (Below.refl _ w7).drew k12
  replace k13 := cell_later (Below.refl _ w7).drew k13
  replace gR := block_later (Below.refl _ w7).drew gR
  refine TR.take_at (i := 0) (v := ?_) 49 rfl rfl (by kernel_rfl) (by kernel_rfl) (by kernel_rfl) (fun _ _ _ h => h) (Or.inl ⟨by rfl, ?_⟩) (by assumption) ?_
  rotate_left
  · (intro w' hSw; (try dsimp only at hSw); go_simp; all_goals with_reducible rfl)
  try simp only [Act.put, List.setIfInBounds_toArray, List.set_cons_zero, List.set_cons_succ]
  refine TR.take_at (i := 1) (v := ?_) 50 rfl rfl (by kernel_rfl) (by kernel_rfl) (by kernel_rfl) (fun _ _ _ h => h) (Or.inl ⟨by rfl, ?_⟩) (by assumption) ?_
  rotate_left
  · (intro w' hSw; (try dsimp only at hSw); go_simp; all_goals with_reducible rfl)
  try simp only [Act.put, List.setIfInBounds_toArray, List.set_cons_zero, List.set_cons_succ]
  refine TR.take_at (i := 2) (v := ?_) 51 rfl rfl (by kernel_rfl) (by kernel_rfl) (by kernel_rfl) (fun _ _ _ h => h) (Or.inl ⟨by rfl, ?_⟩) (by assumption) ?_
  rotate_left
  · (intro w' hSw; (try dsimp only at hSw); go_simp; all_goals with_reducible rfl)
  try simp only [Act.put, List.setIfInBounds_toArray, List.set_cons_zero, List.set_cons_succ]
  refine TR.take_at (i := 3) (v := ?_) 52 rfl rfl (by kernel_rfl) (by kernel_rfl) (by kernel_rfl) (fun _ _ _ h => h) (Or.inl ⟨by rfl, ?_⟩) (by assumption) ?_
  rotate_left
  · (intro w' hSw; (try dsimp only at hSw); go_simp; all_goals with_reducible rfl)
  try simp only [Act.put, List.setIfInBounds_toArray, List.set_cons_zero, List.set_cons_succ]
  refine TR.take_at (i := 4) (v := ?_) 53 rfl rfl (by kernel_rfl) (by kernel_rfl) (by kernel_rfl) (fun _ _ _ h => h) (Or.inl ⟨by rfl, ?_⟩) (by assumption) ?_
  rotate_left
  · (intro w' hSw; (try dsimp only at hSw); go_simp; all_goals with_reducible rfl)
  try simp only [Act.put, List.setIfInBounds_toArray, List.set_cons_zero, List.set_cons_succ]
  refine TR.take_at (i := 5) (v := ?_) 54 rfl rfl (by kernel_rfl) (by kernel_rfl) (by kernel_rfl) (fun _ _ _ h => h) (Or.inl ⟨by rfl, ?_⟩) (by assumption) ?_
  rotate_left
  · (intro w' hSw; (try dsimp only at hSw); go_simp; all_goals with_reducible rfl)
  try simp only [Act.put, List.setIfInBounds_toArray, List.set_cons_zero, List.set_cons_succ]
  refine TR.take_at (i := 6) (v := undef) 55 rfl rfl (by kernel_rfl) (by kernel_rfl) (by kernel_rfl) (fun _ _ _ h => h) (Or.inr ⟨by rfl, rfl⟩) (by assumption) ?_
  try simp only [Act.put, List.setIfInBounds_toArray, List.set_cons_zero, List.set_cons_succ]
  refine TR.take_at (i := 7) (v := undef) 56 rfl rfl (by kernel_rfl) (by kernel_rfl) (by kernel_rfl) (fun _ _ _ h => h) (Or.inr ⟨by rfl, rfl⟩) (by assumption) ?_
  try simp only [Act.put, List.setIfInBounds_toArray, List.set_cons_zero, List.set_cons_succ]
  refine TR.take_at (i := 8) (v := undef) 57 rfl rfl (by kernel_rfl) (by kernel_rfl) (by kernel_rfl) (fun _ _ _ h => h) (Or.inr ⟨by rfl, rfl⟩) (by assumption) ?_
  try simp only [Act.put, List.setIfInBounds_toArray, List.set_cons_zero, List.set_cons_succ]
  refine TR.take_at (i := 9) (v := undef) 58 rfl rfl (by kernel_rfl) (by kernel_rfl) (by kernel_rfl) (fun _ _ _ h => h) (Or.inr ⟨by rfl, rfl⟩) (by assumption) ?_
  try simp only [Act.put, List.setIfInBounds_toArray, List.set_cons_zero, List.set_cons_succ]
  refine TR.take_at (i := 10) (v := ?_) 59 rfl rfl (by kernel_rfl) (by kernel_rfl) (by kernel_rfl) (fun _ _ _ h => h) (Or.inl ⟨by rfl, ?_⟩) (by assumption) ?_
  rotate_left
  · (intro w' hSw; (try dsimp only at hSw); go_simp; all_goals with_reducible rfl)
  try simp only [Act.put, List.setIfInBounds_toArray, List.set_cons_zero, List.set_cons_succ]
  have hne0 : ¬ K2 = (w.heap.size + 1 + 1) := by omega
  have hne1 : ¬ K2 = (w.heap.size + 1 + 1) := by omega
  have hne2 : ¬ K2 = (w.heap.size + 1 + 1) := by omega
  have hne3 : ¬ K2 = (w.heap.size + 1 + 1) := by omega
  have hne4 : ¬ K2 = (w.heap.size + 1 + 1) := by omega
  have hne5 : ¬ K2 = (w.heap.size + 1 + 1) := by omega
  have hne6 : ¬ K2 = (w.heap.size + 1 + 1) := by omega
  have hne7 : ¬ K2 = (w.heap.size + 1 + 1) := by omega
  have hne8 : ¬ K2 = (w.heap.size + 1 + 1) := by omega
  have hne9 : ¬ K1 = (w.heap.size + 1 + 1) := by omega
  have hne10 : ¬ K1 = (w.heap.size + 1 + 1) := by omega
  have hne11 : ¬ K1 = (w.heap.size + 1 + 1) := by omega
  have hne12 : ¬ (K2 + 1) = (w.heap.size + 1 + 1) := by omega
  have hne13 : ¬ (K2 + 1) = (w.heap.size + 1 + 1) := by omega
  refine wpAnyH_ready (rs := [11]) (by kernel_rfl) (by simp) ?_
  refine AllReadyH.cons rfl (fun K hK => ?_) AllReadyH.nil
  refine step_store_seg rfl rfl 34 _ _ rfl (w.heap.size + 1 + 1) 0 _ #[.int .u64 0, .slice none 0 0, .int .i64 0, .slice none 0 0, .slice none 0 0, .bool false, .int .u64 0, .int .i64 0, .slice none 0 0] rfl rfl rfl 34 _ gR (show 0 + 9 ≤ 9 by decide) info_X9 (by simp [Value.oneCell']) #[.int .u64 0, .slice none 0 0, .int .i64 0, .slice none 0 0, .slice none 0 0, .bool false, .int .u64 0, .int .i64 0, .slice none 0 0] rfl ?_
  intro wz hrz htz
  replace k0 := TR.turn_cell htz hne0 k0
  replace k1 := TR.turn_cell htz hne1 k1
  replace k2 := TR.turn_cell htz hne2 k2
  replace k3 := TR.turn_cell htz hne3 k3
  replace k4 := TR.turn_cell htz hne4 k4
  replace k5 := TR.turn_cell htz hne5 k5
  replace k6 := TR.turn_cell htz hne6 k6
  replace k7 := TR.turn_cell htz hne7 k7
  replace k8 := TR.turn_cell htz hne8 k8
  replace k9 := TR.turn_cell htz hne9 k9
  replace k10 := TR.turn_cell htz hne10 k10
  replace k11 := TR.turn_cell htz hne11 k11
  replace k12 := TR.turn_cell htz hne12 k12
  replace k13 := TR.turn_cell htz hne13 k13
  refine hK.out _ _ ⟨k0, k1, k2, k3, k4, k5, k6, k7, k8, k9, k10, k11, k12, k13⟩ (fun hHeldz => ?_)
  clear hK
  try simp only [Act.put, List.setIfInBounds_toArray, List.set_cons_zero, List.set_cons_succ]
  clear k0 k1 k2 k3 k4 k5 k6 k7 k8 k9 k10 k11 k12 k13
  refine TR.take_at (i := 12) (v := ?_) 7 rfl rfl (by kernel_rfl) (by kernel_rfl) (by kernel_rfl) (fun _ _ _ h => h) (Or.inl ⟨by rfl, ?_⟩) (by assumption) ?_
  rotate_left
  · (intro w' hSw; (try dsimp only at hSw); go_simp; all_goals with_reducible rfl)
  try simp only [Act.put, List.setIfInBounds_toArray, List.set_cons_zero, List.set_cons_succ]
  refine wpAnyH_done (by kernel_rfl) ?_ _
  refine NoPanic.normal ?_
  go_wp2_with fail
  refine bodyPost_ret (TR.res_row_tmp (p := 6) (u := 7) rfl _ _ (w.heap.size + 1 + 1) 34 _ _ _ rfl hrz Tryz.underlying34 rfl info_X9) rfl ⟨⟨_, _, rfl⟩, ?_⟩
  exact H0.out.fin3 (HKp.out.below H0.out (Below.refl _ _).drew) (HOn.out.later (Below.refl _ _).drew) htz (fun g hg => by simp [hg]) (by simp) (by omega)
end Go.Proofs.YtndjhedoandinaaGreatDoor.MM

namespace Go.Proofs.YtndjhedoandinaaGreatDoor.MM
open Go.RowKit Go.Maps

set_option maxHeartbeats 4000000 in
set_option maxRecDepth 100000 in
theorem step_11y {w0 w : World} {l : List Nat} {x a n S : Nat} {most : Int} {s : St} (h : One w0 w l x a n S most s) (so nn : Int) (va wd : Nat) (hf hl hk : Bool) (hva : va < 18446744073709551616) (vq : Nat) (hvq : vq = (va + wd) % 18446744073709551616) (hN : ¬ nn < 0) :
    Calls Tryz.prog 9 #[.pointer (some ⟨x, 0, none⟩), .agg yZ, .agg #[.int .i64 11, .int .i64 so, .int .i64 nn, .int .u64 (va : Nat), .int .u64 (wd : Nat), .bool hf, .bool hl, .bool hk]] w fun r w' => (∃ c b, r = .returned (.tuple #[.agg c, .bool b])) ∧ StO w0 w l x a (n + 1) S most w' := by
  have H0 := Hid.mk h
  have HW := Hid.mk (h.own4 (.cells #[.int .u64 0, .slice none 0 0, .int .i64 0, .slice none 0 0, .slice none 0 0, .bool false, .int .u64 0, .int .i64 0, .slice none 0 0] 34) (.cells #[.int .i64 11, .int .i64 so, .int .i64 nn, .int .u64 (va : Nat), .int .u64 (wd : Nat), .bool hf, .bool hl, .bool hk] 40) (.cells #[.int .u64 0, .slice none 0 0, .int .i64 0, .slice none 0 0, .slice none 0 0, .bool false, .int .u64 0, .int .i64 0, .slice none 0 0] 34) (.cells #[.bool hf, .bool hl, .bool hk] 71))
  have gY := heap4_0 w (.cells #[.int .u64 0, .slice none 0 0, .int .i64 0, .slice none 0 0, .slice none 0 0, .bool false, .int .u64 0, .int .i64 0, .slice none 0 0] 34) (.cells #[.int .i64 11, .int .i64 so, .int .i64 nn, .int .u64 (va : Nat), .int .u64 (wd : Nat), .bool hf, .bool hl, .bool hk] 40) (.cells #[.int .u64 0, .slice none 0 0, .int .i64 0, .slice none 0 0, .slice none 0 0, .bool false, .int .u64 0, .int .i64 0, .slice none 0 0] 34) (.cells #[.bool hf, .bool hl, .bool hk] 71)
  have gO := heap4_1 w (.cells #[.int .u64 0, .slice none 0 0, .int .i64 0, .slice none 0 0, .slice none 0 0, .bool false, .int .u64 0, .int .i64 0, .slice none 0 0] 34) (.cells #[.int .i64 11, .int .i64 so, .int .i64 nn, .int .u64 (va : Nat), .int .u64 (wd : Nat), .bool hf, .bool hl, .bool hk] 40) (.cells #[.int .u64 0, .slice none 0 0, .int .i64 0, .slice none 0 0, .slice none 0 0, .bool false, .int .u64 0, .int .i64 0, .slice none 0 0] 34) (.cells #[.bool hf, .bool hl, .bool hk] 71)
  have gR := heap4_2 w (.cells #[.int .u64 0, .slice none 0 0, .int .i64 0, .slice none 0 0, .slice none 0 0, .bool false, .int .u64 0, .int .i64 0, .slice none 0 0] 34) (.cells #[.int .i64 11, .int .i64 so, .int .i64 nn, .int .u64 (va : Nat), .int .u64 (wd : Nat), .bool hf, .bool hl, .bool hk] 40) (.cells #[.int .u64 0, .slice none 0 0, .int .i64 0, .slice none 0 0, .slice none 0 0, .bool false, .int .u64 0, .int .i64 0, .slice none 0 0] 34) (.cells #[.bool hf, .bool hl, .bool hk] 71)
  have gH := heap4_3 w (.cells #[.int .u64 0, .slice none 0 0, .int .i64 0, .slice none 0 0, .slice none 0 0, .bool false, .int .u64 0, .int .i64 0, .slice none 0 0] 34) (.cells #[.int .i64 11, .int .i64 so, .int .i64 nn, .int .u64 (va : Nat), .int .u64 (wd : Nat), .bool hf, .bool hl, .bool hk] 40) (.cells #[.int .u64 0, .slice none 0 0, .int .i64 0, .slice none 0 0, .slice none 0 0, .bool false, .int .u64 0, .int .i64 0, .slice none 0 0] 34) (.cells #[.bool hf, .bool hl, .bool hk] 71)
  have hB := below4 w (.cells #[.int .u64 0, .slice none 0 0, .int .i64 0, .slice none 0 0, .slice none 0 0, .bool false, .int .u64 0, .int .i64 0, .slice none 0 0] 34) (.cells #[.int .i64 11, .int .i64 so, .int .i64 nn, .int .u64 (va : Nat), .int .u64 (wd : Nat), .bool hf, .bool hl, .bool hk] 40) (.cells #[.int .u64 0, .slice none 0 0, .int .i64 0, .slice none 0 0, .slice none 0 0, .bool false, .int .u64 0, .int .i64 0, .slice none 0 0] 34) (.cells #[.bool hf, .bool hl, .bool hk] 71)
  clear h
  go_enter Tryz.func9, Tryz.ntmps9
  go_upto_region 2 with fail
  generalize (((w.alloc (.cells #[.int .u64 0, .slice none 0 0, .int .i64 0, .slice none 0 0, .slice none 0 0, .bool false, .int .u64 0, .int .i64 0, .slice none 0 0] 34)).alloc (.cells #[.int .i64 11, .int .i64 so, .int .i64 nn, .int .u64 (va : Nat), .int .u64 (wd : Nat), .bool hf, .bool hl, .bool hk] 40)).alloc (.cells #[.int .u64 0, .slice none 0 0, .int .i64 0, .slice none 0 0, .slice none 0 0, .bool false, .int .u64 0, .int .i64 0, .slice none 0 0] 34)).alloc (.cells #[.bool hf, .bool hl, .bool hk] 71) = W at *
  have HB := Hid.mk hB
  clear hB
  obtain ⟨o0, o1, o2, o3, o4, o5, o6, o7⟩ := cells8p gO
  obtain ⟨c0, c1, c2, c3, c4, c5, c6, c7, c8⟩ := cells9 gY
  obtain ⟨t0, t1, t2⟩ := cells3 gH
  have hwr : IntKind.u64.wrap ((va : Int) + (wd : Int)) = ((vq : Nat) : Int) := by rw [hvq]; show IntKind.u64.wrap _ = _; simp only [IntKind.wrap, IntKind.bits, IntKind.signed]; simp
  have HVQ := Hid.mk (show vq < 18446744073709551616 by omega)
  clear hvq
  have hb1 := below_new W (.cells #[.int .u64 (va : Nat), .bool hf, .bool hl, .bool hk, .int .u64 (vq : Nat), .bool hf, .bool hl, .bool hk] 94)
  have gP := heap_alloc_new W (.cells #[.int .u64 (va : Nat), .bool hf, .bool hl, .bool hk, .int .u64 (vq : Nat), .bool hf, .bool hl, .bool hk] 94)
  have hK1 : (w.heap.size + 1 + 1 + 1) < W.heap.size := block_lt gH
  have HW1 := Hid.mk (HW.out.own (.cells #[.int .u64 (va : Nat), .bool hf, .bool hl, .bool hk, .int .u64 (vq : Nat), .bool hf, .bool hl, .bool hk] 94))
  go_upto_region 40 with fail
  generalize W.alloc (.cells #[.int .u64 (va : Nat), .bool hf, .bool hl, .bool hk, .int .u64 (vq : Nat), .bool hf, .bool hl, .bool hk] 94) = W1 at *
  replace gY := block_later hb1 gY
  replace gO := block_later hb1 gO
  replace gR := block_later hb1 gR
  replace gH := block_later hb1 gH
  have hK2 : W.heap.size < W1.heap.size := block_lt gP
  clear o0 o1 o2 o3 o4 o5 o6 o7 c0 c1 c2 c3 c4 c5 c6 c7 c8 t0 t1 t2
  obtain ⟨o0, o1, o2, o3, o4, o5, o6, o7⟩ := cells8p gO
  obtain ⟨t0, t1, t2⟩ := cells3 gH
  have hb2 := below_new W1 (.cells #[.int .u64 (va : Nat), .bool hf, .bool hl, .bool hk, .int .u64 (vq : Nat), .bool hf, .bool hl, .bool hk] 97)
  have HB2 := Hid.mk (below_tr (below_tr HB.out hb1) hb2)
  have HW2 := Hid.mk (HW1.out.later hb2)
  have gY2 := block_later hb2 gY
  have gR2 := block_later hb2 gR
  have gO2 := block_later hb2 gO
  have gP2 := block_later hb2 gP
  clear HW HW1 gY gR gO gP gH hb1 hb2
  generalize hKK1 : W.heap.size = K1 at *
  generalize hKK2 : W1.heap.size = K2 at *
  go_upto_region 41 with
    first
    | (refine wpList_store_segTo rfl 32 _ _ rfl rfl w.heap.size 8 _ #[.slice (some ⟨K2, 0, none⟩) 2 2] rfl rfl rfl 34 _ gY2 (show 8 + 1 ≤ 9 by decide) info_ps (by simp [Value.oneCell']) #[.int .u64 0, .slice none 0 0, .int .i64 0, .slice none 0 0, .slice none 0 0, .bool false, .int .u64 0, .int .i64 0, .slice (some ⟨K2, 0, none⟩) 2 2] rfl ?_
       intro wy hry hty)
    | fail
  have HW3 := Hid.mk (HW2.out.put hty (fun i hi => ⟨by rw [hi]; simp, by rw [hi]; exact H0.out.bl.size⟩))
  have HB3 := Hid.mk (below_turn HB2.out hty (Nat.le_refl _))
  replace gR2 := block_turn hty gR2 (by omega)
  replace gO2 := block_turn hty gO2 (by omega)
  replace gP2 := block_turn hty gP2 (by omega)
  clear o0 o1 o2 o3 o4 o5 o6 o7 t0 t1 t2 HW2 HB2 gY2 hty
  obtain ⟨-, -, o2, -⟩ := cells8p gO2
  go_upto_region 43 with fail
  clear o2 gO2
  obtain ⟨k0, k1, k2, k3, k4, k5, k6, k7, k8⟩ := cells9 hry
  clear hry
  refine wp_region_noPanic ?_
  refine wp_region_held_drew (S := (fun w' => w'.cell? ⟨w.heap.size, 0, none⟩ = some (.int .u64 0) ∧ w'.cell? ⟨w.heap.size, 1, none⟩ = some (.slice none 0 0) ∧ w'.cell? ⟨w.heap.size, 2, none⟩ = some (.int .i64 0) ∧ w'.cell? ⟨w.heap.size, 3, none⟩ = some (.slice none 0 0) ∧ w'.cell? ⟨w.heap.size, 4, none⟩ = some (.slice none 0 0) ∧ w'.cell? ⟨w.heap.size, 5, none⟩ = some (.bool false) ∧ w'.cell? ⟨w.heap.size, 6, none⟩ = some (.int .u64 0) ∧ w'.cell? ⟨w.heap.size, 7, none⟩ = some (.int .i64 0) ∧ w'.cell? ⟨w.heap.size, 8, none⟩ = some (.slice (some ⟨K2, 0, none⟩) 2 2))) (by kernel_rfl) ?_ (fun hHeld => ?_)
  · exact ⟨cell_later (Below.refl _ _).drew k0, cell_later (Below.refl _ _).drew k1, cell_later (Below.refl _ _).drew k2, cell_later (Below.refl _ _).drew k3, cell_later (Below.refl _ _).drew k4, cell_later (Below.refl _ _).drew k5, cell_later (Below.refl _ _).drew k6, cell_later (Below.refl _ _).drew k7, cell_later (Below.refl _ _).drew k8⟩
  replace k0 := cell_later (Below.refl _ wy).drew k0
  replace k1 := cell_later (Below.refl _ wy).drew k1
  replace k2 := cell_later (Below.refl _ wy).drew k2
  replace k3 := cell_later (Below.refl _ wy).drew k3
  replace k4 := cell_later (Below.refl _ wy).drew k4
  replace k5 := cell_later (Below.refl _ wy).drew k5
  replace k6 := cell_later (Below.refl _ wy).drew k6
  replace k7 := cell_later (Below.refl _ wy).drew k7
  replace k8 := cell_later (Below.refl _ wy).drew k8
  refine TR.take_at (i := 0) (v := ?_) 253 rfl rfl (by kernel_rfl) (by kernel_rfl) (by kernel_rfl) (fun _ _ _ h => h) (Or.inl ⟨by rfl, ?_⟩) (by assumption) ?_
  rotate_left
  · (intro w' hSw; (try dsimp only at hSw); go_simp; all_goals with_reducible rfl)
  try simp only [Act.put, List.setIfInBounds_toArray, List.set_cons_zero, List.set_cons_succ]
  refine TR.take_at (i := 1) (v := ?_) 254 rfl rfl (by kernel_rfl) (by kernel_rfl) (by kernel_rfl) (fun _ _ _ h => h) (Or.inl ⟨by rfl, ?_⟩) (by assumption) ?_
  rotate_left
  · (intro w' hSw; (try dsimp only at hSw); go_simp; all_goals with_reducible rfl)
  try simp only [Act.put, List.setIfInBounds_toArray, List.set_cons_zero, List.set_cons_succ]
  refine TR.take_at (i := 2) (v := ?_) 255 rfl rfl (by kernel_rfl) (by kernel_rfl) (by kernel_rfl) (fun _ _ _ h => h) (Or.inl ⟨by rfl, ?_⟩) (by assumption) ?_
  rotate_left
  · (intro w' hSw; (try dsimp only at hSw); go_simp; all_goals with_reducible rfl)
  try simp only [Act.put, List.setIfInBounds_toArray, List.set_cons_zero, List.set_cons_succ]
  replace HW3 := Hid.mk (HW3.out.later (Below.refl _ wy).drew)
  replace HB3 := Hid.mk (HB3.out.drew)
  replace gR2 := block_later (Below.refl _ wy).drew gR2
  replace gP2 := block_later (Below.refl _ wy).drew gP2
  generalize wy.drew = Wd at *
  have HRP : Hid (PL.RdA Wd (some ⟨K1, 0, none⟩) [⟨va, ⟨hf, hl, hk⟩⟩, ⟨vq, ⟨hf, hl, hk⟩⟩]) := fun i hi => by
    have hcell : ∀ j u, (#[.int .u64 (va : Nat), .bool hf, .bool hl, .bool hk, .int .u64 (vq : Nat), .bool hf, .bool hl, .bool hk] : Array Value)[j]? = some u → Wd.cell? ⟨K1, j, none⟩ = some u := fun j u hu => by rw [cell_of_row _ _ _ _ _ _ gP2]; exact hu
    have h2 : i = 0 ∨ i = 1 := by simp at hi; omega
    refine ⟨K1, 0, rfl, block_lt gP2, fun j u hu => ?_⟩
    have hj : j < 4 := (List.getElem?_eq_some_iff.1 hu).1
    refine hcell _ u ?_
    rcases h2 with rfl | rfl
    · match j, hj, hu with
      | 0, _, hu => exact hu
      | 1, _, hu => exact hu
      | 2, _, hu => exact hu
      | 3, _, hu => exact hu
    · match j, hj, hu with
      | 0, _, hu => exact hu
      | 1, _, hu => exact hu
      | 2, _, hu => exact hu
      | 3, _, hu => exact hu
  refine wpAnyH_ready (rs := [3]) (by kernel_rfl) (by simp) ?_
  refine AllReadyH.cons rfl (fun K hK => ?_) AllReadyH.nil
  go_simp
  refine (HW3.out.does (fun X hM => plan_few hM [⟨va, ⟨hf, hl, hk⟩⟩, ⟨vq, ⟨hf, hl, hk⟩⟩] 2 (some ⟨K1, 0, none⟩) (by simp) (Or.inr ⟨K1, 0, rfl⟩) HRP.out (fun p hp => by simp only [List.mem_cons, List.not_mem_nil, or_false] at hp; rcases hp with rfl | rfl; exact hva; exact HVQ.out))).mono ?_
  rintro e w5 ⟨rfl, h5, hk5⟩
  go_wp2_with fail
  replace k0 := hk5.cell (by simp) k0
  replace k1 := hk5.cell (by simp) k1
  replace k2 := hk5.cell (by simp) k2
  replace k3 := hk5.cell (by simp) k3
  replace k4 := hk5.cell (by simp) k4
  replace k5 := hk5.cell (by simp) k5
  replace k6 := hk5.cell (by simp) k6
  replace k7 := hk5.cell (by simp) k7
  replace k8 := hk5.cell (by simp) k8
  replace gR2 := hk5.row (by simp) gR2
  have H5 := Hid.mk (And.intro h5 hk5)
  clear h5 hk5
  refine hK.out _ _ ⟨k0, k1, k2, k3, k4, k5, k6, k7, k8⟩ (fun hHeldc0 => ?_)
  clear hK
  try simp only [Act.put, List.setIfInBounds_toArray, List.set_cons_zero, List.set_cons_succ]
  refine TR.take_at (i := 4) (v := ?_) 257 rfl rfl (by kernel_rfl) (by kernel_rfl) (by kernel_rfl) (fun _ _ _ h => h) (Or.inl ⟨by rfl, ?_⟩) (by assumption) ?_
  rotate_left
  · (intro w' hSw; (try dsimp only at hSw); go_simp; all_goals with_reducible rfl)
  try simp only [Act.put, List.setIfInBounds_toArray, List.set_cons_zero, List.set_cons_succ]
  refine TR.take_at (i := 5) (v := ?_) 258 rfl rfl (by kernel_rfl) (by kernel_rfl) (by kernel_rfl) (fun _ _ _ h => h) (Or.inl ⟨by rfl, ?_⟩) (by assumption) ?_
  rotate_left
  · (intro w' hSw; (try dsimp only at hSw); go_simp; all_goals with_reducible rfl)
  try simp only [Act.put, List.setIfInBounds_toArray, List.set_cons_zero, List.set_cons_succ]
  refine TR.take_at (i := 6) (v := ?_) 259 rfl rfl (by kernel_rfl) (by kernel_rfl) (by kernel_rfl) (fun _ _ _ h => h) (Or.inl ⟨by rfl, ?_⟩) (by assumption) ?_
  rotate_left
  · (intro w' hSw; (try dsimp only at hSw); go_simp; all_goals with_reducible rfl)
  try simp only [Act.put, List.setIfInBounds_toArray, List.set_cons_zero, List.set_cons_succ]
  refine wpAnyH_ready (rs := [7]) (by kernel_rfl) (by simp) ?_
  refine AllReadyH.cons rfl (fun K hK => ?_) AllReadyH.nil
  go_simp
  obtain ⟨arr, hmk⟩ := mk9 w5
  rw [hmk]
  have hbm := below_new w5 (.cells arr 94)
  have HO6 := Hid.mk (H5.out.1.later hbm)
  have HK6 := Hid.mk (((Kp.below H0.out (Kp.refl l w) HB3.out).trans (H5.out.2.less (fun g hg => by simp [hg]))).below H0.out hbm)
  replace gR2 := block_later hbm gR2
  replace k0 := cell_later hbm k0
  replace k1 := cell_later hbm k1
  replace k2 := cell_later hbm k2
  replace k3 := cell_later hbm k3
  replace k4 := cell_later hbm k4
  replace k5 := cell_later hbm k5
  replace k6 := cell_later hbm k6
  replace k7 := cell_later hbm k7
  replace k8 := cell_later hbm k8
  clear hmk hbm
  generalize w5.alloc (.cells arr 94) = w6 at *
  generalize w5.heap.size = KM at *
  go_simp
  refine hK.out _ _ ⟨k0, k1, k2, k3, k4, k5, k6, k7, k8⟩ (fun hHeldc1 => ?_)
  clear hK
  try simp only [Act.put, List.setIfInBounds_toArray, List.set_cons_zero, List.set_cons_succ]
  refine wpAnyH_ready (rs := [8]) (by kernel_rfl) (by simp) ?_
  refine AllReadyH.cons rfl (fun K hK => ?_) AllReadyH.nil
  go_simp
  refine (plan_many 9 9 (some ⟨KM, 0, none⟩) (by decide)).mono ?_
  rintro e w7 ⟨rfl, e7⟩
  obtain rfl : w6 = w7 := e7
  go_wp2_with fail
  refine hK.out _ _ ⟨k0, k1, k2, k3, k4, k5, k6, k7, k8⟩ (fun hHeldc2 => ?_)
  clear hK
  try simp only [Act.put, List.setIfInBounds_toArray, List.set_cons_zero, List.set_cons_succ]
  refine TR.take_at (i := 9) (v := ?_) 262 rfl rfl (by kernel_rfl) (by kernel_rfl) (by kernel_rfl) (fun _ _ _ h => h) (Or.inl ⟨by rfl, ?_⟩) (by assumption) ?_
  rotate_left
  · (intro w' hSw; (try dsimp only at hSw); go_simp; all_goals with_reducible rfl)
  try simp only [Act.put, List.setIfInBounds_toArray, List.set_cons_zero, List.set_cons_succ]
  refine TR.take_at (i := 10) (v := ?_) 263 rfl rfl (by kernel_rfl) (by kernel_rfl) (by kernel_rfl) (fun _ _ _ h => h) (Or.inl ⟨by rfl, ?_⟩) (by assumption) ?_
  rotate_left
  · (intro w' hSw; (try dsimp only at hSw); go_simp; all_goals with_reducible rfl)
  try simp only [Act.put, List.setIfInBounds_toArray, List.set_cons_zero, List.set_cons_succ]
  have hne0 : ¬ w.heap.size = (w.heap.size + 1 + 1) := by omega
  have hne1 : ¬ w.heap.size = (w.heap.size + 1 + 1) := by omega
  have hne2 : ¬ w.heap.size = (w.heap.size + 1 + 1) := by omega
  have hne3 : ¬ w.heap.size = (w.heap.size + 1 + 1) := by omega
  have hne4 : ¬ w.heap.size = (w.heap.size + 1 + 1) := by omega
  have hne5 : ¬ w.heap.size = (w.heap.size + 1 + 1) := by omega
  have hne6 : ¬ w.heap.size = (w.heap.size + 1 + 1) := by omega
  have hne7 : ¬ w.heap.size = (w.heap.size + 1 + 1) := by omega
  have hne8 : ¬ w.heap.size = (w.heap.size + 1 + 1) := by omega
  refine wpAnyH_ready (rs := [11]) (by kernel_rfl) (by simp) ?_
  refine AllReadyH.cons rfl (fun K hK => ?_) AllReadyH.nil
  refine step_store_seg rfl rfl 34 _ _ rfl (w.heap.size + 1 + 1) 0 _ #[.int .u64 0, .slice none 0 0, .int .i64 0, .slice none 0 0, .slice none 0 0, .bool false, .int .u64 0, .int .i64 0, .slice (some ⟨K2, 0, none⟩) 2 2] rfl rfl rfl 34 _ gR2 (show 0 + 9 ≤ 9 by decide) info_X9 (by simp [Value.oneCell']) #[.int .u64 0, .slice none 0 0, .int .i64 0, .slice none 0 0, .slice none 0 0, .bool false, .int .u64 0, .int .i64 0, .slice (some ⟨K2, 0, none⟩) 2 2] rfl ?_
  intro wz hrz htz
  replace k0 := TR.turn_cell htz hne0 k0
  replace k1 := TR.turn_cell htz hne1 k1
  replace k2 := TR.turn_cell htz hne2 k2
  replace k3 := TR.turn_cell htz hne3 k3
  replace k4 := TR.turn_cell htz hne4 k4
  replace k5 := TR.turn_cell htz hne5 k5
  replace k6 := TR.turn_cell htz hne6 k6
  replace k7 := TR.turn_cell htz hne7 k7
  replace k8 := TR.turn_cell htz hne8 k8
  refine hK.out _ _ ⟨k0, k1, k2, k3, k4, k5, k6, k7, k8⟩ (fun hHeldz => ?_)
  clear hK
  try simp only [Act.put, List.setIfInBounds_toArray, List.set_cons_zero, List.set_cons_succ]
  clear k0 k1 k2 k3 k4 k5 k6 k7 k8
  refine TR.take_at (i := 12) (v := ?_) 7 rfl rfl (by kernel_rfl) (by kernel_rfl) (by kernel_rfl) (fun _ _ _ h => h) (Or.inl ⟨by rfl, ?_⟩) (by assumption) ?_
  rotate_left
  · (intro w' hSw; (try dsimp only at hSw); go_simp; all_goals with_reducible rfl)
  try simp only [Act.put, List.setIfInBounds_toArray, List.set_cons_zero, List.set_cons_succ]
  refine wpAnyH_done (by kernel_rfl) ?_ _
  refine NoPanic.normal ?_
  go_wp2_with fail
  refine bodyPost_ret (TR.res_row_tmp (p := 6) (u := 7) rfl _ _ (w.heap.size + 1 + 1) 34 _ _ _ rfl hrz Tryz.underlying34 rfl info_X9) rfl ⟨⟨_, _, rfl⟩, ?_⟩
  exact H0.out.fin3 HK6.out (HO6.out.mono (Nat.le_succ n)) htz (fun g hg => by simp [hg]) (by simp) (Nat.le_trans (Nat.le_succ _) (Nat.le_succ _))
end Go.Proofs.YtndjhedoandinaaGreatDoor.MM
