/- Machines: the law's step, with the document's machine of noughts: kinds 5y, 5n, 9a, 9b, 9c. -/
import Derived.Test.YtndjhedoandinaaGreatDoorMmUa

/- Machines: the law's step, with the document's machine of noughts: kinds 3, 4y, 4n. -/
namespace Go.Proofs.YtndjhedoandinaaGreatDoor.MM
open Go.RowKit Go.Maps

set_option maxHeartbeats 4000000 in
set_option maxRecDepth 100000 in
theorem step_3 {w0 w : World} {l : List Nat} {x a n S : Nat} {most : Int} {s : St} (h : One w0 w l x a n S most s) (so nn : Int) (va wd : Nat) (hf hl hk : Bool) (hva : va < 18446744073709551616) (hwd : wd < 18446744073709551616) (hn : n < 100000000) :
    Calls Tryz.prog 9 #[.pointer (some ⟨x, 0, none⟩), .agg yZ, .agg #[.int .i64 3, .int .i64 so, .int .i64 nn, .int .u64 (va : Nat), .int .u64 (wd : Nat), .bool hf, .bool hl, .bool hk]] w fun r w' => (∃ c b, r = .returned (.tuple #[.agg c, .bool b])) ∧ StO w0 w l x a (n + 1) S most w' := by
  have H0 := Hid.mk h
  have HW := Hid.mk (h.own4 (.cells #[.int .u64 0, .slice none 0 0, .int .i64 0, .slice none 0 0, .slice none 0 0, .bool false, .int .u64 0, .int .i64 0, .slice none 0 0] 34) (.cells #[.int .i64 3, .int .i64 so, .int .i64 nn, .int .u64 (va : Nat), .int .u64 (wd : Nat), .bool hf, .bool hl, .bool hk] 40) (.cells #[.int .u64 0, .slice none 0 0, .int .i64 0, .slice none 0 0, .slice none 0 0, .bool false, .int .u64 0, .int .i64 0, .slice none 0 0] 34) (.cells #[.bool hf, .bool hl, .bool hk] 71))
  have gY := heap4_0 w (.cells #[.int .u64 0, .slice none 0 0, .int .i64 0, .slice none 0 0, .slice none 0 0, .bool false, .int .u64 0, .int .i64 0, .slice none 0 0] 34) (.cells #[.int .i64 3, .int .i64 so, .int .i64 nn, .int .u64 (va : Nat), .int .u64 (wd : Nat), .bool hf, .bool hl, .bool hk] 40) (.cells #[.int .u64 0, .slice none 0 0, .int .i64 0, .slice none 0 0, .slice none 0 0, .bool false, .int .u64 0, .int .i64 0, .slice none 0 0] 34) (.cells #[.bool hf, .bool hl, .bool hk] 71)
  have gO := heap4_1 w (.cells #[.int .u64 0, .slice none 0 0, .int .i64 0, .slice none 0 0, .slice none 0 0, .bool false, .int .u64 0, .int .i64 0, .slice none 0 0] 34) (.cells #[.int .i64 3, .int .i64 so, .int .i64 nn, .int .u64 (va : Nat), .int .u64 (wd : Nat), .bool hf, .bool hl, .bool hk] 40) (.cells #[.int .u64 0, .slice none 0 0, .int .i64 0, .slice none 0 0, .slice none 0 0, .bool false, .int .u64 0, .int .i64 0, .slice none 0 0] 34) (.cells #[.bool hf, .bool hl, .bool hk] 71)
  have gR := heap4_2 w (.cells #[.int .u64 0, .slice none 0 0, .int .i64 0, .slice none 0 0, .slice none 0 0, .bool false, .int .u64 0, .int .i64 0, .slice none 0 0] 34) (.cells #[.int .i64 3, .int .i64 so, .int .i64 nn, .int .u64 (va : Nat), .int .u64 (wd : Nat), .bool hf, .bool hl, .bool hk] 40) (.cells #[.int .u64 0, .slice none 0 0, .int .i64 0, .slice none 0 0, .slice none 0 0, .bool false, .int .u64 0, .int .i64 0, .slice none 0 0] 34) (.cells #[.bool hf, .bool hl, .bool hk] 71)
  have gH := heap4_3 w (.cells #[.int .u64 0, .slice none 0 0, .int .i64 0, .slice none 0 0, .slice none 0 0, .bool false, .int .u64 0, .int .i64 0, .slice none 0 0] 34) (.cells #[.int .i64 3, .int .i64 so, .int .i64 nn, .int .u64 (va : Nat), .int .u64 (wd : Nat), .bool hf, .bool hl, .bool hk] 40) (.cells #[.int .u64 0, .slice none 0 0, .int .i64 0, .slice none 0 0, .slice none 0 0, .bool false, .int .u64 0, .int .i64 0, .slice none 0 0] 34) (.cells #[.bool hf, .bool hl, .bool hk] 71)
  have hB := below4 w (.cells #[.int .u64 0, .slice none 0 0, .int .i64 0, .slice none 0 0, .slice none 0 0, .bool false, .int .u64 0, .int .i64 0, .slice none 0 0] 34) (.cells #[.int .i64 3, .int .i64 so, .int .i64 nn, .int .u64 (va : Nat), .int .u64 (wd : Nat), .bool hf, .bool hl, .bool hk] 40) (.cells #[.int .u64 0, .slice none 0 0, .int .i64 0, .slice none 0 0, .slice none 0 0, .bool false, .int .u64 0, .int .i64 0, .slice none 0 0] 34) (.cells #[.bool hf, .bool hl, .bool hk] 71)
  clear h
  go_enter Tryz.func9, Tryz.ntmps9
  go_upto_region 2 with fail
  generalize (((w.alloc (.cells #[.int .u64 0, .slice none 0 0, .int .i64 0, .slice none 0 0, .slice none 0 0, .bool false, .int .u64 0, .int .i64 0, .slice none 0 0] 34)).alloc (.cells #[.int .i64 3, .int .i64 so, .int .i64 nn, .int .u64 (va : Nat), .int .u64 (wd : Nat), .bool hf, .bool hl, .bool hk] 40)).alloc (.cells #[.int .u64 0, .slice none 0 0, .int .i64 0, .slice none 0 0, .slice none 0 0, .bool false, .int .u64 0, .int .i64 0, .slice none 0 0] 34)).alloc (.cells #[.bool hf, .bool hl, .bool hk] 71) = W at *
  have HB := Hid.mk hB
  clear hB
  obtain ⟨o0, o1, o2, o3, o4, o5, o6, o7⟩ := cells8p gO
  obtain ⟨c0, c1, c2, c3, c4, c5, c6, c7, c8⟩ := cells9 gY
  obtain ⟨t0, t1, t2⟩ := cells3 gH
  go_upto_region 11 with fail
  have k0 := o3
  have k1 := o4
  clear o0 o1 o2 o3 o4 o5 o6 o7 c0 c1 c2 c3 c4 c5 c6 c7 c8 t0 t1 t2
  refine wp_region_noPanic ?_
  refine wp_region_held_drew (S := (fun w' => w'.cell? ⟨(w.heap.size + 1), 3, none⟩ = some (.int .u64 (va : Nat)) ∧ w'.cell? ⟨(w.heap.size + 1), 4, none⟩ = some (.int .u64 (wd : Nat)))) (by kernel_rfl) ?_ (fun hHeld => ?_)
  · exact ⟨cell_later (Below.refl _ _).drew k0, cell_later (Below.refl _ _).drew k1⟩
  replace k0 := cell_later (Below.refl _ W).drew k0
  replace k1 := cell_later (Below.refl _ W).drew k1
  refine TR.take_at (i := 0) (v := ?_) 75 rfl rfl (by kernel_rfl) (by kernel_rfl) (by kernel_rfl) (fun _ _ _ h => h) (Or.inl ⟨by rfl, ?_⟩) (by assumption) ?_
  rotate_left
  · (intro w' hSw; (try dsimp only at hSw); go_simp; all_goals with_reducible rfl)
  try simp only [Act.put, List.setIfInBounds_toArray, List.set_cons_zero, List.set_cons_succ]
  refine TR.take_at (i := 2) (v := ?_) 77 rfl rfl (by kernel_rfl) (by kernel_rfl) (by kernel_rfl) (fun _ _ _ h => h) (Or.inl ⟨by rfl, ?_⟩) (by assumption) ?_
  rotate_left
  · (intro w' hSw; (try dsimp only at hSw); go_simp; all_goals with_reducible rfl)
  try simp only [Act.put, List.setIfInBounds_toArray, List.set_cons_zero, List.set_cons_succ]
  refine TR.take_at (i := 3) (v := ?_) 78 rfl rfl (by kernel_rfl) (by kernel_rfl) (by kernel_rfl) (fun _ _ _ h => h) (Or.inl ⟨by rfl, ?_⟩) (by assumption) ?_
  rotate_left
  · (intro w' hSw; (try dsimp only at hSw); go_simp; all_goals with_reducible rfl)
  try simp only [Act.put, List.setIfInBounds_toArray, List.set_cons_zero, List.set_cons_succ]
  refine TR.take_at (i := 4) (v := ?_) 79 rfl rfl (by kernel_rfl) (by kernel_rfl) (by kernel_rfl) (fun _ _ _ h => h) (Or.inl ⟨by rfl, ?_⟩) (by assumption) ?_
  rotate_left
  · (intro w' hSw; (try dsimp only at hSw); go_simp; all_goals with_reducible rfl)
  try simp only [Act.put, List.setIfInBounds_toArray, List.set_cons_zero, List.set_cons_succ]
  refine TR.take_at (i := 5) (v := ?_) 80 rfl rfl (by kernel_rfl) (by kernel_rfl) (by kernel_rfl) (fun _ _ _ h => h) (Or.inl ⟨by rfl, ?_⟩) (by assumption) ?_
  rotate_left
  · (intro w' hSw; (try dsimp only at hSw); go_simp; all_goals with_reducible rfl)
  try simp only [Act.put, List.setIfInBounds_toArray, List.set_cons_zero, List.set_cons_succ]
  have HWd := Hid.mk (HW.out.later (Below.refl _ W).drew)
  replace gY := block_later (Below.refl _ W).drew gY
  replace gO := block_later (Below.refl _ W).drew gO
  replace gR := block_later (Below.refl _ W).drew gR
  have HBd := Hid.mk (HB.out.drew)
  clear HW
  generalize W.drew = Wd at *
  refine wpAnyH_ready (rs := [1]) (by kernel_rfl) (by simp) ?_
  refine AllReadyH.cons rfl (fun K hK => ?_) AllReadyH.nil
  go_simp
  refine (one_mem HWd.out).mono ?_
  rintro e v0 ⟨rfl, e0⟩
  obtain rfl : Wd = v0 := e0
  go_wp2_with fail
  refine hK.out _ _ ⟨k0, k1⟩ (fun hHeldc0 => ?_)
  clear hK
  try simp only [Act.put, List.setIfInBounds_toArray, List.set_cons_zero, List.set_cons_succ]
  refine wpAnyH_ready (rs := [6]) (by kernel_rfl) (by simp) ?_
  refine AllReadyH.cons rfl (fun K hK => ?_) AllReadyH.nil
  go_simp
  refine (HWd.out.write hn va wd hva hwd).mono ?_
  rintro e w5 ⟨rfl, h5, hk5⟩
  go_wp2_with fail
  replace k0 := hk5.cell (by simp) k0
  replace k1 := hk5.cell (by simp) k1
  replace gY := hk5.row (by simp) gY
  replace gO := hk5.row (by simp) gO
  replace gR := hk5.row (by simp) gR
  have H5 := Hid.mk (And.intro h5 hk5)
  clear h5 hk5
  refine hK.out _ _ ⟨k0, k1⟩ (fun hHeldc1 => ?_)
  clear hK
  try simp only [Act.put, List.setIfInBounds_toArray, List.set_cons_zero, List.set_cons_succ]
  refine TR.take_at (i := 7) (v := ?_) 13 rfl rfl (by kernel_rfl) (by kernel_rfl) (by kernel_rfl) (fun _ _ _ h => h) (Or.inl ⟨by rfl, ?_⟩) (by assumption) ?_
  rotate_left
  · (intro w' hSw; (try dsimp only at hSw); go_simp; all_goals with_reducible rfl)
  try simp only [Act.put, List.setIfInBounds_toArray, List.set_cons_zero, List.set_cons_succ]
  refine wpAnyH_done (by kernel_rfl) ?_ _
  refine NoPanic.normal ?_
  clear k0 k1
  obtain ⟨o0, o1, o2, o3, o4, o5, o6, o7⟩ := cells8p gO
  obtain ⟨c0, c1, c2, c3, c4, c5, c6, c7, c8⟩ := cells9 gY
  go_wp2_with fail
  refine (zmwrite va wd w5).mono ?_
  rintro e w6 ⟨p, c, rfl, hb6⟩
  have hbT := below_new w6 (.cells #[.int .u64 0, .slice p 0 c] 29)
  have gT := heap_alloc_new w6 (.cells #[.int .u64 0, .slice p 0 c] 29)
  clear o0 o1 o2 o3 o4 o5 o6 o7 c0 c1 c2 c3 c4 c5 c6 c7 c8
  go_upto_region 13 with fail
  generalize w6.alloc (.cells #[.int .u64 0, .slice p 0 c] 29) = w7 at *
  replace gY := block_later hbT (block_later hb6 gY)
  replace gR := block_later hbT (block_later hb6 gR)
  have HB7 := Hid.mk (below_tr hb6 hbT)
  clear hbT hb6
  obtain ⟨m0, m1⟩ := TR.row2c gT
  go_wp2_with
    first
    | (refine wpList_store_segTo rfl 29 _ _ rfl rfl w.heap.size 0 _ #[.int .u64 0, .slice p 0 c] rfl rfl rfl 34 _ gY (show 0 + 2 ≤ 9 by decide) info_M (by simp [Value.oneCell']) #[.int .u64 0, .slice p 0 c, .int .i64 0, .slice none 0 0, .slice none 0 0, .bool false, .int .u64 0, .int .i64 0, .slice none 0 0] rfl ?_
       intro wy hry hty
       replace gR := block_turn hty gR (by omega)
       obtain ⟨c0, c1, c2, c3, c4, c5, c6, c7, c8⟩ := cells9 hry)
    | (refine wpList_store_segTo rfl 34 _ _ rfl rfl (w.heap.size + 1 + 1) 0 _ #[.int .u64 0, .slice p 0 c, .int .i64 0, .slice none 0 0, .slice none 0 0, .bool false, .int .u64 0, .int .i64 0, .slice none 0 0] rfl rfl rfl 34 _ gR (show 0 + 9 ≤ 9 by decide) info_X9 (by simp [Value.oneCell']) #[.int .u64 0, .slice p 0 c, .int .i64 0, .slice none 0 0, .slice none 0 0, .bool false, .int .u64 0, .int .i64 0, .slice none 0 0] rfl ?_
       intro wz hrz htz)
    | fail
  refine bodyPost_ret (TR.res_row_tmp (p := 6) (u := 7) rfl _ _ (w.heap.size + 1 + 1) 34 _ _ _ rfl hrz Tryz.underlying34 rfl info_X9) rfl ⟨⟨_, _, rfl⟩, ?_⟩
  exact H0.out.fin2y HBd.out H5.out.2 (fun g hg => by simp [hg]) (H5.out.1.mono (by omega)) HB7.out hty htz (by simp) (by simp) (Nat.le_refl _) (by omega)

set_option maxHeartbeats 4000000 in
set_option maxRecDepth 100000 in
theorem step_4y {w0 w : World} {l : List Nat} {x a n S : Nat} {most : Int} {s : St} (h : One w0 w l x a n S most s) (so nn : Int) (va wd : Nat) (hf hl hk : Bool) (hN : 0 ≤ nn) :
    Calls Tryz.prog 9 #[.pointer (some ⟨x, 0, none⟩), .agg yZ, .agg #[.int .i64 4, .int .i64 so, .int .i64 nn, .int .u64 (va : Nat), .int .u64 (wd : Nat), .bool hf, .bool hl, .bool hk]] w fun r w' => (∃ c b, r = .returned (.tuple #[.agg c, .bool b])) ∧ StO w0 w l x a (n + 1) S most w' := by
  have H0 := Hid.mk h
  have HW := Hid.mk (h.own4 (.cells #[.int .u64 0, .slice none 0 0, .int .i64 0, .slice none 0 0, .slice none 0 0, .bool false, .int .u64 0, .int .i64 0, .slice none 0 0] 34) (.cells #[.int .i64 4, .int .i64 so, .int .i64 nn, .int .u64 (va : Nat), .int .u64 (wd : Nat), .bool hf, .bool hl, .bool hk] 40) (.cells #[.int .u64 0, .slice none 0 0, .int .i64 0, .slice none 0 0, .slice none 0 0, .bool false, .int .u64 0, .int .i64 0, .slice none 0 0] 34) (.cells #[.bool hf, .bool hl, .bool hk] 71))
  have gY := heap4_0 w (.cells #[.int .u64 0, .slice none 0 0, .int .i64 0, .slice none 0 0, .slice none 0 0, .bool false, .int .u64 0, .int .i64 0, .slice none 0 0] 34) (.cells #[.int .i64 4, .int .i64 so, .int .i64 nn, .int .u64 (va : Nat), .int .u64 (wd : Nat), .bool hf, .bool hl, .bool hk] 40) (.cells #[.int .u64 0, .slice none 0 0, .int .i64 0, .slice none 0 0, .slice none 0 0, .bool false, .int .u64 0, .int .i64 0, .slice none 0 0] 34) (.cells #[.bool hf, .bool hl, .bool hk] 71)
  have gO := heap4_1 w (.cells #[.int .u64 0, .slice none 0 0, .int .i64 0, .slice none 0 0, .slice none 0 0, .bool false, .int .u64 0, .int .i64 0, .slice none 0 0] 34) (.cells #[.int .i64 4, .int .i64 so, .int .i64 nn, .int .u64 (va : Nat), .int .u64 (wd : Nat), .bool hf, .bool hl, .bool hk] 40) (.cells #[.int .u64 0, .slice none 0 0, .int .i64 0, .slice none 0 0, .slice none 0 0, .bool false, .int .u64 0, .int .i64 0, .slice none 0 0] 34) (.cells #[.bool hf, .bool hl, .bool hk] 71)
  have gR := heap4_2 w (.cells #[.int .u64 0, .slice none 0 0, .int .i64 0, .slice none 0 0, .slice none 0 0, .bool false, .int .u64 0, .int .i64 0, .slice none 0 0] 34) (.cells #[.int .i64 4, .int .i64 so, .int .i64 nn, .int .u64 (va : Nat), .int .u64 (wd : Nat), .bool hf, .bool hl, .bool hk] 40) (.cells #[.int .u64 0, .slice none 0 0, .int .i64 0, .slice none 0 0, .slice none 0 0, .bool false, .int .u64 0, .int .i64 0, .slice none 0 0] 34) (.cells #[.bool hf, .bool hl, .bool hk] 71)
  have gH := heap4_3 w (.cells #[.int .u64 0, .slice none 0 0, .int .i64 0, .slice none 0 0, .slice none 0 0, .bool false, .int .u64 0, .int .i64 0, .slice none 0 0] 34) (.cells #[.int .i64 4, .int .i64 so, .int .i64 nn, .int .u64 (va : Nat), .int .u64 (wd : Nat), .bool hf, .bool hl, .bool hk] 40) (.cells #[.int .u64 0, .slice none 0 0, .int .i64 0, .slice none 0 0, .slice none 0 0, .bool false, .int .u64 0, .int .i64 0, .slice none 0 0] 34) (.cells #[.bool hf, .bool hl, .bool hk] 71)
  have hB := below4 w (.cells #[.int .u64 0, .slice none 0 0, .int .i64 0, .slice none 0 0, .slice none 0 0, .bool false, .int .u64 0, .int .i64 0, .slice none 0 0] 34) (.cells #[.int .i64 4, .int .i64 so, .int .i64 nn, .int .u64 (va : Nat), .int .u64 (wd : Nat), .bool hf, .bool hl, .bool hk] 40) (.cells #[.int .u64 0, .slice none 0 0, .int .i64 0, .slice none 0 0, .slice none 0 0, .bool false, .int .u64 0, .int .i64 0, .slice none 0 0] 34) (.cells #[.bool hf, .bool hl, .bool hk] 71)
  clear h
  go_enter Tryz.func9, Tryz.ntmps9
  go_upto_region 2 with fail
  generalize (((w.alloc (.cells #[.int .u64 0, .slice none 0 0, .int .i64 0, .slice none 0 0, .slice none 0 0, .bool false, .int .u64 0, .int .i64 0, .slice none 0 0] 34)).alloc (.cells #[.int .i64 4, .int .i64 so, .int .i64 nn, .int .u64 (va : Nat), .int .u64 (wd : Nat), .bool hf, .bool hl, .bool hk] 40)).alloc (.cells #[.int .u64 0, .slice none 0 0, .int .i64 0, .slice none 0 0, .slice none 0 0, .bool false, .int .u64 0, .int .i64 0, .slice none 0 0] 34)).alloc (.cells #[.bool hf, .bool hl, .bool hk] 71) = W at *
  have HB := Hid.mk hB
  clear hB
  obtain ⟨o0, o1, o2, o3, o4, o5, o6, o7⟩ := cells8p gO
  obtain ⟨c0, c1, c2, c3, c4, c5, c6, c7, c8⟩ := cells9 gY
  obtain ⟨t0, t1, t2⟩ := cells3 gH
  go_upto_region 16 with fail
  have k0 := c0
  have k1 := c1
  have k2 := c2
  have k3 := c3
  have k4 := c4
  have k5 := c5
  have k6 := c6
  have k7 := c7
  have k8 := c8
  have k9 := o2
  clear o0 o1 o2 o3 o4 o5 o6 o7 c0 c1 c2 c3 c4 c5 c6 c7 c8 t0 t1 t2
  refine wp_region_noPanic ?_
  refine wp_region_held_drew (S := (fun w' => w'.cell? ⟨w.heap.size, 0, none⟩ = some (.int .u64 0) ∧ w'.cell? ⟨w.heap.size, 1, none⟩ = some (.slice none 0 0) ∧ w'.cell? ⟨w.heap.size, 2, none⟩ = some (.int .i64 0) ∧ w'.cell? ⟨w.heap.size, 3, none⟩ = some (.slice none 0 0) ∧ w'.cell? ⟨w.heap.size, 4, none⟩ = some (.slice none 0 0) ∧ w'.cell? ⟨w.heap.size, 5, none⟩ = some (.bool false) ∧ w'.cell? ⟨w.heap.size, 6, none⟩ = some (.int .u64 0) ∧ w'.cell? ⟨w.heap.size, 7, none⟩ = some (.int .i64 0) ∧ w'.cell? ⟨w.heap.size, 8, none⟩ = some (.slice none 0 0) ∧ w'.cell? ⟨(w.heap.size + 1), 2, none⟩ = some (.int .i64 nn))) (by kernel_rfl) ?_ (fun hHeld => ?_)
  · exact ⟨cell_later (Below.refl _ _).drew k0, cell_later (Below.refl _ _).drew k1, cell_later (Below.refl _ _).drew k2, cell_later (Below.refl _ _).drew k3, cell_later (Below.refl _ _).drew k4, cell_later (Below.refl _ _).drew k5, cell_later (Below.refl _ _).drew k6, cell_later (Below.refl _ _).drew k7, cell_later (Below.refl _ _).drew k8, cell_later (Below.refl _ _).drew k9⟩
  replace k0 := cell_later (Below.refl _ W).drew k0
  replace k1 := cell_later (Below.refl _ W).drew k1
  replace k2 := cell_later (Below.refl _ W).drew k2
  replace k3 := cell_later (Below.refl _ W).drew k3
  replace k4 := cell_later (Below.refl _ W).drew k4
  replace k5 := cell_later (Below.refl _ W).drew k5
  replace k6 := cell_later (Below.refl _ W).drew k6
  replace k7 := cell_later (Below.refl _ W).drew k7
  replace k8 := cell_later (Below.refl _ W).drew k8
  replace k9 := cell_later (Below.refl _ W).drew k9
  refine TR.take_at (i := 0) (v := ?_) 100 rfl rfl (by kernel_rfl) (by kernel_rfl) (by kernel_rfl) (fun _ _ _ h => h) (Or.inl ⟨by rfl, ?_⟩) (by assumption) ?_
  rotate_left
  · (intro w' hSw; (try dsimp only at hSw); go_simp; all_goals with_reducible rfl)
  try simp only [Act.put, List.setIfInBounds_toArray, List.set_cons_zero, List.set_cons_succ]
  refine TR.take_at (i := 1) (v := ?_) 101 rfl rfl (by kernel_rfl) (by kernel_rfl) (by kernel_rfl) (fun _ _ _ h => h) (Or.inl ⟨by rfl, ?_⟩) (by assumption) ?_
  rotate_left
  · (intro w' hSw; (try dsimp only at hSw); go_simp; all_goals with_reducible rfl)
  try simp only [Act.put, List.setIfInBounds_toArray, List.set_cons_zero, List.set_cons_succ]
  refine TR.take_at (i := 2) (v := ?_) 102 rfl rfl (by kernel_rfl) (by kernel_rfl) (by kernel_rfl) (fun _ _ _ h => h) (Or.inl ⟨by rfl, ?_⟩) (by assumption) ?_
  rotate_left
  · (intro w' hSw; (try dsimp only at hSw); go_simp; all_goals with_reducible rfl)
  try simp only [Act.put, List.setIfInBounds_toArray, List.set_cons_zero, List.set_cons_succ]
  refine TR.take_at (i := 4) (v := ?_) 104 rfl rfl (by kernel_rfl) (by kernel_rfl) (by kernel_rfl) (fun _ _ _ h => h) (Or.inl ⟨by rfl, ?_⟩) (by assumption) ?_
  rotate_left
  · (intro w' hSw; (try dsimp only at hSw); go_simp; all_goals with_reducible rfl)
  try simp only [Act.put, List.setIfInBounds_toArray, List.set_cons_zero, List.set_cons_succ]
  refine TR.take_at (i := 5) (v := ?_) 105 rfl rfl (by kernel_rfl) (by kernel_rfl) (by kernel_rfl) (fun _ _ _ h => h) (Or.inl ⟨by rfl, ?_⟩) (by assumption) ?_
  rotate_left
  · (intro w' hSw; (try dsimp only at hSw); go_simp; all_goals with_reducible rfl)
  try simp only [Act.put, List.setIfInBounds_toArray, List.set_cons_zero, List.set_cons_succ]
  refine TR.take_at (i := 6) (v := ?_) 106 rfl rfl (by kernel_rfl) (by kernel_rfl) (by kernel_rfl) (fun _ _ _ h => h) (Or.inl ⟨by rfl, ?_⟩) (by assumption) ?_
  rotate_left
  · (intro w' hSw; (try dsimp only at hSw); go_simp; all_goals with_reducible rfl)
  try simp only [Act.put, List.setIfInBounds_toArray, List.set_cons_zero, List.set_cons_succ]
  refine TR.take_at (i := 8) (v := ?_) 108 rfl rfl (by kernel_rfl) (by kernel_rfl) (by kernel_rfl) (fun _ _ _ h => h) (Or.inl ⟨by rfl, ?_⟩) (by assumption) ?_
  rotate_left
  · (intro w' hSw; (try dsimp only at hSw); go_simp; all_goals with_reducible rfl)
  try simp only [Act.put, List.setIfInBounds_toArray, List.set_cons_zero, List.set_cons_succ]
  refine TR.take_at (i := 9) (v := ?_) 109 rfl rfl (by kernel_rfl) (by kernel_rfl) (by kernel_rfl) (fun _ _ _ h => h) (Or.inl ⟨by rfl, ?_⟩) (by assumption) ?_
  rotate_left
  · (intro w' hSw; (try dsimp only at hSw); go_simp; all_goals with_reducible rfl)
  try simp only [Act.put, List.setIfInBounds_toArray, List.set_cons_zero, List.set_cons_succ]
  refine TR.take_at (i := 10) (v := ?_) 110 rfl rfl (by kernel_rfl) (by kernel_rfl) (by kernel_rfl) (fun _ _ _ h => h) (Or.inl ⟨by rfl, ?_⟩) (by assumption) ?_
  rotate_left
  · (intro w' hSw; (try dsimp only at hSw); go_simp; all_goals with_reducible rfl)
  try simp only [Act.put, List.setIfInBounds_toArray, List.set_cons_zero, List.set_cons_succ]
  have HWd := Hid.mk (HW.out.later (Below.refl _ W).drew)
  replace gR := block_later (Below.refl _ W).drew gR
  have HBd := Hid.mk (HB.out.drew)
  clear HW gY gO gH
  generalize W.drew = Wd at *
  refine wpAnyH_ready (rs := [3]) (by kernel_rfl) (by simp) ?_
  refine AllReadyH.cons rfl (fun K hK => ?_) AllReadyH.nil
  go_simp
  refine (zdrop nn false Wd).mono ?_
  rintro e v0 ⟨rfl, hbm⟩
  go_wp2_with fail
  replace k0 := cell_later hbm k0
  replace k1 := cell_later hbm k1
  replace k2 := cell_later hbm k2
  replace k3 := cell_later hbm k3
  replace k4 := cell_later hbm k4
  replace k5 := cell_later hbm k5
  replace k6 := cell_later hbm k6
  replace k7 := cell_later hbm k7
  replace k8 := cell_later hbm k8
  replace k9 := cell_later hbm k9
  replace gR := block_later hbm gR
  replace HWd := Hid.mk (HWd.out.later hbm)
  replace HBd := Hid.mk (below_tr HBd.out hbm)
  clear hbm
  refine hK.out _ _ ⟨k0, k1, k2, k3, k4, k5, k6, k7, k8, k9⟩ (fun hHeldc0 => ?_)
  clear hK
  try simp only [Act.put, List.setIfInBounds_toArray, List.set_cons_zero, List.set_cons_succ]
  refine wpAnyH_ready (rs := [7]) (by kernel_rfl) (by simp) ?_
  refine AllReadyH.cons rfl (fun K hK => ?_) AllReadyH.nil
  go_simp
  refine (HWd.out.does (fun X hM => evict_c hM nn)).mono ?_
  rintro e w5 ⟨rfl, h5, hk5⟩
  go_wp2_with fail
  replace k0 := hk5.cell (by simp) k0
  replace k1 := hk5.cell (by simp) k1
  replace k2 := hk5.cell (by simp) k2
  replace k3 := hk5.cell (by simp) k3
  replace k4 := hk5.cell (by simp) k4
  replace k5 := hk5.cell (by simp) k5
  replace k6 := hk5.cell (by simp) k6
  replace k7 := hk5.cell (by simp) k7
  replace k8 := hk5.cell (by simp) k8
  replace k9 := hk5.cell (by simp) k9
  replace gR := hk5.row (by simp) gR
  have H5 := Hid.mk (And.intro h5 hk5)
  clear h5 hk5
  refine hK.out _ _ ⟨k0, k1, k2, k3, k4, k5, k6, k7, k8, k9⟩ (fun hHeldc1 => ?_)
  clear hK
  try simp only [Act.put, List.setIfInBounds_toArray, List.set_cons_zero, List.set_cons_succ]
  refine TR.take_at (i := 11) (v := ?_) 111 rfl rfl (by kernel_rfl) (by kernel_rfl) (by kernel_rfl) (fun _ _ _ h => h) (Or.inl ⟨by rfl, ?_⟩) (by assumption) ?_
  rotate_left
  · (intro w' hSw; (try dsimp only at hSw); go_simp; all_goals with_reducible rfl)
  try simp only [Act.put, List.setIfInBounds_toArray, List.set_cons_zero, List.set_cons_succ]
  refine TR.take_at (i := 12) (v := ?_) 112 rfl rfl (by kernel_rfl) (by kernel_rfl) (by kernel_rfl) (fun _ _ _ h => h) (Or.inl ⟨by rfl, ?_⟩) (by assumption) ?_
  rotate_left
  · (intro w' hSw; (try dsimp only at hSw); go_simp; all_goals with_reducible rfl)
  try simp only [Act.put, List.setIfInBounds_toArray, List.set_cons_zero, List.set_cons_succ]
  refine TR.take_at (i := 13) (v := ?_) 113 rfl rfl (by kernel_rfl) (by kernel_rfl) (by kernel_rfl) (fun _ _ _ h => h) (Or.inl ⟨by rfl, ?_⟩) (by assumption) ?_
  rotate_left
  · (intro w' hSw; (try dsimp only at hSw); go_simp; all_goals with_reducible rfl)
  try simp only [Act.put, List.setIfInBounds_toArray, List.set_cons_zero, List.set_cons_succ]
  refine TR.take_at (i := 14) (v := ?_) 114 rfl rfl (by kernel_rfl) (by kernel_rfl) (by kernel_rfl) (fun _ _ _ h => h) (Or.inl ⟨by rfl, ?_⟩) (by assumption) ?_
  rotate_left
  · (intro w' hSw; (try dsimp only at hSw); go_simp; all_goals with_reducible rfl)
  try simp only [Act.put, List.setIfInBounds_toArray, List.set_cons_zero, List.set_cons_succ]
  refine TR.take_at (i := 15) (v := ?_) 115 rfl rfl (by kernel_rfl) (by kernel_rfl) (by kernel_rfl) (fun _ _ _ h => h) (Or.inl ⟨by rfl, ?_⟩) (by assumption) ?_
  rotate_left
  · (intro w' hSw; (try dsimp only at hSw); go_simp; all_goals with_reducible rfl)
  try simp only [Act.put, List.setIfInBounds_toArray, List.set_cons_zero, List.set_cons_succ]
  refine TR.take_at (i := 16) (v := ?_) 116 rfl rfl (by kernel_rfl) (by kernel_rfl) (by kernel_rfl) (fun _ _ _ h => h) (Or.inl ⟨by rfl, ?_⟩) (by assumption) ?_
  rotate_left
  · (intro w' hSw; (try dsimp only at hSw); go_simp; all_goals with_reducible rfl)
  try simp only [Act.put, List.setIfInBounds_toArray, List.set_cons_zero, List.set_cons_succ]
  refine TR.take_at (i := 17) (v := ?_) 117 rfl rfl (by kernel_rfl) (by kernel_rfl) (by kernel_rfl) (fun _ _ _ h => h) (Or.inl ⟨by rfl, ?_⟩) (by assumption) ?_
  rotate_left
  · (intro w' hSw; (try dsimp only at hSw); go_simp; all_goals with_reducible rfl)
  try simp only [Act.put, List.setIfInBounds_toArray, List.set_cons_zero, List.set_cons_succ]
  refine TR.take_at (i := 18) (v := ?_) 118 rfl rfl (by kernel_rfl) (by kernel_rfl) (by kernel_rfl) (fun _ _ _ h => h) (Or.inl ⟨by rfl, ?_⟩) (by assumption) ?_
  rotate_left
  · (intro w' hSw; (try dsimp only at hSw); go_simp; all_goals with_reducible rfl)
  try simp only [Act.put, List.setIfInBounds_toArray, List.set_cons_zero, List.set_cons_succ]
  refine TR.take_at (i := 19) (v := ?_) 119 rfl rfl (by kernel_rfl) (by kernel_rfl) (by kernel_rfl) (fun _ _ _ h => h) (Or.inl ⟨by rfl, ?_⟩) (by assumption) ?_
  rotate_left
  · (intro w' hSw; (try dsimp only at hSw); go_simp; all_goals with_reducible rfl)
  try simp only [Act.put, List.setIfInBounds_toArray, List.set_cons_zero, List.set_cons_succ]
  have hne0 : ¬ w.heap.size = (w.heap.size + 1 + 1) := by omega
  have hne1 : ¬ w.heap.size = (w.heap.size + 1 + 1) := by omega
  have hne2 : ¬ w.heap.size = (w.heap.size + 1 + 1) := by omega
  have hne3 : ¬ w.heap.size = (w.heap.size + 1 + 1) := by omega
  have hne4 : ¬ w.heap.size = (w.heap.size + 1 + 1) := by omega
  have hne5 : ¬ w.heap.size = (w.heap.size + 1 + 1) := by omega
  have hne6 : ¬ w.heap.size = (w.heap.size + 1 + 1) := by omega
  have hne7 : ¬ w.heap.size = (w.heap.size + 1 + 1) := by omega
  have hne8 : ¬ w.heap.size = (w.heap.size + 1 + 1) := by omega
  have hne9 : ¬ (w.heap.size + 1) = (w.heap.size + 1 + 1) := by omega
  refine wpAnyH_ready (rs := [20]) (by kernel_rfl) (by simp) ?_
  refine AllReadyH.cons rfl (fun K hK => ?_) AllReadyH.nil
  refine step_store_seg rfl rfl 34 _ _ rfl (w.heap.size + 1 + 1) 0 _ #[.int .u64 0, .slice none 0 0, .int .i64 0, .slice none 0 0, .slice none 0 0, .bool false, .int .u64 0, .int .i64 0, .slice none 0 0] rfl rfl rfl 34 _ gR (show 0 + 9 ≤ 9 by decide) info_X9 (by simp [Value.oneCell']) #[.int .u64 0, .slice none 0 0, .int .i64 0, .slice none 0 0, .slice none 0 0, .bool false, .int .u64 0, .int .i64 0, .slice none 0 0] rfl ?_
  intro wz hrz htz
  replace k0 := TR.turn_cell htz hne0 k0
  replace k1 := TR.turn_cell htz hne1 k1
  replace k2 := TR.turn_cell htz hne2 k2
  replace k3 := TR.turn_cell htz hne3 k3
  replace k4 := TR.turn_cell htz hne4 k4
  replace k5 := TR.turn_cell htz hne5 k5
  replace k6 := TR.turn_cell htz hne6 k6
  replace k7 := TR.turn_cell htz hne7 k7
  replace k8 := TR.turn_cell htz hne8 k8
  replace k9 := TR.turn_cell htz hne9 k9
  refine hK.out _ _ ⟨k0, k1, k2, k3, k4, k5, k6, k7, k8, k9⟩ (fun hHeldz => ?_)
  clear hK
  try simp only [Act.put, List.setIfInBounds_toArray, List.set_cons_zero, List.set_cons_succ]
  clear k0 k1 k2 k3 k4 k5 k6 k7 k8 k9
  refine TR.take_at (i := 21) (v := ?_) 7 rfl rfl (by kernel_rfl) (by kernel_rfl) (by kernel_rfl) (fun _ _ _ h => h) (Or.inl ⟨by rfl, ?_⟩) (by assumption) ?_
  rotate_left
  · (intro w' hSw; (try dsimp only at hSw); go_simp; all_goals with_reducible rfl)
  try simp only [Act.put, List.setIfInBounds_toArray, List.set_cons_zero, List.set_cons_succ]
  refine wpAnyH_done (by kernel_rfl) ?_ _
  refine NoPanic.normal ?_
  go_wp2_with fail
  refine bodyPost_ret (TR.res_row_tmp (p := 6) (u := 7) rfl _ _ (w.heap.size + 1 + 1) 34 _ _ _ rfl hrz Tryz.underlying34 rfl info_X9) rfl ⟨⟨_, _, rfl⟩, ?_⟩
  exact H0.out.fin HBd.out H5.out.2 (fun g hg => by simp [hg]) (H5.out.1.mono (by omega)) (Below.refl _ _) htz (by simp) (by omega)

set_option maxHeartbeats 4000000 in
set_option maxRecDepth 100000 in
theorem step_4n {w0 w : World} {l : List Nat} {x a n S : Nat} {most : Int} {s : St} (h : One w0 w l x a n S most s) (so nn : Int) (va wd : Nat) (hf hl hk : Bool) (hN : ¬ 0 ≤ nn) :
    Calls Tryz.prog 9 #[.pointer (some ⟨x, 0, none⟩), .agg yZ, .agg #[.int .i64 4, .int .i64 so, .int .i64 nn, .int .u64 (va : Nat), .int .u64 (wd : Nat), .bool hf, .bool hl, .bool hk]] w fun r w' => (∃ c b, r = .returned (.tuple #[.agg c, .bool b])) ∧ StO w0 w l x a (n + 1) S most w' := by
  have H0 := Hid.mk h
  have HW := Hid.mk (h.own4 (.cells #[.int .u64 0, .slice none 0 0, .int .i64 0, .slice none 0 0, .slice none 0 0, .bool false, .int .u64 0, .int .i64 0, .slice none 0 0] 34) (.cells #[.int .i64 4, .int .i64 so, .int .i64 nn, .int .u64 (va : Nat), .int .u64 (wd : Nat), .bool hf, .bool hl, .bool hk] 40) (.cells #[.int .u64 0, .slice none 0 0, .int .i64 0, .slice none 0 0, .slice none 0 0, .bool false, .int .u64 0, .int .i64 0, .slice none 0 0] 34) (.cells #[.bool hf, .bool hl, .bool hk] 71))
  have gY := heap4_0 w (.cells #[.int .u64 0, .slice none 0 0, .int .i64 0, .slice none 0 0, .slice none 0 0, .bool false, .int .u64 0, .int .i64 0, .slice none 0 0] 34) (.cells #[.int .i64 4, .int .i64 so, .int .i64 nn, .int .u64 (va : Nat), .int .u64 (wd : Nat), .bool hf, .bool hl, .bool hk] 40) (.cells #[.int .u64 0, .slice none 0 0, .int .i64 0, .slice none 0 0, .slice none 0 0, .bool false, .int .u64 0, .int .i64 0, .slice none 0 0] 34) (.cells #[.bool hf, .bool hl, .bool hk] 71)
  have gO := heap4_1 w (.cells #[.int .u64 0, .slice none 0 0, .int .i64 0, .slice none 0 0, .slice none 0 0, .bool false, .int .u64 0, .int .i64 0, .slice none 0 0] 34) (.cells #[.int .i64 4, .int .i64 so, .int .i64 nn, .int .u64 (va : Nat), .int .u64 (wd : Nat), .bool hf, .bool hl, .bool hk] 40) (.cells #[.int .u64 0, .slice none 0 0, .int .i64 0, .slice none 0 0, .slice none 0 0, .bool false, .int .u64 0, .int .i64 0, .slice none 0 0] 34) (.cells #[.bool hf, .bool hl, .bool hk] 71)
  have gR := heap4_2 w (.cells #[.int .u64 0, .slice none 0 0, .int .i64 0, .slice none 0 0, .slice none 0 0, .bool false, .int .u64 0, .int .i64 0, .slice none 0 0] 34) (.cells #[.int .i64 4, .int .i64 so, .int .i64 nn, .int .u64 (va : Nat), .int .u64 (wd : Nat), .bool hf, .bool hl, .bool hk] 40) (.cells #[.int .u64 0, .slice none 0 0, .int .i64 0, .slice none 0 0, .slice none 0 0, .bool false, .int .u64 0, .int .i64 0, .slice none 0 0] 34) (.cells #[.bool hf, .bool hl, .bool hk] 71)
  have gH := heap4_3 w (.cells #[.int .u64 0, .slice none 0 0, .int .i64 0, .slice none 0 0, .slice none 0 0, .bool false, .int .u64 0, .int .i64 0, .slice none 0 0] 34) (.cells #[.int .i64 4, .int .i64 so, .int .i64 nn, .int .u64 (va : Nat), .int .u64 (wd : Nat), .bool hf, .bool hl, .bool hk] 40) (.cells #[.int .u64 0, .slice none 0 0, .int .i64 0, .slice none 0 0, .slice none 0 0, .bool false, .int .u64 0, .int .i64 0, .slice none 0 0] 34) (.cells #[.bool hf, .bool hl, .bool hk] 71)
  have hB := below4 w (.cells #[.int .u64 0, .slice none 0 0, .int .i64 0, .slice none 0 0, .slice none 0 0, .bool false, .int .u64 0, .int .i64 0, .slice none 0 0] 34) (.cells #[.int .i64 4, .int .i64 so, .int .i64 nn, .int .u64 (va : Nat), .int .u64 (wd : Nat), .bool hf, .bool hl, .bool hk] 40) (.cells #[.int .u64 0, .slice none 0 0, .int .i64 0, .slice none 0 0, .slice none 0 0, .bool false, .int .u64 0, .int .i64 0, .slice none 0 0] 34) (.cells #[.bool hf, .bool hl, .bool hk] 71)
  clear h
  go_enter Tryz.func9, Tryz.ntmps9
  go_upto_region 2 with fail
  generalize (((w.alloc (.cells #[.int .u64 0, .slice none 0 0, .int .i64 0, .slice none 0 0, .slice none 0 0, .bool false, .int .u64 0, .int .i64 0, .slice none 0 0] 34)).alloc (.cells #[.int .i64 4, .int .i64 so, .int .i64 nn, .int .u64 (va : Nat), .int .u64 (wd : Nat), .bool hf, .bool hl, .bool hk] 40)).alloc (.cells #[.int .u64 0, .slice none 0 0, .int .i64 0, .slice none 0 0, .slice none 0 0, .bool false, .int .u64 0, .int .i64 0, .slice none 0 0] 34)).alloc (.cells #[.bool hf, .bool hl, .bool hk] 71) = W at *
  have HB := Hid.mk hB
  clear hB
  obtain ⟨o0, o1, o2, o3, o4, o5, o6, o7⟩ := cells8p gO
  obtain ⟨c0, c1, c2, c3, c4, c5, c6, c7, c8⟩ := cells9 gY
  obtain ⟨t0, t1, t2⟩ := cells3 gH
  go_upto_region 16 with fail
  have k0 := c0
  have k1 := c1
  have k2 := c2
  have k3 := c3
  have k4 := c4
  have k5 := c5
  have k6 := c6
  have k7 := c7
  have k8 := c8
  have k9 := o2
  clear o0 o1 o2 o3 o4 o5 o6 o7 c0 c1 c2 c3 c4 c5 c6 c7 c8 t0 t1 t2
  refine wp_region_noPanic ?_
  refine wp_region_held_drew (S := (fun w' => w'.cell? ⟨w.heap.size, 0, none⟩ = some (.int .u64 0) ∧ w'.cell? ⟨w.heap.size, 1, none⟩ = some (.slice none 0 0) ∧ w'.cell? ⟨w.heap.size, 2, none⟩ = some (.int .i64 0) ∧ w'.cell? ⟨w.heap.size, 3, none⟩ = some (.slice none 0 0) ∧ w'.cell? ⟨w.heap.size, 4, none⟩ = some (.slice none 0 0) ∧ w'.cell? ⟨w.heap.size, 5, none⟩ = some (.bool false) ∧ w'.cell? ⟨w.heap.size, 6, none⟩ = some (.int .u64 0) ∧ w'.cell? ⟨w.heap.size, 7, none⟩ = some (.int .i64 0) ∧ w'.cell? ⟨w.heap.size, 8, none⟩ = some (.slice none 0 0) ∧ w'.cell? ⟨(w.heap.size + 1), 2, none⟩ = some (.int .i64 nn))) (by kernel_rfl) ?_ (fun hHeld => ?_)
  · exact ⟨cell_later (Below.refl _ _).drew k0, cell_later (Below.refl _ _).drew k1, cell_later (Below.refl _ _).drew k2, cell_later (Below.refl _ _).drew k3, cell_later (Below.refl _ _).drew k4, cell_later (Below.refl _ _).drew k5, cell_later (Below.refl _ _).drew k6, cell_later (Below.refl _ _).drew k7, cell_later (Below.refl _ _).drew k8, cell_later (Below.refl _ _).drew k9⟩
  replace k0 := cell_later (Below.refl _ W).drew k0
  replace k1 := cell_later (Below.refl _ W).drew k1
  replace k2 := cell_later (Below.refl _ W).drew k2
  replace k3 := cell_later (Below.refl _ W).drew k3
  replace k4 := cell_later (Below.refl _ W).drew k4
  replace k5 := cell_later (Below.refl _ W).drew k5
  replace k6 := cell_later (Below.refl _ W).drew k6
  replace k7 := cell_later (Below.refl _ W).drew k7
  replace k8 := cell_later (Below.refl _ W).drew k8
  replace k9 := cell_later (Below.refl _ W).drew k9
  refine TR.take_at (i := 0) (v := ?_) 100 rfl rfl (by kernel_rfl) (by kernel_rfl) (by kernel_rfl) (fun _ _ _ h => h) (Or.inl ⟨by rfl, ?_⟩) (by assumption) ?_
  rotate_left
  · (intro w' hSw; (try dsimp only at hSw); go_simp; all_goals with_reducible rfl)
  try simp only [Act.put, List.setIfInBounds_toArray, List.set_cons_zero, List.set_cons_succ]
  refine TR.take_at (i := 1) (v := ?_) 101 rfl rfl (by kernel_rfl) (by kernel_rfl) (by kernel_rfl) (fun _ _ _ h => h) (Or.inl ⟨by rfl, ?_⟩) (by assumption) ?_
  rotate_left
  · (intro w' hSw; (try dsimp only at hSw); go_simp; all_goals with_reducible rfl)
  try simp only [Act.put, List.setIfInBounds_toArray, List.set_cons_zero, List.set_cons_succ]
  refine TR.take_at (i := 2) (v := ?_) 102 rfl rfl (by kernel_rfl) (by kernel_rfl) (by kernel_rfl) (fun _ _ _ h => h) (Or.inl ⟨by rfl, ?_⟩) (by assumption) ?_
  rotate_left
  · (intro w' hSw; (try dsimp only at hSw); go_simp; all_goals with_reducible rfl)
  try simp only [Act.put, List.setIfInBounds_toArray, List.set_cons_zero, List.set_cons_succ]
  refine TR.take_at (i := 4) (v := ?_) 104 rfl rfl (by kernel_rfl) (by kernel_rfl) (by kernel_rfl) (fun _ _ _ h => h) (Or.inl ⟨by rfl, ?_⟩) (by assumption) ?_
  rotate_left
  · (intro w' hSw; (try dsimp only at hSw); go_simp; all_goals with_reducible rfl)
  try simp only [Act.put, List.setIfInBounds_toArray, List.set_cons_zero, List.set_cons_succ]
  refine TR.take_at (i := 5) (v := ?_) 105 rfl rfl (by kernel_rfl) (by kernel_rfl) (by kernel_rfl) (fun _ _ _ h => h) (Or.inl ⟨by rfl, ?_⟩) (by assumption) ?_
  rotate_left
  · (intro w' hSw; (try dsimp only at hSw); go_simp; all_goals with_reducible rfl)
  try simp only [Act.put, List.setIfInBounds_toArray, List.set_cons_zero, List.set_cons_succ]
  refine TR.take_at (i := 6) (v := ?_) 106 rfl rfl (by kernel_rfl) (by kernel_rfl) (by kernel_rfl) (fun _ _ _ h => h) (Or.inl ⟨by rfl, ?_⟩) (by assumption) ?_
  rotate_left
  · (intro w' hSw; (try dsimp only at hSw); go_simp; all_goals with_reducible rfl)
  try simp only [Act.put, List.setIfInBounds_toArray, List.set_cons_zero, List.set_cons_succ]
  refine TR.take_at (i := 8) (v := ?_) 108 rfl rfl (by kernel_rfl) (by kernel_rfl) (by kernel_rfl) (fun _ _ _ h => h) (Or.inl ⟨by rfl, ?_⟩) (by assumption) ?_
  rotate_left
  · (intro w' hSw; (try dsimp only at hSw); go_simp; all_goals with_reducible rfl)
  try simp only [Act.put, List.setIfInBounds_toArray, List.set_cons_zero, List.set_cons_succ]
  refine TR.take_at (i := 9) (v := ?_) 109 rfl rfl (by kernel_rfl) (by kernel_rfl) (by kernel_rfl) (fun _ _ _ h => h) (Or.inl ⟨by rfl, ?_⟩) (by assumption) ?_
  rotate_left
  · (intro w' hSw; (try dsimp only at hSw); go_simp; all_goals with_reducible rfl)
  try simp only [Act.put, List.setIfInBounds_toArray, List.set_cons_zero, List.set_cons_succ]
  refine TR.take_at (i := 10) (v := ?_) 110 rfl rfl (by kernel_rfl) (by kernel_rfl) (by kernel_rfl) (fun _ _ _ h => h) (Or.inl ⟨by rfl, ?_⟩) (by assumption) ?_
  rotate_left
  · (intro w' hSw; (try dsimp only at hSw); go_simp; all_goals with_reducible rfl)
  try simp only [Act.put, List.setIfInBounds_toArray, List.set_cons_zero, List.set_cons_succ]
  have HWd := Hid.mk (HW.out.later (Below.refl _ W).drew)
  replace gR := block_later (Below.refl _ W).drew gR
  have HBd := Hid.mk (HB.out.drew)
  clear HW gY gO gH
  generalize W.drew = Wd at *
  refine wpAnyH_ready (rs := [3]) (by kernel_rfl) (by simp) ?_
  refine AllReadyH.cons rfl (fun K hK => ?_) AllReadyH.nil
  go_simp
  refine (zdrop nn false Wd).mono ?_
  rintro e v0 ⟨rfl, hbm⟩
  go_wp2_with fail
  replace k0 := cell_later hbm k0
  replace k1 := cell_later hbm k1
  replace k2 := cell_later hbm k2
  replace k3 := cell_later hbm k3
  replace k4 := cell_later hbm k4
  replace k5 := cell_later hbm k5
  replace k6 := cell_later hbm k6
  replace k7 := cell_later hbm k7
  replace k8 := cell_later hbm k8
  replace k9 := cell_later hbm k9
  replace gR := block_later hbm gR
  replace HWd := Hid.mk (HWd.out.later hbm)
  replace HBd := Hid.mk (below_tr HBd.out hbm)
  clear hbm
  refine hK.out _ _ ⟨k0, k1, k2, k3, k4, k5, k6, k7, k8, k9⟩ (fun hHeldc0 => ?_)
  clear hK
  try simp only [Act.put, List.setIfInBounds_toArray, List.set_cons_zero, List.set_cons_succ]
  refine wpAnyH_ready (rs := [7]) (by kernel_rfl) (by simp) ?_
  refine AllReadyH.cons rfl (fun K hK => ?_) AllReadyH.nil
  go_simp
  refine (HWd.out.does (fun X hM => evict_c hM nn)).mono ?_
  rintro e w5 ⟨rfl, h5, hk5⟩
  go_wp2_with fail
  replace k0 := hk5.cell (by simp) k0
  replace k1 := hk5.cell (by simp) k1
  replace k2 := hk5.cell (by simp) k2
  replace k3 := hk5.cell (by simp) k3
  replace k4 := hk5.cell (by simp) k4
  replace k5 := hk5.cell (by simp) k5
  replace k6 := hk5.cell (by simp) k6
  replace k7 := hk5.cell (by simp) k7
  replace k8 := hk5.cell (by simp) k8
  replace k9 := hk5.cell (by simp) k9
  replace gR := hk5.row (by simp) gR
  have H5 := Hid.mk (And.intro h5 hk5)
  clear h5 hk5
  refine hK.out _ _ ⟨k0, k1, k2, k3, k4, k5, k6, k7, k8, k9⟩ (fun hHeldc1 => ?_)
  clear hK
  try simp only [Act.put, List.setIfInBounds_toArray, List.set_cons_zero, List.set_cons_succ]
  refine TR.take_at (i := 11) (v := ?_) 111 rfl rfl (by kernel_rfl) (by kernel_rfl) (by kernel_rfl) (fun _ _ _ h => h) (Or.inl ⟨by rfl, ?_⟩) (by assumption) ?_
  rotate_left
  · (intro w' hSw; (try dsimp only at hSw); go_simp; all_goals with_reducible rfl)
  try simp only [Act.put, List.setIfInBounds_toArray, List.set_cons_zero, List.set_cons_succ]
  refine TR.take_at (i := 12) (v := undef) 112 rfl rfl (by kernel_rfl) (by kernel_rfl) (by kernel_rfl) (fun _ _ _ h => h) (Or.inr ⟨by rfl, rfl⟩) (by assumption) ?_
  try simp only [Act.put, List.setIfInBounds_toArray, List.set_cons_zero, List.set_cons_succ]
  refine TR.take_at (i := 13) (v := undef) 113 rfl rfl (by kernel_rfl) (by kernel_rfl) (by kernel_rfl) (fun _ _ _ h => h) (Or.inr ⟨by rfl, rfl⟩) (by assumption) ?_
  try simp only [Act.put, List.setIfInBounds_toArray, List.set_cons_zero, List.set_cons_succ]
  refine TR.take_at (i := 14) (v := undef) 114 rfl rfl (by kernel_rfl) (by kernel_rfl) (by kernel_rfl) (fun _ _ _ h => h) (Or.inr ⟨by rfl, rfl⟩) (by assumption) ?_
  try simp only [Act.put, List.setIfInBounds_toArray, List.set_cons_zero, List.set_cons_succ]
  refine TR.take_at (i := 15) (v := undef) 115 rfl rfl (by kernel_rfl) (by kernel_rfl) (by kernel_rfl) (fun _ _ _ h => h) (Or.inr ⟨by rfl, rfl⟩) (by assumption) ?_
  try simp only [Act.put, List.setIfInBounds_toArray, List.set_cons_zero, List.set_cons_succ]
  refine TR.take_at (i := 16) (v := undef) 116 rfl rfl (by kernel_rfl) (by kernel_rfl) (by kernel_rfl) (fun _ _ _ h => h) (Or.inr ⟨by rfl, rfl⟩) (by assumption) ?_
  try simp only [Act.put, List.setIfInBounds_toArray, List.set_cons_zero, List.set_cons_succ]
  refine TR.take_at (i := 17) (v := undef) 117 rfl rfl (by kernel_rfl) (by kernel_rfl) (by kernel_rfl) (fun _ _ _ h => h) (Or.inr ⟨by rfl, rfl⟩) (by assumption) ?_
  try simp only [Act.put, List.setIfInBounds_toArray, List.set_cons_zero, List.set_cons_succ]
  refine TR.take_at (i := 18) (v := ?_) 118 rfl rfl (by kernel_rfl) (by kernel_rfl) (by kernel_rfl) (fun _ _ _ h => h) (Or.inl ⟨by rfl, ?_⟩) (by assumption) ?_
  rotate_left
  · (intro w' hSw; (try dsimp only at hSw); go_simp; all_goals with_reducible rfl)
  try simp only [Act.put, List.setIfInBounds_toArray, List.set_cons_zero, List.set_cons_succ]
  refine TR.take_at (i := 19) (v := ?_) 119 rfl rfl (by kernel_rfl) (by kernel_rfl) (by kernel_rfl) (fun _ _ _ h => h) (Or.inl ⟨by rfl, ?_⟩) (by assumption) ?_
  rotate_left
  · (intro w' hSw; (try dsimp only at hSw); go_simp; all_goals with_reducible rfl)
  try simp only [Act.put, List.setIfInBounds_toArray, List.set_cons_zero, List.set_cons_succ]
  have hne0 : ¬ w.heap.size = (w.heap.size + 1 + 1) := by omega
  have hne1 : ¬ w.heap.size = (w.heap.size + 1 + 1) := by omega
  have hne2 : ¬ w.heap.size = (w.heap.size + 1 + 1) := by omega
  have hne3 : ¬ w.heap.size = (w.heap.size + 1 + 1) := by omega
  have hne4 : ¬ w.heap.size = (w.heap.size + 1 + 1) := by omega
  have hne5 : ¬ w.heap.size = (w.heap.size + 1 + 1) := by omega
  have hne6 : ¬ w.heap.size = (w.heap.size + 1 + 1) := by omega
  have hne7 : ¬ w.heap.size = (w.heap.size + 1 + 1) := by omega
  have hne8 : ¬ w.heap.size = (w.heap.size + 1 + 1) := by omega
  have hne9 : ¬ (w.heap.size + 1) = (w.heap.size + 1 + 1) := by omega
  refine wpAnyH_ready (rs := [20]) (by kernel_rfl) (by simp) ?_
  refine AllReadyH.cons rfl (fun K hK => ?_) AllReadyH.nil
  refine step_store_seg rfl rfl 34 _ _ rfl (w.heap.size + 1 + 1) 0 _ #[.int .u64 0, .slice none 0 0, .int .i64 0, .slice none 0 0, .slice none 0 0, .bool false, .int .u64 0, .int .i64 0, .slice none 0 0] rfl rfl rfl 34 _ gR (show 0 + 9 ≤ 9 by decide) info_X9 (by simp [Value.oneCell']) #[.int .u64 0, .slice none 0 0, .int .i64 0, .slice none 0 0, .slice none 0 0, .bool false, .int .u64 0, .int .i64 0, .slice none 0 0] rfl ?_
  intro wz hrz htz
  replace k0 := TR.turn_cell htz hne0 k0
  replace k1 := TR.turn_cell htz hne1 k1
  replace k2 := TR.turn_cell htz hne2 k2
  replace k3 := TR.turn_cell htz hne3 k3
  replace k4 := TR.turn_cell htz hne4 k4
  replace k5 := TR.turn_cell htz hne5 k5
  replace k6 := TR.turn_cell htz hne6 k6
  replace k7 := TR.turn_cell htz hne7 k7
  replace k8 := TR.turn_cell htz hne8 k8
  replace k9 := TR.turn_cell htz hne9 k9
  refine hK.out _ _ ⟨k0, k1, k2, k3, k4, k5, k6, k7, k8, k9⟩ (fun hHeldz => ?_)
  clear hK
  try simp only [Act.put, List.setIfInBounds_toArray, List.set_cons_zero, List.set_cons_succ]
  clear k0 k1 k2 k3 k4 k5 k6 k7 k8 k9
  refine TR.take_at (i := 21) (v := ?_) 7 rfl rfl (by kernel_rfl) (by kernel_rfl) (by kernel_rfl) (fun _ _ _ h => h) (Or.inl ⟨by rfl, ?_⟩) (by assumption) ?_
  rotate_left
  · (intro w' hSw; (try dsimp only at hSw); go_simp; all_goals with_reducible rfl)
  try simp only [Act.put, List.setIfInBounds_toArray, List.set_cons_zero, List.set_cons_succ]
  refine wpAnyH_done (by kernel_rfl) ?_ _
  refine NoPanic.normal ?_
  go_wp2_with fail
  refine bodyPost_ret (TR.res_row_tmp (p := 6) (u := 7) rfl _ _ (w.heap.size + 1 + 1) 34 _ _ _ rfl hrz Tryz.underlying34 rfl info_X9) rfl ⟨⟨_, _, rfl⟩, ?_⟩
  exact H0.out.fin HBd.out H5.out.2 (fun g hg => by simp [hg]) (H5.out.1.mono (by omega)) (Below.refl _ _) htz (by simp) (by omega)
end Go.Proofs.YtndjhedoandinaaGreatDoor.MM

namespace Go.Proofs.YtndjhedoandinaaGreatDoor.MM
open Go.RowKit Go.Maps

set_option maxHeartbeats 4000000 in
set_option maxRecDepth 100000 in
theorem step_5y {w0 w : World} {l : List Nat} {x a n S : Nat} {most : Int} {s : St} (h : One w0 w l x a n S most s) (so nn : Int) (va wd : Nat) (hf hl hk : Bool) (hN : 0 ≤ nn) :
    Calls Tryz.prog 9 #[.pointer (some ⟨x, 0, none⟩), .agg yZ, .agg #[.int .i64 5, .int .i64 so, .int .i64 nn, .int .u64 (va : Nat), .int .u64 (wd : Nat), .bool hf, .bool hl, .bool hk]] w fun r w' => (∃ c b, r = .returned (.tuple #[.agg c, .bool b])) ∧ StO w0 w l x a (n + 1) S most w' := by
  have H0 := Hid.mk h
  have HW := Hid.mk (h.own4 (.cells #[.int .u64 0, .slice none 0 0, .int .i64 0, .slice none 0 0, .slice none 0 0, .bool false, .int .u64 0, .int .i64 0, .slice none 0 0] 34) (.cells #[.int .i64 5, .int .i64 so, .int .i64 nn, .int .u64 (va : Nat), .int .u64 (wd : Nat), .bool hf, .bool hl, .bool hk] 40) (.cells #[.int .u64 0, .slice none 0 0, .int .i64 0, .slice none 0 0, .slice none 0 0, .bool false, .int .u64 0, .int .i64 0, .slice none 0 0] 34) (.cells #[.bool hf, .bool hl, .bool hk] 71))
  have gY := heap4_0 w (.cells #[.int .u64 0, .slice none 0 0, .int .i64 0, .slice none 0 0, .slice none 0 0, .bool false, .int .u64 0, .int .i64 0, .slice none 0 0] 34) (.cells #[.int .i64 5, .int .i64 so, .int .i64 nn, .int .u64 (va : Nat), .int .u64 (wd : Nat), .bool hf, .bool hl, .bool hk] 40) (.cells #[.int .u64 0, .slice none 0 0, .int .i64 0, .slice none 0 0, .slice none 0 0, .bool false, .int .u64 0, .int .i64 0, .slice none 0 0] 34) (.cells #[.bool hf, .bool hl, .bool hk] 71)
  have gO := heap4_1 w (.cells #[.int .u64 0, .slice none 0 0, .int .i64 0, .slice none 0 0, .slice none 0 0, .bool false, .int .u64 0, .int .i64 0, .slice none 0 0] 34) (.cells #[.int .i64 5, .int .i64 so, .int .i64 nn, .int .u64 (va : Nat), .int .u64 (wd : Nat), .bool hf, .bool hl, .bool hk] 40) (.cells #[.int .u64 0, .slice none 0 0, .int .i64 0, .slice none 0 0, .slice none 0 0, .bool false, .int .u64 0, .int .i64 0, .slice none 0 0] 34) (.cells #[.bool hf, .bool hl, .bool hk] 71)
  have gR := heap4_2 w (.cells #[.int .u64 0, .slice none 0 0, .int .i64 0, .slice none 0 0, .slice none 0 0, .bool false, .int .u64 0, .int .i64 0, .slice none 0 0] 34) (.cells #[.int .i64 5, .int .i64 so, .int .i64 nn, .int .u64 (va : Nat), .int .u64 (wd : Nat), .bool hf, .bool hl, .bool hk] 40) (.cells #[.int .u64 0, .slice none 0 0, .int .i64 0, .slice none 0 0, .slice none 0 0, .bool false, .int .u64 0, .int .i64 0, .slice none 0 0] 34) (.cells #[.bool hf, .bool hl, .bool hk] 71)
  have gH := heap4_3 w (.cells #[.int .u64 0, .slice none 0 0, .int .i64 0, .slice none 0 0, .slice none 0 0, .bool false, .int .u64 0, .int .i64 0, .slice none 0 0] 34) (.cells #[.int .i64 5, .int .i64 so, .int .i64 nn, .int .u64 (va : Nat), .int .u64 (wd : Nat), .bool hf, .bool hl, .bool hk] 40) (.cells #[.int .u64 0, .slice none 0 0, .int .i64 0, .slice none 0 0, .slice none 0 0, .bool false, .int .u64 0, .int .i64 0, .slice none 0 0] 34) (.cells #[.bool hf, .bool hl, .bool hk] 71)
  have hB := below4 w (.cells #[.int .u64 0, .slice none 0 0, .int .i64 0, .slice none 0 0, .slice none 0 0, .bool false, .int .u64 0, .int .i64 0, .slice none 0 0] 34) (.cells #[.int .i64 5, .int .i64 so, .int .i64 nn, .int .u64 (va : Nat), .int .u64 (wd : Nat), .bool hf, .bool hl, .bool hk] 40) (.cells #[.int .u64 0, .slice none 0 0, .int .i64 0, .slice none 0 0, .slice none 0 0, .bool false, .int .u64 0, .int .i64 0, .slice none 0 0] 34) (.cells #[.bool hf, .bool hl, .bool hk] 71)
  clear h
  go_enter Tryz.func9, Tryz.ntmps9
  go_upto_region 2 with fail
  generalize (((w.alloc (.cells #[.int .u64 0, .slice none 0 0, .int .i64 0, .slice none 0 0, .slice none 0 0, .bool false, .int .u64 0, .int .i64 0, .slice none 0 0] 34)).alloc (.cells #[.int .i64 5, .int .i64 so, .int .i64 nn, .int .u64 (va : Nat), .int .u64 (wd : Nat), .bool hf, .bool hl, .bool hk] 40)).alloc (.cells #[.int .u64 0, .slice none 0 0, .int .i64 0, .slice none 0 0, .slice none 0 0, .bool false, .int .u64 0, .int .i64 0, .slice none 0 0] 34)).alloc (.cells #[.bool hf, .bool hl, .bool hk] 71) = W at *
  have HB := Hid.mk hB
  clear hB
  obtain ⟨o0, o1, o2, o3, o4, o5, o6, o7⟩ := cells8p gO
  obtain ⟨c0, c1, c2, c3, c4, c5, c6, c7, c8⟩ := cells9 gY
  obtain ⟨t0, t1, t2⟩ := cells3 gH
  go_upto_region 18 with fail
  have k0 := c0
  have k1 := c1
  have k2 := c2
  have k3 := c3
  have k4 := c4
  have k5 := c5
  have k6 := c6
  have k7 := c7
  have k8 := c8
  have k9 := o2
  clear o0 o1 o2 o3 o4 o5 o6 o7 c0 c1 c2 c3 c4 c5 c6 c7 c8 t0 t1 t2
  refine wp_region_noPanic ?_
  refine wp_region_held_drew (S := (fun w' => w'.cell? ⟨w.heap.size, 0, none⟩ = some (.int .u64 0) ∧ w'.cell? ⟨w.heap.size, 1, none⟩ = some (.slice none 0 0) ∧ w'.cell? ⟨w.heap.size, 2, none⟩ = some (.int .i64 0) ∧ w'.cell? ⟨w.heap.size, 3, none⟩ = some (.slice none 0 0) ∧ w'.cell? ⟨w.heap.size, 4, none⟩ = some (.slice none 0 0) ∧ w'.cell? ⟨w.heap.size, 5, none⟩ = some (.bool false) ∧ w'.cell? ⟨w.heap.size, 6, none⟩ = some (.int .u64 0) ∧ w'.cell? ⟨w.heap.size, 7, none⟩ = some (.int .i64 0) ∧ w'.cell? ⟨w.heap.size, 8, none⟩ = some (.slice none 0 0) ∧ w'.cell? ⟨(w.heap.size + 1), 2, none⟩ = some (.int .i64 nn))) (by kernel_rfl) ?_ (fun hHeld => ?_)
  · exact ⟨cell_later (Below.refl _ _).drew k0, cell_later (Below.refl _ _).drew k1, cell_later (Below.refl _ _).drew k2, cell_later (Below.refl _ _).drew k3, cell_later (Below.refl _ _).drew k4, cell_later (Below.refl _ _).drew k5, cell_later (Below.refl _ _).drew k6, cell_later (Below.refl _ _).drew k7, cell_later (Below.refl _ _).drew k8, cell_later (Below.refl _ _).drew k9⟩
  replace k0 := cell_later (Below.refl _ W).drew k0
  replace k1 := cell_later (Below.refl _ W).drew k1
  replace k2 := cell_later (Below.refl _ W).drew k2
  replace k3 := cell_later (Below.refl _ W).drew k3
  replace k4 := cell_later (Below.refl _ W).drew k4
  replace k5 := cell_later (Below.refl _ W).drew k5
  replace k6 := cell_later (Below.refl _ W).drew k6
  replace k7 := cell_later (Below.refl _ W).drew k7
  replace k8 := cell_later (Below.refl _ W).drew k8
  replace k9 := cell_later (Below.refl _ W).drew k9
  refine TR.take_at (i := 0) (v := ?_) 122 rfl rfl (by kernel_rfl) (by kernel_rfl) (by kernel_rfl) (fun _ _ _ h => h) (Or.inl ⟨by rfl, ?_⟩) (by assumption) ?_
  rotate_left
  · (intro w' hSw; (try dsimp only at hSw); go_simp; all_goals with_reducible rfl)
  try simp only [Act.put, List.setIfInBounds_toArray, List.set_cons_zero, List.set_cons_succ]
  refine TR.take_at (i := 1) (v := ?_) 123 rfl rfl (by kernel_rfl) (by kernel_rfl) (by kernel_rfl) (fun _ _ _ h => h) (Or.inl ⟨by rfl, ?_⟩) (by assumption) ?_
  rotate_left
  · (intro w' hSw; (try dsimp only at hSw); go_simp; all_goals with_reducible rfl)
  try simp only [Act.put, List.setIfInBounds_toArray, List.set_cons_zero, List.set_cons_succ]
  refine TR.take_at (i := 2) (v := ?_) 124 rfl rfl (by kernel_rfl) (by kernel_rfl) (by kernel_rfl) (fun _ _ _ h => h) (Or.inl ⟨by rfl, ?_⟩) (by assumption) ?_
  rotate_left
  · (intro w' hSw; (try dsimp only at hSw); go_simp; all_goals with_reducible rfl)
  try simp only [Act.put, List.setIfInBounds_toArray, List.set_cons_zero, List.set_cons_succ]
  refine TR.take_at (i := 4) (v := ?_) 126 rfl rfl (by kernel_rfl) (by kernel_rfl) (by kernel_rfl) (fun _ _ _ h => h) (Or.inl ⟨by rfl, ?_⟩) (by assumption) ?_
  rotate_left
  · (intro w' hSw; (try dsimp only at hSw); go_simp; all_goals with_reducible rfl)
  try simp only [Act.put, List.setIfInBounds_toArray, List.set_cons_zero, List.set_cons_succ]
  refine TR.take_at (i := 5) (v := ?_) 127 rfl rfl (by kernel_rfl) (by kernel_rfl) (by kernel_rfl) (fun _ _ _ h => h) (Or.inl ⟨by rfl, ?_⟩) (by assumption) ?_
  rotate_left
  · (intro w' hSw; (try dsimp only at hSw); go_simp; all_goals with_reducible rfl)
  try simp only [Act.put, List.setIfInBounds_toArray, List.set_cons_zero, List.set_cons_succ]
  refine TR.take_at (i := 6) (v := ?_) 128 rfl rfl (by kernel_rfl) (by kernel_rfl) (by kernel_rfl) (fun _ _ _ h => h) (Or.inl ⟨by rfl, ?_⟩) (by assumption) ?_
  rotate_left
  · (intro w' hSw; (try dsimp only at hSw); go_simp; all_goals with_reducible rfl)
  try simp only [Act.put, List.setIfInBounds_toArray, List.set_cons_zero, List.set_cons_succ]
  refine TR.take_at (i := 8) (v := ?_) 130 rfl rfl (by kernel_rfl) (by kernel_rfl) (by kernel_rfl) (fun _ _ _ h => h) (Or.inl ⟨by rfl, ?_⟩) (by assumption) ?_
  rotate_left
  · (intro w' hSw; (try dsimp only at hSw); go_simp; all_goals with_reducible rfl)
  try simp only [Act.put, List.setIfInBounds_toArray, List.set_cons_zero, List.set_cons_succ]
  refine TR.take_at (i := 9) (v := ?_) 131 rfl rfl (by kernel_rfl) (by kernel_rfl) (by kernel_rfl) (fun _ _ _ h => h) (Or.inl ⟨by rfl, ?_⟩) (by assumption) ?_
  rotate_left
  · (intro w' hSw; (try dsimp only at hSw); go_simp; all_goals with_reducible rfl)
  try simp only [Act.put, List.setIfInBounds_toArray, List.set_cons_zero, List.set_cons_succ]
  refine TR.take_at (i := 10) (v := ?_) 132 rfl rfl (by kernel_rfl) (by kernel_rfl) (by kernel_rfl) (fun _ _ _ h => h) (Or.inl ⟨by rfl, ?_⟩) (by assumption) ?_
  rotate_left
  · (intro w' hSw; (try dsimp only at hSw); go_simp; all_goals with_reducible rfl)
  try simp only [Act.put, List.setIfInBounds_toArray, List.set_cons_zero, List.set_cons_succ]
  have HWd := Hid.mk (HW.out.later (Below.refl _ W).drew)
  replace gR := block_later (Below.refl _ W).drew gR
  have HBd := Hid.mk (HB.out.drew)
  clear HW gY gO gH
  generalize W.drew = Wd at *
  refine wpAnyH_ready (rs := [3]) (by kernel_rfl) (by simp) ?_
  refine AllReadyH.cons rfl (fun K hK => ?_) AllReadyH.nil
  go_simp
  refine (zdrop nn true Wd).mono ?_
  rintro e v0 ⟨rfl, hbm⟩
  go_wp2_with fail
  replace k0 := cell_later hbm k0
  replace k1 := cell_later hbm k1
  replace k2 := cell_later hbm k2
  replace k3 := cell_later hbm k3
  replace k4 := cell_later hbm k4
  replace k5 := cell_later hbm k5
  replace k6 := cell_later hbm k6
  replace k7 := cell_later hbm k7
  replace k8 := cell_later hbm k8
  replace k9 := cell_later hbm k9
  replace gR := block_later hbm gR
  replace HWd := Hid.mk (HWd.out.later hbm)
  replace HBd := Hid.mk (below_tr HBd.out hbm)
  clear hbm
  refine hK.out _ _ ⟨k0, k1, k2, k3, k4, k5, k6, k7, k8, k9⟩ (fun hHeldc0 => ?_)
  clear hK
  try simp only [Act.put, List.setIfInBounds_toArray, List.set_cons_zero, List.set_cons_succ]
  refine wpAnyH_ready (rs := [7]) (by kernel_rfl) (by simp) ?_
  refine AllReadyH.cons rfl (fun K hK => ?_) AllReadyH.nil
  go_simp
  refine (HWd.out.does (fun X hM => lose_c hM nn)).mono ?_
  rintro e w5 ⟨rfl, h5, hk5⟩
  go_wp2_with fail
  replace k0 := hk5.cell (by simp) k0
  replace k1 := hk5.cell (by simp) k1
  replace k2 := hk5.cell (by simp) k2
  replace k3 := hk5.cell (by simp) k3
  replace k4 := hk5.cell (by simp) k4
  replace k5 := hk5.cell (by simp) k5
  replace k6 := hk5.cell (by simp) k6
  replace k7 := hk5.cell (by simp) k7
  replace k8 := hk5.cell (by simp) k8
  replace k9 := hk5.cell (by simp) k9
  replace gR := hk5.row (by simp) gR
  have H5 := Hid.mk (And.intro h5 hk5)
  clear h5 hk5
  refine hK.out _ _ ⟨k0, k1, k2, k3, k4, k5, k6, k7, k8, k9⟩ (fun hHeldc1 => ?_)
  clear hK
  try simp only [Act.put, List.setIfInBounds_toArray, List.set_cons_zero, List.set_cons_succ]
  refine TR.take_at (i := 11) (v := ?_) 133 rfl rfl (by kernel_rfl) (by kernel_rfl) (by kernel_rfl) (fun _ _ _ h => h) (Or.inl ⟨by rfl, ?_⟩) (by assumption) ?_
  rotate_left
  · (intro w' hSw; (try dsimp only at hSw); go_simp; all_goals with_reducible rfl)
  try simp only [Act.put, List.setIfInBounds_toArray, List.set_cons_zero, List.set_cons_succ]
  refine TR.take_at (i := 12) (v := ?_) 134 rfl rfl (by kernel_rfl) (by kernel_rfl) (by kernel_rfl) (fun _ _ _ h => h) (Or.inl ⟨by rfl, ?_⟩) (by assumption) ?_
  rotate_left
  · (intro w' hSw; (try dsimp only at hSw); go_simp; all_goals with_reducible rfl)
  try simp only [Act.put, List.setIfInBounds_toArray, List.set_cons_zero, List.set_cons_succ]
  refine TR.take_at (i := 13) (v := ?_) 135 rfl rfl (by kernel_rfl) (by kernel_rfl) (by kernel_rfl) (fun _ _ _ h => h) (Or.inl ⟨by rfl, ?_⟩) (by assumption) ?_
  rotate_left
  · (intro w' hSw; (try dsimp only at hSw); go_simp; all_goals with_reducible rfl)
  try simp only [Act.put, List.setIfInBounds_toArray, List.set_cons_zero, List.set_cons_succ]
  refine TR.take_at (i := 14) (v := ?_) 136 rfl rfl (by kernel_rfl) (by kernel_rfl) (by kernel_rfl) (fun _ _ _ h => h) (Or.inl ⟨by rfl, ?_⟩) (by assumption) ?_
  rotate_left
  · (intro w' hSw; (try dsimp only at hSw); go_simp; all_goals with_reducible rfl)
  try simp only [Act.put, List.setIfInBounds_toArray, List.set_cons_zero, List.set_cons_succ]
  refine TR.take_at (i := 15) (v := ?_) 137 rfl rfl (by kernel_rfl) (by kernel_rfl) (by kernel_rfl) (fun _ _ _ h => h) (Or.inl ⟨by rfl, ?_⟩) (by assumption) ?_
  rotate_left
  · (intro w' hSw; (try dsimp only at hSw); go_simp; all_goals with_reducible rfl)
  try simp only [Act.put, List.setIfInBounds_toArray, List.set_cons_zero, List.set_cons_succ]
  refine TR.take_at (i := 16) (v := ?_) 138 rfl rfl (by kernel_rfl) (by kernel_rfl) (by kernel_rfl) (fun _ _ _ h => h) (Or.inl ⟨by rfl, ?_⟩) (by assumption) ?_
  rotate_left
  · (intro w' hSw; (try dsimp only at hSw); go_simp; all_goals with_reducible rfl)
  try simp only [Act.put, List.setIfInBounds_toArray, List.set_cons_zero, List.set_cons_succ]
  refine TR.take_at (i := 17) (v := ?_) 139 rfl rfl (by kernel_rfl) (by kernel_rfl) (by kernel_rfl) (fun _ _ _ h => h) (Or.inl ⟨by rfl, ?_⟩) (by assumption) ?_
  rotate_left
  · (intro w' hSw; (try dsimp only at hSw); go_simp; all_goals with_reducible rfl)
  try simp only [Act.put, List.setIfInBounds_toArray, List.set_cons_zero, List.set_cons_succ]
  refine TR.take_at (i := 18) (v := ?_) 140 rfl rfl (by kernel_rfl) (by kernel_rfl) (by kernel_rfl) (fun _ _ _ h => h) (Or.inl ⟨by rfl, ?_⟩) (by assumption) ?_
  rotate_left
  · (intro w' hSw; (try dsimp only at hSw); go_simp; all_goals with_reducible rfl)
  try simp only [Act.put, List.setIfInBounds_toArray, List.set_cons_zero, List.set_cons_succ]
  refine TR.take_at (i := 19) (v := ?_) 141 rfl rfl (by kernel_rfl) (by kernel_rfl) (by kernel_rfl) (fun _ _ _ h => h) (Or.inl ⟨by rfl, ?_⟩) (by assumption) ?_
  rotate_left
  · (intro w' hSw; (try dsimp only at hSw); go_simp; all_goals with_reducible rfl)
  try simp only [Act.put, List.setIfInBounds_toArray, List.set_cons_zero, List.set_cons_succ]
  have hne0 : ¬ w.heap.size = (w.heap.size + 1 + 1) := by omega
  have hne1 : ¬ w.heap.size = (w.heap.size + 1 + 1) := by omega
  have hne2 : ¬ w.heap.size = (w.heap.size + 1 + 1) := by omega
  have hne3 : ¬ w.heap.size = (w.heap.size + 1 + 1) := by omega
  have hne4 : ¬ w.heap.size = (w.heap.size + 1 + 1) := by omega
  have hne5 : ¬ w.heap.size = (w.heap.size + 1 + 1) := by omega
  have hne6 : ¬ w.heap.size = (w.heap.size + 1 + 1) := by omega
  have hne7 : ¬ w.heap.size = (w.heap.size + 1 + 1) := by omega
  have hne8 : ¬ w.heap.size = (w.heap.size + 1 + 1) := by omega
  have hne9 : ¬ (w.heap.size + 1) = (w.heap.size + 1 + 1) := by omega
  refine wpAnyH_ready (rs := [20]) (by kernel_rfl) (by simp) ?_
  refine AllReadyH.cons rfl (fun K hK => ?_) AllReadyH.nil
  refine step_store_seg rfl rfl 34 _ _ rfl (w.heap.size + 1 + 1) 0 _ #[.int .u64 0, .slice none 0 0, .int .i64 0, .slice none 0 0, .slice none 0 0, .bool false, .int .u64 0, .int .i64 0, .slice none 0 0] rfl rfl rfl 34 _ gR (show 0 + 9 ≤ 9 by decide) info_X9 (by simp [Value.oneCell']) #[.int .u64 0, .slice none 0 0, .int .i64 0, .slice none 0 0, .slice none 0 0, .bool false, .int .u64 0, .int .i64 0, .slice none 0 0] rfl ?_
  intro wz hrz htz
  replace k0 := TR.turn_cell htz hne0 k0
  replace k1 := TR.turn_cell htz hne1 k1
  replace k2 := TR.turn_cell htz hne2 k2
  replace k3 := TR.turn_cell htz hne3 k3
  replace k4 := TR.turn_cell htz hne4 k4
  replace k5 := TR.turn_cell htz hne5 k5
  replace k6 := TR.turn_cell htz hne6 k6
  replace k7 := TR.turn_cell htz hne7 k7
  replace k8 := TR.turn_cell htz hne8 k8
  replace k9 := TR.turn_cell htz hne9 k9
  refine hK.out _ _ ⟨k0, k1, k2, k3, k4, k5, k6, k7, k8, k9⟩ (fun hHeldz => ?_)
  clear hK
  try simp only [Act.put, List.setIfInBounds_toArray, List.set_cons_zero, List.set_cons_succ]
  clear k0 k1 k2 k3 k4 k5 k6 k7 k8 k9
  refine TR.take_at (i := 21) (v := ?_) 7 rfl rfl (by kernel_rfl) (by kernel_rfl) (by kernel_rfl) (fun _ _ _ h => h) (Or.inl ⟨by rfl, ?_⟩) (by assumption) ?_
  rotate_left
  · (intro w' hSw; (try dsimp only at hSw); go_simp; all_goals with_reducible rfl)
  try simp only [Act.put, List.setIfInBounds_toArray, List.set_cons_zero, List.set_cons_succ]
  refine wpAnyH_done (by kernel_rfl) ?_ _
  refine NoPanic.normal ?_
  go_wp2_with fail
  refine bodyPost_ret (TR.res_row_tmp (p := 6) (u := 7) rfl _ _ (w.heap.size + 1 + 1) 34 _ _ _ rfl hrz Tryz.underlying34 rfl info_X9) rfl ⟨⟨_, _, rfl⟩, ?_⟩
  exact H0.out.fin HBd.out H5.out.2 (fun g hg => by simp [hg]) (H5.out.1.mono (by omega)) (Below.refl _ _) htz (by simp) (by omega)

set_option maxHeartbeats 4000000 in
set_option maxRecDepth 100000 in
theorem step_5n {w0 w : World} {l : List Nat} {x a n S : Nat} {most : Int} {s : St} (h : One w0 w l x a n S most s) (so nn : Int) (va wd : Nat) (hf hl hk : Bool) (hN : ¬ 0 ≤ nn) :
    Calls Tryz.prog 9 #[.pointer (some ⟨x, 0, none⟩), .agg yZ, .agg #[.int .i64 5, .int .i64 so, .int .i64 nn, .int .u64 (va : Nat), .int .u64 (wd : Nat), .bool hf, .bool hl, .bool hk]] w fun r w' => (∃ c b, r = .returned (.tuple #[.agg c, .bool b])) ∧ StO w0 w l x a (n + 1) S most w' := by
  have H0 := Hid.mk h
  have HW := Hid.mk (h.own4 (.cells #[.int .u64 0, .slice none 0 0, .int .i64 0, .slice none 0 0, .slice none 0 0, .bool false, .int .u64 0, .int .i64 0, .slice none 0 0] 34) (.cells #[.int .i64 5, .int .i64 so, .int .i64 nn, .int .u64 (va : Nat), .int .u64 (wd : Nat), .bool hf, .bool hl, .bool hk] 40) (.cells #[.int .u64 0, .slice none 0 0, .int .i64 0, .slice none 0 0, .slice none 0 0, .bool false, .int .u64 0, .int .i64 0, .slice none 0 0] 34) (.cells #[.bool hf, .bool hl, .bool hk] 71))
  have gY := heap4_0 w (.cells #[.int .u64 0, .slice none 0 0, .int .i64 0, .slice none 0 0, .slice none 0 0, .bool false, .int .u64 0, .int .i64 0, .slice none 0 0] 34) (.cells #[.int .i64 5, .int .i64 so, .int .i64 nn, .int .u64 (va : Nat), .int .u64 (wd : Nat), .bool hf, .bool hl, .bool hk] 40) (.cells #[.int .u64 0, .slice none 0 0, .int .i64 0, .slice none 0 0, .slice none 0 0, .bool false, .int .u64 0, .int .i64 0, .slice none 0 0] 34) (.cells #[.bool hf, .bool hl, .bool hk] 71)
  have gO := heap4_1 w (.cells #[.int .u64 0, .slice none 0 0, .int .i64 0, .slice none 0 0, .slice none 0 0, .bool false, .int .u64 0, .int .i64 0, .slice none 0 0] 34) (.cells #[.int .i64 5, .int .i64 so, .int .i64 nn, .int .u64 (va : Nat), .int .u64 (wd : Nat), .bool hf, .bool hl, .bool hk] 40) (.cells #[.int .u64 0, .slice none 0 0, .int .i64 0, .slice none 0 0, .slice none 0 0, .bool false, .int .u64 0, .int .i64 0, .slice none 0 0] 34) (.cells #[.bool hf, .bool hl, .bool hk] 71)
  have gR := heap4_2 w (.cells #[.int .u64 0, .slice none 0 0, .int .i64 0, .slice none 0 0, .slice none 0 0, .bool false, .int .u64 0, .int .i64 0, .slice none 0 0] 34) (.cells #[.int .i64 5, .int .i64 so, .int .i64 nn, .int .u64 (va : Nat), .int .u64 (wd : Nat), .bool hf, .bool hl, .bool hk] 40) (.cells #[.int .u64 0, .slice none 0 0, .int .i64 0, .slice none 0 0, .slice none 0 0, .bool false, .int .u64 0, .int .i64 0, .slice none 0 0] 34) (.cells #[.bool hf, .bool hl, .bool hk] 71)
  have gH := heap4_3 w (.cells #[.int .u64 0, .slice none 0 0, .int .i64 0, .slice none 0 0, .slice none 0 0, .bool false, .int .u64 0, .int .i64 0, .slice none 0 0] 34) (.cells #[.int .i64 5, .int .i64 so, .int .i64 nn, .int .u64 (va : Nat), .int .u64 (wd : Nat), .bool hf, .bool hl, .bool hk] 40) (.cells #[.int .u64 0, .slice none 0 0, .int .i64 0, .slice none 0 0, .slice none 0 0, .bool false, .int .u64 0, .int .i64 0, .slice none 0 0] 34) (.cells #[.bool hf, .bool hl, .bool hk] 71)
  have hB := below4 w (.cells #[.int .u64 0, .slice none 0 0, .int .i64 0, .slice none 0 0, .slice none 0 0, .bool false, .int .u64 0, .int .i64 0, .slice none 0 0] 34) (.cells #[.int .i64 5, .int .i64 so, .int .i64 nn, .int .u64 (va : Nat), .int .u64 (wd : Nat), .bool hf, .bool hl, .bool hk] 40) (.cells #[.int .u64 0, .slice none 0 0, .int .i64 0, .slice none 0 0, .slice none 0 0, .bool false, .int .u64 0, .int .i64 0, .slice none 0 0] 34) (.cells #[.bool hf, .bool hl, .bool hk] 71)
  clear h
  go_enter Tryz.func9, Tryz.ntmps9
  go_upto_region 2 with fail
  generalize (((w.alloc (.cells #[.int .u64 0, .slice none 0 0, .int .i64 0, .slice none 0 0, .slice none 0 0, .bool false, .int .u64 0, .int .i64 0, .slice none 0 0] 34)).alloc (.cells #[.int .i64 5, .int .i64 so, .int .i64 nn, .int .u64 (va : Nat), .int .u64 (wd : Nat), .bool hf, .bool hl, .bool hk] 40)).alloc (.cells #[.int .u64 0, .slice none 0 0, .int .i64 0, .slice none 0 0, .slice none 0 0, .bool false, .int .u64 0, .int .i64 0, .slice none 0 0] 34)).alloc (.cells #[.bool hf, .bool hl, .bool hk] 71) = W at *
  have HB := Hid.mk hB
  clear hB
  obtain ⟨o0, o1, o2, o3, o4, o5, o6, o7⟩ := cells8p gO
  obtain ⟨c0, c1, c2, c3, c4, c5, c6, c7, c8⟩ := cells9 gY
  obtain ⟨t0, t1, t2⟩ := cells3 gH
  go_upto_region 18 with fail
  have k0 := c0
  have k1 := c1
  have k2 := c2
  have k3 := c3
  have k4 := c4
  have k5 := c5
  have k6 := c6
  have k7 := c7
  have k8 := c8
  have k9 := o2
  clear o0 o1 o2 o3 o4 o5 o6 o7 c0 c1 c2 c3 c4 c5 c6 c7 c8 t0 t1 t2
  refine wp_region_noPanic ?_
  refine wp_region_held_drew (S := (fun w' => w'.cell? ⟨w.heap.size, 0, none⟩ = some (.int .u64 0) ∧ w'.cell? ⟨w.heap.size, 1, none⟩ = some (.slice none 0 0) ∧ w'.cell? ⟨w.heap.size, 2, none⟩ = some (.int .i64 0) ∧ w'.cell? ⟨w.heap.size, 3, none⟩ = some (.slice none 0 0) ∧ w'.cell? ⟨w.heap.size, 4, none⟩ = some (.slice none 0 0) ∧ w'.cell? ⟨w.heap.size, 5, none⟩ = some (.bool false) ∧ w'.cell? ⟨w.heap.size, 6, none⟩ = some (.int .u64 0) ∧ w'.cell? ⟨w.heap.size, 7, none⟩ = some (.int .i64 0) ∧ w'.cell? ⟨w.heap.size, 8, none⟩ = some (.slice none 0 0) ∧ w'.cell? ⟨(w.heap.size + 1), 2, none⟩ = some (.int .i64 nn))) (by kernel_rfl) ?_ (fun hHeld => ?_)
  · exact ⟨cell_later (Below.refl _ _).drew k0, cell_later (Below.refl _ _).drew k1, cell_later (Below.refl _ _).drew k2, cell_later (Below.refl _ _).drew k3, cell_later (Below.refl _ _).drew k4, cell_later (Below.refl _ _).drew k5, cell_later (Below.refl _ _).drew k6, cell_later (Below.refl _ _).drew k7, cell_later (Below.refl _ _).drew k8, cell_later (Below.refl _ _).drew k9⟩
  replace k0 := cell_later (Below.refl _ W).drew k0
  replace k1 := cell_later (Below.refl _ W).drew k1
  replace k2 := cell_later (Below.refl _ W).drew k2
  replace k3 := cell_later (Below.refl _ W).drew k3
  replace k4 := cell_later (Below.refl _ W).drew k4
  replace k5 := cell_later (Below.refl _ W).drew k5
  replace k6 := cell_later (Below.refl _ W).drew k6
  replace k7 := cell_later (Below.refl _ W).drew k7
  replace k8 := cell_later (Below.refl _ W).drew k8
  replace k9 := cell_later (Below.refl _ W).drew k9
  refine TR.take_at (i := 0) (v := ?_) 122 rfl rfl (by kernel_rfl) (by kernel_rfl) (by kernel_rfl) (fun _ _ _ h => h) (Or.inl ⟨by rfl, ?_⟩) (by assumption) ?_
  rotate_left
  · (intro w' hSw; (try dsimp only at hSw); go_simp; all_goals with_reducible rfl)
  try simp only [Act.put, List.setIfInBounds_toArray, List.set_cons_zero, List.set_cons_succ]
  refine TR.take_at (i := 1) (v := ?_) 123 rfl rfl (by kernel_rfl) (by kernel_rfl) (by kernel_rfl) (fun _ _ _ h => h) (Or.inl ⟨by rfl, ?_⟩) (by assumption) ?_
  rotate_left
  · (intro w' hSw; (try dsimp only at hSw); go_simp; all_goals with_reducible rfl)
  try simp only [Act.put, List.setIfInBounds_toArray, List.set_cons_zero, List.set_cons_succ]
  refine TR.take_at (i := 2) (v := ?_) 124 rfl rfl (by kernel_rfl) (by kernel_rfl) (by kernel_rfl) (fun _ _ _ h => h) (Or.inl ⟨by rfl, ?_⟩) (by assumption) ?_
  rotate_left
  · (intro w' hSw; (try dsimp only at hSw); go_simp; all_goals with_reducible rfl)
  try simp only [Act.put, List.setIfInBounds_toArray, List.set_cons_zero, List.set_cons_succ]
  refine TR.take_at (i := 4) (v := ?_) 126 rfl rfl (by kernel_rfl) (by kernel_rfl) (by kernel_rfl) (fun _ _ _ h => h) (Or.inl ⟨by rfl, ?_⟩) (by assumption) ?_
  rotate_left
  · (intro w' hSw; (try dsimp only at hSw); go_simp; all_goals with_reducible rfl)
  try simp only [Act.put, List.setIfInBounds_toArray, List.set_cons_zero, List.set_cons_succ]
  refine TR.take_at (i := 5) (v := ?_) 127 rfl rfl (by kernel_rfl) (by kernel_rfl) (by kernel_rfl) (fun _ _ _ h => h) (Or.inl ⟨by rfl, ?_⟩) (by assumption) ?_
  rotate_left
  · (intro w' hSw; (try dsimp only at hSw); go_simp; all_goals with_reducible rfl)
  try simp only [Act.put, List.setIfInBounds_toArray, List.set_cons_zero, List.set_cons_succ]
  refine TR.take_at (i := 6) (v := ?_) 128 rfl rfl (by kernel_rfl) (by kernel_rfl) (by kernel_rfl) (fun _ _ _ h => h) (Or.inl ⟨by rfl, ?_⟩) (by assumption) ?_
  rotate_left
  · (intro w' hSw; (try dsimp only at hSw); go_simp; all_goals with_reducible rfl)
  try simp only [Act.put, List.setIfInBounds_toArray, List.set_cons_zero, List.set_cons_succ]
  refine TR.take_at (i := 8) (v := ?_) 130 rfl rfl (by kernel_rfl) (by kernel_rfl) (by kernel_rfl) (fun _ _ _ h => h) (Or.inl ⟨by rfl, ?_⟩) (by assumption) ?_
  rotate_left
  · (intro w' hSw; (try dsimp only at hSw); go_simp; all_goals with_reducible rfl)
  try simp only [Act.put, List.setIfInBounds_toArray, List.set_cons_zero, List.set_cons_succ]
  refine TR.take_at (i := 9) (v := ?_) 131 rfl rfl (by kernel_rfl) (by kernel_rfl) (by kernel_rfl) (fun _ _ _ h => h) (Or.inl ⟨by rfl, ?_⟩) (by assumption) ?_
  rotate_left
  · (intro w' hSw; (try dsimp only at hSw); go_simp; all_goals with_reducible rfl)
  try simp only [Act.put, List.setIfInBounds_toArray, List.set_cons_zero, List.set_cons_succ]
  refine TR.take_at (i := 10) (v := ?_) 132 rfl rfl (by kernel_rfl) (by kernel_rfl) (by kernel_rfl) (fun _ _ _ h => h) (Or.inl ⟨by rfl, ?_⟩) (by assumption) ?_
  rotate_left
  · (intro w' hSw; (try dsimp only at hSw); go_simp; all_goals with_reducible rfl)
  try simp only [Act.put, List.setIfInBounds_toArray, List.set_cons_zero, List.set_cons_succ]
  have HWd := Hid.mk (HW.out.later (Below.refl _ W).drew)
  replace gR := block_later (Below.refl _ W).drew gR
  have HBd := Hid.mk (HB.out.drew)
  clear HW gY gO gH
  generalize W.drew = Wd at *
  refine wpAnyH_ready (rs := [3]) (by kernel_rfl) (by simp) ?_
  refine AllReadyH.cons rfl (fun K hK => ?_) AllReadyH.nil
  go_simp
  refine (zdrop nn true Wd).mono ?_
  rintro e v0 ⟨rfl, hbm⟩
  go_wp2_with fail
  replace k0 := cell_later hbm k0
  replace k1 := cell_later hbm k1
  replace k2 := cell_later hbm k2
  replace k3 := cell_later hbm k3
  replace k4 := cell_later hbm k4
  replace k5 := cell_later hbm k5
  replace k6 := cell_later hbm k6
  replace k7 := cell_later hbm k7
  replace k8 := cell_later hbm k8
  replace k9 := cell_later hbm k9
  replace gR := block_later hbm gR
  replace HWd := Hid.mk (HWd.out.later hbm)
  replace HBd := Hid.mk (below_tr HBd.out hbm)
  clear hbm
  refine hK.out _ _ ⟨k0, k1, k2, k3, k4, k5, k6, k7, k8, k9⟩ (fun hHeldc0 => ?_)
  clear hK
  try simp only [Act.put, List.setIfInBounds_toArray, List.set_cons_zero, List.set_cons_succ]
  refine wpAnyH_ready (rs := [7]) (by kernel_rfl) (by simp) ?_
  refine AllReadyH.cons rfl (fun K hK => ?_) AllReadyH.nil
  go_simp
  refine (HWd.out.does (fun X hM => lose_c hM nn)).mono ?_
  rintro e w5 ⟨rfl, h5, hk5⟩
  go_wp2_with fail
  replace k0 := hk5.cell (by simp) k0
  replace k1 := hk5.cell (by simp) k1
  replace k2 := hk5.cell (by simp) k2
  replace k3 := hk5.cell (by simp) k3
  replace k4 := hk5.cell (by simp) k4
  replace k5 := hk5.cell (by simp) k5
  replace k6 := hk5.cell (by simp) k6
  replace k7 := hk5.cell (by simp) k7
  replace k8 := hk5.cell (by simp) k8
  replace k9 := hk5.cell (by simp) k9
  replace gR := hk5.row (by simp) gR
  have H5 := Hid.mk (And.intro h5 hk5)
  clear h5 hk5
  refine hK.out _ _ ⟨k0, k1, k2, k3, k4, k5, k6, k7, k8, k9⟩ (fun hHeldc1 => ?_)
  clear hK
  try simp only [Act.put, List.setIfInBounds_toArray, List.set_cons_zero, List.set_cons_succ]
  refine TR.take_at (i := 11) (v := ?_) 133 rfl rfl (by kernel_rfl) (by kernel_rfl) (by kernel_rfl) (fun _ _ _ h => h) (Or.inl ⟨by rfl, ?_⟩) (by assumption) ?_
  rotate_left
  · (intro w' hSw; (try dsimp only at hSw); go_simp; all_goals with_reducible rfl)
  try simp only [Act.put, List.setIfInBounds_toArray, List.set_cons_zero, List.set_cons_succ]
  refine TR.take_at (i := 12) (v := undef) 134 rfl rfl (by kernel_rfl) (by kernel_rfl) (by kernel_rfl) (fun _ _ _ h => h) (Or.inr ⟨by rfl, rfl⟩) (by assumption) ?_
  try simp only [Act.put, List.setIfInBounds_toArray, List.set_cons_zero, List.set_cons_succ]
  refine TR.take_at (i := 13) (v := undef) 135 rfl rfl (by kernel_rfl) (by kernel_rfl) (by kernel_rfl) (fun _ _ _ h => h) (Or.inr ⟨by rfl, rfl⟩) (by assumption) ?_
  try simp only [Act.put, List.setIfInBounds_toArray, List.set_cons_zero, List.set_cons_succ]
  refine TR.take_at (i := 14) (v := undef) 136 rfl rfl (by kernel_rfl) (by kernel_rfl) (by kernel_rfl) (fun _ _ _ h => h) (Or.inr ⟨by rfl, rfl⟩) (by assumption) ?_
  try simp only [Act.put, List.setIfInBounds_toArray, List.set_cons_zero, List.set_cons_succ]
  refine TR.take_at (i := 15) (v := undef) 137 rfl rfl (by kernel_rfl) (by kernel_rfl) (by kernel_rfl) (fun _ _ _ h => h) (Or.inr ⟨by rfl, rfl⟩) (by assumption) ?_
  try simp only [Act.put, List.setIfInBounds_toArray, List.set_cons_zero, List.set_cons_succ]
  refine TR.take_at (i := 16) (v := undef) 138 rfl rfl (by kernel_rfl) (by kernel_rfl) (by kernel_rfl) (fun _ _ _ h => h) (Or.inr ⟨by rfl, rfl⟩) (by assumption) ?_
  try simp only [Act.put, List.setIfInBounds_toArray, List.set_cons_zero, List.set_cons_succ]
  refine TR.take_at (i := 17) (v := undef) 139 rfl rfl (by kernel_rfl) (by kernel_rfl) (by kernel_rfl) (fun _ _ _ h => h) (Or.inr ⟨by rfl, rfl⟩) (by assumption) ?_
  try simp only [Act.put, List.setIfInBounds_toArray, List.set_cons_zero, List.set_cons_succ]
  refine TR.take_at (i := 18) (v := ?_) 140 rfl rfl (by kernel_rfl) (by kernel_rfl) (by kernel_rfl) (fun _ _ _ h => h) (Or.inl ⟨by rfl, ?_⟩) (by assumption) ?_
  rotate_left
  · (intro w' hSw; (try dsimp only at hSw); go_simp; all_goals with_reducible rfl)
  try simp only [Act.put, List.setIfInBounds_toArray, List.set_cons_zero, List.set_cons_succ]
  refine TR.take_at (i := 19) (v := ?_) 141 rfl rfl (by kernel_rfl) (by kernel_rfl) (by kernel_rfl) (fun _ _ _ h => h) (Or.inl ⟨by rfl, ?_⟩) (by assumption) ?_
  rotate_left
  · (intro w' hSw; (try dsimp only at hSw); go_simp; all_goals with_reducible rfl)
  try simp only [Act.put, List.setIfInBounds_toArray, List.set_cons_zero, List.set_cons_succ]
  have hne0 : ¬ w.heap.size = (w.heap.size + 1 + 1) := by omega
  have hne1 : ¬ w.heap.size = (w.heap.size + 1 + 1) := by omega
  have hne2 : ¬ w.heap.size = (w.heap.size + 1 + 1) := by omega
  have hne3 : ¬ w.heap.size = (w.heap.size + 1 + 1) := by omega
  have hne4 : ¬ w.heap.size = (w.heap.size + 1 + 1) := by omega
  have hne5 : ¬ w.heap.size = (w.heap.size + 1 + 1) := by omega
  have hne6 : ¬ w.heap.size = (w.heap.size + 1 + 1) := by omega
  have hne7 : ¬ w.heap.size = (w.heap.size + 1 + 1) := by omega
  have hne8 : ¬ w.heap.size = (w.heap.size + 1 + 1) := by omega
  have hne9 : ¬ (w.heap.size + 1) = (w.heap.size + 1 + 1) := by omega
  refine wpAnyH_ready (rs := [20]) (by kernel_rfl) (by simp) ?_
  refine AllReadyH.cons rfl (fun K hK => ?_) AllReadyH.nil
  refine step_store_seg rfl rfl 34 _ _ rfl (w.heap.size + 1 + 1) 0 _ #[.int .u64 0, .slice none 0 0, .int .i64 0, .slice none 0 0, .slice none 0 0, .bool false, .int .u64 0, .int .i64 0, .slice none 0 0] rfl rfl rfl 34 _ gR (show 0 + 9 ≤ 9 by decide) info_X9 (by simp [Value.oneCell']) #[.int .u64 0, .slice none 0 0, .int .i64 0, .slice none 0 0, .slice none 0 0, .bool false, .int .u64 0, .int .i64 0, .slice none 0 0] rfl ?_
  intro wz hrz htz
  replace k0 := TR.turn_cell htz hne0 k0
  replace k1 := TR.turn_cell htz hne1 k1
  replace k2 := TR.turn_cell htz hne2 k2
  replace k3 := TR.turn_cell htz hne3 k3
  replace k4 := TR.turn_cell htz hne4 k4
  replace k5 := TR.turn_cell htz hne5 k5
  replace k6 := TR.turn_cell htz hne6 k6
  replace k7 := TR.turn_cell htz hne7 k7
  replace k8 := TR.turn_cell htz hne8 k8
  replace k9 := TR.turn_cell htz hne9 k9
  refine hK.out _ _ ⟨k0, k1, k2, k3, k4, k5, k6, k7, k8, k9⟩ (fun hHeldz => ?_)
  clear hK
  try simp only [Act.put, List.setIfInBounds_toArray, List.set_cons_zero, List.set_cons_succ]
  clear k0 k1 k2 k3 k4 k5 k6 k7 k8 k9
  refine TR.take_at (i := 21) (v := ?_) 7 rfl rfl (by kernel_rfl) (by kernel_rfl) (by kernel_rfl) (fun _ _ _ h => h) (Or.inl ⟨by rfl, ?_⟩) (by assumption) ?_
  rotate_left
  · (intro w' hSw; (try dsimp only at hSw); go_simp; all_goals with_reducible rfl)
  try simp only [Act.put, List.setIfInBounds_toArray, List.set_cons_zero, List.set_cons_succ]
  refine wpAnyH_done (by kernel_rfl) ?_ _
  refine NoPanic.normal ?_
  go_wp2_with fail
  refine bodyPost_ret (TR.res_row_tmp (p := 6) (u := 7) rfl _ _ (w.heap.size + 1 + 1) 34 _ _ _ rfl hrz Tryz.underlying34 rfl info_X9) rfl ⟨⟨_, _, rfl⟩, ?_⟩
  exact H0.out.fin HBd.out H5.out.2 (fun g hg => by simp [hg]) (H5.out.1.mono (by omega)) (Below.refl _ _) htz (by simp) (by omega)

set_option maxHeartbeats 4000000 in
set_option maxRecDepth 100000 in
theorem step_9a {w0 w : World} {l : List Nat} {x a n S : Nat} {most : Int} {s : St} (h : One w0 w l x a n S most s) (so nn : Int) (va wd : Nat) (hf hl hk : Bool) (hwd : wd < 18446744073709551616) (hb : rgB wd = false) (h4 : ¬ ((wd : Nat) : Int) % 4096 = 0) :
    Calls Tryz.prog 9 #[.pointer (some ⟨x, 0, none⟩), .agg yZ, .agg #[.int .i64 9, .int .i64 so, .int .i64 nn, .int .u64 (va : Nat), .int .u64 (wd : Nat), .bool hf, .bool hl, .bool hk]] w fun r w' => (∃ c b, r = .returned (.tuple #[.agg c, .bool b])) ∧ StO w0 w l x a (n + 1) S most w' := by
  have H0 := Hid.mk h
  have HSN : Hid (setN wd = 10) := by show _ = _; unfold setN; rw [hb]; rfl
  have tm : ((wd : Nat) : Int).tmod 4096 = ((wd : Nat) : Int) % 4096 := Int.tmod_eq_emod_of_nonneg (by omega)
  have hq1 : (((wd : Nat) : Int).tmod 4096 != 0) = true := bne_iff_ne.2 (by rw [tm]; exact h4)
  clear tm h4
  have HW := Hid.mk (h.own4 (.cells #[.int .u64 0, .slice none 0 0, .int .i64 0, .slice none 0 0, .slice none 0 0, .bool false, .int .u64 0, .int .i64 0, .slice none 0 0] 34) (.cells #[.int .i64 9, .int .i64 so, .int .i64 nn, .int .u64 (va : Nat), .int .u64 (wd : Nat), .bool hf, .bool hl, .bool hk] 40) (.cells #[.int .u64 0, .slice none 0 0, .int .i64 0, .slice none 0 0, .slice none 0 0, .bool false, .int .u64 0, .int .i64 0, .slice none 0 0] 34) (.cells #[.bool hf, .bool hl, .bool hk] 71))
  have gY := heap4_0 w (.cells #[.int .u64 0, .slice none 0 0, .int .i64 0, .slice none 0 0, .slice none 0 0, .bool false, .int .u64 0, .int .i64 0, .slice none 0 0] 34) (.cells #[.int .i64 9, .int .i64 so, .int .i64 nn, .int .u64 (va : Nat), .int .u64 (wd : Nat), .bool hf, .bool hl, .bool hk] 40) (.cells #[.int .u64 0, .slice none 0 0, .int .i64 0, .slice none 0 0, .slice none 0 0, .bool false, .int .u64 0, .int .i64 0, .slice none 0 0] 34) (.cells #[.bool hf, .bool hl, .bool hk] 71)
  have gO := heap4_1 w (.cells #[.int .u64 0, .slice none 0 0, .int .i64 0, .slice none 0 0, .slice none 0 0, .bool false, .int .u64 0, .int .i64 0, .slice none 0 0] 34) (.cells #[.int .i64 9, .int .i64 so, .int .i64 nn, .int .u64 (va : Nat), .int .u64 (wd : Nat), .bool hf, .bool hl, .bool hk] 40) (.cells #[.int .u64 0, .slice none 0 0, .int .i64 0, .slice none 0 0, .slice none 0 0, .bool false, .int .u64 0, .int .i64 0, .slice none 0 0] 34) (.cells #[.bool hf, .bool hl, .bool hk] 71)
  have gR := heap4_2 w (.cells #[.int .u64 0, .slice none 0 0, .int .i64 0, .slice none 0 0, .slice none 0 0, .bool false, .int .u64 0, .int .i64 0, .slice none 0 0] 34) (.cells #[.int .i64 9, .int .i64 so, .int .i64 nn, .int .u64 (va : Nat), .int .u64 (wd : Nat), .bool hf, .bool hl, .bool hk] 40) (.cells #[.int .u64 0, .slice none 0 0, .int .i64 0, .slice none 0 0, .slice none 0 0, .bool false, .int .u64 0, .int .i64 0, .slice none 0 0] 34) (.cells #[.bool hf, .bool hl, .bool hk] 71)
  have gH := heap4_3 w (.cells #[.int .u64 0, .slice none 0 0, .int .i64 0, .slice none 0 0, .slice none 0 0, .bool false, .int .u64 0, .int .i64 0, .slice none 0 0] 34) (.cells #[.int .i64 9, .int .i64 so, .int .i64 nn, .int .u64 (va : Nat), .int .u64 (wd : Nat), .bool hf, .bool hl, .bool hk] 40) (.cells #[.int .u64 0, .slice none 0 0, .int .i64 0, .slice none 0 0, .slice none 0 0, .bool false, .int .u64 0, .int .i64 0, .slice none 0 0] 34) (.cells #[.bool hf, .bool hl, .bool hk] 71)
  have hB := below4 w (.cells #[.int .u64 0, .slice none 0 0, .int .i64 0, .slice none 0 0, .slice none 0 0, .bool false, .int .u64 0, .int .i64 0, .slice none 0 0] 34) (.cells #[.int .i64 9, .int .i64 so, .int .i64 nn, .int .u64 (va : Nat), .int .u64 (wd : Nat), .bool hf, .bool hl, .bool hk] 40) (.cells #[.int .u64 0, .slice none 0 0, .int .i64 0, .slice none 0 0, .slice none 0 0, .bool false, .int .u64 0, .int .i64 0, .slice none 0 0] 34) (.cells #[.bool hf, .bool hl, .bool hk] 71)
  clear h
  go_enter Tryz.func9, Tryz.ntmps9
  go_upto_region 2 with fail
  generalize (((w.alloc (.cells #[.int .u64 0, .slice none 0 0, .int .i64 0, .slice none 0 0, .slice none 0 0, .bool false, .int .u64 0, .int .i64 0, .slice none 0 0] 34)).alloc (.cells #[.int .i64 9, .int .i64 so, .int .i64 nn, .int .u64 (va : Nat), .int .u64 (wd : Nat), .bool hf, .bool hl, .bool hk] 40)).alloc (.cells #[.int .u64 0, .slice none 0 0, .int .i64 0, .slice none 0 0, .slice none 0 0, .bool false, .int .u64 0, .int .i64 0, .slice none 0 0] 34)).alloc (.cells #[.bool hf, .bool hl, .bool hk] 71) = W at *
  have HB := Hid.mk hB
  clear hB
  obtain ⟨o0, o1, o2, o3, o4, o5, o6, o7⟩ := cells8p gO
  obtain ⟨c0, c1, c2, c3, c4, c5, c6, c7, c8⟩ := cells9 gY
  obtain ⟨t0, t1, t2⟩ := cells3 gH
  go_wp2_with fail
  refine (HW.out.does (fun X hM => by have := set_c hM wd hwd; rw [HSN.out] at this; exact this)).mono ?_
  rintro e w5 ⟨rfl, h5, hk5⟩
  replace gY := hk5.row (by simp) gY
  replace gO := hk5.row (by simp) gO
  replace gR := hk5.row (by simp) gR
  replace gH := hk5.row (by simp) gH
  have H5 := Hid.mk (And.intro h5 hk5)
  clear h5 hk5 HW o0 o1 o2 o3 o4 o5 o6 o7 c0 c1 c2 c3 c4 c5 c6 c7 c8 t0 t1 t2
  obtain ⟨o0, o1, o2, o3, o4, o5, o6, o7⟩ := cells8p gO
  obtain ⟨c0, c1, c2, c3, c4, c5, c6, c7, c8⟩ := cells9 gY
  obtain ⟨t0, t1, t2⟩ := cells3 gH
  go_upto_region 32 with fail
  have k0 := o4
  have k1 := c0
  have k2 := c1
  have k3 := c2
  have k4 := c3
  have k5 := c4
  have k6 := c5
  have k7 := c6
  have k8 := c7
  have k9 := c8
  clear o0 o1 o2 o3 o4 o5 o6 o7 c0 c1 c2 c3 c4 c5 c6 c7 c8 t0 t1 t2
  refine wp_region_noPanic ?_
  refine wp_region_held_drew (S := (fun w' => w'.cell? ⟨(w.heap.size + 1), 4, none⟩ = some (.int .u64 (wd : Nat)) ∧ w'.cell? ⟨w.heap.size, 0, none⟩ = some (.int .u64 0) ∧ w'.cell? ⟨w.heap.size, 1, none⟩ = some (.slice none 0 0) ∧ w'.cell? ⟨w.heap.size, 2, none⟩ = some (.int .i64 0) ∧ w'.cell? ⟨w.heap.size, 3, none⟩ = some (.slice none 0 0) ∧ w'.cell? ⟨w.heap.size, 4, none⟩ = some (.slice none 0 0) ∧ w'.cell? ⟨w.heap.size, 5, none⟩ = some (.bool false) ∧ w'.cell? ⟨w.heap.size, 6, none⟩ = some (.int .u64 0) ∧ w'.cell? ⟨w.heap.size, 7, none⟩ = some (.int .i64 0) ∧ w'.cell? ⟨w.heap.size, 8, none⟩ = some (.slice none 0 0))) (by kernel_rfl) ?_ (fun hHeld => ?_)
  · exact ⟨cell_later (Below.refl _ _).drew k0, cell_later (Below.refl _ _).drew k1, cell_later (Below.refl _ _).drew k2, cell_later (Below.refl _ _).drew k3, cell_later (Below.refl _ _).drew k4, cell_later (Below.refl _ _).drew k5, cell_later (Below.refl _ _).drew k6, cell_later (Below.refl _ _).drew k7, cell_later (Below.refl _ _).drew k8, cell_later (Below.refl _ _).drew k9⟩
  replace k0 := cell_later (Below.refl _ w5).drew k0
  replace k1 := cell_later (Below.refl _ w5).drew k1
  replace k2 := cell_later (Below.refl _ w5).drew k2
  replace k3 := cell_later (Below.refl _ w5).drew k3
  replace k4 := cell_later (Below.refl _ w5).drew k4
  replace k5 := cell_later (Below.refl _ w5).drew k5
  replace k6 := cell_later (Below.refl _ w5).drew k6
  replace k7 := cell_later (Below.refl _ w5).drew k7
  replace k8 := cell_later (Below.refl _ w5).drew k8
  replace k9 := cell_later (Below.refl _ w5).drew k9
  replace gR := block_later (Below.refl _ w5).drew gR
  refine TR.take_at (i := 0) (v := ?_) 183 rfl rfl (by kernel_rfl) (by kernel_rfl) (by kernel_rfl) (fun _ _ _ h => h) (Or.inl ⟨by rfl, ?_⟩) (by assumption) ?_
  rotate_left
  · (intro w' hSw; (try dsimp only at hSw); go_simp; all_goals with_reducible rfl)
  try simp only [Act.put, List.setIfInBounds_toArray, List.set_cons_zero, List.set_cons_succ]
  refine TR.take_at (i := 1) (v := ?_) 184 rfl rfl (by kernel_rfl) (by kernel_rfl) (by kernel_rfl) (fun _ _ _ h => h) (Or.inl ⟨by rfl, ?_⟩) (by assumption) ?_
  rotate_left
  · (intro w' hSw; (try dsimp only at hSw); go_simp; all_goals with_reducible rfl)
  try simp only [Act.put, List.setIfInBounds_toArray, List.set_cons_zero, List.set_cons_succ]
  refine TR.take_at (i := 2) (v := ?_) 185 rfl rfl (by kernel_rfl) (by kernel_rfl) (by kernel_rfl) (fun _ _ _ h => h) (Or.inl ⟨by rfl, ?_⟩) (by assumption) ?_
  rotate_left
  · (intro w' hSw; (try dsimp only at hSw); go_simp; all_goals with_reducible rfl)
  try simp only [Act.put, List.setIfInBounds_toArray, List.set_cons_zero, List.set_cons_succ]
  refine TR.take_at (i := 3) (v := ?_) 186 rfl rfl (by kernel_rfl) (by kernel_rfl) (by kernel_rfl) (fun _ _ _ h => h) (Or.inl ⟨by rfl, ?_⟩) (by assumption) ?_
  rotate_left
  · (intro w' hSw; (try dsimp only at hSw); go_simp; all_goals with_reducible rfl)
  try simp only [Act.put, List.setIfInBounds_toArray, List.set_cons_zero, List.set_cons_succ]
  refine TR.take_at (i := 4) (v := ?_) 187 rfl rfl (by kernel_rfl) (by kernel_rfl) (by kernel_rfl) (fun _ _ _ h => h) (Or.inl ⟨by rfl, ?_⟩) (by assumption) ?_
  rotate_left
  · (intro w' hSw; (try dsimp only at hSw); go_simp; all_goals with_reducible rfl)
  try simp only [Act.put, List.setIfInBounds_toArray, List.set_cons_zero, List.set_cons_succ]
  refine TR.take_at (i := 5) (v := ?_) 188 rfl rfl (by kernel_rfl) (by kernel_rfl) (by kernel_rfl) (fun _ _ _ h => h) (Or.inl ⟨by rfl, ?_⟩) (by assumption) ?_
  rotate_left
  · (intro w' hSw; (try dsimp only at hSw); go_simp; all_goals with_reducible rfl)
  try simp only [Act.put, List.setIfInBounds_toArray, List.set_cons_zero, List.set_cons_succ]
  refine TR.take_at (i := 6) (v := undef) 189 rfl rfl (by kernel_rfl) (by kernel_rfl) (by kernel_rfl) (fun _ _ _ h => h) (Or.inr ⟨by rfl, rfl⟩) (by assumption) ?_
  try simp only [Act.put, List.setIfInBounds_toArray, List.set_cons_zero, List.set_cons_succ]
  refine TR.take_at (i := 7) (v := undef) 190 rfl rfl (by kernel_rfl) (by kernel_rfl) (by kernel_rfl) (fun _ _ _ h => h) (Or.inr ⟨by rfl, rfl⟩) (by assumption) ?_
  try simp only [Act.put, List.setIfInBounds_toArray, List.set_cons_zero, List.set_cons_succ]
  refine TR.take_at (i := 8) (v := undef) 191 rfl rfl (by kernel_rfl) (by kernel_rfl) (by kernel_rfl) (fun _ _ _ h => h) (Or.inr ⟨by rfl, rfl⟩) (by assumption) ?_
  try simp only [Act.put, List.setIfInBounds_toArray, List.set_cons_zero, List.set_cons_succ]
  refine TR.take_at (i := 9) (v := undef) 192 rfl rfl (by kernel_rfl) (by kernel_rfl) (by kernel_rfl) (fun _ _ _ h => h) (Or.inr ⟨by rfl, rfl⟩) (by assumption) ?_
  try simp only [Act.put, List.setIfInBounds_toArray, List.set_cons_zero, List.set_cons_succ]
  refine TR.take_at (i := 10) (v := ?_) 193 rfl rfl (by kernel_rfl) (by kernel_rfl) (by kernel_rfl) (fun _ _ _ h => h) (Or.inl ⟨by rfl, ?_⟩) (by assumption) ?_
  rotate_left
  · (intro w' hSw; (try dsimp only at hSw); go_simp; all_goals with_reducible rfl)
  try simp only [Act.put, List.setIfInBounds_toArray, List.set_cons_zero, List.set_cons_succ]
  have hne0 : ¬ (w.heap.size + 1) = (w.heap.size + 1 + 1) := by omega
  have hne1 : ¬ w.heap.size = (w.heap.size + 1 + 1) := by omega
  have hne2 : ¬ w.heap.size = (w.heap.size + 1 + 1) := by omega
  have hne3 : ¬ w.heap.size = (w.heap.size + 1 + 1) := by omega
  have hne4 : ¬ w.heap.size = (w.heap.size + 1 + 1) := by omega
  have hne5 : ¬ w.heap.size = (w.heap.size + 1 + 1) := by omega
  have hne6 : ¬ w.heap.size = (w.heap.size + 1 + 1) := by omega
  have hne7 : ¬ w.heap.size = (w.heap.size + 1 + 1) := by omega
  have hne8 : ¬ w.heap.size = (w.heap.size + 1 + 1) := by omega
  have hne9 : ¬ w.heap.size = (w.heap.size + 1 + 1) := by omega
  refine wpAnyH_ready (rs := [11]) (by kernel_rfl) (by simp) ?_
  refine AllReadyH.cons rfl (fun K hK => ?_) AllReadyH.nil
  refine step_store_seg rfl rfl 34 _ _ rfl (w.heap.size + 1 + 1) 0 _ #[.int .u64 0, .slice none 0 0, .int .i64 0, .slice none 0 0, .slice none 0 0, .bool false, .int .u64 0, .int .i64 0, .slice none 0 0] rfl rfl rfl 34 _ gR (show 0 + 9 ≤ 9 by decide) info_X9 (by simp [Value.oneCell']) #[.int .u64 0, .slice none 0 0, .int .i64 0, .slice none 0 0, .slice none 0 0, .bool false, .int .u64 0, .int .i64 0, .slice none 0 0] rfl ?_
  intro wz hrz htz
  replace k0 := TR.turn_cell htz hne0 k0
  replace k1 := TR.turn_cell htz hne1 k1
  replace k2 := TR.turn_cell htz hne2 k2
  replace k3 := TR.turn_cell htz hne3 k3
  replace k4 := TR.turn_cell htz hne4 k4
  replace k5 := TR.turn_cell htz hne5 k5
  replace k6 := TR.turn_cell htz hne6 k6
  replace k7 := TR.turn_cell htz hne7 k7
  replace k8 := TR.turn_cell htz hne8 k8
  replace k9 := TR.turn_cell htz hne9 k9
  refine hK.out _ _ ⟨k0, k1, k2, k3, k4, k5, k6, k7, k8, k9⟩ (fun hHeldz => ?_)
  clear hK
  try simp only [Act.put, List.setIfInBounds_toArray, List.set_cons_zero, List.set_cons_succ]
  clear k0 k1 k2 k3 k4 k5 k6 k7 k8 k9
  refine TR.take_at (i := 12) (v := ?_) 7 rfl rfl (by kernel_rfl) (by kernel_rfl) (by kernel_rfl) (fun _ _ _ h => h) (Or.inl ⟨by rfl, ?_⟩) (by assumption) ?_
  rotate_left
  · (intro w' hSw; (try dsimp only at hSw); go_simp; all_goals with_reducible rfl)
  try simp only [Act.put, List.setIfInBounds_toArray, List.set_cons_zero, List.set_cons_succ]
  refine wpAnyH_done (by kernel_rfl) ?_ _
  refine NoPanic.normal ?_
  go_wp2_with fail
  refine bodyPost_ret (TR.res_row_tmp (p := 6) (u := 7) rfl _ _ (w.heap.size + 1 + 1) 34 _ _ _ rfl hrz Tryz.underlying34 rfl info_X9) rfl ⟨⟨_, _, rfl⟩, ?_⟩
  exact H0.out.fin HB.out H5.out.2 (fun g hg => by simp [hg]) (H5.out.1.mono (by omega)) (Below.refl _ _).drew htz (by simp) (by omega)

set_option maxHeartbeats 4000000 in
set_option maxRecDepth 100000 in
theorem step_9b {w0 w : World} {l : List Nat} {x a n S : Nat} {most : Int} {s : St} (h : One w0 w l x a n S most s) (so nn : Int) (va wd : Nat) (hf hl hk : Bool) (hwd : wd < 18446744073709551616) (hb : rgB wd = false) (h4 : ((wd : Nat) : Int) % 4096 = 0) :
    Calls Tryz.prog 9 #[.pointer (some ⟨x, 0, none⟩), .agg yZ, .agg #[.int .i64 9, .int .i64 so, .int .i64 nn, .int .u64 (va : Nat), .int .u64 (wd : Nat), .bool hf, .bool hl, .bool hk]] w fun r w' => (∃ c b, r = .returned (.tuple #[.agg c, .bool b])) ∧ StO w0 w l x a (n + 1) S most w' := by
  have H0 := Hid.mk h
  have HSN : Hid (setN wd = 10) := by show _ = _; unfold setN; rw [hb]; rfl
  have tm : ((wd : Nat) : Int).tmod 4096 = ((wd : Nat) : Int) % 4096 := Int.tmod_eq_emod_of_nonneg (by omega)
  have hq1 : (((wd : Nat) : Int).tmod 4096 != 0) = false := by rw [tm, h4]; rfl
  clear tm h4
  have HW := Hid.mk (h.own4 (.cells #[.int .u64 0, .slice none 0 0, .int .i64 0, .slice none 0 0, .slice none 0 0, .bool false, .int .u64 0, .int .i64 0, .slice none 0 0] 34) (.cells #[.int .i64 9, .int .i64 so, .int .i64 nn, .int .u64 (va : Nat), .int .u64 (wd : Nat), .bool hf, .bool hl, .bool hk] 40) (.cells #[.int .u64 0, .slice none 0 0, .int .i64 0, .slice none 0 0, .slice none 0 0, .bool false, .int .u64 0, .int .i64 0, .slice none 0 0] 34) (.cells #[.bool hf, .bool hl, .bool hk] 71))
  have gY := heap4_0 w (.cells #[.int .u64 0, .slice none 0 0, .int .i64 0, .slice none 0 0, .slice none 0 0, .bool false, .int .u64 0, .int .i64 0, .slice none 0 0] 34) (.cells #[.int .i64 9, .int .i64 so, .int .i64 nn, .int .u64 (va : Nat), .int .u64 (wd : Nat), .bool hf, .bool hl, .bool hk] 40) (.cells #[.int .u64 0, .slice none 0 0, .int .i64 0, .slice none 0 0, .slice none 0 0, .bool false, .int .u64 0, .int .i64 0, .slice none 0 0] 34) (.cells #[.bool hf, .bool hl, .bool hk] 71)
  have gO := heap4_1 w (.cells #[.int .u64 0, .slice none 0 0, .int .i64 0, .slice none 0 0, .slice none 0 0, .bool false, .int .u64 0, .int .i64 0, .slice none 0 0] 34) (.cells #[.int .i64 9, .int .i64 so, .int .i64 nn, .int .u64 (va : Nat), .int .u64 (wd : Nat), .bool hf, .bool hl, .bool hk] 40) (.cells #[.int .u64 0, .slice none 0 0, .int .i64 0, .slice none 0 0, .slice none 0 0, .bool false, .int .u64 0, .int .i64 0, .slice none 0 0] 34) (.cells #[.bool hf, .bool hl, .bool hk] 71)
  have gR := heap4_2 w (.cells #[.int .u64 0, .slice none 0 0, .int .i64 0, .slice none 0 0, .slice none 0 0, .bool false, .int .u64 0, .int .i64 0, .slice none 0 0] 34) (.cells #[.int .i64 9, .int .i64 so, .int .i64 nn, .int .u64 (va : Nat), .int .u64 (wd : Nat), .bool hf, .bool hl, .bool hk] 40) (.cells #[.int .u64 0, .slice none 0 0, .int .i64 0, .slice none 0 0, .slice none 0 0, .bool false, .int .u64 0, .int .i64 0, .slice none 0 0] 34) (.cells #[.bool hf, .bool hl, .bool hk] 71)
  have gH := heap4_3 w (.cells #[.int .u64 0, .slice none 0 0, .int .i64 0, .slice none 0 0, .slice none 0 0, .bool false, .int .u64 0, .int .i64 0, .slice none 0 0] 34) (.cells #[.int .i64 9, .int .i64 so, .int .i64 nn, .int .u64 (va : Nat), .int .u64 (wd : Nat), .bool hf, .bool hl, .bool hk] 40) (.cells #[.int .u64 0, .slice none 0 0, .int .i64 0, .slice none 0 0, .slice none 0 0, .bool false, .int .u64 0, .int .i64 0, .slice none 0 0] 34) (.cells #[.bool hf, .bool hl, .bool hk] 71)
  have hB := below4 w (.cells #[.int .u64 0, .slice none 0 0, .int .i64 0, .slice none 0 0, .slice none 0 0, .bool false, .int .u64 0, .int .i64 0, .slice none 0 0] 34) (.cells #[.int .i64 9, .int .i64 so, .int .i64 nn, .int .u64 (va : Nat), .int .u64 (wd : Nat), .bool hf, .bool hl, .bool hk] 40) (.cells #[.int .u64 0, .slice none 0 0, .int .i64 0, .slice none 0 0, .slice none 0 0, .bool false, .int .u64 0, .int .i64 0, .slice none 0 0] 34) (.cells #[.bool hf, .bool hl, .bool hk] 71)
  clear h
  go_enter Tryz.func9, Tryz.ntmps9
  go_upto_region 2 with fail
  generalize (((w.alloc (.cells #[.int .u64 0, .slice none 0 0, .int .i64 0, .slice none 0 0, .slice none 0 0, .bool false, .int .u64 0, .int .i64 0, .slice none 0 0] 34)).alloc (.cells #[.int .i64 9, .int .i64 so, .int .i64 nn, .int .u64 (va : Nat), .int .u64 (wd : Nat), .bool hf, .bool hl, .bool hk] 40)).alloc (.cells #[.int .u64 0, .slice none 0 0, .int .i64 0, .slice none 0 0, .slice none 0 0, .bool false, .int .u64 0, .int .i64 0, .slice none 0 0] 34)).alloc (.cells #[.bool hf, .bool hl, .bool hk] 71) = W at *
  have HB := Hid.mk hB
  clear hB
  obtain ⟨o0, o1, o2, o3, o4, o5, o6, o7⟩ := cells8p gO
  obtain ⟨c0, c1, c2, c3, c4, c5, c6, c7, c8⟩ := cells9 gY
  obtain ⟨t0, t1, t2⟩ := cells3 gH
  go_wp2_with fail
  refine (HW.out.does (fun X hM => by have := set_c hM wd hwd; rw [HSN.out] at this; exact this)).mono ?_
  rintro e w5 ⟨rfl, h5, hk5⟩
  replace gY := hk5.row (by simp) gY
  replace gO := hk5.row (by simp) gO
  replace gR := hk5.row (by simp) gR
  replace gH := hk5.row (by simp) gH
  have H5 := Hid.mk (And.intro h5 hk5)
  clear h5 hk5 HW o0 o1 o2 o3 o4 o5 o6 o7 c0 c1 c2 c3 c4 c5 c6 c7 c8 t0 t1 t2
  obtain ⟨o0, o1, o2, o3, o4, o5, o6, o7⟩ := cells8p gO
  obtain ⟨c0, c1, c2, c3, c4, c5, c6, c7, c8⟩ := cells9 gY
  obtain ⟨t0, t1, t2⟩ := cells3 gH
  go_upto_region 32 with fail
  have k0 := o4
  have k1 := c0
  have k2 := c1
  have k3 := c2
  have k4 := c3
  have k5 := c4
  have k6 := c5
  have k7 := c6
  have k8 := c7
  have k9 := c8
  clear o0 o1 o2 o3 o4 o5 o6 o7 c0 c1 c2 c3 c4 c5 c6 c7 c8 t0 t1 t2
  refine wp_region_noPanic ?_
  refine wp_region_held_drew (S := (fun w' => w'.cell? ⟨(w.heap.size + 1), 4, none⟩ = some (.int .u64 (wd : Nat)) ∧ w'.cell? ⟨w.heap.size, 0, none⟩ = some (.int .u64 0) ∧ w'.cell? ⟨w.heap.size, 1, none⟩ = some (.slice none 0 0) ∧ w'.cell? ⟨w.heap.size, 2, none⟩ = some (.int .i64 0) ∧ w'.cell? ⟨w.heap.size, 3, none⟩ = some (.slice none 0 0) ∧ w'.cell? ⟨w.heap.size, 4, none⟩ = some (.slice none 0 0) ∧ w'.cell? ⟨w.heap.size, 5, none⟩ = some (.bool false) ∧ w'.cell? ⟨w.heap.size, 6, none⟩ = some (.int .u64 0) ∧ w'.cell? ⟨w.heap.size, 7, none⟩ = some (.int .i64 0) ∧ w'.cell? ⟨w.heap.size, 8, none⟩ = some (.slice none 0 0))) (by kernel_rfl) ?_ (fun hHeld => ?_)
  · exact ⟨cell_later (Below.refl _ _).drew k0, cell_later (Below.refl _ _).drew k1, cell_later (Below.refl _ _).drew k2, cell_later (Below.refl _ _).drew k3, cell_later (Below.refl _ _).drew k4, cell_later (Below.refl _ _).drew k5, cell_later (Below.refl _ _).drew k6, cell_later (Below.refl _ _).drew k7, cell_later (Below.refl _ _).drew k8, cell_later (Below.refl _ _).drew k9⟩
  replace k0 := cell_later (Below.refl _ w5).drew k0
  replace k1 := cell_later (Below.refl _ w5).drew k1
  replace k2 := cell_later (Below.refl _ w5).drew k2
  replace k3 := cell_later (Below.refl _ w5).drew k3
  replace k4 := cell_later (Below.refl _ w5).drew k4
  replace k5 := cell_later (Below.refl _ w5).drew k5
  replace k6 := cell_later (Below.refl _ w5).drew k6
  replace k7 := cell_later (Below.refl _ w5).drew k7
  replace k8 := cell_later (Below.refl _ w5).drew k8
  replace k9 := cell_later (Below.refl _ w5).drew k9
  replace gR := block_later (Below.refl _ w5).drew gR
  refine TR.take_at (i := 0) (v := ?_) 183 rfl rfl (by kernel_rfl) (by kernel_rfl) (by kernel_rfl) (fun _ _ _ h => h) (Or.inl ⟨by rfl, ?_⟩) (by assumption) ?_
  rotate_left
  · (intro w' hSw; (try dsimp only at hSw); go_simp; all_goals with_reducible rfl)
  try simp only [Act.put, List.setIfInBounds_toArray, List.set_cons_zero, List.set_cons_succ]
  refine TR.take_at (i := 1) (v := ?_) 184 rfl rfl (by kernel_rfl) (by kernel_rfl) (by kernel_rfl) (fun _ _ _ h => h) (Or.inl ⟨by rfl, ?_⟩) (by assumption) ?_
  rotate_left
  · (intro w' hSw; (try dsimp only at hSw); go_simp; all_goals with_reducible rfl)
  try simp only [Act.put, List.setIfInBounds_toArray, List.set_cons_zero, List.set_cons_succ]
  refine TR.take_at (i := 2) (v := ?_) 185 rfl rfl (by kernel_rfl) (by kernel_rfl) (by kernel_rfl) (fun _ _ _ h => h) (Or.inl ⟨by rfl, ?_⟩) (by assumption) ?_
  rotate_left
  · (intro w' hSw; (try dsimp only at hSw); go_simp; all_goals with_reducible rfl)
  try simp only [Act.put, List.setIfInBounds_toArray, List.set_cons_zero, List.set_cons_succ]
  refine TR.take_at (i := 3) (v := ?_) 186 rfl rfl (by kernel_rfl) (by kernel_rfl) (by kernel_rfl) (fun _ _ _ h => h) (Or.inl ⟨by rfl, ?_⟩) (by assumption) ?_
  rotate_left
  · (intro w' hSw; (try dsimp only at hSw); go_simp; all_goals with_reducible rfl)
  try simp only [Act.put, List.setIfInBounds_toArray, List.set_cons_zero, List.set_cons_succ]
  refine TR.take_at (i := 4) (v := ?_) 187 rfl rfl (by kernel_rfl) (by kernel_rfl) (by kernel_rfl) (fun _ _ _ h => h) (Or.inl ⟨by rfl, ?_⟩) (by assumption) ?_
  rotate_left
  · (intro w' hSw; (try dsimp only at hSw); go_simp; all_goals with_reducible rfl)
  try simp only [Act.put, List.setIfInBounds_toArray, List.set_cons_zero, List.set_cons_succ]
  refine TR.take_at (i := 5) (v := ?_) 188 rfl rfl (by kernel_rfl) (by kernel_rfl) (by kernel_rfl) (fun _ _ _ h => h) (Or.inl ⟨by rfl, ?_⟩) (by assumption) ?_
  rotate_left
  · (intro w' hSw; (try dsimp only at hSw); go_simp; all_goals with_reducible rfl)
  try simp only [Act.put, List.setIfInBounds_toArray, List.set_cons_zero, List.set_cons_succ]
  refine TR.take_at (i := 6) (v := ?_) 189 rfl rfl (by kernel_rfl) (by kernel_rfl) (by kernel_rfl) (fun _ _ _ h => h) (Or.inl ⟨by rfl, ?_⟩) (by assumption) ?_
  rotate_left
  · (intro w' hSw; (try dsimp only at hSw); go_simp; all_goals with_reducible rfl)
  try simp only [Act.put, List.setIfInBounds_toArray, List.set_cons_zero, List.set_cons_succ]
  refine TR.take_at (i := 7) (v := ?_) 190 rfl rfl (by kernel_rfl) (by kernel_rfl) (by kernel_rfl) (fun _ _ _ h => h) (Or.inl ⟨by rfl, ?_⟩) (by assumption) ?_
  rotate_left
  · (intro w' hSw; (try dsimp only at hSw); go_simp; all_goals with_reducible rfl)
  try simp only [Act.put, List.setIfInBounds_toArray, List.set_cons_zero, List.set_cons_succ]
  refine TR.take_at (i := 8) (v := ?_) 191 rfl rfl (by kernel_rfl) (by kernel_rfl) (by kernel_rfl) (fun _ _ _ h => h) (Or.inl ⟨by rfl, ?_⟩) (by assumption) ?_
  rotate_left
  · (intro w' hSw; (try dsimp only at hSw); go_simp; all_goals with_reducible rfl)
  try simp only [Act.put, List.setIfInBounds_toArray, List.set_cons_zero, List.set_cons_succ]
  refine TR.take_at (i := 9) (v := ?_) 192 rfl rfl (by kernel_rfl) (by kernel_rfl) (by kernel_rfl) (fun _ _ _ h => h) (Or.inl ⟨by rfl, ?_⟩) (by assumption) ?_
  rotate_left
  · (intro w' hSw; (try dsimp only at hSw); go_simp; all_goals with_reducible rfl)
  try simp only [Act.put, List.setIfInBounds_toArray, List.set_cons_zero, List.set_cons_succ]
  refine TR.take_at (i := 10) (v := ?_) 193 rfl rfl (by kernel_rfl) (by kernel_rfl) (by kernel_rfl) (fun _ _ _ h => h) (Or.inl ⟨by rfl, ?_⟩) (by assumption) ?_
  rotate_left
  · (intro w' hSw; (try dsimp only at hSw); go_simp; all_goals with_reducible rfl)
  try simp only [Act.put, List.setIfInBounds_toArray, List.set_cons_zero, List.set_cons_succ]
  have hne0 : ¬ (w.heap.size + 1) = (w.heap.size + 1 + 1) := by omega
  have hne1 : ¬ w.heap.size = (w.heap.size + 1 + 1) := by omega
  have hne2 : ¬ w.heap.size = (w.heap.size + 1 + 1) := by omega
  have hne3 : ¬ w.heap.size = (w.heap.size + 1 + 1) := by omega
  have hne4 : ¬ w.heap.size = (w.heap.size + 1 + 1) := by omega
  have hne5 : ¬ w.heap.size = (w.heap.size + 1 + 1) := by omega
  have hne6 : ¬ w.heap.size = (w.heap.size + 1 + 1) := by omega
  have hne7 : ¬ w.heap.size = (w.heap.size + 1 + 1) := by omega
  have hne8 : ¬ w.heap.size = (w.heap.size + 1 + 1) := by omega
  have hne9 : ¬ w.heap.size = (w.heap.size + 1 + 1) := by omega
  refine wpAnyH_ready (rs := [11]) (by kernel_rfl) (by simp) ?_
  refine AllReadyH.cons rfl (fun K hK => ?_) AllReadyH.nil
  refine step_store_seg rfl rfl 34 _ _ rfl (w.heap.size + 1 + 1) 0 _ #[.int .u64 0, .slice none 0 0, .int .i64 0, .slice none 0 0, .slice none 0 0, .bool false, .int .u64 0, .int .i64 0, .slice none 0 0] rfl rfl rfl 34 _ gR (show 0 + 9 ≤ 9 by decide) info_X9 (by simp [Value.oneCell']) #[.int .u64 0, .slice none 0 0, .int .i64 0, .slice none 0 0, .slice none 0 0, .bool false, .int .u64 0, .int .i64 0, .slice none 0 0] rfl ?_
  intro wz hrz htz
  replace k0 := TR.turn_cell htz hne0 k0
  replace k1 := TR.turn_cell htz hne1 k1
  replace k2 := TR.turn_cell htz hne2 k2
  replace k3 := TR.turn_cell htz hne3 k3
  replace k4 := TR.turn_cell htz hne4 k4
  replace k5 := TR.turn_cell htz hne5 k5
  replace k6 := TR.turn_cell htz hne6 k6
  replace k7 := TR.turn_cell htz hne7 k7
  replace k8 := TR.turn_cell htz hne8 k8
  replace k9 := TR.turn_cell htz hne9 k9
  refine hK.out _ _ ⟨k0, k1, k2, k3, k4, k5, k6, k7, k8, k9⟩ (fun hHeldz => ?_)
  clear hK
  try simp only [Act.put, List.setIfInBounds_toArray, List.set_cons_zero, List.set_cons_succ]
  clear k0 k1 k2 k3 k4 k5 k6 k7 k8 k9
  refine TR.take_at (i := 12) (v := ?_) 7 rfl rfl (by kernel_rfl) (by kernel_rfl) (by kernel_rfl) (fun _ _ _ h => h) (Or.inl ⟨by rfl, ?_⟩) (by assumption) ?_
  rotate_left
  · (intro w' hSw; (try dsimp only at hSw); go_simp; all_goals with_reducible rfl)
  try simp only [Act.put, List.setIfInBounds_toArray, List.set_cons_zero, List.set_cons_succ]
  refine wpAnyH_done (by kernel_rfl) ?_ _
  refine NoPanic.normal ?_
  go_wp2_with fail
  refine bodyPost_ret (TR.res_row_tmp (p := 6) (u := 7) rfl _ _ (w.heap.size + 1 + 1) 34 _ _ _ rfl hrz Tryz.underlying34 rfl info_X9) rfl ⟨⟨_, _, rfl⟩, ?_⟩
  exact H0.out.fin HB.out H5.out.2 (fun g hg => by simp [hg]) (H5.out.1.mono (by omega)) (Below.refl _ _).drew htz (by simp) (by omega)

set_option maxHeartbeats 4000000 in
set_option maxRecDepth 100000 in
theorem step_9c {w0 w : World} {l : List Nat} {x a n S : Nat} {most : Int} {s : St} (h : One w0 w l x a n S most s) (so nn : Int) (va wd : Nat) (hf hl hk : Bool) (hwd : wd < 18446744073709551616) (hb : rgB wd = true) (h4 : ((wd : Nat) : Int) % 4096 = 0) :
    Calls Tryz.prog 9 #[.pointer (some ⟨x, 0, none⟩), .agg yZ, .agg #[.int .i64 9, .int .i64 so, .int .i64 nn, .int .u64 (va : Nat), .int .u64 (wd : Nat), .bool hf, .bool hl, .bool hk]] w fun r w' => (∃ c b, r = .returned (.tuple #[.agg c, .bool b])) ∧ StO w0 w l x a (n + 1) S most w' := by
  have H0 := Hid.mk h
  have HSN : Hid (setN wd = 0) := by show _ = _; unfold setN; rw [hb]; rfl
  have tm : ((wd : Nat) : Int).tmod 4096 = ((wd : Nat) : Int) % 4096 := Int.tmod_eq_emod_of_nonneg (by omega)
  have hq1 : (((wd : Nat) : Int).tmod 4096 == 0) = true := by rw [tm, h4]; rfl
  clear tm h4
  have HW := Hid.mk (h.own4 (.cells #[.int .u64 0, .slice none 0 0, .int .i64 0, .slice none 0 0, .slice none 0 0, .bool false, .int .u64 0, .int .i64 0, .slice none 0 0] 34) (.cells #[.int .i64 9, .int .i64 so, .int .i64 nn, .int .u64 (va : Nat), .int .u64 (wd : Nat), .bool hf, .bool hl, .bool hk] 40) (.cells #[.int .u64 0, .slice none 0 0, .int .i64 0, .slice none 0 0, .slice none 0 0, .bool false, .int .u64 0, .int .i64 0, .slice none 0 0] 34) (.cells #[.bool hf, .bool hl, .bool hk] 71))
  have gY := heap4_0 w (.cells #[.int .u64 0, .slice none 0 0, .int .i64 0, .slice none 0 0, .slice none 0 0, .bool false, .int .u64 0, .int .i64 0, .slice none 0 0] 34) (.cells #[.int .i64 9, .int .i64 so, .int .i64 nn, .int .u64 (va : Nat), .int .u64 (wd : Nat), .bool hf, .bool hl, .bool hk] 40) (.cells #[.int .u64 0, .slice none 0 0, .int .i64 0, .slice none 0 0, .slice none 0 0, .bool false, .int .u64 0, .int .i64 0, .slice none 0 0] 34) (.cells #[.bool hf, .bool hl, .bool hk] 71)
  have gO := heap4_1 w (.cells #[.int .u64 0, .slice none 0 0, .int .i64 0, .slice none 0 0, .slice none 0 0, .bool false, .int .u64 0, .int .i64 0, .slice none 0 0] 34) (.cells #[.int .i64 9, .int .i64 so, .int .i64 nn, .int .u64 (va : Nat), .int .u64 (wd : Nat), .bool hf, .bool hl, .bool hk] 40) (.cells #[.int .u64 0, .slice none 0 0, .int .i64 0, .slice none 0 0, .slice none 0 0, .bool false, .int .u64 0, .int .i64 0, .slice none 0 0] 34) (.cells #[.bool hf, .bool hl, .bool hk] 71)
  have gR := heap4_2 w (.cells #[.int .u64 0, .slice none 0 0, .int .i64 0, .slice none 0 0, .slice none 0 0, .bool false, .int .u64 0, .int .i64 0, .slice none 0 0] 34) (.cells #[.int .i64 9, .int .i64 so, .int .i64 nn, .int .u64 (va : Nat), .int .u64 (wd : Nat), .bool hf, .bool hl, .bool hk] 40) (.cells #[.int .u64 0, .slice none 0 0, .int .i64 0, .slice none 0 0, .slice none 0 0, .bool false, .int .u64 0, .int .i64 0, .slice none 0 0] 34) (.cells #[.bool hf, .bool hl, .bool hk] 71)
  have gH := heap4_3 w (.cells #[.int .u64 0, .slice none 0 0, .int .i64 0, .slice none 0 0, .slice none 0 0, .bool false, .int .u64 0, .int .i64 0, .slice none 0 0] 34) (.cells #[.int .i64 9, .int .i64 so, .int .i64 nn, .int .u64 (va : Nat), .int .u64 (wd : Nat), .bool hf, .bool hl, .bool hk] 40) (.cells #[.int .u64 0, .slice none 0 0, .int .i64 0, .slice none 0 0, .slice none 0 0, .bool false, .int .u64 0, .int .i64 0, .slice none 0 0] 34) (.cells #[.bool hf, .bool hl, .bool hk] 71)
  have hB := below4 w (.cells #[.int .u64 0, .slice none 0 0, .int .i64 0, .slice none 0 0, .slice none 0 0, .bool false, .int .u64 0, .int .i64 0, .slice none 0 0] 34) (.cells #[.int .i64 9, .int .i64 so, .int .i64 nn, .int .u64 (va : Nat), .int .u64 (wd : Nat), .bool hf, .bool hl, .bool hk] 40) (.cells #[.int .u64 0, .slice none 0 0, .int .i64 0, .slice none 0 0, .slice none 0 0, .bool false, .int .u64 0, .int .i64 0, .slice none 0 0] 34) (.cells #[.bool hf, .bool hl, .bool hk] 71)
  clear h
  go_enter Tryz.func9, Tryz.ntmps9
  go_upto_region 2 with fail
  generalize (((w.alloc (.cells #[.int .u64 0, .slice none 0 0, .int .i64 0, .slice none 0 0, .slice none 0 0, .bool false, .int .u64 0, .int .i64 0, .slice none 0 0] 34)).alloc (.cells #[.int .i64 9, .int .i64 so, .int .i64 nn, .int .u64 (va : Nat), .int .u64 (wd : Nat), .bool hf, .bool hl, .bool hk] 40)).alloc (.cells #[.int .u64 0, .slice none 0 0, .int .i64 0, .slice none 0 0, .slice none 0 0, .bool false, .int .u64 0, .int .i64 0, .slice none 0 0] 34)).alloc (.cells #[.bool hf, .bool hl, .bool hk] 71) = W at *
  have HB := Hid.mk hB
  clear hB
  obtain ⟨o0, o1, o2, o3, o4, o5, o6, o7⟩ := cells8p gO
  obtain ⟨c0, c1, c2, c3, c4, c5, c6, c7, c8⟩ := cells9 gY
  obtain ⟨t0, t1, t2⟩ := cells3 gH
  go_wp2_with fail
  refine (HW.out.does (fun X hM => by have := set_c hM wd hwd; rw [HSN.out] at this; exact this)).mono ?_
  rintro e w5 ⟨rfl, h5, hk5⟩
  replace gY := hk5.row (by simp) gY
  replace gO := hk5.row (by simp) gO
  replace gR := hk5.row (by simp) gR
  replace gH := hk5.row (by simp) gH
  have H5 := Hid.mk (And.intro h5 hk5)
  clear h5 hk5 HW o0 o1 o2 o3 o4 o5 o6 o7 c0 c1 c2 c3 c4 c5 c6 c7 c8 t0 t1 t2
  obtain ⟨o0, o1, o2, o3, o4, o5, o6, o7⟩ := cells8p gO
  obtain ⟨c0, c1, c2, c3, c4, c5, c6, c7, c8⟩ := cells9 gY
  obtain ⟨t0, t1, t2⟩ := cells3 gH
  go_upto_region 33 with fail
  have k0 := o4
  clear o0 o1 o2 o3 o4 o5 o6 o7 c0 c1 c2 c3 c4 c5 c6 c7 c8 t0 t1 t2
  refine wp_region_noPanic ?_
  refine wp_region_held_drew (S := (fun w' => w'.cell? ⟨(w.heap.size + 1), 4, none⟩ = some (.int .u64 (wd : Nat)))) (by kernel_rfl) ?_ (fun hHeld => ?_)
  · exact cell_later (Below.refl _ _).drew k0
  replace k0 := cell_later (Below.refl _ w5).drew k0
  replace gY := block_later (Below.refl _ w5).drew gY
  replace gO := block_later (Below.refl _ w5).drew gO
  replace gR := block_later (Below.refl _ w5).drew gR
  refine TR.take_at (i := 0) (v := ?_) 194 rfl rfl (by kernel_rfl) (by kernel_rfl) (by kernel_rfl) (fun _ _ _ h => h) (Or.inl ⟨by rfl, ?_⟩) (by assumption) ?_
  rotate_left
  · (intro w' hSw; (try dsimp only at hSw); go_simp; all_goals with_reducible rfl)
  try simp only [Act.put, List.setIfInBounds_toArray, List.set_cons_zero, List.set_cons_succ]
  refine TR.take_at (i := 1) (v := ?_) 195 rfl rfl (by kernel_rfl) (by kernel_rfl) (by kernel_rfl) (fun _ _ _ h => h) (Or.inl ⟨by rfl, ?_⟩) (by assumption) ?_
  rotate_left
  · (intro w' hSw; (try dsimp only at hSw); go_simp; all_goals with_reducible rfl)
  try simp only [Act.put, List.setIfInBounds_toArray, List.set_cons_zero, List.set_cons_succ]
  refine TR.take_at (i := 2) (v := ?_) 196 rfl rfl (by kernel_rfl) (by kernel_rfl) (by kernel_rfl) (fun _ _ _ h => h) (Or.inl ⟨by rfl, ?_⟩) (by assumption) ?_
  rotate_left
  · (intro w' hSw; (try dsimp only at hSw); go_simp; all_goals with_reducible rfl)
  try simp only [Act.put, List.setIfInBounds_toArray, List.set_cons_zero, List.set_cons_succ]
  refine TR.take_at (i := 3) (v := ?_) 197 rfl rfl (by kernel_rfl) (by kernel_rfl) (by kernel_rfl) (fun _ _ _ h => h) (Or.inl ⟨by rfl, ?_⟩) (by assumption) ?_
  rotate_left
  · (intro w' hSw; (try dsimp only at hSw); go_simp; all_goals with_reducible rfl)
  try simp only [Act.put, List.setIfInBounds_toArray, List.set_cons_zero, List.set_cons_succ]
  refine TR.take_at (i := 4) (v := ?_) 198 rfl rfl (by kernel_rfl) (by kernel_rfl) (by kernel_rfl) (fun _ _ _ h => h) (Or.inl ⟨by rfl, ?_⟩) (by assumption) ?_
  rotate_left
  · (intro w' hSw; (try dsimp only at hSw); go_simp; all_goals with_reducible rfl)
  try simp only [Act.put, List.setIfInBounds_toArray, List.set_cons_zero, List.set_cons_succ]
  refine TR.take_at (i := 5) (v := ?_) 199 rfl rfl (by kernel_rfl) (by kernel_rfl) (by kernel_rfl) (fun _ _ _ h => h) (Or.inl ⟨by rfl, ?_⟩) (by assumption) ?_
  rotate_left
  · (intro w' hSw; (try dsimp only at hSw); go_simp; all_goals with_reducible rfl)
  try simp only [Act.put, List.setIfInBounds_toArray, List.set_cons_zero, List.set_cons_succ]
  refine TR.take_at (i := 6) (v := ?_) 200 rfl rfl (by kernel_rfl) (by kernel_rfl) (by kernel_rfl) (fun _ _ _ h => h) (Or.inl ⟨by rfl, ?_⟩) (by assumption) ?_
  rotate_left
  · (intro w' hSw; (try dsimp only at hSw); go_simp; all_goals with_reducible rfl)
  try simp only [Act.put, List.setIfInBounds_toArray, List.set_cons_zero, List.set_cons_succ]
  refine TR.take_at (i := 7) (v := ?_) 201 rfl rfl (by kernel_rfl) (by kernel_rfl) (by kernel_rfl) (fun _ _ _ h => h) (Or.inl ⟨by rfl, ?_⟩) (by assumption) ?_
  rotate_left
  · (intro w' hSw; (try dsimp only at hSw); go_simp; all_goals with_reducible rfl)
  try simp only [Act.put, List.setIfInBounds_toArray, List.set_cons_zero, List.set_cons_succ]
  refine wpAnyH_ready (rs := [8]) (by kernel_rfl) (by simp) ?_
  refine AllReadyH.cons rfl (fun K hK => ?_) AllReadyH.nil
  refine step_store_seg rfl rfl 4 _ _ rfl w.heap.size 5 (.bool true) #[.bool true] rfl rfl rfl 34 _ gY (show 5 + 1 ≤ 9 by decide) info_bool (by simp [Value.oneCell']) #[.int .u64 0, .slice none 0 0, .int .i64 0, .slice none 0 0, .slice none 0 0, .bool true, .int .u64 0, .int .i64 0, .slice none 0 0] rfl ?_
  intro wya hrya htya
  replace gR := block_turn htya gR (by omega)
  replace k0 := TR.turn_cell htya (show ¬ (w.heap.size + 1) = w.heap.size by omega) k0
  refine hK.out _ _ k0 (fun hHeldya => ?_)
  clear hK
  try simp only [Act.put, List.setIfInBounds_toArray, List.set_cons_zero, List.set_cons_succ]
  refine TR.take_at (i := 9) (v := ?_) 202 rfl rfl (by kernel_rfl) (by kernel_rfl) (by kernel_rfl) (fun _ _ _ h => h) (Or.inl ⟨by rfl, ?_⟩) (by assumption) ?_
  rotate_left
  · (intro w' hSw; (try dsimp only at hSw); go_simp; all_goals with_reducible rfl)
  try simp only [Act.put, List.setIfInBounds_toArray, List.set_cons_zero, List.set_cons_succ]
  refine wpAnyH_ready (rs := [10]) (by kernel_rfl) (by simp) ?_
  refine AllReadyH.cons rfl (fun K hK => ?_) AllReadyH.nil
  refine step_store_seg rfl rfl 26 _ _ rfl w.heap.size 6 (.int .u64 (((wd : Nat) : Int).tmod 281474976710656)) #[.int .u64 (((wd : Nat) : Int).tmod 281474976710656)] rfl rfl rfl 34 _ hrya (show 6 + 1 ≤ 9 by decide) info_u64 (by simp [Value.oneCell']) #[.int .u64 0, .slice none 0 0, .int .i64 0, .slice none 0 0, .slice none 0 0, .bool true, .int .u64 (((wd : Nat) : Int).tmod 281474976710656), .int .i64 0, .slice none 0 0] rfl ?_
  intro wyb hryb htyb
  replace gR := block_turn htyb gR (by omega)
  replace k0 := TR.turn_cell htyb (show ¬ (w.heap.size + 1) = w.heap.size by omega) k0
  refine hK.out _ _ k0 (fun hHeldyb => ?_)
  clear hK
  try simp only [Act.put, List.setIfInBounds_toArray, List.set_cons_zero, List.set_cons_succ]
  refine TR.take_at (i := 11) (v := ?_) 203 rfl rfl (by kernel_rfl) (by kernel_rfl) (by kernel_rfl) (fun _ _ _ h => h) (Or.inl ⟨by rfl, ?_⟩) (by assumption) ?_
  rotate_left
  · (intro w' hSw; (try dsimp only at hSw); go_simp; all_goals with_reducible rfl)
  try simp only [Act.put, List.setIfInBounds_toArray, List.set_cons_zero, List.set_cons_succ]
  refine wpAnyH_ready (rs := [12]) (by kernel_rfl) (by simp) ?_
  refine AllReadyH.cons rfl (fun K hK => ?_) AllReadyH.nil
  refine step_store_seg rfl rfl 3 _ _ rfl w.heap.size 7 (.int .i64 (IntKind.i64.wrap (((wd : Nat) : Int) / 281474976710656))) #[.int .i64 (IntKind.i64.wrap (((wd : Nat) : Int) / 281474976710656))] rfl rfl rfl 34 _ hryb (show 7 + 1 ≤ 9 by decide) info_int (by simp [Value.oneCell']) #[.int .u64 0, .slice none 0 0, .int .i64 0, .slice none 0 0, .slice none 0 0, .bool true, .int .u64 (((wd : Nat) : Int).tmod 281474976710656), .int .i64 (IntKind.i64.wrap (((wd : Nat) : Int) / 281474976710656)), .slice none 0 0] rfl ?_
  intro wyc hryc htyc
  replace gR := block_turn htyc gR (by omega)
  replace k0 := TR.turn_cell htyc (show ¬ (w.heap.size + 1) = w.heap.size by omega) k0
  refine hK.out _ _ k0 (fun hHeldyc => ?_)
  clear hK
  try simp only [Act.put, List.setIfInBounds_toArray, List.set_cons_zero, List.set_cons_succ]
  refine wpAnyH_done (by kernel_rfl) ?_ _
  refine NoPanic.normal ?_
  obtain ⟨z1, z2, hrY⟩ : ∃ z1 z2 : Int, wyc.heap[w.heap.size]? = some (.cells #[.int .u64 0, .slice none 0 0, .int .i64 0, .slice none 0 0, .slice none 0 0, .bool true, .int .u64 z1, .int .i64 z2, .slice none 0 0] 34 (0, 0)) := ⟨_, _, hryc⟩
  have HKp := Hid.mk ((((((Kp.below H0.out (Kp.refl l w) HB.out).trans (H5.out.2.less (fun g hg => by simp [hg]))).below H0.out (Below.refl _ _).drew).put H0.out htya (Nat.le_refl _)).put H0.out htyb (Nat.le_refl _)).put H0.out htyc (Nat.le_refl _))
  have HOn := Hid.mk ((((H5.out.1.later (Below.refl _ _).drew).put htya (fun i hi => ⟨by rw [hi]; simp, by rw [hi]; exact H0.out.bl.size⟩)).put htyb (fun i hi => ⟨by rw [hi]; simp, by rw [hi]; exact H0.out.bl.size⟩)).put htyc (fun i hi => ⟨by rw [hi]; simp, by rw [hi]; exact H0.out.bl.size⟩))
  have k0c := k0
  clear hrya hryb hryc htya htyb htyc k0 gO gY gH
  obtain ⟨c0, c1, c2, c3, c4, c5, c6, c7, c8⟩ := cells9 hrY
  clear hrY
  go_upto_region 34 with fail
  have k0 := k0c
  have k1 := c0
  have k2 := c1
  have k3 := c2
  have k4 := c3
  have k5 := c4
  have k6 := c5
  have k7 := c6
  have k8 := c7
  have k9 := c8
  clear k0c c0 c1 c2 c3 c4 c5 c6 c7 c8
  refine wp_region_noPanic ?_
  refine wp_region_held_drew (S := (fun w' => w'.cell? ⟨(w.heap.size + 1), 4, none⟩ = some (.int .u64 (wd : Nat)) ∧ w'.cell? ⟨w.heap.size, 0, none⟩ = some (.int .u64 0) ∧ w'.cell? ⟨w.heap.size, 1, none⟩ = some (.slice none 0 0) ∧ w'.cell? ⟨w.heap.size, 2, none⟩ = some (.int .i64 0) ∧ w'.cell? ⟨w.heap.size, 3, none⟩ = some (.slice none 0 0) ∧ w'.cell? ⟨w.heap.size, 4, none⟩ = some (.slice none 0 0) ∧ w'.cell? ⟨w.heap.size, 5, none⟩ = some (.bool true) ∧ w'.cell? ⟨w.heap.size, 6, none⟩ = some (.int .u64 z1) ∧ w'.cell? ⟨w.heap.size, 7, none⟩ = some (.int .i64 z2) ∧ w'.cell? ⟨w.heap.size, 8, none⟩ = some (.slice none 0 0))) (by kernel_rfl) ?_ (fun hHeld => ?_)
  · exact ⟨cell_later (Below.refl _ _).drew k0, cell_later (Below.refl _ _).drew k1, cell_later (Below.refl _ _).drew k2, cell_later (Below.refl _ _).drew k3, cell_later (Below.refl _ _).drew k4, cell_later (Below.refl _ _).drew k5, cell_later (Below.refl _ _).drew k6, cell_later (Below.refl _ _).drew k7, cell_later (Below.refl _ _).drew k8, cell_later (Below.refl _ _).drew k9⟩
  replace k0 := cell_later (Below.refl _ wyc).drew k0
  replace k1 := cell_later (Below.refl _ wyc).drew k1
  replace k2 := cell_later (Below.refl _ wyc).drew k2
  replace k3 := cell_later (Below.refl _ wyc).drew k3
  replace k4 := cell_later (Below.refl _ wyc).drew k4
  replace k5 := cell_later (Below.refl _ wyc).drew k5
  replace k6 := cell_later (Below.refl _ wyc).drew k6
  replace k7 := cell_later (Below.refl _ wyc).drew k7
  replace k8 := cell_later (Below.refl _ wyc).drew k8
  replace k9 := cell_later (Below.refl _ wyc).drew k9
  replace gR := block_later (Below.refl _ wyc).drew gR
  refine TR.take_at (i := 0) (v := ?_) 204 rfl rfl (by kernel_rfl) (by kernel_rfl) (by kernel_rfl) (fun _ _ _ h => h) (Or.inl ⟨by rfl, ?_⟩) (by assumption) ?_
  rotate_left
  · (intro w' hSw; (try dsimp only at hSw); go_simp; all_goals with_reducible rfl)
  try simp only [Act.put, List.setIfInBounds_toArray, List.set_cons_zero, List.set_cons_succ]
  refine TR.take_at (i := 1) (v := ?_) 205 rfl rfl (by kernel_rfl) (by kernel_rfl) (by kernel_rfl) (fun _ _ _ h => h) (Or.inl ⟨by rfl, ?_⟩) (by assumption) ?_
  rotate_left
  · (intro w' hSw; (try dsimp only at hSw); go_simp; all_goals with_reducible rfl)
  try simp only [Act.put, List.setIfInBounds_toArray, List.set_cons_zero, List.set_cons_succ]
  refine TR.take_at (i := 2) (v := ?_) 206 rfl rfl (by kernel_rfl) (by kernel_rfl) (by kernel_rfl) (fun _ _ _ h => h) (Or.inl ⟨by rfl, ?_⟩) (by assumption) ?_
  rotate_left
  · (intro w' hSw; (try dsimp only at hSw); go_simp; all_goals with_reducible rfl)
  try simp only [Act.put, List.setIfInBounds_toArray, List.set_cons_zero, List.set_cons_succ]
  refine TR.take_at (i := 3) (v := ?_) 207 rfl rfl (by kernel_rfl) (by kernel_rfl) (by kernel_rfl) (fun _ _ _ h => h) (Or.inl ⟨by rfl, ?_⟩) (by assumption) ?_
  rotate_left
  · (intro w' hSw; (try dsimp only at hSw); go_simp; all_goals with_reducible rfl)
  try simp only [Act.put, List.setIfInBounds_toArray, List.set_cons_zero, List.set_cons_succ]
  refine TR.take_at (i := 4) (v := ?_) 208 rfl rfl (by kernel_rfl) (by kernel_rfl) (by kernel_rfl) (fun _ _ _ h => h) (Or.inl ⟨by rfl, ?_⟩) (by assumption) ?_
  rotate_left
  · (intro w' hSw; (try dsimp only at hSw); go_simp; all_goals with_reducible rfl)
  try simp only [Act.put, List.setIfInBounds_toArray, List.set_cons_zero, List.set_cons_succ]
  refine TR.take_at (i := 5) (v := ?_) 209 rfl rfl (by kernel_rfl) (by kernel_rfl) (by kernel_rfl) (fun _ _ _ h => h) (Or.inl ⟨by rfl, ?_⟩) (by assumption) ?_
  rotate_left
  · (intro w' hSw; (try dsimp only at hSw); go_simp; all_goals with_reducible rfl)
  try simp only [Act.put, List.setIfInBounds_toArray, List.set_cons_zero, List.set_cons_succ]
  refine TR.take_at (i := 6) (v := ?_) 210 rfl rfl (by kernel_rfl) (by kernel_rfl) (by kernel_rfl) (fun _ _ _ h => h) (Or.inl ⟨by rfl, ?_⟩) (by assumption) ?_
  rotate_left
  · (intro w' hSw; (try dsimp only at hSw); go_simp; all_goals with_reducible rfl)
  try simp only [Act.put, List.setIfInBounds_toArray, List.set_cons_zero, List.set_cons_succ]
  refine TR.take_at (i := 7) (v := ?_) 211 rfl rfl (by kernel_rfl) (by kernel_rfl) (by kernel_rfl) (fun _ _ _ h => h) (Or.inl ⟨by rfl, ?_⟩) (by assumption) ?_
  rotate_left
  · (intro w' hSw; (try dsimp only at hSw); go_simp; all_goals with_reducible rfl)
  try simp only [Act.put, List.setIfInBounds_toArray, List.set_cons_zero, List.set_cons_succ]
  refine TR.take_at (i := 8) (v := ?_) 212 rfl rfl (by kernel_rfl) (by kernel_rfl) (by kernel_rfl) (fun _ _ _ h => h) (Or.inl ⟨by rfl, ?_⟩) (by assumption) ?_
  rotate_left
  · (intro w' hSw; (try dsimp only at hSw); go_simp; all_goals with_reducible rfl)
  try simp only [Act.put, List.setIfInBounds_toArray, List.set_cons_zero, List.set_cons_succ]
  refine TR.take_at (i := 9) (v := ?_) 213 rfl rfl (by kernel_rfl) (by kernel_rfl) (by kernel_rfl) (fun _ _ _ h => h) (Or.inl ⟨by rfl, ?_⟩) (by assumption) ?_
  rotate_left
  · (intro w' hSw; (try dsimp only at hSw); go_simp; all_goals with_reducible rfl)
  try simp only [Act.put, List.setIfInBounds_toArray, List.set_cons_zero, List.set_cons_succ]
  refine TR.take_at (i := 10) (v := ?_) 214 rfl rfl (by kernel_rfl) (by kernel_rfl) (by kernel_rfl) (fun _ _ _ h => h) (Or.inl ⟨by rfl, ?_⟩) (by assumption) ?_
  rotate_left
  · (intro w' hSw; (try dsimp only at hSw); go_simp; all_goals with_reducible rfl)
  try simp only [Act.put, List.setIfInBounds_toArray, List.set_cons_zero, List.set_cons_succ]
  have hne0 : ¬ (w.heap.size + 1) = (w.heap.size + 1 + 1) := by omega
  have hne1 : ¬ w.heap.size = (w.heap.size + 1 + 1) := by omega
  have hne2 : ¬ w.heap.size = (w.heap.size + 1 + 1) := by omega
  have hne3 : ¬ w.heap.size = (w.heap.size + 1 + 1) := by omega
  have hne4 : ¬ w.heap.size = (w.heap.size + 1 + 1) := by omega
  have hne5 : ¬ w.heap.size = (w.heap.size + 1 + 1) := by omega
  have hne6 : ¬ w.heap.size = (w.heap.size + 1 + 1) := by omega
  have hne7 : ¬ w.heap.size = (w.heap.size + 1 + 1) := by omega
  have hne8 : ¬ w.heap.size = (w.heap.size + 1 + 1) := by omega
  have hne9 : ¬ w.heap.size = (w.heap.size + 1 + 1) := by omega
  refine wpAnyH_ready (rs := [11]) (by kernel_rfl) (by simp) ?_
  refine AllReadyH.cons rfl (fun K hK => ?_) AllReadyH.nil
  refine step_store_seg rfl rfl 34 _ _ rfl (w.heap.size + 1 + 1) 0 _ #[.int .u64 0, .slice none 0 0, .int .i64 0, .slice none 0 0, .slice none 0 0, .bool true, .int .u64 z1, .int .i64 z2, .slice none 0 0] rfl rfl rfl 34 _ gR (show 0 + 9 ≤ 9 by decide) info_X9 (by simp [Value.oneCell']) #[.int .u64 0, .slice none 0 0, .int .i64 0, .slice none 0 0, .slice none 0 0, .bool true, .int .u64 z1, .int .i64 z2, .slice none 0 0] rfl ?_
  intro wz hrz htz
  replace k0 := TR.turn_cell htz hne0 k0
  replace k1 := TR.turn_cell htz hne1 k1
  replace k2 := TR.turn_cell htz hne2 k2
  replace k3 := TR.turn_cell htz hne3 k3
  replace k4 := TR.turn_cell htz hne4 k4
  replace k5 := TR.turn_cell htz hne5 k5
  replace k6 := TR.turn_cell htz hne6 k6
  replace k7 := TR.turn_cell htz hne7 k7
  replace k8 := TR.turn_cell htz hne8 k8
  replace k9 := TR.turn_cell htz hne9 k9
  refine hK.out _ _ ⟨k0, k1, k2, k3, k4, k5, k6, k7, k8, k9⟩ (fun hHeldz => ?_)
  clear hK
  try simp only [Act.put, List.setIfInBounds_toArray, List.set_cons_zero, List.set_cons_succ]
  clear k0 k1 k2 k3 k4 k5 k6 k7 k8 k9
  refine TR.take_at (i := 12) (v := ?_) 7 rfl rfl (by kernel_rfl) (by kernel_rfl) (by kernel_rfl) (fun _ _ _ h => h) (Or.inl ⟨by rfl, ?_⟩) (by assumption) ?_
  rotate_left
  · (intro w' hSw; (try dsimp only at hSw); go_simp; all_goals with_reducible rfl)
  try simp only [Act.put, List.setIfInBounds_toArray, List.set_cons_zero, List.set_cons_succ]
  refine wpAnyH_done (by kernel_rfl) ?_ _
  refine NoPanic.normal ?_
  go_wp2_with fail
  refine bodyPost_ret (TR.res_row_tmp (p := 6) (u := 7) rfl _ _ (w.heap.size + 1 + 1) 34 _ _ _ rfl hrz Tryz.underlying34 rfl info_X9) rfl ⟨⟨_, _, rfl⟩, ?_⟩
  exact H0.out.fin3 (HKp.out.below H0.out (Below.refl _ _).drew) ((HOn.out.mono (Nat.le_succ n)).later (Below.refl _ _).drew) htz (fun g hg => by simp [hg]) (by simp) (by omega)
end Go.Proofs.YtndjhedoandinaaGreatDoor.MM
