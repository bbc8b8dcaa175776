/- Capabilities: the document's Word and Read; the law's anchor. -/
import Derived.Test.YtieldgocgjoojaaDoorCapI
set_option linter.unusedVariables false
namespace Go.Proofs.YtieldgocgjoojaaDoor
open Go.RowKit

set_option maxRecDepth 100000 in
set_option maxHeartbeats 4000000 in
theorem refWord_any {k a b r g s m : Nat} (hR : Rt k a b r g s m) (w : World) :
    Calls Tryd.prog 29 #[.agg #[.int .i64 (k : Nat), .int .u64 (a : Nat), .int .i64 (b : Nat), .int .i64 (r : Nat), .int .i64 (g : Nat), .int .i64 (s : Nat), .int .u64 (m : Nat)]] w fun e w' => e = .returned (.int .u64 ((wordN k a b r g s : Nat) : Int)) ∧ Below w.heap.size w w' := by
  obtain ⟨q1, q2, q3, q4, q5, q6, q7, q8⟩ := hR
  have p1 := fun w1 => pow_any 4 (by decide) w1
  have p2 := fun w1 => pow_any 10 (by decide) w1
  have p3 := fun w1 => pow_any 13 (by decide) w1
  have p4 := fun w1 => pow_any 19 (by decide) w1
  have p5 := fun w1 => pow_any 35 (by decide) w1
  rw [show 2 ^ 4 = 16 by decide] at p1
  rw [show 2 ^ 10 = 1024 by decide] at p2
  rw [show 2 ^ 13 = 8192 by decide] at p3
  rw [show 2 ^ 19 = 524288 by decide] at p4
  rw [show 2 ^ 35 = 34359738368 by decide] at p5
  have e1 : IntKind.u64.wrap (k : Int) = (k : Int) := by rw [IntKind.wrap_u64]; omega
  have e2 : IntKind.u64.wrap (b : Int) = (b : Int) := by rw [IntKind.wrap_u64]; omega
  have e3 : IntKind.u64.wrap (r : Int) = (r : Int) := by rw [IntKind.wrap_u64]; omega
  have e4 : IntKind.u64.wrap (g : Int) = (g : Int) := by rw [IntKind.wrap_u64]; omega
  have e5 : IntKind.u64.wrap (s : Int) = (s : Int) := by rw [IntKind.wrap_u64]; omega
  have f1 : IntKind.u64.wrap ((b : Int) * 16) = (b : Int) * 16 := by rw [IntKind.wrap_u64]; omega
  have f2 : IntKind.u64.wrap ((r : Int) * 1024) = (r : Int) * 1024 := by rw [IntKind.wrap_u64]; omega
  have f3 : IntKind.u64.wrap ((g : Int) * 8192) = (g : Int) * 8192 := by rw [IntKind.wrap_u64]; omega
  have f4 : IntKind.u64.wrap ((s : Int) * 524288) = (s : Int) * 524288 := by rw [IntKind.wrap_u64]; omega
  have g1 : IntKind.u64.wrap ((k : Int) + (b : Int) * 16) = (k : Int) + (b : Int) * 16 := by rw [IntKind.wrap_u64]; omega
  have g2 : IntKind.u64.wrap ((k : Int) + (b : Int) * 16 + (r : Int) * 1024) = (k : Int) + (b : Int) * 16 + (r : Int) * 1024 := by rw [IntKind.wrap_u64]; omega
  have g3 : IntKind.u64.wrap ((k : Int) + (b : Int) * 16 + (r : Int) * 1024 + (g : Int) * 8192) = (k : Int) + (b : Int) * 16 + (r : Int) * 1024 + (g : Int) * 8192 := by rw [IntKind.wrap_u64]; omega
  have g4 : IntKind.u64.wrap ((k : Int) + (b : Int) * 16 + (r : Int) * 1024 + (g : Int) * 8192 + (s : Int) * 524288) = (k : Int) + (b : Int) * 16 + (r : Int) * 1024 + (g : Int) * 8192 + (s : Int) * 524288 := by rw [IntKind.wrap_u64]; omega
  have e6 : (a : Int).tdiv 32 = ((a / 32 : Nat) : Int) := by rw [Int.tdiv_eq_ediv_of_nonneg (by omega)]; omega
  have hA : a / 32 < 134217728 := by omega
  have HE : Hid (((wordN k a b r g s : Nat) : Int) = (k : Int) + (b : Int) * 16 + (r : Int) * 1024 + (g : Int) * 8192 + (s : Int) * 524288 + ((a / 32 : Nat) : Int) * 34359738368) := by show _ = _; unfold wordN; omega
  generalize a / 32 = A at *
  have fA : IntKind.u64.wrap (A : Int) = (A : Int) := by rw [IntKind.wrap_u64]; omega
  have f6 : IntKind.u64.wrap ((A : Int) * 34359738368) = (A : Int) * 34359738368 := by rw [IntKind.wrap_u64]; omega
  have g6 : IntKind.u64.wrap ((k : Int) + (b : Int) * 16 + (r : Int) * 1024 + (g : Int) * 8192 + (s : Int) * 524288 + (A : Int) * 34359738368) = (k : Int) + (b : Int) * 16 + (r : Int) * 1024 + (g : Int) * 8192 + (s : Int) * 524288 + (A : Int) * 34359738368 := by rw [IntKind.wrap_u64]; omega
  clear q1 q2 q3 q4 q5 q6 q7 q8 hA
  go_enter Tryd.func29, Tryd.ntmps29
  go_upto_region 1 with fail
  have gC := heap_alloc_new w (.cells #[.int .i64 (k : Nat), .int .u64 (a : Nat), .int .i64 (b : Nat), .int .i64 (r : Nat), .int .i64 (g : Nat), .int .i64 (s : Nat), .int .u64 (m : Nat)] 36)
  have hB := below_new w (.cells #[.int .i64 (k : Nat), .int .u64 (a : Nat), .int .i64 (b : Nat), .int .i64 (r : Nat), .int .i64 (g : Nat), .int .i64 (s : Nat), .int .u64 (m : Nat)] 36)
  generalize w.alloc (.cells #[.int .i64 (k : Nat), .int .u64 (a : Nat), .int .i64 (b : Nat), .int .i64 (r : Nat), .int .i64 (g : Nat), .int .i64 (s : Nat), .int .u64 (m : Nat)] 36) = W at *
  obtain ⟨k0, k1, k2, k3, k4, k5, k6⟩ := cells7 gC
  refine wp_region_noPanic ?_
  refine wp_region_held_drew (S := (fun w' => w'.cell? ⟨w.heap.size, 0, none⟩ = some (.int .i64 (k : Nat)) ∧ w'.cell? ⟨w.heap.size, 1, none⟩ = some (.int .u64 (a : Nat)) ∧ w'.cell? ⟨w.heap.size, 2, none⟩ = some (.int .i64 (b : Nat)) ∧ w'.cell? ⟨w.heap.size, 3, none⟩ = some (.int .i64 (r : Nat)) ∧ w'.cell? ⟨w.heap.size, 4, none⟩ = some (.int .i64 (g : Nat)) ∧ w'.cell? ⟨w.heap.size, 5, none⟩ = some (.int .i64 (s : Nat)) ∧ w'.cell? ⟨w.heap.size, 6, none⟩ = some (.int .u64 (m : Nat)))) (by kernel_rfl) ?_ (fun hHeld => ?_)
  · exact ⟨cell_later (Below.refl _ _).drew k0, cell_later (Below.refl _ _).drew k1, cell_later (Below.refl _ _).drew k2, cell_later (Below.refl _ _).drew k3, cell_later (Below.refl _ _).drew k4, cell_later (Below.refl _ _).drew k5, cell_later (Below.refl _ _).drew k6⟩
  replace k0 := cell_later (Below.refl _ W).drew k0
  replace k1 := cell_later (Below.refl _ W).drew k1
  replace k2 := cell_later (Below.refl _ W).drew k2
  replace k3 := cell_later (Below.refl _ W).drew k3
  replace k4 := cell_later (Below.refl _ W).drew k4
  replace k5 := cell_later (Below.refl _ W).drew k5
  replace k6 := cell_later (Below.refl _ W).drew k6
  replace gC := block_later (Below.refl _ W).drew gC
  replace hB := below_tr hB (Below.refl _ W).drew
  generalize W.drew = Wd at *
  refine take_at (i := 0) (v := ?_) 4 rfl rfl (by kernel_rfl) (by kernel_rfl) (by kernel_rfl) (fun _ _ _ h => h) (Or.inl ⟨by rfl, ?_⟩) (by assumption) ?_
  rotate_left
  · (intro w' hSw; (try dsimp only at hSw); go_simp; all_goals with_reducible rfl)
  try simp only [Act.put, List.setIfInBounds_toArray, List.set_cons_zero, List.set_cons_succ]
  refine take_at (i := 1) (v := ?_) 5 rfl rfl (by kernel_rfl) (by kernel_rfl) (by kernel_rfl) (fun _ _ _ h => h) (Or.inl ⟨by rfl, ?_⟩) (by assumption) ?_
  rotate_left
  · (intro w' hSw; (try dsimp only at hSw); go_simp; all_goals with_reducible rfl)
  try simp only [Act.put, List.setIfInBounds_toArray, List.set_cons_zero, List.set_cons_succ]
  refine take_at (i := 2) (v := ?_) 6 rfl rfl (by kernel_rfl) (by kernel_rfl) (by kernel_rfl) (fun _ _ _ h => h) (Or.inl ⟨by rfl, ?_⟩) (by assumption) ?_
  rotate_left
  · (intro w' hSw; (try dsimp only at hSw); go_simp; all_goals with_reducible rfl)
  try simp only [Act.put, List.setIfInBounds_toArray, List.set_cons_zero, List.set_cons_succ]
  refine take_at (i := 3) (v := ?_) 7 rfl rfl (by kernel_rfl) (by kernel_rfl) (by kernel_rfl) (fun _ _ _ h => h) (Or.inl ⟨by rfl, ?_⟩) (by assumption) ?_
  rotate_left
  · (intro w' hSw; (try dsimp only at hSw); go_simp; all_goals with_reducible rfl)
  try simp only [Act.put, List.setIfInBounds_toArray, List.set_cons_zero, List.set_cons_succ]
  refine take_at (i := 4) (v := ?_) 8 rfl rfl (by kernel_rfl) (by kernel_rfl) (by kernel_rfl) (fun _ _ _ h => h) (Or.inl ⟨by rfl, ?_⟩) (by assumption) ?_
  rotate_left
  · (intro w' hSw; (try dsimp only at hSw); go_simp; all_goals with_reducible rfl)
  try simp only [Act.put, List.setIfInBounds_toArray, List.set_cons_zero, List.set_cons_succ]
  refine take_at (i := 5) (v := ?_) 9 rfl rfl (by kernel_rfl) (by kernel_rfl) (by kernel_rfl) (fun _ _ _ h => h) (Or.inl ⟨by rfl, ?_⟩) (by assumption) ?_
  rotate_left
  · (intro w' hSw; (try dsimp only at hSw); go_simp; all_goals with_reducible rfl)
  try simp only [Act.put, List.setIfInBounds_toArray, List.set_cons_zero, List.set_cons_succ]
  refine take_at (i := 9) (v := ?_) 13 rfl rfl (by kernel_rfl) (by kernel_rfl) (by kernel_rfl) (fun _ _ _ h => h) (Or.inl ⟨by rfl, ?_⟩) (by assumption) ?_
  rotate_left
  · (intro w' hSw; (try dsimp only at hSw); go_simp; all_goals with_reducible rfl)
  try simp only [Act.put, List.setIfInBounds_toArray, List.set_cons_zero, List.set_cons_succ]
  refine take_at (i := 10) (v := ?_) 14 rfl rfl (by kernel_rfl) (by kernel_rfl) (by kernel_rfl) (fun _ _ _ h => h) (Or.inl ⟨by rfl, ?_⟩) (by assumption) ?_
  rotate_left
  · (intro w' hSw; (try dsimp only at hSw); go_simp; all_goals with_reducible rfl)
  try simp only [Act.put, List.setIfInBounds_toArray, List.set_cons_zero, List.set_cons_succ]
  refine take_at (i := 11) (v := ?_) 15 rfl rfl (by kernel_rfl) (by kernel_rfl) (by kernel_rfl) (fun _ _ _ h => h) (Or.inl ⟨by rfl, ?_⟩) (by assumption) ?_
  rotate_left
  · (intro w' hSw; (try dsimp only at hSw); go_simp; all_goals with_reducible rfl)
  try simp only [Act.put, List.setIfInBounds_toArray, List.set_cons_zero, List.set_cons_succ]
  refine take_at (i := 15) (v := ?_) 19 rfl rfl (by kernel_rfl) (by kernel_rfl) (by kernel_rfl) (fun _ _ _ h => h) (Or.inl ⟨by rfl, ?_⟩) (by assumption) ?_
  rotate_left
  · (intro w' hSw; (try dsimp only at hSw); go_simp; all_goals with_reducible rfl)
  try simp only [Act.put, List.setIfInBounds_toArray, List.set_cons_zero, List.set_cons_succ]
  refine take_at (i := 16) (v := ?_) 20 rfl rfl (by kernel_rfl) (by kernel_rfl) (by kernel_rfl) (fun _ _ _ h => h) (Or.inl ⟨by rfl, ?_⟩) (by assumption) ?_
  rotate_left
  · (intro w' hSw; (try dsimp only at hSw); go_simp; all_goals with_reducible rfl)
  try simp only [Act.put, List.setIfInBounds_toArray, List.set_cons_zero, List.set_cons_succ]
  refine take_at (i := 17) (v := ?_) 21 rfl rfl (by kernel_rfl) (by kernel_rfl) (by kernel_rfl) (fun _ _ _ h => h) (Or.inl ⟨by rfl, ?_⟩) (by assumption) ?_
  rotate_left
  · (intro w' hSw; (try dsimp only at hSw); go_simp; all_goals with_reducible rfl)
  try simp only [Act.put, List.setIfInBounds_toArray, List.set_cons_zero, List.set_cons_succ]
  refine take_at (i := 21) (v := ?_) 25 rfl rfl (by kernel_rfl) (by kernel_rfl) (by kernel_rfl) (fun _ _ _ h => h) (Or.inl ⟨by rfl, ?_⟩) (by assumption) ?_
  rotate_left
  · (intro w' hSw; (try dsimp only at hSw); go_simp; all_goals with_reducible rfl)
  try simp only [Act.put, List.setIfInBounds_toArray, List.set_cons_zero, List.set_cons_succ]
  refine take_at (i := 22) (v := ?_) 26 rfl rfl (by kernel_rfl) (by kernel_rfl) (by kernel_rfl) (fun _ _ _ h => h) (Or.inl ⟨by rfl, ?_⟩) (by assumption) ?_
  rotate_left
  · (intro w' hSw; (try dsimp only at hSw); go_simp; all_goals with_reducible rfl)
  try simp only [Act.put, List.setIfInBounds_toArray, List.set_cons_zero, List.set_cons_succ]
  refine take_at (i := 23) (v := ?_) 27 rfl rfl (by kernel_rfl) (by kernel_rfl) (by kernel_rfl) (fun _ _ _ h => h) (Or.inl ⟨by rfl, ?_⟩) (by assumption) ?_
  rotate_left
  · (intro w' hSw; (try dsimp only at hSw); go_simp; all_goals with_reducible rfl)
  try simp only [Act.put, List.setIfInBounds_toArray, List.set_cons_zero, List.set_cons_succ]
  refine wpAnyH_ready (rs := [6]) (by kernel_rfl) (by simp) ?_
  refine AllReadyH.cons rfl (fun K hK => ?_) AllReadyH.nil
  go_simp
  refine (p1 _).mono ?_
  rintro e wc1 ⟨rfl, rfl⟩
  go_wp2_with fail
  refine hK.out _ _ ⟨k0, k1, k2, k3, k4, k5, k6⟩ (fun hHeld1 => ?_)
  clear hK
  try simp only [Act.put, List.setIfInBounds_toArray, List.set_cons_zero, List.set_cons_succ]
  refine take_at (i := 7) (v := ?_) 11 rfl rfl (by kernel_rfl) (by kernel_rfl) (by kernel_rfl) (fun _ _ _ h => h) (Or.inl ⟨by rfl, ?_⟩) (by assumption) ?_
  rotate_left
  · (intro w' hSw; (try dsimp only at hSw); go_simp; all_goals with_reducible rfl)
  try simp only [Act.put, List.setIfInBounds_toArray, List.set_cons_zero, List.set_cons_succ]
  refine take_at (i := 8) (v := ?_) 12 rfl rfl (by kernel_rfl) (by kernel_rfl) (by kernel_rfl) (fun _ _ _ h => h) (Or.inl ⟨by rfl, ?_⟩) (by assumption) ?_
  rotate_left
  · (intro w' hSw; (try dsimp only at hSw); go_simp; all_goals with_reducible rfl)
  try simp only [Act.put, List.setIfInBounds_toArray, List.set_cons_zero, List.set_cons_succ]
  refine wpAnyH_ready (rs := [12]) (by kernel_rfl) (by simp) ?_
  refine AllReadyH.cons rfl (fun K hK => ?_) AllReadyH.nil
  go_simp
  refine (p2 _).mono ?_
  rintro e wc2 ⟨rfl, rfl⟩
  go_wp2_with fail
  refine hK.out _ _ ⟨k0, k1, k2, k3, k4, k5, k6⟩ (fun hHeld2 => ?_)
  clear hK
  try simp only [Act.put, List.setIfInBounds_toArray, List.set_cons_zero, List.set_cons_succ]
  refine take_at (i := 13) (v := ?_) 17 rfl rfl (by kernel_rfl) (by kernel_rfl) (by kernel_rfl) (fun _ _ _ h => h) (Or.inl ⟨by rfl, ?_⟩) (by assumption) ?_
  rotate_left
  · (intro w' hSw; (try dsimp only at hSw); go_simp; all_goals with_reducible rfl)
  try simp only [Act.put, List.setIfInBounds_toArray, List.set_cons_zero, List.set_cons_succ]
  refine take_at (i := 14) (v := ?_) 18 rfl rfl (by kernel_rfl) (by kernel_rfl) (by kernel_rfl) (fun _ _ _ h => h) (Or.inl ⟨by rfl, ?_⟩) (by assumption) ?_
  rotate_left
  · (intro w' hSw; (try dsimp only at hSw); go_simp; all_goals with_reducible rfl)
  try simp only [Act.put, List.setIfInBounds_toArray, List.set_cons_zero, List.set_cons_succ]
  refine wpAnyH_ready (rs := [18]) (by kernel_rfl) (by simp) ?_
  refine AllReadyH.cons rfl (fun K hK => ?_) AllReadyH.nil
  go_simp
  refine (p3 _).mono ?_
  rintro e wc3 ⟨rfl, rfl⟩
  go_wp2_with fail
  refine hK.out _ _ ⟨k0, k1, k2, k3, k4, k5, k6⟩ (fun hHeld3 => ?_)
  clear hK
  try simp only [Act.put, List.setIfInBounds_toArray, List.set_cons_zero, List.set_cons_succ]
  refine take_at (i := 19) (v := ?_) 23 rfl rfl (by kernel_rfl) (by kernel_rfl) (by kernel_rfl) (fun _ _ _ h => h) (Or.inl ⟨by rfl, ?_⟩) (by assumption) ?_
  rotate_left
  · (intro w' hSw; (try dsimp only at hSw); go_simp; all_goals with_reducible rfl)
  try simp only [Act.put, List.setIfInBounds_toArray, List.set_cons_zero, List.set_cons_succ]
  refine take_at (i := 20) (v := ?_) 24 rfl rfl (by kernel_rfl) (by kernel_rfl) (by kernel_rfl) (fun _ _ _ h => h) (Or.inl ⟨by rfl, ?_⟩) (by assumption) ?_
  rotate_left
  · (intro w' hSw; (try dsimp only at hSw); go_simp; all_goals with_reducible rfl)
  try simp only [Act.put, List.setIfInBounds_toArray, List.set_cons_zero, List.set_cons_succ]
  refine wpAnyH_ready (rs := [24]) (by kernel_rfl) (by simp) ?_
  refine AllReadyH.cons rfl (fun K hK => ?_) AllReadyH.nil
  go_simp
  refine (p4 _).mono ?_
  rintro e wc4 ⟨rfl, rfl⟩
  go_wp2_with fail
  refine hK.out _ _ ⟨k0, k1, k2, k3, k4, k5, k6⟩ (fun hHeld4 => ?_)
  clear hK
  try simp only [Act.put, List.setIfInBounds_toArray, List.set_cons_zero, List.set_cons_succ]
  refine take_at (i := 25) (v := ?_) 29 rfl rfl (by kernel_rfl) (by kernel_rfl) (by kernel_rfl) (fun _ _ _ h => h) (Or.inl ⟨by rfl, ?_⟩) (by assumption) ?_
  rotate_left
  · (intro w' hSw; (try dsimp only at hSw); go_simp; all_goals with_reducible rfl)
  try simp only [Act.put, List.setIfInBounds_toArray, List.set_cons_zero, List.set_cons_succ]
  refine take_at (i := 26) (v := ?_) 30 rfl rfl (by kernel_rfl) (by kernel_rfl) (by kernel_rfl) (fun _ _ _ h => h) (Or.inl ⟨by rfl, ?_⟩) (by assumption) ?_
  rotate_left
  · (intro w' hSw; (try dsimp only at hSw); go_simp; all_goals with_reducible rfl)
  try simp only [Act.put, List.setIfInBounds_toArray, List.set_cons_zero, List.set_cons_succ]
  refine take_at (i := 27) (v := ?_) 3 rfl rfl (by kernel_rfl) (by kernel_rfl) (by kernel_rfl) (fun _ _ _ h => h) (Or.inl ⟨by rfl, ?_⟩) (by assumption) ?_
  rotate_left
  · (intro w' hSw; (try dsimp only at hSw); go_simp; all_goals with_reducible rfl)
  try simp only [Act.put, List.setIfInBounds_toArray, List.set_cons_zero, List.set_cons_succ]
  refine wpAnyH_done (by kernel_rfl) ?_ _
  refine NoPanic.normal ?_
  go_upto_region 2 with fail
  refine wp_region_noPanic ?_
  refine wp_region_held_drew (S := (fun w' => w'.cell? ⟨w.heap.size, 0, none⟩ = some (.int .i64 (k : Nat)) ∧ w'.cell? ⟨w.heap.size, 1, none⟩ = some (.int .u64 (a : Nat)) ∧ w'.cell? ⟨w.heap.size, 2, none⟩ = some (.int .i64 (b : Nat)) ∧ w'.cell? ⟨w.heap.size, 3, none⟩ = some (.int .i64 (r : Nat)) ∧ w'.cell? ⟨w.heap.size, 4, none⟩ = some (.int .i64 (g : Nat)) ∧ w'.cell? ⟨w.heap.size, 5, none⟩ = some (.int .i64 (s : Nat)) ∧ w'.cell? ⟨w.heap.size, 6, none⟩ = some (.int .u64 (m : Nat)))) (by kernel_rfl) ?_ (fun hHeld => ?_)
  · exact ⟨cell_later (Below.refl _ _).drew k0, cell_later (Below.refl _ _).drew k1, cell_later (Below.refl _ _).drew k2, cell_later (Below.refl _ _).drew k3, cell_later (Below.refl _ _).drew k4, cell_later (Below.refl _ _).drew k5, cell_later (Below.refl _ _).drew k6⟩
  replace k0 := cell_later (Below.refl _ Wd).drew k0
  replace k1 := cell_later (Below.refl _ Wd).drew k1
  replace k2 := cell_later (Below.refl _ Wd).drew k2
  replace k3 := cell_later (Below.refl _ Wd).drew k3
  replace k4 := cell_later (Below.refl _ Wd).drew k4
  replace k5 := cell_later (Below.refl _ Wd).drew k5
  replace k6 := cell_later (Below.refl _ Wd).drew k6
  replace gC := block_later (Below.refl _ Wd).drew gC
  replace hB := below_tr hB (Below.refl _ Wd).drew
  generalize Wd.drew = Wd at *
  refine take_at (i := 0) (v := ?_) 31 rfl rfl (by kernel_rfl) (by kernel_rfl) (by kernel_rfl) (fun _ _ _ h => h) (Or.inl ⟨by rfl, ?_⟩) (by assumption) ?_
  rotate_left
  · (intro w' hSw; (try dsimp only at hSw); go_simp; all_goals with_reducible rfl)
  try simp only [Act.put, List.setIfInBounds_toArray, List.set_cons_zero, List.set_cons_succ]
  refine take_at (i := 1) (v := ?_) 32 rfl rfl (by kernel_rfl) (by kernel_rfl) (by kernel_rfl) (fun _ _ _ h => h) (Or.inl ⟨by rfl, ?_⟩) (by assumption) ?_
  rotate_left
  · (intro w' hSw; (try dsimp only at hSw); go_simp; all_goals with_reducible rfl)
  try simp only [Act.put, List.setIfInBounds_toArray, List.set_cons_zero, List.set_cons_succ]
  refine take_at (i := 2) (v := ?_) 33 rfl rfl (by kernel_rfl) (by kernel_rfl) (by kernel_rfl) (fun _ _ _ h => h) (Or.inl ⟨by rfl, ?_⟩) (by assumption) ?_
  rotate_left
  · (intro w' hSw; (try dsimp only at hSw); go_simp; all_goals with_reducible rfl)
  try simp only [Act.put, List.setIfInBounds_toArray, List.set_cons_zero, List.set_cons_succ]
  refine take_at (i := 3) (v := ?_) 34 rfl rfl (by kernel_rfl) (by kernel_rfl) (by kernel_rfl) (fun _ _ _ h => h) (Or.inl ⟨by rfl, ?_⟩) (by assumption) ?_
  rotate_left
  · (intro w' hSw; (try dsimp only at hSw); go_simp; all_goals with_reducible rfl)
  try simp only [Act.put, List.setIfInBounds_toArray, List.set_cons_zero, List.set_cons_succ]
  refine wpAnyH_ready (rs := [4]) (by kernel_rfl) (by simp) ?_
  refine AllReadyH.cons rfl (fun K hK => ?_) AllReadyH.nil
  go_simp
  refine (p5 _).mono ?_
  rintro e wc1 ⟨rfl, rfl⟩
  go_wp2_with fail
  refine hK.out _ _ ⟨k0, k1, k2, k3, k4, k5, k6⟩ (fun hHeld1 => ?_)
  clear hK
  try simp only [Act.put, List.setIfInBounds_toArray, List.set_cons_zero, List.set_cons_succ]
  refine take_at (i := 5) (v := ?_) 36 rfl rfl (by kernel_rfl) (by kernel_rfl) (by kernel_rfl) (fun _ _ _ h => h) (Or.inl ⟨by rfl, ?_⟩) (by assumption) ?_
  rotate_left
  · (intro w' hSw; (try dsimp only at hSw); go_simp; all_goals with_reducible rfl)
  try simp only [Act.put, List.setIfInBounds_toArray, List.set_cons_zero, List.set_cons_succ]
  refine take_at (i := 6) (v := ?_) 37 rfl rfl (by kernel_rfl) (by kernel_rfl) (by kernel_rfl) (fun _ _ _ h => h) (Or.inl ⟨by rfl, ?_⟩) (by assumption) ?_
  rotate_left
  · (intro w' hSw; (try dsimp only at hSw); go_simp; all_goals with_reducible rfl)
  try simp only [Act.put, List.setIfInBounds_toArray, List.set_cons_zero, List.set_cons_succ]
  refine take_at (i := 7) (v := ?_) 2 rfl rfl (by kernel_rfl) (by kernel_rfl) (by kernel_rfl) (fun _ _ _ h => h) (Or.inl ⟨by rfl, ?_⟩) (by assumption) ?_
  rotate_left
  · (intro w' hSw; (try dsimp only at hSw); go_simp; all_goals with_reducible rfl)
  try simp only [Act.put, List.setIfInBounds_toArray, List.set_cons_zero, List.set_cons_succ]
  refine wpAnyH_done (by kernel_rfl) ?_ _
  refine NoPanic.normal ?_
  go_wp2
  go_ret
  exact ⟨by rw [HE.out]; rfl, hB⟩

theorem info7r : (Tryd.prog.info? 36).map (·.size) = some 7 := by kernel_rfl
theorem info1 : (Tryd.prog.info? 22).map (·.size) = some 1 := by kernel_rfl
set_option maxRecDepth 100000 in
set_option maxHeartbeats 4000000 in
theorem refRead_any (x y : Nat) (hx : x < 18446744073709551616) (hy : y < 18446744073709551616) (w : World) :
    Calls Tryd.prog 34 #[.int .u64 (x : Nat), .int .u64 (y : Nat)] w fun e w' => e = .returned (.agg #[.int .i64 (rdK x : Nat), .int .u64 (rdA x : Nat), .int .i64 (rdB x : Nat), .int .i64 (rdR x : Nat), .int .i64 (rdG x : Nat), .int .i64 (rdS x : Nat), .int .u64 (y : Nat)]) ∧ Below w.heap.size w w' := by
  have cG : ∀ (l n : Nat), rightB (l : Int) (n : Int) = true → l + n ≤ 64 → ∀ w1, Calls Tryd.prog 35 #[.int .u64 x, .int .i64 (l : Int), .int .i64 (n : Int)] w1 fun e w' => e = .returned (.int .u64 ((x / 2 ^ l % 2 ^ n : Nat) : Int)) ∧ Below w1.heap.size w1 w' := by
    intro l n h hl w1
    have := refGet_any x l n hx hl w1
    rw [getV_eq h x, getV_mod h x] at this
    exact this
  have c1 := cG 0 4 (by decide) (by decide)
  have c2 := cG 4 6 (by decide) (by decide)
  have c3 := cG 10 3 (by decide) (by decide)
  have c4 := cG 13 6 (by decide) (by decide)
  have c5 := cG 19 16 (by decide) (by decide)
  have c6 := cG 35 27 (by decide) (by decide)
  rw [show x / 2 ^ 0 % 2 ^ 4 = rdK x by unfold rdK; omega] at c1
  rw [show x / 2 ^ 4 % 2 ^ 6 = rdB x by unfold rdB; omega] at c2
  rw [show x / 2 ^ 10 % 2 ^ 3 = rdR x by unfold rdR; omega] at c3
  rw [show x / 2 ^ 13 % 2 ^ 6 = rdG x by unfold rdG; omega] at c4
  rw [show x / 2 ^ 19 % 2 ^ 16 = rdS x by unfold rdS; omega] at c5
  have hA : x / 2 ^ 35 % 2 ^ 27 < 134217728 := by omega
  have HA : Hid (((rdA x : Nat) : Int) = ((x / 2 ^ 35 % 2 ^ 27 : Nat) : Int) * 32) := by show _ = _; unfold rdA; omega
  obtain ⟨q1, q2, q3, q4, q5, q6, q7, q8⟩ := rd_bounds x y hy
  have e1 : IntKind.i64.wrap (rdK x : Int) = (rdK x : Int) := by rw [IntKind.wrap_i64]; omega
  have e3 : IntKind.i64.wrap (rdB x : Int) = (rdB x : Int) := by rw [IntKind.wrap_i64]; omega
  have e4 : IntKind.i64.wrap (rdR x : Int) = (rdR x : Int) := by rw [IntKind.wrap_i64]; omega
  have e5 : IntKind.i64.wrap (rdG x : Int) = (rdG x : Int) := by rw [IntKind.wrap_i64]; omega
  have e6 : IntKind.i64.wrap (rdS x : Int) = (rdS x : Int) := by rw [IntKind.wrap_i64]; omega
  generalize x / 2 ^ 35 % 2 ^ 27 = nA at *
  have e7 : IntKind.u64.wrap ((nA : Int) * 32) = (nA : Int) * 32 := by rw [IntKind.wrap_u64]; omega
  generalize hK : rdK x = nK at *
  generalize hBB : rdB x = nB at *
  generalize hRR : rdR x = nR at *
  generalize hGG : rdG x = nG at *
  generalize hSS : rdS x = nS at *
  generalize hAA : rdA x = nZ at *
  clear cG q1 q2 q3 q4 q5 q6 q7 q8 hA hK hBB hRR hGG hSS hAA hx hy
  have gR := heap_alloc_new w (.cells #[.int .i64 0, .int .u64 0, .int .i64 0, .int .i64 0, .int .i64 0, .int .i64 0, .int .u64 0] 36)
  have hB := below_new w (.cells #[.int .i64 0, .int .u64 0, .int .i64 0, .int .i64 0, .int .i64 0, .int .i64 0, .int .u64 0] 36)
  go_enter Tryd.func34, Tryd.ntmps34
  go_wp2_with fail
  generalize w.alloc (.cells #[.int .i64 0, .int .u64 0, .int .i64 0, .int .i64 0, .int .i64 0, .int .i64 0, .int .u64 0] 36) = W at *
  refine (c1 _).mono ?_
  rintro e w1 ⟨rfl, hb⟩
  replace gR := block_later hb gR
  replace hB := below_tr hB hb
  clear hb
  go_wp2_with fail
  refine (c2 _).mono ?_
  rintro e w2 ⟨rfl, hb⟩
  replace gR := block_later hb gR
  replace hB := below_tr hB hb
  clear hb
  go_wp2_with fail
  refine (c3 _).mono ?_
  rintro e w3 ⟨rfl, hb⟩
  replace gR := block_later hb gR
  replace hB := below_tr hB hb
  clear hb
  have hgn : w.heap.size < w3.heap.size := block_lt gR
  go_wp2_with fail
  have gN := heap_alloc_new w3 (.cells #[.int .i64 (nK : Nat), .int .u64 0, .int .i64 (nB : Nat), .int .i64 (nR : Nat), .int .i64 0, .int .i64 0, .int .u64 0] 36)
  replace gR := block_later (below_new _ (.cells #[.int .i64 (nK : Nat), .int .u64 0, .int .i64 (nB : Nat), .int .i64 (nR : Nat), .int .i64 0, .int .i64 0, .int .u64 0] 36)) gR
  replace hB := below_tr hB (below_new _ (.cells #[.int .i64 (nK : Nat), .int .u64 0, .int .i64 (nB : Nat), .int .i64 (nR : Nat), .int .i64 0, .int .i64 0, .int .u64 0] 36))
  generalize w3.heap.size = gn at *
  generalize w3.alloc (.cells #[.int .i64 (nK : Nat), .int .u64 0, .int .i64 (nB : Nat), .int .i64 (nR : Nat), .int .i64 0, .int .i64 0, .int .u64 0] 36) = va at *
  refine (c4 _).mono ?_
  rintro e w4 ⟨rfl, hb⟩
  replace gR := block_later hb gR
  replace gN := block_later hb gN
  replace hB := below_tr hB hb
  clear hb
  obtain ⟨j0, j1, j2, j3, j4, j5, j6⟩ := cells7 gN
  have fz := fun i => frozen_of_row w4 gn i _ _ gN
  go_wp2_with fail
  have gN5 := heap_setCell_same w4 gn 4 _ _ (.int .i64 (nG : Nat)) gN
  simp only [List.setIfInBounds_toArray, List.set_cons_zero, List.set_cons_succ] at gN5
  have gR5 : (w4.setCell ⟨gn, 4, none⟩ (.int .i64 (nG : Nat))).heap[w.heap.size]? = some (.cells #[.int .i64 0, .int .u64 0, .int .i64 0, .int .i64 0, .int .i64 0, .int .i64 0, .int .u64 0] 36 (0, 0)) := by rw [heap_setCell_other _ _ _ _ (by show w.heap.size ≠ gn; omega)]; exact gR
  have hB5 : Below w.heap.size w (w4.setCell ⟨gn, 4, none⟩ (.int .i64 (nG : Nat))) := hB.setCell (Nat.le_of_lt hgn) _
  clear j0 j1 j2 j3 j4 j5 j6 fz
  generalize w4.setCell ⟨gn, 4, none⟩ (.int .i64 (nG : Nat)) = v5 at *
  refine (c5 _).mono ?_
  rintro e w5 ⟨rfl, hb⟩
  replace gR5 := block_later hb gR5
  replace gN5 := block_later hb gN5
  replace hB5 := below_tr hB5 hb
  clear hb
  obtain ⟨j0, j1, j2, j3, j4, j5, j6⟩ := cells7 gN5
  have fz := fun i => frozen_of_row w5 gn i _ _ gN5
  go_wp2_with fail
  have gN6 := heap_setCell_same w5 gn 5 _ _ (.int .i64 (nS : Nat)) gN5
  simp only [List.setIfInBounds_toArray, List.set_cons_zero, List.set_cons_succ] at gN6
  have gR6 : (w5.setCell ⟨gn, 5, none⟩ (.int .i64 (nS : Nat))).heap[w.heap.size]? = some (.cells #[.int .i64 0, .int .u64 0, .int .i64 0, .int .i64 0, .int .i64 0, .int .i64 0, .int .u64 0] 36 (0, 0)) := by rw [heap_setCell_other _ _ _ _ (by show w.heap.size ≠ gn; omega)]; exact gR5
  have hB6 : Below w.heap.size w (w5.setCell ⟨gn, 5, none⟩ (.int .i64 (nS : Nat))) := hB5.setCell (Nat.le_of_lt hgn) _
  clear j0 j1 j2 j3 j4 j5 j6 fz
  generalize w5.setCell ⟨gn, 5, none⟩ (.int .i64 (nS : Nat)) = v6 at *
  refine (c6 _).mono ?_
  rintro e w6 ⟨rfl, hb⟩
  replace gR6 := block_later hb gR6
  replace gN6 := block_later hb gN6
  replace hB6 := below_tr hB6 hb
  clear hb
  go_wp2_with (first
    | (refine wpList_store_segTo rfl 22 _ _ rfl rfl gn 1 _ #[.int .u64 ((nA : Int) * 32)] rfl rfl rfl 36 _ gN6 (show 1 + 1 ≤ 7 by decide) info1 (by simp [Value.oneCell']) #[.int .i64 (nK : Nat), .int .u64 ((nA : Int) * 32), .int .i64 (nB : Nat), .int .i64 (nR : Nat), .int .i64 (nG : Nat), .int .i64 (nS : Nat), .int .u64 0] rfl ?_
       intro v7 gN7 ht7
       have gR7 := block_turn ht7 gR6 (by omega)
       have hB7 := below_turn hB6 ht7 (by omega)
       clear gR6 gN6 hB6 ht7)
    | (refine wpList_store_segTo rfl 22 _ _ rfl rfl gn 6 _ #[.int .u64 (y : Nat)] rfl rfl rfl 36 _ gN7 (show 6 + 1 ≤ 7 by decide) info1 (by simp [Value.oneCell']) #[.int .i64 (nK : Nat), .int .u64 ((nA : Int) * 32), .int .i64 (nB : Nat), .int .i64 (nR : Nat), .int .i64 (nG : Nat), .int .i64 (nS : Nat), .int .u64 (y : Nat)] rfl ?_
       intro v8 gN8 ht8
       have gR8 := block_turn ht8 gR7 (by omega)
       have hB8 := below_turn hB7 ht8 (by omega)
       obtain ⟨j0, j1, j2, j3, j4, j5, j6⟩ := cells7 gN8)
    | (refine wpList_store_segTo rfl 36 _ _ rfl rfl w.heap.size 0 _ #[.int .i64 (nK : Nat), .int .u64 ((nA : Int) * 32), .int .i64 (nB : Nat), .int .i64 (nR : Nat), .int .i64 (nG : Nat), .int .i64 (nS : Nat), .int .u64 (y : Nat)] rfl rfl rfl 36 _ gR8 (show 0 + 7 ≤ 7 by decide) info7r (by simp [Value.oneCell']) #[.int .i64 (nK : Nat), .int .u64 ((nA : Int) * 32), .int .i64 (nB : Nat), .int .i64 (nR : Nat), .int .i64 (nG : Nat), .int .i64 (nS : Nat), .int .u64 (y : Nat)] rfl ?_
       intro v9 gR9 ht9)
    | fail)
  refine bodyPost_ret (results_cell_row rfl _ v9 w.heap.size 36 #[.int .i64 (nK : Nat), .int .u64 ((nA : Int) * 32), .int .i64 (nB : Nat), .int .i64 (nR : Nat), .int .i64 (nG : Nat), .int .i64 (nS : Nat), .int .u64 (y : Nat)] (0, 0) _ rfl gR9 Tryd.underlying36 rfl info7r) rfl ?_
  exact ⟨by rw [HA.out], below_turn hB8 ht9 (Nat.le_refl _)⟩
end Go.Proofs.YtieldgocgjoojaaDoor
