/- Links that are turned. -/
import Derived.Test.YtcmndefjmhcbhaaDoorTreI
import Derived.Test.YtcmndefjmhcbhaaDoorSq
set_option linter.unusedVariables false
namespace Go.Proofs.YtcmndefjmhcbhaaDoor
open Go.RowKit
namespace TE

theorem tn_any (v A B ba bb : Nat) (w : World) (ha : w.cell? ⟨ba, 0, none⟩ = some (.int .u64 (A : Nat))) (hb : w.cell? ⟨bb, 0, none⟩ = some (.int .u64 (B : Nat))) :
    Calls Tryd.prog 58 #[.int .u64 (v : Nat), .pointer (some ⟨ba, 0, none⟩), .pointer (some ⟨bb, 0, none⟩)] w fun e w' => e = .returned (.int .u64 (tn A B v : Nat)) ∧ w = w' := by
  unfold tn
  by_cases h1 : v = A
  · rw [if_pos h1]
    have d1 : ((v : Int) == (A : Int)) = true := by rw [beq_iff_eq]; omega
    clear h1
    go_enter Tryd.func58, Tryd.ntmps58
    go_wp2
    go_ret
    exact ⟨rfl, rfl⟩
  · rw [if_neg h1]
    have d1 : ((v : Int) == (A : Int)) = false := by rw [beq_eq_false_iff_ne]; omega
    clear h1
    by_cases h2 : v = B
    · rw [if_pos h2]
      have d2 : ((v : Int) == (B : Int)) = true := by rw [beq_iff_eq]; omega
      clear h2
      go_enter Tryd.func58, Tryd.ntmps58
      go_wp2
      go_ret
      exact ⟨rfl, rfl⟩
    · rw [if_neg h2]
      have d2 : ((v : Int) == (B : Int)) = false := by rw [beq_eq_false_iff_ne]; omega
      clear h2
      go_enter Tryd.func58, Tryd.ntmps58
      go_wp2
      go_ret
      exact ⟨rfl, rfl⟩
def tnS (A B : Nat) (s : Sl) : Sl := ⟨s.c, tn A B s.nx, tn A B s.pv, s.d⟩

set_option maxRecDepth 100000 in
set_option maxHeartbeats 4000000 in
theorem turned_c (s : Sl) (A B : Nat) (W : World) :
    Calls Tryd.prog 47 #[.agg s.row, .int .u64 (A : Nat), .int .u64 (B : Nat)] W fun e w' => e = .returned (.agg (tnS A B s).row) ∧ Below W.heap.size W w' := by
  obtain ⟨W0, eW, gS, gA, gB, gR, hB, hsz⟩ := hp4 W (.cells s.row 61) (.cells #[.int .u64 (A : Nat)] 23) (.cells #[.int .u64 (B : Nat)] 23) (.cells #[.int .i64 0, .int .u64 0, .int .i64 0, .int .i64 0, .int .i64 0, .int .i64 0, .int .u64 0, .int .u64 0, .int .u64 0, .int .i64 0] 61)
  go_enter Tryd.func47, Tryd.ntmps47
  go_upto_region 1 with fail
  (try rw [show (.agg s.row : Value).cells = s.row from rfl])
  (try rw [eW])
  go_upto_region 2 with fail
  clear eW hsz
  refine wp_region_noPanic ?_
  refine wp_region_held_drew (S := fun _ => True) (by kernel_rfl) trivial (fun hHeld => ?_)
  replace gS := block_later (Below.refl _ W0).drew gS
  replace gA := block_later (Below.refl _ W0).drew gA
  replace gB := block_later (Below.refl _ W0).drew gB
  replace gR := Hid.mk (block_later (Below.refl _ W0).drew gR)
  replace hB := below_tr hB (Below.refl _ W0).drew
  generalize W0.drew = wd at *
  have cT := fun (v : Nat) (w1 : World) (_ : Below W.heap.size W wd) => tn_any v A B (W.heap.size + 1) (W.heap.size + 1 + 1) wd (by rw [cell_of_row _ _ _ _ _ _ gA]; rfl) (by rw [cell_of_row _ _ _ _ _ _ gB]; rfl)
  obtain ⟨-, -, -, -, -, -, -, q7, q8, -⟩ := cells10 gS
  replace gS := Hid.mk gS
  refine take_at (i := 0) (v := ?_) 9 rfl rfl (by kernel_rfl) (by kernel_rfl) (by kernel_rfl) (fun _ _ _ h => h) (Or.inl ⟨by rfl, ?_⟩) (by assumption) ?_
  rotate_left
  · (intro w' hSw; (try dsimp only at hSw); go_simp; all_goals with_reducible rfl)
  try simp only [Act.put, List.setIfInBounds_toArray, List.set_cons_zero, List.set_cons_succ]
  refine take_at (i := 1) (v := ?_) 10 rfl rfl (by kernel_rfl) (by kernel_rfl) (by kernel_rfl) (fun _ _ _ h => h) (Or.inl ⟨by rfl, ?_⟩) (by assumption) ?_
  rotate_left
  · (intro w' hSw; (try dsimp only at hSw); go_simp; all_goals with_reducible rfl)
  try simp only [Act.put, List.setIfInBounds_toArray, List.set_cons_zero, List.set_cons_succ]
  refine take_at (i := 4) (v := ?_) 13 rfl rfl (by kernel_rfl) (by kernel_rfl) (by kernel_rfl) (fun _ _ _ h => h) (Or.inl ⟨by rfl, ?_⟩) (by assumption) ?_
  rotate_left
  · (intro w' hSw; (try dsimp only at hSw); go_simp; all_goals with_reducible rfl)
  try simp only [Act.put, List.setIfInBounds_toArray, List.set_cons_zero, List.set_cons_succ]
  refine take_at (i := 5) (v := ?_) 14 rfl rfl (by kernel_rfl) (by kernel_rfl) (by kernel_rfl) (fun _ _ _ h => h) (Or.inl ⟨by rfl, ?_⟩) (by assumption) ?_
  rotate_left
  · (intro w' hSw; (try dsimp only at hSw); go_simp; all_goals with_reducible rfl)
  try simp only [Act.put, List.setIfInBounds_toArray, List.set_cons_zero, List.set_cons_succ]
  refine wpAnyH_ready (rs := [2, 6]) (by kernel_rfl) (by simp) ?_
  refine AllReadyH.cons rfl (fun K hK => ?_) (AllReadyH.cons rfl (fun K hK => ?_) AllReadyH.nil)
  · go_simp
    refine hK.out _ _ trivial (fun hHeld20 => ?_)
    clear hK
    try simp only [Act.put, List.setIfInBounds_toArray, List.set_cons_zero, List.set_cons_succ]
    refine wpAnyH_ready (rs := [3, 6]) (by kernel_rfl) (by simp) ?_
    refine AllReadyH.cons rfl (fun K hK => ?_) (AllReadyH.cons rfl (fun K hK => ?_) AllReadyH.nil)
    · go_simp
      refine (cT s.nx wd hB).mono ?_
      rintro e wc1 ⟨rfl, rfl⟩
      go_wp2_with fail
      refine hK.out _ _ trivial (fun hHeld21 => ?_)
      clear hK
      try simp only [Act.put, List.setIfInBounds_toArray, List.set_cons_zero, List.set_cons_succ]
      refine wpAnyH_ready (rs := [6]) (by kernel_rfl) (by simp) ?_
      refine AllReadyH.cons rfl (fun K hK => ?_) AllReadyH.nil
      go_simp
      refine hK.out _ _ trivial (fun hHeld22 => ?_)
      clear hK
      try simp only [Act.put, List.setIfInBounds_toArray, List.set_cons_zero, List.set_cons_succ]
      refine take_at (i := 8) (v := ?_) 17 rfl rfl (by kernel_rfl) (by kernel_rfl) (by kernel_rfl) (fun _ _ _ h => h) (Or.inl ⟨by rfl, ?_⟩) (by assumption) ?_
      rotate_left
      · (intro w' hSw; (try dsimp only at hSw); go_simp; all_goals with_reducible rfl)
      try simp only [Act.put, List.setIfInBounds_toArray, List.set_cons_zero, List.set_cons_succ]
      refine wpAnyH_ready (rs := [7]) (by kernel_rfl) (by simp) ?_
      refine AllReadyH.cons rfl (fun K hK => ?_) AllReadyH.nil
      go_simp
      refine (cT s.pv wd hB).mono ?_
      rintro e wc3 ⟨rfl, rfl⟩
      go_wp2_with fail
      refine hK.out _ _ trivial (fun hHeld23 => ?_)
      clear hK
      try simp only [Act.put, List.setIfInBounds_toArray, List.set_cons_zero, List.set_cons_succ]
      refine wpAnyH_ready (rs := [9]) (by kernel_rfl) (by simp) ?_
      refine AllReadyH.cons rfl (fun K hK => ?_) AllReadyH.nil
      refine step_store_seg rfl rfl 23 _ _ rfl (W.heap.size) 7 _ #[.int .u64 (tn A B s.nx : Nat)] rfl rfl rfl 61 _ gS.out (show 7 + 1 ≤ 10 by decide) info1u (by simp [Value.oneCell']) (toN (tn A B s.nx) s).row rfl ?_
      intro ws1 hrq1 htq1
      refine hK.out _ _ trivial (fun hHeld7 => ?_)
      clear hK
      try simp only [Act.put, List.setIfInBounds_toArray, List.set_cons_zero, List.set_cons_succ]
      refine take_at (i := 10) (v := ?_) 18 rfl rfl (by kernel_rfl) (by kernel_rfl) (by kernel_rfl) (fun _ _ _ h => h) (Or.inl ⟨by rfl, ?_⟩) (by assumption) ?_
      rotate_left
      · (intro w' hSw; (try dsimp only at hSw); go_simp; all_goals with_reducible rfl)
      try simp only [Act.put, List.setIfInBounds_toArray, List.set_cons_zero, List.set_cons_succ]
      refine wpAnyH_ready (rs := [11]) (by kernel_rfl) (by simp) ?_
      refine AllReadyH.cons rfl (fun K hK => ?_) AllReadyH.nil
      refine step_store_seg rfl rfl 23 _ _ rfl (W.heap.size) 8 _ #[.int .u64 (tn A B s.pv : Nat)] rfl rfl rfl 61 _ hrq1 (show 8 + 1 ≤ 10 by decide) info1u (by simp [Value.oneCell']) (tnS A B s).row rfl ?_
      intro ws2 hrq2 htq2
      refine hK.out _ _ trivial (fun hHeld8 => ?_)
      clear hK
      try simp only [Act.put, List.setIfInBounds_toArray, List.set_cons_zero, List.set_cons_succ]
      refine wpAnyH_done (by kernel_rfl) ?_ _
      refine NoPanic.normal ?_
      have gR2 := Hid.mk (block_turn htq2 (block_turn htq1 gR.out (by omega)) (by omega))
      replace hB := below_turn (below_turn hB htq1 (Nat.le_refl _)) htq2 (Nat.le_refl _)
      obtain ⟨q0, q1, q2, q3, q4, q5, q6, q7, q8, q9⟩ := cells10 hrq2
      clear hrq1 htq1 hrq2 htq2
      go_wp2_with (first
        | (refine wpList_store_segTo rfl 61 _ _ rfl rfl (W.heap.size + 1 + 1 + 1) 0 _ (tnS A B s).row rfl rfl rfl 61 _ (gR2.out) (by rw [(row10 (tnS A B s))]; exact Nat.le_refl 10) (info10.trans (congrArg some (row10 (tnS A B s)).symm)) (row1 (tnS A B s)) (tnS A B s).row (segA_all _ _ (by rw [(row10 (tnS A B s))]; rfl)) ?_; intro wz hrq htq)
        | fail)
      refine bodyPost_ret (results_cell_row rfl _ _ (W.heap.size + 1 + 1 + 1) 61 _ _ _ rfl hrq Tryd.underlying61 rfl info10) rfl ?_
      exact ⟨rfl, below_turn hB htq (by omega)⟩
    · go_simp
      refine hK.out _ _ trivial (fun hHeld21 => ?_)
      clear hK
      try simp only [Act.put, List.setIfInBounds_toArray, List.set_cons_zero, List.set_cons_succ]
      refine wpAnyH_ready (rs := [3]) (by kernel_rfl) (by simp) ?_
      refine AllReadyH.cons rfl (fun K hK => ?_) AllReadyH.nil
      go_simp
      refine (cT s.nx wd hB).mono ?_
      rintro e wc2 ⟨rfl, rfl⟩
      go_wp2_with fail
      refine hK.out _ _ trivial (fun hHeld22 => ?_)
      clear hK
      try simp only [Act.put, List.setIfInBounds_toArray, List.set_cons_zero, List.set_cons_succ]
      refine take_at (i := 8) (v := ?_) 17 rfl rfl (by kernel_rfl) (by kernel_rfl) (by kernel_rfl) (fun _ _ _ h => h) (Or.inl ⟨by rfl, ?_⟩) (by assumption) ?_
      rotate_left
      · (intro w' hSw; (try dsimp only at hSw); go_simp; all_goals with_reducible rfl)
      try simp only [Act.put, List.setIfInBounds_toArray, List.set_cons_zero, List.set_cons_succ]
      refine wpAnyH_ready (rs := [7]) (by kernel_rfl) (by simp) ?_
      refine AllReadyH.cons rfl (fun K hK => ?_) AllReadyH.nil
      go_simp
      refine (cT s.pv wd hB).mono ?_
      rintro e wc3 ⟨rfl, rfl⟩
      go_wp2_with fail
      refine hK.out _ _ trivial (fun hHeld23 => ?_)
      clear hK
      try simp only [Act.put, List.setIfInBounds_toArray, List.set_cons_zero, List.set_cons_succ]
      refine wpAnyH_ready (rs := [9]) (by kernel_rfl) (by simp) ?_
      refine AllReadyH.cons rfl (fun K hK => ?_) AllReadyH.nil
      refine step_store_seg rfl rfl 23 _ _ rfl (W.heap.size) 7 _ #[.int .u64 (tn A B s.nx : Nat)] rfl rfl rfl 61 _ gS.out (show 7 + 1 ≤ 10 by decide) info1u (by simp [Value.oneCell']) (toN (tn A B s.nx) s).row rfl ?_
      intro ws1 hrq1 htq1
      refine hK.out _ _ trivial (fun hHeld7 => ?_)
      clear hK
      try simp only [Act.put, List.setIfInBounds_toArray, List.set_cons_zero, List.set_cons_succ]
      refine take_at (i := 10) (v := ?_) 18 rfl rfl (by kernel_rfl) (by kernel_rfl) (by kernel_rfl) (fun _ _ _ h => h) (Or.inl ⟨by rfl, ?_⟩) (by assumption) ?_
      rotate_left
      · (intro w' hSw; (try dsimp only at hSw); go_simp; all_goals with_reducible rfl)
      try simp only [Act.put, List.setIfInBounds_toArray, List.set_cons_zero, List.set_cons_succ]
      refine wpAnyH_ready (rs := [11]) (by kernel_rfl) (by simp) ?_
      refine AllReadyH.cons rfl (fun K hK => ?_) AllReadyH.nil
      refine step_store_seg rfl rfl 23 _ _ rfl (W.heap.size) 8 _ #[.int .u64 (tn A B s.pv : Nat)] rfl rfl rfl 61 _ hrq1 (show 8 + 1 ≤ 10 by decide) info1u (by simp [Value.oneCell']) (tnS A B s).row rfl ?_
      intro ws2 hrq2 htq2
      refine hK.out _ _ trivial (fun hHeld8 => ?_)
      clear hK
      try simp only [Act.put, List.setIfInBounds_toArray, List.set_cons_zero, List.set_cons_succ]
      refine wpAnyH_done (by kernel_rfl) ?_ _
      refine NoPanic.normal ?_
      have gR2 := Hid.mk (block_turn htq2 (block_turn htq1 gR.out (by omega)) (by omega))
      replace hB := below_turn (below_turn hB htq1 (Nat.le_refl _)) htq2 (Nat.le_refl _)
      obtain ⟨q0, q1, q2, q3, q4, q5, q6, q7, q8, q9⟩ := cells10 hrq2
      clear hrq1 htq1 hrq2 htq2
      go_wp2_with (first
        | (refine wpList_store_segTo rfl 61 _ _ rfl rfl (W.heap.size + 1 + 1 + 1) 0 _ (tnS A B s).row rfl rfl rfl 61 _ (gR2.out) (by rw [(row10 (tnS A B s))]; exact Nat.le_refl 10) (info10.trans (congrArg some (row10 (tnS A B s)).symm)) (row1 (tnS A B s)) (tnS A B s).row (segA_all _ _ (by rw [(row10 (tnS A B s))]; rfl)) ?_; intro wz hrq htq)
        | fail)
      refine bodyPost_ret (results_cell_row rfl _ _ (W.heap.size + 1 + 1 + 1) 61 _ _ _ rfl hrq Tryd.underlying61 rfl info10) rfl ?_
      exact ⟨rfl, below_turn hB htq (by omega)⟩
  · go_simp
    refine hK.out _ _ trivial (fun hHeld20 => ?_)
    clear hK
    try simp only [Act.put, List.setIfInBounds_toArray, List.set_cons_zero, List.set_cons_succ]
    refine wpAnyH_ready (rs := [2]) (by kernel_rfl) (by simp) ?_
    refine AllReadyH.cons rfl (fun K hK => ?_) AllReadyH.nil
    go_simp
    refine hK.out _ _ trivial (fun hHeld21 => ?_)
    clear hK
    try simp only [Act.put, List.setIfInBounds_toArray, List.set_cons_zero, List.set_cons_succ]
    refine wpAnyH_ready (rs := [3]) (by kernel_rfl) (by simp) ?_
    refine AllReadyH.cons rfl (fun K hK => ?_) AllReadyH.nil
    go_simp
    refine (cT s.nx wd hB).mono ?_
    rintro e wc2 ⟨rfl, rfl⟩
    go_wp2_with fail
    refine hK.out _ _ trivial (fun hHeld22 => ?_)
    clear hK
    try simp only [Act.put, List.setIfInBounds_toArray, List.set_cons_zero, List.set_cons_succ]
    refine take_at (i := 8) (v := ?_) 17 rfl rfl (by kernel_rfl) (by kernel_rfl) (by kernel_rfl) (fun _ _ _ h => h) (Or.inl ⟨by rfl, ?_⟩) (by assumption) ?_
    rotate_left
    · (intro w' hSw; (try dsimp only at hSw); go_simp; all_goals with_reducible rfl)
    try simp only [Act.put, List.setIfInBounds_toArray, List.set_cons_zero, List.set_cons_succ]
    refine wpAnyH_ready (rs := [7]) (by kernel_rfl) (by simp) ?_
    refine AllReadyH.cons rfl (fun K hK => ?_) AllReadyH.nil
    go_simp
    refine (cT s.pv wd hB).mono ?_
    rintro e wc3 ⟨rfl, rfl⟩
    go_wp2_with fail
    refine hK.out _ _ trivial (fun hHeld23 => ?_)
    clear hK
    try simp only [Act.put, List.setIfInBounds_toArray, List.set_cons_zero, List.set_cons_succ]
    refine wpAnyH_ready (rs := [9]) (by kernel_rfl) (by simp) ?_
    refine AllReadyH.cons rfl (fun K hK => ?_) AllReadyH.nil
    refine step_store_seg rfl rfl 23 _ _ rfl (W.heap.size) 7 _ #[.int .u64 (tn A B s.nx : Nat)] rfl rfl rfl 61 _ gS.out (show 7 + 1 ≤ 10 by decide) info1u (by simp [Value.oneCell']) (toN (tn A B s.nx) s).row rfl ?_
    intro ws1 hrq1 htq1
    refine hK.out _ _ trivial (fun hHeld7 => ?_)
    clear hK
    try simp only [Act.put, List.setIfInBounds_toArray, List.set_cons_zero, List.set_cons_succ]
    refine take_at (i := 10) (v := ?_) 18 rfl rfl (by kernel_rfl) (by kernel_rfl) (by kernel_rfl) (fun _ _ _ h => h) (Or.inl ⟨by rfl, ?_⟩) (by assumption) ?_
    rotate_left
    · (intro w' hSw; (try dsimp only at hSw); go_simp; all_goals with_reducible rfl)
    try simp only [Act.put, List.setIfInBounds_toArray, List.set_cons_zero, List.set_cons_succ]
    refine wpAnyH_ready (rs := [11]) (by kernel_rfl) (by simp) ?_
    refine AllReadyH.cons rfl (fun K hK => ?_) AllReadyH.nil
    refine step_store_seg rfl rfl 23 _ _ rfl (W.heap.size) 8 _ #[.int .u64 (tn A B s.pv : Nat)] rfl rfl rfl 61 _ hrq1 (show 8 + 1 ≤ 10 by decide) info1u (by simp [Value.oneCell']) (tnS A B s).row rfl ?_
    intro ws2 hrq2 htq2
    refine hK.out _ _ trivial (fun hHeld8 => ?_)
    clear hK
    try simp only [Act.put, List.setIfInBounds_toArray, List.set_cons_zero, List.set_cons_succ]
    refine wpAnyH_done (by kernel_rfl) ?_ _
    refine NoPanic.normal ?_
    have gR2 := Hid.mk (block_turn htq2 (block_turn htq1 gR.out (by omega)) (by omega))
    replace hB := below_turn (below_turn hB htq1 (Nat.le_refl _)) htq2 (Nat.le_refl _)
    obtain ⟨q0, q1, q2, q3, q4, q5, q6, q7, q8, q9⟩ := cells10 hrq2
    clear hrq1 htq1 hrq2 htq2
    go_wp2_with (first
      | (refine wpList_store_segTo rfl 61 _ _ rfl rfl (W.heap.size + 1 + 1 + 1) 0 _ (tnS A B s).row rfl rfl rfl 61 _ (gR2.out) (by rw [(row10 (tnS A B s))]; exact Nat.le_refl 10) (info10.trans (congrArg some (row10 (tnS A B s)).symm)) (row1 (tnS A B s)) (tnS A B s).row (segA_all _ _ (by rw [(row10 (tnS A B s))]; rfl)) ?_; intro wz hrq htq)
      | fail)
    refine bodyPost_ret (results_cell_row rfl _ _ (W.heap.size + 1 + 1 + 1) 61 _ _ _ rfl hrq Tryd.underlying61 rfl info10) rfl ?_
    exact ⟨rfl, below_turn hB htq (by omega)⟩
end TE
end Go.Proofs.YtcmndefjmhcbhaaDoor
