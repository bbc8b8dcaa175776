/- Rights, sixth part: the document's descriptor of rights. -/
import Derived.Test.YtoblkicbfkgjnaaDoorRgD
import Derived.Test.YtoblkicbfkgjnaaDoorRefDescA
namespace Go.Proofs.YtoblkicbfkgjnaaDoor
open Go.RowKit Go.Lib

theorem info_D4 : (Tryd.prog.info? 36).map (·.size) = some 7 := by kernel_rfl
theorem info_bl : (Tryd.prog.info? 4).map (·.size) = some 1 := by kernel_rfl

set_option maxHeartbeats 4000000 in
set_option maxRecDepth 100000 in
theorem refLeaf_0 (l K : Int) (hl : (l = 1 ∧ K = 2) ∨ (l = 2 ∧ K = 2) ∨ (l = 3 ∧ K = 3)) (o : Nat) (ho : o < 18446744073709551616) (r : Nat) (hr : r < 8) (h0 : r.testBit 0 = false) (w : World) :
    Calls Tryd.prog 17 #[.int .i64 l, .int .u64 (o : Int), .int .i64 (r : Int)] w fun e w' => e = .returned (.tuple #[.agg (lfA (lfV l K o r) K o r), .bool (lfV l K o r)]) ∧ Below w.heap.size w w' := by
  have cH := fun n hn w1 => has_any r n hr hn w1
  have cH0 : ∀ w1, Calls Tryd.prog 15 #[.int .i64 (r : Int), .int .i64 0] w1 _ := fun w1 => cH 0 (by omega) w1
  have cH1 : ∀ w1, Calls Tryd.prog 15 #[.int .i64 (r : Int), .int .i64 1] w1 _ := fun w1 => cH 1 (by omega) w1
  have cH2 : ∀ w1, Calls Tryd.prog 15 #[.int .i64 (r : Int), .int .i64 2] w1 _ := fun w1 => cH 2 (by omega) w1
  have hl' : isLv l = true := by rcases hl with ⟨rfl, rfl⟩ | ⟨rfl, rfl⟩ | ⟨rfl, rfl⟩ <;> decide
  have cP := fun w1 => refRight_any l K o (r.testBit 0) (r.testBit 0 && r.testBit 1) (r.testBit 0 && r.testBit 2) true 0 hl' ho w1
  cases hv : lfV l K o r
  all_goals
    unfold lfV at hv
    rw [hv] at cP
    unfold lfA
    rw [h0] at cH0 cP ⊢
    rw [Bool.false_and, Bool.false_and] at cP ⊢
    clear hv cH hr hl'
    generalize r.testBit 1 = b1 at *
    generalize r.testBit 2 = b2 at *
    clear h0
    rcases hl with ⟨rfl, rfl⟩ | ⟨rfl, rfl⟩ | ⟨rfl, rfl⟩
  · go_enter Tryd.func17, Tryd.ntmps17
    go_wp2_with fail
    refine (cH0 _).mono ?_
    rintro e w1 ⟨rfl, hb⟩
    have g0 := block_later hb (heap_alloc2_old _ _ _)
    have g1 := block_later hb (heap_alloc2_new _ _ _)
    have hB : Below w.heap.size w w1 := below_tr ((below_new _ _).alloc (below_new _ _).size _) hb
    clear hb
    go_wp2_with
      first
      | (refine wpList_store_segTo rfl 4 _ _ rfl rfl (w.heap.size + 1) 2 _ #[.bool false] rfl rfl rfl 36 _ g1 (show 2 + 1 ≤ 7 by decide) info_bl (by simp [Value.oneCell']) #[.int .i64 2, .int .u64 (o : Int), .bool false, .bool false, .bool false, .bool true, .int .i64 0] rfl ?_
         intro wa hrq htq
         replace g0 := block_turn htq g0 (by omega)
         replace g1 := hrq
         replace hB := below_turn hB htq (by omega)
         clear htq hrq)
      | fail
    refine (cH0 _).mono ?_
    rintro e w2 ⟨rfl, hb⟩
    replace g0 := block_later hb g0
    replace g1 := block_later hb g1
    replace hB := below_tr hB hb
    clear hb
    go_wp2_with
      first
      | (refine wpList_store_segTo rfl 4 _ _ rfl rfl (w.heap.size + 1) 3 _ #[.bool false] rfl rfl rfl 36 _ g1 (show 3 + 1 ≤ 7 by decide) info_bl (by simp [Value.oneCell']) #[.int .i64 2, .int .u64 (o : Int), .bool false, .bool false, .bool false, .bool true, .int .i64 0] rfl ?_
         intro wb hrq htq
         replace g0 := block_turn htq g0 (by omega)
         replace g1 := hrq
         replace hB := below_turn hB htq (by omega)
         clear htq hrq)
      | fail
    refine (cH0 _).mono ?_
    rintro e w4 ⟨rfl, hb⟩
    replace g0 := block_later hb g0
    replace g1 := block_later hb g1
    replace hB := below_tr hB hb
    clear hb
    go_wp2_with
      first
      | (refine wpList_store_segTo rfl 4 _ _ rfl rfl (w.heap.size + 1) 4 _ #[.bool false] rfl rfl rfl 36 _ g1 (show 4 + 1 ≤ 7 by decide) info_bl (by simp [Value.oneCell']) #[.int .i64 2, .int .u64 (o : Int), .bool false, .bool false, .bool false, .bool true, .int .i64 0] rfl ?_
         intro wc hrq htq
         replace g0 := block_turn htq g0 (by omega)
         replace g1 := hrq
         obtain ⟨k0, k1, k2, k3, k4, k5, k6⟩ := cells7r g1
         replace hB := below_turn hB htq (by omega)
         clear htq hrq)
      | fail
    refine (cP _).mono ?_
    rintro e w6 ⟨rfl, hb⟩
    clear k0 k1 k2 k3 k4 k5 k6
    replace g0 := block_later hb g0
    replace g1 := block_later hb g1
    replace hB := below_tr hB hb
    clear hb
    obtain ⟨k0, k1, k2, k3, k4, k5, k6⟩ := cells7r g1
    clear cP cH0 cH1 cH2
    go_wp2_with
      first
      | (refine wpList_store_segTo rfl 36 _ _ rfl rfl w.heap.size 0 _ zD rfl rfl rfl 36 _ g0 (show 0 + 7 ≤ 7 by decide) info_D4 (by simp [Value.oneCell']) zD rfl ?_
         intro wz hra hta)
      | (refine wpList_store_segTo rfl 36 _ _ rfl rfl w.heap.size 0 _ #[.int .i64 2, .int .u64 (o : Int), .bool false, .bool false, .bool false, .bool true, .int .i64 0] rfl rfl rfl 36 _ g0 (show 0 + 7 ≤ 7 by decide) info_D4 (by simp [Value.oneCell']) #[.int .i64 2, .int .u64 (o : Int), .bool false, .bool false, .bool false, .bool true, .int .i64 0] rfl ?_
         intro wz hra hta)
      | fail
    refine bodyPost_ret (v := .tuple #[_, _]) ?_ rfl ⟨rfl, below_turn hB hta (by omega)⟩
    exact res_row_tmp (p := 6) (u := 7) rfl _ _ w.heap.size 36 _ _ _ rfl hra Tryd.underlying36 rfl info_D4
  · go_enter Tryd.func17, Tryd.ntmps17
    go_wp2_with fail
    refine (cH0 _).mono ?_
    rintro e w1 ⟨rfl, hb⟩
    have g0 := block_later hb (heap_alloc2_old _ _ _)
    have g1 := block_later hb (heap_alloc2_new _ _ _)
    have hB : Below w.heap.size w w1 := below_tr ((below_new _ _).alloc (below_new _ _).size _) hb
    clear hb
    go_wp2_with
      first
      | (refine wpList_store_segTo rfl 4 _ _ rfl rfl (w.heap.size + 1) 2 _ #[.bool false] rfl rfl rfl 36 _ g1 (show 2 + 1 ≤ 7 by decide) info_bl (by simp [Value.oneCell']) #[.int .i64 2, .int .u64 (o : Int), .bool false, .bool false, .bool false, .bool true, .int .i64 0] rfl ?_
         intro wa hrq htq
         replace g0 := block_turn htq g0 (by omega)
         replace g1 := hrq
         replace hB := below_turn hB htq (by omega)
         clear htq hrq)
      | fail
    refine (cH0 _).mono ?_
    rintro e w2 ⟨rfl, hb⟩
    replace g0 := block_later hb g0
    replace g1 := block_later hb g1
    replace hB := below_tr hB hb
    clear hb
    go_wp2_with
      first
      | (refine wpList_store_segTo rfl 4 _ _ rfl rfl (w.heap.size + 1) 3 _ #[.bool false] rfl rfl rfl 36 _ g1 (show 3 + 1 ≤ 7 by decide) info_bl (by simp [Value.oneCell']) #[.int .i64 2, .int .u64 (o : Int), .bool false, .bool false, .bool false, .bool true, .int .i64 0] rfl ?_
         intro wb hrq htq
         replace g0 := block_turn htq g0 (by omega)
         replace g1 := hrq
         replace hB := below_turn hB htq (by omega)
         clear htq hrq)
      | fail
    refine (cH0 _).mono ?_
    rintro e w4 ⟨rfl, hb⟩
    replace g0 := block_later hb g0
    replace g1 := block_later hb g1
    replace hB := below_tr hB hb
    clear hb
    go_wp2_with
      first
      | (refine wpList_store_segTo rfl 4 _ _ rfl rfl (w.heap.size + 1) 4 _ #[.bool false] rfl rfl rfl 36 _ g1 (show 4 + 1 ≤ 7 by decide) info_bl (by simp [Value.oneCell']) #[.int .i64 2, .int .u64 (o : Int), .bool false, .bool false, .bool false, .bool true, .int .i64 0] rfl ?_
         intro wc hrq htq
         replace g0 := block_turn htq g0 (by omega)
         replace g1 := hrq
         obtain ⟨k0, k1, k2, k3, k4, k5, k6⟩ := cells7r g1
         replace hB := below_turn hB htq (by omega)
         clear htq hrq)
      | fail
    refine (cP _).mono ?_
    rintro e w6 ⟨rfl, hb⟩
    clear k0 k1 k2 k3 k4 k5 k6
    replace g0 := block_later hb g0
    replace g1 := block_later hb g1
    replace hB := below_tr hB hb
    clear hb
    obtain ⟨k0, k1, k2, k3, k4, k5, k6⟩ := cells7r g1
    clear cP cH0 cH1 cH2
    go_wp2_with
      first
      | (refine wpList_store_segTo rfl 36 _ _ rfl rfl w.heap.size 0 _ zD rfl rfl rfl 36 _ g0 (show 0 + 7 ≤ 7 by decide) info_D4 (by simp [Value.oneCell']) zD rfl ?_
         intro wz hra hta)
      | (refine wpList_store_segTo rfl 36 _ _ rfl rfl w.heap.size 0 _ #[.int .i64 2, .int .u64 (o : Int), .bool false, .bool false, .bool false, .bool true, .int .i64 0] rfl rfl rfl 36 _ g0 (show 0 + 7 ≤ 7 by decide) info_D4 (by simp [Value.oneCell']) #[.int .i64 2, .int .u64 (o : Int), .bool false, .bool false, .bool false, .bool true, .int .i64 0] rfl ?_
         intro wz hra hta)
      | fail
    refine bodyPost_ret (v := .tuple #[_, _]) ?_ rfl ⟨rfl, below_turn hB hta (by omega)⟩
    exact res_row_tmp (p := 6) (u := 7) rfl _ _ w.heap.size 36 _ _ _ rfl hra Tryd.underlying36 rfl info_D4
  · go_enter Tryd.func17, Tryd.ntmps17
    go_wp2_with fail
    refine (cH0 _).mono ?_
    rintro e w1 ⟨rfl, hb⟩
    have g0 := block_later hb (heap_alloc2_old _ _ _)
    have g1 := block_later hb (heap_alloc2_new _ _ _)
    have hB : Below w.heap.size w w1 := below_tr ((below_new _ _).alloc (below_new _ _).size _) hb
    clear hb
    go_wp2_with
      first
      | (refine wpList_store_segTo rfl 4 _ _ rfl rfl (w.heap.size + 1) 2 _ #[.bool false] rfl rfl rfl 36 _ g1 (show 2 + 1 ≤ 7 by decide) info_bl (by simp [Value.oneCell']) #[.int .i64 3, .int .u64 (o : Int), .bool false, .bool false, .bool false, .bool true, .int .i64 0] rfl ?_
         intro wa hrq htq
         replace g0 := block_turn htq g0 (by omega)
         replace g1 := hrq
         replace hB := below_turn hB htq (by omega)
         clear htq hrq)
      | fail
    refine (cH0 _).mono ?_
    rintro e w2 ⟨rfl, hb⟩
    replace g0 := block_later hb g0
    replace g1 := block_later hb g1
    replace hB := below_tr hB hb
    clear hb
    go_wp2_with
      first
      | (refine wpList_store_segTo rfl 4 _ _ rfl rfl (w.heap.size + 1) 3 _ #[.bool false] rfl rfl rfl 36 _ g1 (show 3 + 1 ≤ 7 by decide) info_bl (by simp [Value.oneCell']) #[.int .i64 3, .int .u64 (o : Int), .bool false, .bool false, .bool false, .bool true, .int .i64 0] rfl ?_
         intro wb hrq htq
         replace g0 := block_turn htq g0 (by omega)
         replace g1 := hrq
         replace hB := below_turn hB htq (by omega)
         clear htq hrq)
      | fail
    refine (cH0 _).mono ?_
    rintro e w4 ⟨rfl, hb⟩
    replace g0 := block_later hb g0
    replace g1 := block_later hb g1
    replace hB := below_tr hB hb
    clear hb
    go_wp2_with
      first
      | (refine wpList_store_segTo rfl 4 _ _ rfl rfl (w.heap.size + 1) 4 _ #[.bool false] rfl rfl rfl 36 _ g1 (show 4 + 1 ≤ 7 by decide) info_bl (by simp [Value.oneCell']) #[.int .i64 3, .int .u64 (o : Int), .bool false, .bool false, .bool false, .bool true, .int .i64 0] rfl ?_
         intro wc hrq htq
         replace g0 := block_turn htq g0 (by omega)
         replace g1 := hrq
         obtain ⟨k0, k1, k2, k3, k4, k5, k6⟩ := cells7r g1
         replace hB := below_turn hB htq (by omega)
         clear htq hrq)
      | fail
    refine (cP _).mono ?_
    rintro e w6 ⟨rfl, hb⟩
    clear k0 k1 k2 k3 k4 k5 k6
    replace g0 := block_later hb g0
    replace g1 := block_later hb g1
    replace hB := below_tr hB hb
    clear hb
    obtain ⟨k0, k1, k2, k3, k4, k5, k6⟩ := cells7r g1
    clear cP cH0 cH1 cH2
    go_wp2_with
      first
      | (refine wpList_store_segTo rfl 36 _ _ rfl rfl w.heap.size 0 _ zD rfl rfl rfl 36 _ g0 (show 0 + 7 ≤ 7 by decide) info_D4 (by simp [Value.oneCell']) zD rfl ?_
         intro wz hra hta)
      | (refine wpList_store_segTo rfl 36 _ _ rfl rfl w.heap.size 0 _ #[.int .i64 3, .int .u64 (o : Int), .bool false, .bool false, .bool false, .bool true, .int .i64 0] rfl rfl rfl 36 _ g0 (show 0 + 7 ≤ 7 by decide) info_D4 (by simp [Value.oneCell']) #[.int .i64 3, .int .u64 (o : Int), .bool false, .bool false, .bool false, .bool true, .int .i64 0] rfl ?_
         intro wz hra hta)
      | fail
    refine bodyPost_ret (v := .tuple #[_, _]) ?_ rfl ⟨rfl, below_turn hB hta (by omega)⟩
    exact res_row_tmp (p := 6) (u := 7) rfl _ _ w.heap.size 36 _ _ _ rfl hra Tryd.underlying36 rfl info_D4
  · go_enter Tryd.func17, Tryd.ntmps17
    go_wp2_with fail
    refine (cH0 _).mono ?_
    rintro e w1 ⟨rfl, hb⟩
    have g0 := block_later hb (heap_alloc2_old _ _ _)
    have g1 := block_later hb (heap_alloc2_new _ _ _)
    have hB : Below w.heap.size w w1 := below_tr ((below_new _ _).alloc (below_new _ _).size _) hb
    clear hb
    go_wp2_with
      first
      | (refine wpList_store_segTo rfl 4 _ _ rfl rfl (w.heap.size + 1) 2 _ #[.bool false] rfl rfl rfl 36 _ g1 (show 2 + 1 ≤ 7 by decide) info_bl (by simp [Value.oneCell']) #[.int .i64 2, .int .u64 (o : Int), .bool false, .bool false, .bool false, .bool true, .int .i64 0] rfl ?_
         intro wa hrq htq
         replace g0 := block_turn htq g0 (by omega)
         replace g1 := hrq
         replace hB := below_turn hB htq (by omega)
         clear htq hrq)
      | fail
    refine (cH0 _).mono ?_
    rintro e w2 ⟨rfl, hb⟩
    replace g0 := block_later hb g0
    replace g1 := block_later hb g1
    replace hB := below_tr hB hb
    clear hb
    go_wp2_with
      first
      | (refine wpList_store_segTo rfl 4 _ _ rfl rfl (w.heap.size + 1) 3 _ #[.bool false] rfl rfl rfl 36 _ g1 (show 3 + 1 ≤ 7 by decide) info_bl (by simp [Value.oneCell']) #[.int .i64 2, .int .u64 (o : Int), .bool false, .bool false, .bool false, .bool true, .int .i64 0] rfl ?_
         intro wb hrq htq
         replace g0 := block_turn htq g0 (by omega)
         replace g1 := hrq
         replace hB := below_turn hB htq (by omega)
         clear htq hrq)
      | fail
    refine (cH0 _).mono ?_
    rintro e w4 ⟨rfl, hb⟩
    replace g0 := block_later hb g0
    replace g1 := block_later hb g1
    replace hB := below_tr hB hb
    clear hb
    go_wp2_with
      first
      | (refine wpList_store_segTo rfl 4 _ _ rfl rfl (w.heap.size + 1) 4 _ #[.bool false] rfl rfl rfl 36 _ g1 (show 4 + 1 ≤ 7 by decide) info_bl (by simp [Value.oneCell']) #[.int .i64 2, .int .u64 (o : Int), .bool false, .bool false, .bool false, .bool true, .int .i64 0] rfl ?_
         intro wc hrq htq
         replace g0 := block_turn htq g0 (by omega)
         replace g1 := hrq
         obtain ⟨k0, k1, k2, k3, k4, k5, k6⟩ := cells7r g1
         replace hB := below_turn hB htq (by omega)
         clear htq hrq)
      | fail
    refine (cP _).mono ?_
    rintro e w6 ⟨rfl, hb⟩
    clear k0 k1 k2 k3 k4 k5 k6
    replace g0 := block_later hb g0
    replace g1 := block_later hb g1
    replace hB := below_tr hB hb
    clear hb
    obtain ⟨k0, k1, k2, k3, k4, k5, k6⟩ := cells7r g1
    clear cP cH0 cH1 cH2
    go_wp2_with
      first
      | (refine wpList_store_segTo rfl 36 _ _ rfl rfl w.heap.size 0 _ zD rfl rfl rfl 36 _ g0 (show 0 + 7 ≤ 7 by decide) info_D4 (by simp [Value.oneCell']) zD rfl ?_
         intro wz hra hta)
      | (refine wpList_store_segTo rfl 36 _ _ rfl rfl w.heap.size 0 _ #[.int .i64 2, .int .u64 (o : Int), .bool false, .bool false, .bool false, .bool true, .int .i64 0] rfl rfl rfl 36 _ g0 (show 0 + 7 ≤ 7 by decide) info_D4 (by simp [Value.oneCell']) #[.int .i64 2, .int .u64 (o : Int), .bool false, .bool false, .bool false, .bool true, .int .i64 0] rfl ?_
         intro wz hra hta)
      | fail
    refine bodyPost_ret (v := .tuple #[_, _]) ?_ rfl ⟨rfl, below_turn hB hta (by omega)⟩
    exact res_row_tmp (p := 6) (u := 7) rfl _ _ w.heap.size 36 _ _ _ rfl hra Tryd.underlying36 rfl info_D4
  · go_enter Tryd.func17, Tryd.ntmps17
    go_wp2_with fail
    refine (cH0 _).mono ?_
    rintro e w1 ⟨rfl, hb⟩
    have g0 := block_later hb (heap_alloc2_old _ _ _)
    have g1 := block_later hb (heap_alloc2_new _ _ _)
    have hB : Below w.heap.size w w1 := below_tr ((below_new _ _).alloc (below_new _ _).size _) hb
    clear hb
    go_wp2_with
      first
      | (refine wpList_store_segTo rfl 4 _ _ rfl rfl (w.heap.size + 1) 2 _ #[.bool false] rfl rfl rfl 36 _ g1 (show 2 + 1 ≤ 7 by decide) info_bl (by simp [Value.oneCell']) #[.int .i64 2, .int .u64 (o : Int), .bool false, .bool false, .bool false, .bool true, .int .i64 0] rfl ?_
         intro wa hrq htq
         replace g0 := block_turn htq g0 (by omega)
         replace g1 := hrq
         replace hB := below_turn hB htq (by omega)
         clear htq hrq)
      | fail
    refine (cH0 _).mono ?_
    rintro e w2 ⟨rfl, hb⟩
    replace g0 := block_later hb g0
    replace g1 := block_later hb g1
    replace hB := below_tr hB hb
    clear hb
    go_wp2_with
      first
      | (refine wpList_store_segTo rfl 4 _ _ rfl rfl (w.heap.size + 1) 3 _ #[.bool false] rfl rfl rfl 36 _ g1 (show 3 + 1 ≤ 7 by decide) info_bl (by simp [Value.oneCell']) #[.int .i64 2, .int .u64 (o : Int), .bool false, .bool false, .bool false, .bool true, .int .i64 0] rfl ?_
         intro wb hrq htq
         replace g0 := block_turn htq g0 (by omega)
         replace g1 := hrq
         replace hB := below_turn hB htq (by omega)
         clear htq hrq)
      | fail
    refine (cH0 _).mono ?_
    rintro e w4 ⟨rfl, hb⟩
    replace g0 := block_later hb g0
    replace g1 := block_later hb g1
    replace hB := below_tr hB hb
    clear hb
    go_wp2_with
      first
      | (refine wpList_store_segTo rfl 4 _ _ rfl rfl (w.heap.size + 1) 4 _ #[.bool false] rfl rfl rfl 36 _ g1 (show 4 + 1 ≤ 7 by decide) info_bl (by simp [Value.oneCell']) #[.int .i64 2, .int .u64 (o : Int), .bool false, .bool false, .bool false, .bool true, .int .i64 0] rfl ?_
         intro wc hrq htq
         replace g0 := block_turn htq g0 (by omega)
         replace g1 := hrq
         obtain ⟨k0, k1, k2, k3, k4, k5, k6⟩ := cells7r g1
         replace hB := below_turn hB htq (by omega)
         clear htq hrq)
      | fail
    refine (cP _).mono ?_
    rintro e w6 ⟨rfl, hb⟩
    clear k0 k1 k2 k3 k4 k5 k6
    replace g0 := block_later hb g0
    replace g1 := block_later hb g1
    replace hB := below_tr hB hb
    clear hb
    obtain ⟨k0, k1, k2, k3, k4, k5, k6⟩ := cells7r g1
    clear cP cH0 cH1 cH2
    go_wp2_with
      first
      | (refine wpList_store_segTo rfl 36 _ _ rfl rfl w.heap.size 0 _ zD rfl rfl rfl 36 _ g0 (show 0 + 7 ≤ 7 by decide) info_D4 (by simp [Value.oneCell']) zD rfl ?_
         intro wz hra hta)
      | (refine wpList_store_segTo rfl 36 _ _ rfl rfl w.heap.size 0 _ #[.int .i64 2, .int .u64 (o : Int), .bool false, .bool false, .bool false, .bool true, .int .i64 0] rfl rfl rfl 36 _ g0 (show 0 + 7 ≤ 7 by decide) info_D4 (by simp [Value.oneCell']) #[.int .i64 2, .int .u64 (o : Int), .bool false, .bool false, .bool false, .bool true, .int .i64 0] rfl ?_
         intro wz hra hta)
      | fail
    refine bodyPost_ret (v := .tuple #[_, _]) ?_ rfl ⟨rfl, below_turn hB hta (by omega)⟩
    exact res_row_tmp (p := 6) (u := 7) rfl _ _ w.heap.size 36 _ _ _ rfl hra Tryd.underlying36 rfl info_D4
  · go_enter Tryd.func17, Tryd.ntmps17
    go_wp2_with fail
    refine (cH0 _).mono ?_
    rintro e w1 ⟨rfl, hb⟩
    have g0 := block_later hb (heap_alloc2_old _ _ _)
    have g1 := block_later hb (heap_alloc2_new _ _ _)
    have hB : Below w.heap.size w w1 := below_tr ((below_new _ _).alloc (below_new _ _).size _) hb
    clear hb
    go_wp2_with
      first
      | (refine wpList_store_segTo rfl 4 _ _ rfl rfl (w.heap.size + 1) 2 _ #[.bool false] rfl rfl rfl 36 _ g1 (show 2 + 1 ≤ 7 by decide) info_bl (by simp [Value.oneCell']) #[.int .i64 3, .int .u64 (o : Int), .bool false, .bool false, .bool false, .bool true, .int .i64 0] rfl ?_
         intro wa hrq htq
         replace g0 := block_turn htq g0 (by omega)
         replace g1 := hrq
         replace hB := below_turn hB htq (by omega)
         clear htq hrq)
      | fail
    refine (cH0 _).mono ?_
    rintro e w2 ⟨rfl, hb⟩
    replace g0 := block_later hb g0
    replace g1 := block_later hb g1
    replace hB := below_tr hB hb
    clear hb
    go_wp2_with
      first
      | (refine wpList_store_segTo rfl 4 _ _ rfl rfl (w.heap.size + 1) 3 _ #[.bool false] rfl rfl rfl 36 _ g1 (show 3 + 1 ≤ 7 by decide) info_bl (by simp [Value.oneCell']) #[.int .i64 3, .int .u64 (o : Int), .bool false, .bool false, .bool false, .bool true, .int .i64 0] rfl ?_
         intro wb hrq htq
         replace g0 := block_turn htq g0 (by omega)
         replace g1 := hrq
         replace hB := below_turn hB htq (by omega)
         clear htq hrq)
      | fail
    refine (cH0 _).mono ?_
    rintro e w4 ⟨rfl, hb⟩
    replace g0 := block_later hb g0
    replace g1 := block_later hb g1
    replace hB := below_tr hB hb
    clear hb
    go_wp2_with
      first
      | (refine wpList_store_segTo rfl 4 _ _ rfl rfl (w.heap.size + 1) 4 _ #[.bool false] rfl rfl rfl 36 _ g1 (show 4 + 1 ≤ 7 by decide) info_bl (by simp [Value.oneCell']) #[.int .i64 3, .int .u64 (o : Int), .bool false, .bool false, .bool false, .bool true, .int .i64 0] rfl ?_
         intro wc hrq htq
         replace g0 := block_turn htq g0 (by omega)
         replace g1 := hrq
         obtain ⟨k0, k1, k2, k3, k4, k5, k6⟩ := cells7r g1
         replace hB := below_turn hB htq (by omega)
         clear htq hrq)
      | fail
    refine (cP _).mono ?_
    rintro e w6 ⟨rfl, hb⟩
    clear k0 k1 k2 k3 k4 k5 k6
    replace g0 := block_later hb g0
    replace g1 := block_later hb g1
    replace hB := below_tr hB hb
    clear hb
    obtain ⟨k0, k1, k2, k3, k4, k5, k6⟩ := cells7r g1
    clear cP cH0 cH1 cH2
    go_wp2_with
      first
      | (refine wpList_store_segTo rfl 36 _ _ rfl rfl w.heap.size 0 _ zD rfl rfl rfl 36 _ g0 (show 0 + 7 ≤ 7 by decide) info_D4 (by simp [Value.oneCell']) zD rfl ?_
         intro wz hra hta)
      | (refine wpList_store_segTo rfl 36 _ _ rfl rfl w.heap.size 0 _ #[.int .i64 3, .int .u64 (o : Int), .bool false, .bool false, .bool false, .bool true, .int .i64 0] rfl rfl rfl 36 _ g0 (show 0 + 7 ≤ 7 by decide) info_D4 (by simp [Value.oneCell']) #[.int .i64 3, .int .u64 (o : Int), .bool false, .bool false, .bool false, .bool true, .int .i64 0] rfl ?_
         intro wz hra hta)
      | fail
    refine bodyPost_ret (v := .tuple #[_, _]) ?_ rfl ⟨rfl, below_turn hB hta (by omega)⟩
    exact res_row_tmp (p := 6) (u := 7) rfl _ _ w.heap.size 36 _ _ _ rfl hra Tryd.underlying36 rfl info_D4


set_option maxHeartbeats 4000000 in
set_option maxRecDepth 100000 in
theorem refLeaf_1 (l K : Int) (hl : (l = 1 ∧ K = 2) ∨ (l = 2 ∧ K = 2) ∨ (l = 3 ∧ K = 3)) (o : Nat) (ho : o < 18446744073709551616) (r : Nat) (hr : r < 8) (h0 : r.testBit 0 = true) (w : World) :
    Calls Tryd.prog 17 #[.int .i64 l, .int .u64 (o : Int), .int .i64 (r : Int)] w fun e w' => e = .returned (.tuple #[.agg (lfA (lfV l K o r) K o r), .bool (lfV l K o r)]) ∧ Below w.heap.size w w' := by
  have cH := fun n hn w1 => has_any r n hr hn w1
  have cH0 : ∀ w1, Calls Tryd.prog 15 #[.int .i64 (r : Int), .int .i64 0] w1 _ := fun w1 => cH 0 (by omega) w1
  have cH1 : ∀ w1, Calls Tryd.prog 15 #[.int .i64 (r : Int), .int .i64 1] w1 _ := fun w1 => cH 1 (by omega) w1
  have cH2 : ∀ w1, Calls Tryd.prog 15 #[.int .i64 (r : Int), .int .i64 2] w1 _ := fun w1 => cH 2 (by omega) w1
  have hl' : isLv l = true := by rcases hl with ⟨rfl, rfl⟩ | ⟨rfl, rfl⟩ | ⟨rfl, rfl⟩ <;> decide
  have cP := fun w1 => refRight_any l K o (r.testBit 0) (r.testBit 0 && r.testBit 1) (r.testBit 0 && r.testBit 2) true 0 hl' ho w1
  cases hv : lfV l K o r
  all_goals
    unfold lfV at hv
    rw [hv] at cP
    unfold lfA
    rw [h0] at cH0 cP ⊢
    rw [Bool.true_and, Bool.true_and] at cP ⊢
    clear hv cH hr hl'
    generalize r.testBit 1 = b1 at *
    generalize r.testBit 2 = b2 at *
    clear h0
    rcases hl with ⟨rfl, rfl⟩ | ⟨rfl, rfl⟩ | ⟨rfl, rfl⟩
  · go_enter Tryd.func17, Tryd.ntmps17
    go_wp2_with fail
    refine (cH0 _).mono ?_
    rintro e w1 ⟨rfl, hb⟩
    have g0 := block_later hb (heap_alloc2_old _ _ _)
    have g1 := block_later hb (heap_alloc2_new _ _ _)
    have hB : Below w.heap.size w w1 := below_tr ((below_new _ _).alloc (below_new _ _).size _) hb
    clear hb
    go_wp2_with
      first
      | (refine wpList_store_segTo rfl 4 _ _ rfl rfl (w.heap.size + 1) 2 _ #[.bool true] rfl rfl rfl 36 _ g1 (show 2 + 1 ≤ 7 by decide) info_bl (by simp [Value.oneCell']) #[.int .i64 2, .int .u64 (o : Int), .bool true, .bool false, .bool false, .bool true, .int .i64 0] rfl ?_
         intro wa hrq htq
         replace g0 := block_turn htq g0 (by omega)
         replace g1 := hrq
         replace hB := below_turn hB htq (by omega)
         clear htq hrq)
      | fail
    refine (cH0 _).mono ?_
    rintro e w2 ⟨rfl, hb⟩
    replace g0 := block_later hb g0
    replace g1 := block_later hb g1
    replace hB := below_tr hB hb
    clear hb
    go_wp2_with fail
    refine (cH1 _).mono ?_
    rintro e w3 ⟨rfl, hb⟩
    replace g0 := block_later hb g0
    replace g1 := block_later hb g1
    replace hB := below_tr hB hb
    clear hb
    go_wp2_with
      first
      | (refine wpList_store_segTo rfl 4 _ _ rfl rfl (w.heap.size + 1) 3 _ #[.bool b1] rfl rfl rfl 36 _ g1 (show 3 + 1 ≤ 7 by decide) info_bl (by simp [Value.oneCell']) #[.int .i64 2, .int .u64 (o : Int), .bool true, .bool b1, .bool false, .bool true, .int .i64 0] rfl ?_
         intro wb hrq htq
         replace g0 := block_turn htq g0 (by omega)
         replace g1 := hrq
         replace hB := below_turn hB htq (by omega)
         clear htq hrq)
      | fail
    refine (cH0 _).mono ?_
    rintro e w4 ⟨rfl, hb⟩
    replace g0 := block_later hb g0
    replace g1 := block_later hb g1
    replace hB := below_tr hB hb
    clear hb
    go_wp2_with fail
    refine (cH2 _).mono ?_
    rintro e w5 ⟨rfl, hb⟩
    replace g0 := block_later hb g0
    replace g1 := block_later hb g1
    replace hB := below_tr hB hb
    clear hb
    go_wp2_with
      first
      | (refine wpList_store_segTo rfl 4 _ _ rfl rfl (w.heap.size + 1) 4 _ #[.bool b2] rfl rfl rfl 36 _ g1 (show 4 + 1 ≤ 7 by decide) info_bl (by simp [Value.oneCell']) #[.int .i64 2, .int .u64 (o : Int), .bool true, .bool b1, .bool b2, .bool true, .int .i64 0] rfl ?_
         intro wc hrq htq
         replace g0 := block_turn htq g0 (by omega)
         replace g1 := hrq
         obtain ⟨k0, k1, k2, k3, k4, k5, k6⟩ := cells7r g1
         replace hB := below_turn hB htq (by omega)
         clear htq hrq)
      | fail
    refine (cP _).mono ?_
    rintro e w6 ⟨rfl, hb⟩
    clear k0 k1 k2 k3 k4 k5 k6
    replace g0 := block_later hb g0
    replace g1 := block_later hb g1
    replace hB := below_tr hB hb
    clear hb
    obtain ⟨k0, k1, k2, k3, k4, k5, k6⟩ := cells7r g1
    clear cP cH0 cH1 cH2
    go_wp2_with
      first
      | (refine wpList_store_segTo rfl 36 _ _ rfl rfl w.heap.size 0 _ zD rfl rfl rfl 36 _ g0 (show 0 + 7 ≤ 7 by decide) info_D4 (by simp [Value.oneCell']) zD rfl ?_
         intro wz hra hta)
      | (refine wpList_store_segTo rfl 36 _ _ rfl rfl w.heap.size 0 _ #[.int .i64 2, .int .u64 (o : Int), .bool true, .bool b1, .bool b2, .bool true, .int .i64 0] rfl rfl rfl 36 _ g0 (show 0 + 7 ≤ 7 by decide) info_D4 (by simp [Value.oneCell']) #[.int .i64 2, .int .u64 (o : Int), .bool true, .bool b1, .bool b2, .bool true, .int .i64 0] rfl ?_
         intro wz hra hta)
      | fail
    refine bodyPost_ret (v := .tuple #[_, _]) ?_ rfl ⟨rfl, below_turn hB hta (by omega)⟩
    exact res_row_tmp (p := 6) (u := 7) rfl _ _ w.heap.size 36 _ _ _ rfl hra Tryd.underlying36 rfl info_D4
  · go_enter Tryd.func17, Tryd.ntmps17
    go_wp2_with fail
    refine (cH0 _).mono ?_
    rintro e w1 ⟨rfl, hb⟩
    have g0 := block_later hb (heap_alloc2_old _ _ _)
    have g1 := block_later hb (heap_alloc2_new _ _ _)
    have hB : Below w.heap.size w w1 := below_tr ((below_new _ _).alloc (below_new _ _).size _) hb
    clear hb
    go_wp2_with
      first
      | (refine wpList_store_segTo rfl 4 _ _ rfl rfl (w.heap.size + 1) 2 _ #[.bool true] rfl rfl rfl 36 _ g1 (show 2 + 1 ≤ 7 by decide) info_bl (by simp [Value.oneCell']) #[.int .i64 2, .int .u64 (o : Int), .bool true, .bool false, .bool false, .bool true, .int .i64 0] rfl ?_
         intro wa hrq htq
         replace g0 := block_turn htq g0 (by omega)
         replace g1 := hrq
         replace hB := below_turn hB htq (by omega)
         clear htq hrq)
      | fail
    refine (cH0 _).mono ?_
    rintro e w2 ⟨rfl, hb⟩
    replace g0 := block_later hb g0
    replace g1 := block_later hb g1
    replace hB := below_tr hB hb
    clear hb
    go_wp2_with fail
    refine (cH1 _).mono ?_
    rintro e w3 ⟨rfl, hb⟩
    replace g0 := block_later hb g0
    replace g1 := block_later hb g1
    replace hB := below_tr hB hb
    clear hb
    go_wp2_with
      first
      | (refine wpList_store_segTo rfl 4 _ _ rfl rfl (w.heap.size + 1) 3 _ #[.bool b1] rfl rfl rfl 36 _ g1 (show 3 + 1 ≤ 7 by decide) info_bl (by simp [Value.oneCell']) #[.int .i64 2, .int .u64 (o : Int), .bool true, .bool b1, .bool false, .bool true, .int .i64 0] rfl ?_
         intro wb hrq htq
         replace g0 := block_turn htq g0 (by omega)
         replace g1 := hrq
         replace hB := below_turn hB htq (by omega)
         clear htq hrq)
      | fail
    refine (cH0 _).mono ?_
    rintro e w4 ⟨rfl, hb⟩
    replace g0 := block_later hb g0
    replace g1 := block_later hb g1
    replace hB := below_tr hB hb
    clear hb
    go_wp2_with fail
    refine (cH2 _).mono ?_
    rintro e w5 ⟨rfl, hb⟩
    replace g0 := block_later hb g0
    replace g1 := block_later hb g1
    replace hB := below_tr hB hb
    clear hb
    go_wp2_with
      first
      | (refine wpList_store_segTo rfl 4 _ _ rfl rfl (w.heap.size + 1) 4 _ #[.bool b2] rfl rfl rfl 36 _ g1 (show 4 + 1 ≤ 7 by decide) info_bl (by simp [Value.oneCell']) #[.int .i64 2, .int .u64 (o : Int), .bool true, .bool b1, .bool b2, .bool true, .int .i64 0] rfl ?_
         intro wc hrq htq
         replace g0 := block_turn htq g0 (by omega)
         replace g1 := hrq
         obtain ⟨k0, k1, k2, k3, k4, k5, k6⟩ := cells7r g1
         replace hB := below_turn hB htq (by omega)
         clear htq hrq)
      | fail
    refine (cP _).mono ?_
    rintro e w6 ⟨rfl, hb⟩
    clear k0 k1 k2 k3 k4 k5 k6
    replace g0 := block_later hb g0
    replace g1 := block_later hb g1
    replace hB := below_tr hB hb
    clear hb
    obtain ⟨k0, k1, k2, k3, k4, k5, k6⟩ := cells7r g1
    clear cP cH0 cH1 cH2
    go_wp2_with
      first
      | (refine wpList_store_segTo rfl 36 _ _ rfl rfl w.heap.size 0 _ zD rfl rfl rfl 36 _ g0 (show 0 + 7 ≤ 7 by decide) info_D4 (by simp [Value.oneCell']) zD rfl ?_
         intro wz hra hta)
      | (refine wpList_store_segTo rfl 36 _ _ rfl rfl w.heap.size 0 _ #[.int .i64 2, .int .u64 (o : Int), .bool true, .bool b1, .bool b2, .bool true, .int .i64 0] rfl rfl rfl 36 _ g0 (show 0 + 7 ≤ 7 by decide) info_D4 (by simp [Value.oneCell']) #[.int .i64 2, .int .u64 (o : Int), .bool true, .bool b1, .bool b2, .bool true, .int .i64 0] rfl ?_
         intro wz hra hta)
      | fail
    refine bodyPost_ret (v := .tuple #[_, _]) ?_ rfl ⟨rfl, below_turn hB hta (by omega)⟩
    exact res_row_tmp (p := 6) (u := 7) rfl _ _ w.heap.size 36 _ _ _ rfl hra Tryd.underlying36 rfl info_D4
  · go_enter Tryd.func17, Tryd.ntmps17
    go_wp2_with fail
    refine (cH0 _).mono ?_
    rintro e w1 ⟨rfl, hb⟩
    have g0 := block_later hb (heap_alloc2_old _ _ _)
    have g1 := block_later hb (heap_alloc2_new _ _ _)
    have hB : Below w.heap.size w w1 := below_tr ((below_new _ _).alloc (below_new _ _).size _) hb
    clear hb
    go_wp2_with
      first
      | (refine wpList_store_segTo rfl 4 _ _ rfl rfl (w.heap.size + 1) 2 _ #[.bool true] rfl rfl rfl 36 _ g1 (show 2 + 1 ≤ 7 by decide) info_bl (by simp [Value.oneCell']) #[.int .i64 3, .int .u64 (o : Int), .bool true, .bool false, .bool false, .bool true, .int .i64 0] rfl ?_
         intro wa hrq htq
         replace g0 := block_turn htq g0 (by omega)
         replace g1 := hrq
         replace hB := below_turn hB htq (by omega)
         clear htq hrq)
      | fail
    refine (cH0 _).mono ?_
    rintro e w2 ⟨rfl, hb⟩
    replace g0 := block_later hb g0
    replace g1 := block_later hb g1
    replace hB := below_tr hB hb
    clear hb
    go_wp2_with fail
    refine (cH1 _).mono ?_
    rintro e w3 ⟨rfl, hb⟩
    replace g0 := block_later hb g0
    replace g1 := block_later hb g1
    replace hB := below_tr hB hb
    clear hb
    go_wp2_with
      first
      | (refine wpList_store_segTo rfl 4 _ _ rfl rfl (w.heap.size + 1) 3 _ #[.bool b1] rfl rfl rfl 36 _ g1 (show 3 + 1 ≤ 7 by decide) info_bl (by simp [Value.oneCell']) #[.int .i64 3, .int .u64 (o : Int), .bool true, .bool b1, .bool false, .bool true, .int .i64 0] rfl ?_
         intro wb hrq htq
         replace g0 := block_turn htq g0 (by omega)
         replace g1 := hrq
         replace hB := below_turn hB htq (by omega)
         clear htq hrq)
      | fail
    refine (cH0 _).mono ?_
    rintro e w4 ⟨rfl, hb⟩
    replace g0 := block_later hb g0
    replace g1 := block_later hb g1
    replace hB := below_tr hB hb
    clear hb
    go_wp2_with fail
    refine (cH2 _).mono ?_
    rintro e w5 ⟨rfl, hb⟩
    replace g0 := block_later hb g0
    replace g1 := block_later hb g1
    replace hB := below_tr hB hb
    clear hb
    go_wp2_with
      first
      | (refine wpList_store_segTo rfl 4 _ _ rfl rfl (w.heap.size + 1) 4 _ #[.bool b2] rfl rfl rfl 36 _ g1 (show 4 + 1 ≤ 7 by decide) info_bl (by simp [Value.oneCell']) #[.int .i64 3, .int .u64 (o : Int), .bool true, .bool b1, .bool b2, .bool true, .int .i64 0] rfl ?_
         intro wc hrq htq
         replace g0 := block_turn htq g0 (by omega)
         replace g1 := hrq
         obtain ⟨k0, k1, k2, k3, k4, k5, k6⟩ := cells7r g1
         replace hB := below_turn hB htq (by omega)
         clear htq hrq)
      | fail
    refine (cP _).mono ?_
    rintro e w6 ⟨rfl, hb⟩
    clear k0 k1 k2 k3 k4 k5 k6
    replace g0 := block_later hb g0
    replace g1 := block_later hb g1
    replace hB := below_tr hB hb
    clear hb
    obtain ⟨k0, k1, k2, k3, k4, k5, k6⟩ := cells7r g1
    clear cP cH0 cH1 cH2
    go_wp2_with
      first
      | (refine wpList_store_segTo rfl 36 _ _ rfl rfl w.heap.size 0 _ zD rfl rfl rfl 36 _ g0 (show 0 + 7 ≤ 7 by decide) info_D4 (by simp [Value.oneCell']) zD rfl ?_
         intro wz hra hta)
      | (refine wpList_store_segTo rfl 36 _ _ rfl rfl w.heap.size 0 _ #[.int .i64 3, .int .u64 (o : Int), .bool true, .bool b1, .bool b2, .bool true, .int .i64 0] rfl rfl rfl 36 _ g0 (show 0 + 7 ≤ 7 by decide) info_D4 (by simp [Value.oneCell']) #[.int .i64 3, .int .u64 (o : Int), .bool true, .bool b1, .bool b2, .bool true, .int .i64 0] rfl ?_
         intro wz hra hta)
      | fail
    refine bodyPost_ret (v := .tuple #[_, _]) ?_ rfl ⟨rfl, below_turn hB hta (by omega)⟩
    exact res_row_tmp (p := 6) (u := 7) rfl _ _ w.heap.size 36 _ _ _ rfl hra Tryd.underlying36 rfl info_D4
  · go_enter Tryd.func17, Tryd.ntmps17
    go_wp2_with fail
    refine (cH0 _).mono ?_
    rintro e w1 ⟨rfl, hb⟩
    have g0 := block_later hb (heap_alloc2_old _ _ _)
    have g1 := block_later hb (heap_alloc2_new _ _ _)
    have hB : Below w.heap.size w w1 := below_tr ((below_new _ _).alloc (below_new _ _).size _) hb
    clear hb
    go_wp2_with
      first
      | (refine wpList_store_segTo rfl 4 _ _ rfl rfl (w.heap.size + 1) 2 _ #[.bool true] rfl rfl rfl 36 _ g1 (show 2 + 1 ≤ 7 by decide) info_bl (by simp [Value.oneCell']) #[.int .i64 2, .int .u64 (o : Int), .bool true, .bool false, .bool false, .bool true, .int .i64 0] rfl ?_
         intro wa hrq htq
         replace g0 := block_turn htq g0 (by omega)
         replace g1 := hrq
         replace hB := below_turn hB htq (by omega)
         clear htq hrq)
      | fail
    refine (cH0 _).mono ?_
    rintro e w2 ⟨rfl, hb⟩
    replace g0 := block_later hb g0
    replace g1 := block_later hb g1
    replace hB := below_tr hB hb
    clear hb
    go_wp2_with fail
    refine (cH1 _).mono ?_
    rintro e w3 ⟨rfl, hb⟩
    replace g0 := block_later hb g0
    replace g1 := block_later hb g1
    replace hB := below_tr hB hb
    clear hb
    go_wp2_with
      first
      | (refine wpList_store_segTo rfl 4 _ _ rfl rfl (w.heap.size + 1) 3 _ #[.bool b1] rfl rfl rfl 36 _ g1 (show 3 + 1 ≤ 7 by decide) info_bl (by simp [Value.oneCell']) #[.int .i64 2, .int .u64 (o : Int), .bool true, .bool b1, .bool false, .bool true, .int .i64 0] rfl ?_
         intro wb hrq htq
         replace g0 := block_turn htq g0 (by omega)
         replace g1 := hrq
         replace hB := below_turn hB htq (by omega)
         clear htq hrq)
      | fail
    refine (cH0 _).mono ?_
    rintro e w4 ⟨rfl, hb⟩
    replace g0 := block_later hb g0
    replace g1 := block_later hb g1
    replace hB := below_tr hB hb
    clear hb
    go_wp2_with fail
    refine (cH2 _).mono ?_
    rintro e w5 ⟨rfl, hb⟩
    replace g0 := block_later hb g0
    replace g1 := block_later hb g1
    replace hB := below_tr hB hb
    clear hb
    go_wp2_with
      first
      | (refine wpList_store_segTo rfl 4 _ _ rfl rfl (w.heap.size + 1) 4 _ #[.bool b2] rfl rfl rfl 36 _ g1 (show 4 + 1 ≤ 7 by decide) info_bl (by simp [Value.oneCell']) #[.int .i64 2, .int .u64 (o : Int), .bool true, .bool b1, .bool b2, .bool true, .int .i64 0] rfl ?_
         intro wc hrq htq
         replace g0 := block_turn htq g0 (by omega)
         replace g1 := hrq
         obtain ⟨k0, k1, k2, k3, k4, k5, k6⟩ := cells7r g1
         replace hB := below_turn hB htq (by omega)
         clear htq hrq)
      | fail
    refine (cP _).mono ?_
    rintro e w6 ⟨rfl, hb⟩
    clear k0 k1 k2 k3 k4 k5 k6
    replace g0 := block_later hb g0
    replace g1 := block_later hb g1
    replace hB := below_tr hB hb
    clear hb
    obtain ⟨k0, k1, k2, k3, k4, k5, k6⟩ := cells7r g1
    clear cP cH0 cH1 cH2
    go_wp2_with
      first
      | (refine wpList_store_segTo rfl 36 _ _ rfl rfl w.heap.size 0 _ zD rfl rfl rfl 36 _ g0 (show 0 + 7 ≤ 7 by decide) info_D4 (by simp [Value.oneCell']) zD rfl ?_
         intro wz hra hta)
      | (refine wpList_store_segTo rfl 36 _ _ rfl rfl w.heap.size 0 _ #[.int .i64 2, .int .u64 (o : Int), .bool true, .bool b1, .bool b2, .bool true, .int .i64 0] rfl rfl rfl 36 _ g0 (show 0 + 7 ≤ 7 by decide) info_D4 (by simp [Value.oneCell']) #[.int .i64 2, .int .u64 (o : Int), .bool true, .bool b1, .bool b2, .bool true, .int .i64 0] rfl ?_
         intro wz hra hta)
      | fail
    refine bodyPost_ret (v := .tuple #[_, _]) ?_ rfl ⟨rfl, below_turn hB hta (by omega)⟩
    exact res_row_tmp (p := 6) (u := 7) rfl _ _ w.heap.size 36 _ _ _ rfl hra Tryd.underlying36 rfl info_D4
  · go_enter Tryd.func17, Tryd.ntmps17
    go_wp2_with fail
    refine (cH0 _).mono ?_
    rintro e w1 ⟨rfl, hb⟩
    have g0 := block_later hb (heap_alloc2_old _ _ _)
    have g1 := block_later hb (heap_alloc2_new _ _ _)
    have hB : Below w.heap.size w w1 := below_tr ((below_new _ _).alloc (below_new _ _).size _) hb
    clear hb
    go_wp2_with
      first
      | (refine wpList_store_segTo rfl 4 _ _ rfl rfl (w.heap.size + 1) 2 _ #[.bool true] rfl rfl rfl 36 _ g1 (show 2 + 1 ≤ 7 by decide) info_bl (by simp [Value.oneCell']) #[.int .i64 2, .int .u64 (o : Int), .bool true, .bool false, .bool false, .bool true, .int .i64 0] rfl ?_
         intro wa hrq htq
         replace g0 := block_turn htq g0 (by omega)
         replace g1 := hrq
         replace hB := below_turn hB htq (by omega)
         clear htq hrq)
      | fail
    refine (cH0 _).mono ?_
    rintro e w2 ⟨rfl, hb⟩
    replace g0 := block_later hb g0
    replace g1 := block_later hb g1
    replace hB := below_tr hB hb
    clear hb
    go_wp2_with fail
    refine (cH1 _).mono ?_
    rintro e w3 ⟨rfl, hb⟩
    replace g0 := block_later hb g0
    replace g1 := block_later hb g1
    replace hB := below_tr hB hb
    clear hb
    go_wp2_with
      first
      | (refine wpList_store_segTo rfl 4 _ _ rfl rfl (w.heap.size + 1) 3 _ #[.bool b1] rfl rfl rfl 36 _ g1 (show 3 + 1 ≤ 7 by decide) info_bl (by simp [Value.oneCell']) #[.int .i64 2, .int .u64 (o : Int), .bool true, .bool b1, .bool false, .bool true, .int .i64 0] rfl ?_
         intro wb hrq htq
         replace g0 := block_turn htq g0 (by omega)
         replace g1 := hrq
         replace hB := below_turn hB htq (by omega)
         clear htq hrq)
      | fail
    refine (cH0 _).mono ?_
    rintro e w4 ⟨rfl, hb⟩
    replace g0 := block_later hb g0
    replace g1 := block_later hb g1
    replace hB := below_tr hB hb
    clear hb
    go_wp2_with fail
    refine (cH2 _).mono ?_
    rintro e w5 ⟨rfl, hb⟩
    replace g0 := block_later hb g0
    replace g1 := block_later hb g1
    replace hB := below_tr hB hb
    clear hb
    go_wp2_with
      first
      | (refine wpList_store_segTo rfl 4 _ _ rfl rfl (w.heap.size + 1) 4 _ #[.bool b2] rfl rfl rfl 36 _ g1 (show 4 + 1 ≤ 7 by decide) info_bl (by simp [Value.oneCell']) #[.int .i64 2, .int .u64 (o : Int), .bool true, .bool b1, .bool b2, .bool true, .int .i64 0] rfl ?_
         intro wc hrq htq
         replace g0 := block_turn htq g0 (by omega)
         replace g1 := hrq
         obtain ⟨k0, k1, k2, k3, k4, k5, k6⟩ := cells7r g1
         replace hB := below_turn hB htq (by omega)
         clear htq hrq)
      | fail
    refine (cP _).mono ?_
    rintro e w6 ⟨rfl, hb⟩
    clear k0 k1 k2 k3 k4 k5 k6
    replace g0 := block_later hb g0
    replace g1 := block_later hb g1
    replace hB := below_tr hB hb
    clear hb
    obtain ⟨k0, k1, k2, k3, k4, k5, k6⟩ := cells7r g1
    clear cP cH0 cH1 cH2
    go_wp2_with
      first
      | (refine wpList_store_segTo rfl 36 _ _ rfl rfl w.heap.size 0 _ zD rfl rfl rfl 36 _ g0 (show 0 + 7 ≤ 7 by decide) info_D4 (by simp [Value.oneCell']) zD rfl ?_
         intro wz hra hta)
      | (refine wpList_store_segTo rfl 36 _ _ rfl rfl w.heap.size 0 _ #[.int .i64 2, .int .u64 (o : Int), .bool true, .bool b1, .bool b2, .bool true, .int .i64 0] rfl rfl rfl 36 _ g0 (show 0 + 7 ≤ 7 by decide) info_D4 (by simp [Value.oneCell']) #[.int .i64 2, .int .u64 (o : Int), .bool true, .bool b1, .bool b2, .bool true, .int .i64 0] rfl ?_
         intro wz hra hta)
      | fail
    refine bodyPost_ret (v := .tuple #[_, _]) ?_ rfl ⟨rfl, below_turn hB hta (by omega)⟩
    exact res_row_tmp (p := 6) (u := 7) rfl _ _ w.heap.size 36 _ _ _ rfl hra Tryd.underlying36 rfl info_D4
  · go_enter Tryd.func17, Tryd.ntmps17
    go_wp2_with fail
    refine (cH0 _).mono ?_
    rintro e w1 ⟨rfl, hb⟩
    have g0 := block_later hb (heap_alloc2_old _ _ _)
    have g1 := block_later hb (heap_alloc2_new _ _ _)
    have hB : Below w.heap.size w w1 := below_tr ((below_new _ _).alloc (below_new _ _).size _) hb
    clear hb
    go_wp2_with
      first
      | (refine wpList_store_segTo rfl 4 _ _ rfl rfl (w.heap.size + 1) 2 _ #[.bool true] rfl rfl rfl 36 _ g1 (show 2 + 1 ≤ 7 by decide) info_bl (by simp [Value.oneCell']) #[.int .i64 3, .int .u64 (o : Int), .bool true, .bool false, .bool false, .bool true, .int .i64 0] rfl ?_
         intro wa hrq htq
         replace g0 := block_turn htq g0 (by omega)
         replace g1 := hrq
         replace hB := below_turn hB htq (by omega)
         clear htq hrq)
      | fail
    refine (cH0 _).mono ?_
    rintro e w2 ⟨rfl, hb⟩
    replace g0 := block_later hb g0
    replace g1 := block_later hb g1
    replace hB := below_tr hB hb
    clear hb
    go_wp2_with fail
    refine (cH1 _).mono ?_
    rintro e w3 ⟨rfl, hb⟩
    replace g0 := block_later hb g0
    replace g1 := block_later hb g1
    replace hB := below_tr hB hb
    clear hb
    go_wp2_with
      first
      | (refine wpList_store_segTo rfl 4 _ _ rfl rfl (w.heap.size + 1) 3 _ #[.bool b1] rfl rfl rfl 36 _ g1 (show 3 + 1 ≤ 7 by decide) info_bl (by simp [Value.oneCell']) #[.int .i64 3, .int .u64 (o : Int), .bool true, .bool b1, .bool false, .bool true, .int .i64 0] rfl ?_
         intro wb hrq htq
         replace g0 := block_turn htq g0 (by omega)
         replace g1 := hrq
         replace hB := below_turn hB htq (by omega)
         clear htq hrq)
      | fail
    refine (cH0 _).mono ?_
    rintro e w4 ⟨rfl, hb⟩
    replace g0 := block_later hb g0
    replace g1 := block_later hb g1
    replace hB := below_tr hB hb
    clear hb
    go_wp2_with fail
    refine (cH2 _).mono ?_
    rintro e w5 ⟨rfl, hb⟩
    replace g0 := block_later hb g0
    replace g1 := block_later hb g1
    replace hB := below_tr hB hb
    clear hb
    go_wp2_with
      first
      | (refine wpList_store_segTo rfl 4 _ _ rfl rfl (w.heap.size + 1) 4 _ #[.bool b2] rfl rfl rfl 36 _ g1 (show 4 + 1 ≤ 7 by decide) info_bl (by simp [Value.oneCell']) #[.int .i64 3, .int .u64 (o : Int), .bool true, .bool b1, .bool b2, .bool true, .int .i64 0] rfl ?_
         intro wc hrq htq
         replace g0 := block_turn htq g0 (by omega)
         replace g1 := hrq
         obtain ⟨k0, k1, k2, k3, k4, k5, k6⟩ := cells7r g1
         replace hB := below_turn hB htq (by omega)
         clear htq hrq)
      | fail
    refine (cP _).mono ?_
    rintro e w6 ⟨rfl, hb⟩
    clear k0 k1 k2 k3 k4 k5 k6
    replace g0 := block_later hb g0
    replace g1 := block_later hb g1
    replace hB := below_tr hB hb
    clear hb
    obtain ⟨k0, k1, k2, k3, k4, k5, k6⟩ := cells7r g1
    clear cP cH0 cH1 cH2
    go_wp2_with
      first
      | (refine wpList_store_segTo rfl 36 _ _ rfl rfl w.heap.size 0 _ zD rfl rfl rfl 36 _ g0 (show 0 + 7 ≤ 7 by decide) info_D4 (by simp [Value.oneCell']) zD rfl ?_
         intro wz hra hta)
      | (refine wpList_store_segTo rfl 36 _ _ rfl rfl w.heap.size 0 _ #[.int .i64 3, .int .u64 (o : Int), .bool true, .bool b1, .bool b2, .bool true, .int .i64 0] rfl rfl rfl 36 _ g0 (show 0 + 7 ≤ 7 by decide) info_D4 (by simp [Value.oneCell']) #[.int .i64 3, .int .u64 (o : Int), .bool true, .bool b1, .bool b2, .bool true, .int .i64 0] rfl ?_
         intro wz hra hta)
      | fail
    refine bodyPost_ret (v := .tuple #[_, _]) ?_ rfl ⟨rfl, below_turn hB hta (by omega)⟩
    exact res_row_tmp (p := 6) (u := 7) rfl _ _ w.heap.size 36 _ _ _ rfl hra Tryd.underlying36 rfl info_D4


theorem refLeaf_any (l K : Int) (hl : (l = 1 ∧ K = 2) ∨ (l = 2 ∧ K = 2) ∨ (l = 3 ∧ K = 3)) (o : Nat) (ho : o < 18446744073709551616) (r : Nat) (hr : r < 8) (w : World) :
    Calls Tryd.prog 17 #[.int .i64 l, .int .u64 (o : Int), .int .i64 (r : Int)] w fun e w' => e = .returned (.tuple #[.agg (lfA (lfV l K o r) K o r), .bool (lfV l K o r)]) ∧ Below w.heap.size w w' := by
  cases h0 : r.testBit 0
  · exact refLeaf_0 l K hl o ho r hr h0 w
  · exact refLeaf_1 l K hl o ho r hr h0 w
end Go.Proofs.YtoblkicbfkgjnaaDoor
