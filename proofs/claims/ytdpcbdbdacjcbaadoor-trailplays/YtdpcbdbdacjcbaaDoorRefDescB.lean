/- The walks of the document's answers for layer 4, second part: Decode of what is Invalid, and of a Table. -/
import Derived.Test.YtdpcbdbdacjcbaaDoorRefDescA
namespace Go.Proofs.YtdpcbdbdacjcbaaDoor
open Go.RowKit

theorem info_arr64 (f : Nat → Bool) : (Tryd.prog.info? 124).map (·.size) = some (arr f).size := by
  rw [arr_size]; kernel_rfl
theorem cGet (l n : Nat) (h : rightB (l : Int) (n : Int) = true) (y : Nat) (hy : y < 18446744073709551616) (w : World) :
    Calls Tryd.prog 70 #[.int .u64 y, .int .i64 l, .int .i64 n] w fun e w' => e = .returned (.int .u64 ((getV l n y : Nat) : Int)) ∧ Below w.heap.size w w' := by
  have c := refGet_any y l n hy (by have := right_nat h; omega) w
  rw [getV_eq h] at c
  exact c
/-- The seven zero cells. -/
abbrev zeros : Array Value := #[.int .i64 0, .int .u64 0, .bool false, .bool false, .bool false, .bool false, .int .i64 0]

set_option maxRecDepth 100000 in
set_option maxHeartbeats 4000000 in
theorem rdec_inv (l : Int) (x : Nat) (hx : x < 18446744073709551616) (h0 : x.testBit 0 = false) (w : World) :
    Calls Tryd.prog 43 #[.int .i64 l, .int .u64 x] w fun e w' => e = .returned (.tuple #[dv 0 0 false false false false 0, .bool true]) ∧ Below w.heap.size w w' := by
  go_enter Tryd.func43, Tryd.ntmps43
  go_wp2_with fail
  refine (bits_any x hx _).mono ?_
  rintro e w1 ⟨rfl, hb1⟩
  have hsz : w.heap.size < w1.heap.size := by have := hb1.size; simp at this; omega
  have hz : w1.heap[w.heap.size]? = some (.cells zeros 99 (0, 0)) := by
    rw [hb1.block _ (by simp)]; exact heap_alloc_new _ _
  have hB : Below w.heap.size w w1 := below_tr (below_new _ _) hb1
  obtain ⟨⟨g0, g1, g2, g3, g4, g5, g6⟩, gf⟩ := cells7 hz
  have HZ : Hid _ := hz
  have hc : (w1.alloc (.cells (arr x.testBit) 124)).cell? ⟨w1.heap.size, 0, none⟩ = some (.bool false) := by
    rw [cell_of_row _ _ _ _ _ _ (heap_alloc_new _ _), arr_get _ _ (by omega), h0]
  clear hb1 hz
  go_wp2_with (first
    | (refine wpList_store_row rfl 124 _ _ rfl w1.heap.size (arr x.testBit) rfl rfl 124 _ (heap_alloc_new _ _) (info_arr64 _) (by rw [arr_size]; rfl) (arr_one _) ?_; rw [World.setRow_alloc_new]))
  refine bodyPost_ret (v := .tuple #[dv 0 0 false false false false 0, .bool true]) ?_ rfl ⟨rfl, (below7 hB (Nat.le_refl _) _ _ _ _ _ _ _).alloc (by simp; omega) _⟩
  exact results_row_tmp (p := 4) (u := 5) rfl _ _ w.heap.size 99 _ _ _ rfl ((heap_alloc_old _ _ (by simpa using hsz)).trans (row7 _ _ _ _ _ _ _ HZ.out)) Tryd.underlying99 rfl (by kernel_rfl)

/-- A bit that no Table has. -/
def tabBad (x i : Nat) : Prop := x.testBit i = true ∧ (i < 12 ∨ 47 < i)
theorem g1236' (y : Nat) : getV 12 36 y = y / 4096 % 68719476736 := getV_mod (l := 12) (n := 36) (by decide) y
theorem out_wrap (x : Nat) : IntKind.u64.wrap (((getV 12 36 x : Nat) : Int) * 4096) = ((outV x : Nat) : Int) := by
  rw [IntKind.wrap_u64, outV_mod, g1236']; omega

set_option maxRecDepth 100000 in
set_option maxHeartbeats 4000000 in
theorem rdec_tab (l : Int) (x : Nat) (hx : x < 18446744073709551616) (h0 : x.testBit 0 = true) (h1 : x.testBit 1 = true) (h3 : l < 3) (hok : ∀ i, 2 ≤ i → i < 64 → ¬ tabBad x i) (w : World) :
    Calls Tryd.prog 43 #[.int .i64 l, .int .u64 x] w fun e w' => e = .returned (.tuple #[dv 1 (outV x) false false false false 0, .bool true]) ∧ Below w.heap.size w w' := by
  have d3 : decide (l < 3) = true := decide_eq_true h3
  have cG : ∀ w1, Calls Tryd.prog 70 #[.int .u64 x, .int .i64 12, .int .i64 36] w1 fun e w' => e = .returned (.int .u64 ((getV 12 36 x : Nat) : Int)) ∧ Below w1.heap.size w1 w' := fun w1 => cGet 12 36 (by decide) x hx w1
  have hw := out_wrap x
  generalize getV 12 36 x = G at *
  generalize outV x = O at *
  go_enter Tryd.func43, Tryd.ntmps43
  go_wp2_with fail
  refine (bits_any x hx _).mono ?_
  rintro e w1 ⟨rfl, hb1⟩
  have hsz : w.heap.size < w1.heap.size := by have := hb1.size; simp at this; omega
  have hz : w1.heap[w.heap.size]? = some (.cells zeros 99 (0, 0)) := by
    rw [hb1.block _ (by simp)]; exact heap_alloc_new _ _
  have hB : Below w.heap.size w w1 := below_tr (below_new _ _) hb1
  have hc : (w1.alloc (.cells (arr x.testBit) 124)).cell? ⟨w1.heap.size, 0, none⟩ = some (.bool true) := by
    rw [cell_of_row _ _ _ _ _ _ (heap_alloc_new _ _), arr_get _ _ (by omega), h0]
  clear hb1
  go_wp2_with (first
    | (refine wpList_store_row rfl 124 _ _ rfl w1.heap.size (arr x.testBit) rfl rfl 124 _ (heap_alloc_new _ _) (info_arr64 _) (by rw [arr_size]; rfl) (arr_one _) ?_; rw [World.setRow_alloc_new]))
  refine (cG _).mono ?_
  rintro e w2 ⟨rfl, hb2⟩
  have ha2 : w2.heap[w1.heap.size]? = some (.cells (arr x.testBit) 124 (0, 0)) := by
    rw [hb2.block _ (by simp)]; exact heap_alloc_new _ _
  have hz2 : w2.heap[w.heap.size]? = some (.cells zeros 99 (0, 0)) := by
    rw [hb2.block _ (by simp; omega), heap_alloc_old _ _ hsz]; exact hz
  have hB2 : Below w.heap.size w w2 := below_tr (hB.alloc hB.size _) hb2
  have hcell : ∀ i, i < 64 → w2.cell? ⟨w1.heap.size, i, none⟩ = some (.bool (x.testBit i)) := fun i hi => by
    rw [cell_of_row _ _ _ _ _ _ ha2, arr_get _ _ hi]
  clear hb2 hz hB hc cG
  have hc1 := hcell 1 (by omega)
  rw [h1] at hc1
  clear ha2
  obtain ⟨⟨g0, g1, g2, g3, g4, g5, g6⟩, gf⟩ := cells7 hz2
  have HZ : Hid _ := hz2
  have HC : Hid _ := hcell
  clear hz2 hcell h0 h1
  go_wp2_with fail
  go_loop [8] (fun i => ∃ k : Nat, 2 ≤ k ∧ k ≤ 64 ∧ i = .int .i64 k) (fun i => 64 - (intOf i).toNat)
  case atStart => exact ⟨2, by omega, by omega, rfl⟩
  case round =>
    obtain ⟨k, hk2, hk, rfl⟩ := hrel
    by_cases hlt : k < 64
    · have hck := HC.out k hlt
      have hn := hok k hk2 hlt
      cases hb : x.testBit k
      · rw [hb] at hck
        clear hn hb hok
        go_wp2
        exact ⟨⟨k + 1, by omega, by omega, by go_num⟩, by simp [intOf]; omega⟩
      · rw [hb] at hck
        have hr : 12 ≤ k ∧ k ≤ 47 := by
          by_cases q : k < 12 ∨ 47 < k
          · exact absurd ⟨hb, q⟩ hn
          · omega
        obtain ⟨hr1, hr2⟩ := hr
        have r1 : ¬ (k : Int) < 12 := by omega
        have r2 : ¬ 47 < (k : Int) := by omega
        have r3 : ¬ k < 12 := by omega
        have r4 : ¬ 47 < k := by omega
        have r5 : decide ((k : Int) < 12) = false := decide_eq_false r1
        have r6 : decide (47 < (k : Int)) = false := decide_eq_false r2
        clear hn hb hok
        go_wp2
        exact ⟨⟨k + 1, by omega, by omega, by go_num⟩, by simp [intOf]; omega⟩
    · have e64 : k = 64 := by omega
      subst e64
      clear hok
      go_wp2
      refine bodyPost_ret (v := .tuple #[dv 1 O false false false false 0, .bool true]) ?_ rfl ⟨rfl, below7 hB2 (Nat.le_refl _) _ _ _ _ _ _ _⟩
      exact results_row_tmp (p := 4) (u := 5) rfl _ _ w.heap.size 99 _ _ _ rfl (row7 _ _ _ _ _ _ _ HZ.out) Tryd.underlying99 rfl (by kernel_rfl)

set_option maxRecDepth 100000 in
set_option maxHeartbeats 4000000 in
theorem rdec_tabBad (l : Int) (x : Nat) (hx : x < 18446744073709551616) (h0 : x.testBit 0 = true) (h1 : x.testBit 1 = true) (h3 : l < 3) (i0 : Nat) (hi2 : 2 ≤ i0) (hi64 : i0 < 64) (hbad : tabBad x i0) (hmin : ∀ i, 2 ≤ i → i < i0 → ¬ tabBad x i) (w : World) :
    Calls Tryd.prog 43 #[.int .i64 l, .int .u64 x] w fun e w' => e = .returned (.tuple #[dv 0 0 false false false false 0, .bool false]) ∧ Below w.heap.size w w' := by
  have d3 : decide (l < 3) = true := decide_eq_true h3
  have cG : ∀ w1, Calls Tryd.prog 70 #[.int .u64 x, .int .i64 12, .int .i64 36] w1 fun e w' => e = .returned (.int .u64 ((getV 12 36 x : Nat) : Int)) ∧ Below w1.heap.size w1 w' := fun w1 => cGet 12 36 (by decide) x hx w1
  have hw := out_wrap x
  generalize getV 12 36 x = G at *
  generalize outV x = O at *
  go_enter Tryd.func43, Tryd.ntmps43
  go_wp2_with fail
  refine (bits_any x hx _).mono ?_
  rintro e w1 ⟨rfl, hb1⟩
  have hsz : w.heap.size < w1.heap.size := by have := hb1.size; simp at this; omega
  have hz : w1.heap[w.heap.size]? = some (.cells zeros 99 (0, 0)) := by
    rw [hb1.block _ (by simp)]; exact heap_alloc_new _ _
  have hB : Below w.heap.size w w1 := below_tr (below_new _ _) hb1
  have hc : (w1.alloc (.cells (arr x.testBit) 124)).cell? ⟨w1.heap.size, 0, none⟩ = some (.bool true) := by
    rw [cell_of_row _ _ _ _ _ _ (heap_alloc_new _ _), arr_get _ _ (by omega), h0]
  clear hb1
  go_wp2_with (first
    | (refine wpList_store_row rfl 124 _ _ rfl w1.heap.size (arr x.testBit) rfl rfl 124 _ (heap_alloc_new _ _) (info_arr64 _) (by rw [arr_size]; rfl) (arr_one _) ?_; rw [World.setRow_alloc_new]))
  refine (cG _).mono ?_
  rintro e w2 ⟨rfl, hb2⟩
  have ha2 : w2.heap[w1.heap.size]? = some (.cells (arr x.testBit) 124 (0, 0)) := by
    rw [hb2.block _ (by simp)]; exact heap_alloc_new _ _
  have hz2 : w2.heap[w.heap.size]? = some (.cells zeros 99 (0, 0)) := by
    rw [hb2.block _ (by simp; omega), heap_alloc_old _ _ hsz]; exact hz
  have hB2 : Below w.heap.size w w2 := below_tr (hB.alloc hB.size _) hb2
  have hcell : ∀ i, i < 64 → w2.cell? ⟨w1.heap.size, i, none⟩ = some (.bool (x.testBit i)) := fun i hi => by
    rw [cell_of_row _ _ _ _ _ _ ha2, arr_get _ _ hi]
  clear hb2 hz hB hc cG
  have hc1 := hcell 1 (by omega)
  rw [h1] at hc1
  clear ha2
  obtain ⟨⟨g0, g1, g2, g3, g4, g5, g6⟩, gf⟩ := cells7 hz2
  have HZ : Hid _ := hz2
  have HC : Hid _ := hcell
  clear hz2 hcell h0 h1
  go_wp2_with fail
  go_loop [8] (fun i => ∃ k : Nat, 2 ≤ k ∧ k ≤ i0 ∧ i = .int .i64 k) (fun i => 64 - (intOf i).toNat)
  case atStart => exact ⟨2, by omega, by omega, rfl⟩
  case round =>
    obtain ⟨k, hk2, hk, rfl⟩ := hrel
    have hck := HC.out k (by omega)
    have hlt : (k : Int) < 64 := by omega
    have hlt2 : k < 64 := by omega
    by_cases hki : k < i0
    · have hn := hmin k hk2 hki
      cases hb : x.testBit k
      · rw [hb] at hck
        clear hn hb hmin hbad
        go_wp2
        exact ⟨⟨k + 1, by omega, by omega, by go_num⟩, by simp [intOf]; omega⟩
      · rw [hb] at hck
        have hr : 12 ≤ k ∧ k ≤ 47 := by
          by_cases q : k < 12 ∨ 47 < k
          · exact absurd ⟨hb, q⟩ hn
          · omega
        obtain ⟨hr1, hr2⟩ := hr
        have r1 : ¬ (k : Int) < 12 := by omega
        have r2 : ¬ 47 < (k : Int) := by omega
        have r3 : ¬ k < 12 := by omega
        have r4 : ¬ 47 < k := by omega
        have r5 : decide ((k : Int) < 12) = false := decide_eq_false r1
        have r6 : decide (47 < (k : Int)) = false := decide_eq_false r2
        clear hn hb hmin hbad
        go_wp2
        exact ⟨⟨k + 1, by omega, by omega, by go_num⟩, by simp [intOf]; omega⟩
    · have ek : k = i0 := by omega
      subst ek
      obtain ⟨hb, hq⟩ := hbad
      rw [hb] at hck
      by_cases q : k < 12
      · have r1 : (k : Int) < 12 := by omega
        have r5 : decide ((k : Int) < 12) = true := decide_eq_true r1
        clear hq hmin hb hki hk
        go_wp2
        refine bodyPost_ret (v := .tuple #[dv 0 0 false false false false 0, .bool false]) ?_ rfl ⟨rfl, below7 hB2 (Nat.le_refl _) _ _ _ _ _ _ _⟩
        exact results_row_tmp (p := 4) (u := 5) rfl _ _ w.heap.size 99 _ _ _ rfl (row7 _ _ _ _ _ _ _ HZ.out) Tryd.underlying99 rfl (by kernel_rfl)
      · have r1 : ¬ (k : Int) < 12 := by omega
        have r5 : decide ((k : Int) < 12) = false := decide_eq_false r1
        have r2 : 47 < (k : Int) := by omega
        have r4 : 47 < k := by omega
        have r6 : decide (47 < (k : Int)) = true := decide_eq_true r2
        clear hq hmin hb hki hk
        go_wp2
        refine bodyPost_ret (v := .tuple #[dv 0 0 false false false false 0, .bool false]) ?_ rfl ⟨rfl, below7 hB2 (Nat.le_refl _) _ _ _ _ _ _ _⟩
        exact results_row_tmp (p := 4) (u := 5) rfl _ _ w.heap.size 99 _ _ _ rfl (row7 _ _ _ _ _ _ _ HZ.out) Tryd.underlying99 rfl (by kernel_rfl)

end Go.Proofs.YtdpcbdbdacjcbaaDoor
